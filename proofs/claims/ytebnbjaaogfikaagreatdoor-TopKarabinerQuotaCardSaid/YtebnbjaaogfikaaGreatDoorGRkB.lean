/- Results in rows; the comparison that the sort calls. -/
import Derived.Test.YtebnbjaaogfikaaGreatDoorGCmp
namespace Go.Proofs.YtebnbjaaogfikaaGreatDoor
open Go.RowKit Go.Lib
set_option linter.unusedSimpArgs false
set_option linter.unusedVariables false
structure RowR where
  nm : ByteArray
  st : ByteArray
  u : Value
  xs : List Int
/-- the three cells of a result at a place, and its values -/
structure RowAt (w : World) (b off : Nat) (x : RowR) : Prop where
  nm : w.cell? ⟨b, off, none⟩ = some (.string x.nm)
  st : w.cell? ⟨b, off + 1, none⟩ = some (.string x.st)
  u : w.cell? ⟨b, off + 2, none⟩ = some x.u
  val : IntsV w x.u x.xs
  len : x.xs.length ≤ 1000
theorem RowAt.gr {w w' : World} {b off : Nat} {x : RowR} (h : RowAt w b off x) (k : Gr w w') : RowAt w' b off x := ⟨k.cell h.nm, k.cell h.st, k.cell h.u, h.val.gr k, h.len⟩
/-- the comparison of two results -/
def cmpR (x y : RowR) : Int := ordZ x.st y.st x.xs y.xs
set_option maxHeartbeats 1000000 in
set_option maxRecDepth 100000 in
theorem cmpAt_c (n b off cap i j F L : Nat) (x y : RowR) (w : World) (hi : i < n) (hj : j < n) (h1 : n ≤ 1000) (hS : StatesIn w) (hx : RowAt w b (off + i * 3) x) (hy : RowAt w b (off + j * 3) y)
    (hF : w.cell? ⟨F, 0, none⟩ = some (.func (.func 20) #[] #[])) (hL : w.cell? ⟨L, 0, none⟩ = some (.slice (some ⟨b, off, none⟩) n cap)) :
    Calls Tryz.prog 46 #[.int .i64 i, .int .i64 j, .pointer (some ⟨F, 0, none⟩), .pointer (some ⟨L, 0, none⟩)] w fun e w' => e = .returned (.int .i64 (cmpR x y)) ∧ Gd w w' := by
  have HC := Lib.hid (fun (W : World) (g : Gd w W) => compare_d x.nm x.st y.nm y.st x.u y.u x.xs y.xs W (hS.gr g.gr) (hx.val.gr g.gr) (hy.val.gr g.gr) hx.len hy.len)
  have HR : Hid (cmpR x y = ordZ x.st y.st x.xs y.xs) := rfl
  rw [← HR.out] at HC
  unfold resV at HC
  obtain ⟨a0, a1, a2, _, _⟩ := hx
  obtain ⟨b0, b1, b2, _, _⟩ := hy
  have f0 := hF
  have l0 := hL
  have hi2 : (i : Int) < n := by omega
  have hi3 : (0 : Int) ≤ i := by omega
  have hj2 : (j : Int) < n := by omega
  have hj3 : (0 : Int) ≤ j := by omega
  clear hF hL HR hS
  generalize cmpR x y = z at *
  go_enter Tryz.func46, Tryz.ntmps46
  go_wp2_with fail
  have g := Gd.refl w
  have gd := (Gd.refl w).drew
  replace a0 := gd.cell a0
  replace a1 := gd.cell a1
  replace a2 := gd.cell a2
  replace b0 := gd.cell b0
  replace b1 := gd.cell b1
  replace b2 := gd.cell b2
  replace f0 := gd.cell f0
  replace l0 := gd.cell l0
  replace g := g.trans gd
  clear gd
  refine wp_region_held_drew (S := (fun w' => (w'.cell? ⟨b, off + i * 3, none⟩ = some (.string x.nm) ∧ w'.cell? ⟨b, off + i * 3 + 1, none⟩ = some (.string x.st) ∧ w'.cell? ⟨b, off + i * 3 + 2, none⟩ = some x.u) ∧ (w'.cell? ⟨b, off + j * 3, none⟩ = some (.string y.nm) ∧ w'.cell? ⟨b, off + j * 3 + 1, none⟩ = some (.string y.st) ∧ w'.cell? ⟨b, off + j * 3 + 2, none⟩ = some y.u) ∧ w'.cell? ⟨F, 0, none⟩ = some (.func (.func 20) #[] #[]) ∧ w'.cell? ⟨L, 0, none⟩ = some (.slice (some ⟨b, off, none⟩) n cap))) (by kernel_rfl) ⟨⟨a0, a1, a2⟩, ⟨b0, b1, b2⟩, f0, l0⟩ (fun hHeld => ?_)
  generalize w.drew = V at *
  refine wpAnyH_take (i := 0) (v := (.func (.func 20) #[] #[])) (op_at rfl) (by kernel_rfl) (by kernel_rfl) (by kernel_rfl) (fun _ _ _ h => h) (Or.inl ⟨rfl, fun w hSw => ?_⟩) (by assumption) ?_
  · (try dsimp only at hSw); go_simp; try with_reducible rfl
  (try simp only [Act.put, List.setIfInBounds_toArray, List.set_cons_zero, List.set_cons_succ])
  refine wpAnyH_take (i := 1) (v := (.slice (some ⟨b, off, none⟩) n cap)) (op_at rfl) (by kernel_rfl) (by kernel_rfl) (by kernel_rfl) (fun _ _ _ h => h) (Or.inl ⟨rfl, fun w hSw => ?_⟩) (by assumption) ?_
  · (try dsimp only at hSw); go_simp; try with_reducible rfl
  (try simp only [Act.put, List.setIfInBounds_toArray, List.set_cons_zero, List.set_cons_succ])
  refine wpAnyH_take (i := 2) (v := (.int .i64 i)) (op_at rfl) (by kernel_rfl) (by kernel_rfl) (by kernel_rfl) (fun _ _ _ h => h) (Or.inl ⟨rfl, fun w hSw => ?_⟩) (by assumption) ?_
  · (try dsimp only at hSw); go_simp; try with_reducible rfl
  (try simp only [Act.put, List.setIfInBounds_toArray, List.set_cons_zero, List.set_cons_succ])
  refine wpAnyH_take (i := 3) (v := (.pointer (some ⟨b, off + i * 3, none⟩))) (op_at rfl) (by kernel_rfl) (by kernel_rfl) (by kernel_rfl) (fun _ _ _ h => h) (Or.inl ⟨rfl, fun w hSw => ?_⟩) (by assumption) ?_
  · (try dsimp only at hSw); go_simp; try with_reducible rfl
  (try simp only [Act.put, List.setIfInBounds_toArray, List.set_cons_zero, List.set_cons_succ])
  refine wpAnyH_take (i := 4) (v := (.agg #[.string x.nm, .string x.st, x.u])) (op_at rfl) (by kernel_rfl) (by kernel_rfl) (by kernel_rfl) (fun _ _ _ h => h) (Or.inl ⟨rfl, fun w hSw => ?_⟩) (by assumption) ?_
  · (try dsimp only at hSw); go_simp; try with_reducible rfl
  (try simp only [Act.put, List.setIfInBounds_toArray, List.set_cons_zero, List.set_cons_succ])
  refine wpAnyH_take (i := 5) (v := (.slice (some ⟨b, off, none⟩) n cap)) (op_at rfl) (by kernel_rfl) (by kernel_rfl) (by kernel_rfl) (fun _ _ _ h => h) (Or.inl ⟨rfl, fun w hSw => ?_⟩) (by assumption) ?_
  · (try dsimp only at hSw); go_simp; try with_reducible rfl
  (try simp only [Act.put, List.setIfInBounds_toArray, List.set_cons_zero, List.set_cons_succ])
  refine wpAnyH_take (i := 6) (v := (.int .i64 j)) (op_at rfl) (by kernel_rfl) (by kernel_rfl) (by kernel_rfl) (fun _ _ _ h => h) (Or.inl ⟨rfl, fun w hSw => ?_⟩) (by assumption) ?_
  · (try dsimp only at hSw); go_simp; try with_reducible rfl
  (try simp only [Act.put, List.setIfInBounds_toArray, List.set_cons_zero, List.set_cons_succ])
  refine wpAnyH_take (i := 7) (v := (.pointer (some ⟨b, off + j * 3, none⟩))) (op_at rfl) (by kernel_rfl) (by kernel_rfl) (by kernel_rfl) (fun _ _ _ h => h) (Or.inl ⟨rfl, fun w hSw => ?_⟩) (by assumption) ?_
  · (try dsimp only at hSw); go_simp; try with_reducible rfl
  (try simp only [Act.put, List.setIfInBounds_toArray, List.set_cons_zero, List.set_cons_succ])
  refine wpAnyH_take (i := 8) (v := (.agg #[.string y.nm, .string y.st, y.u])) (op_at rfl) (by kernel_rfl) (by kernel_rfl) (by kernel_rfl) (fun _ _ _ h => h) (Or.inl ⟨rfl, fun w hSw => ?_⟩) (by assumption) ?_
  · (try dsimp only at hSw); go_simp; try with_reducible rfl
  (try simp only [Act.put, List.setIfInBounds_toArray, List.set_cons_zero, List.set_cons_succ])
  refine wpAnyH_ready (rs := [9]) (by kernel_rfl) (by simp) (AllReadyH.cons (op_at rfl) (fun K hK => ?_) AllReadyH.nil)
  go_simp
  (refine (HC.out _ g).mono ?_; rintro e W2 ⟨rfl, hg⟩; replace a0 := hg.cell a0; replace a1 := hg.cell a1; replace a2 := hg.cell a2; replace b0 := hg.cell b0; replace b1 := hg.cell b1; replace b2 := hg.cell b2; replace f0 := hg.cell f0; replace l0 := hg.cell l0; replace g := g.trans hg; clear hg)
  go_wp2_with fail
  refine hK.out _ _ ⟨⟨a0, a1, a2⟩, ⟨b0, b1, b2⟩, f0, l0⟩ (fun hHeld => ?_)
  clear hK K
  (try simp only [Act.put, List.setIfInBounds_toArray, List.set_cons_zero, List.set_cons_succ])
  refine wpAnyH_take (i := 10) (v := (.int .i64 z)) (op_at rfl) (by kernel_rfl) (by kernel_rfl) (by kernel_rfl) (fun _ _ _ h => h) (Or.inl ⟨rfl, fun w hSw => ?_⟩) (by assumption) ?_
  · (try dsimp only at hSw); go_simp; try with_reducible rfl
  (try simp only [Act.put, List.setIfInBounds_toArray, List.set_cons_zero, List.set_cons_succ])
  refine wpAnyH_done (by kernel_rfl) ?_ _
  go_wp2_with fail
  go_ret
  exact ⟨rfl, g⟩
end Go.Proofs.YtebnbjaaogfikaaGreatDoor
namespace Go.Proofs.YtebnbjaaogfikaaGreatDoor
open Go.RowKit Go.Lib
set_option linter.unusedSimpArgs false
set_option linter.unusedVariables false
theorem sameR_c (y : RowR) (B : Nat) (nm : ByteArray) (p : Option Addr) (n cap : Nat) (hu : y.u = .slice p n cap) (w : World) (h : w.cell? ⟨B, 0, none⟩ = some (.string nm)) :
    Calls Tryz.prog 40 #[resV y.nm y.st y.u, .pointer (some ⟨B, 0, none⟩)] w fun e w' => e = .returned (.bool (y.nm.toList == nm.toList)) ∧ Gr w w' := by
  rw [hu]
  unfold resV
  obtain ⟨W, hW, g, a0, a1, a2⟩ := box3 w (.string y.nm) (.string y.st) (.slice p n cap) 34
  have hB := g.cell h
  rw [← hW] at hB
  have HG := Lib.hid (show Gr w (w.alloc (.cells #[.string y.nm, .string y.st, .slice p n cap] 34)) from (Gr.refl w).alloc _)
  clear hW h g a0 a1 a2 hu
  go_enter Tryz.func40, Tryz.ntmps40
  go_wp2_with fail
  go_ret
  exact ⟨rfl, HG.out⟩
/-- the first row with a property, from a place on -/
def firstP (Q : RowR → Bool) (xs : List RowR) : Nat → Nat → Int
  | 0, _ => -1
  | k + 1, i => match xs[i]? with
    | some x => if Q x then i else firstP Q xs k (i + 1)
    | none => -1
theorem firstP_step {Q : RowR → Bool} {xs : List RowR} {i n : Nat} {x : RowR} (h : xs[i]? = some x) (hi : i < n) : firstP Q xs (n - i) i = if Q x then (i : Int) else firstP Q xs (n - (i + 1)) (i + 1) := by
  obtain ⟨k, hk⟩ : ∃ k, n - i = k + 1 := ⟨n - i - 1, by omega⟩
  rw [hk, show n - (i + 1) = k by omega]
  simp only [firstP, h]
theorem firstP_end {Q : RowR → Bool} {xs : List RowR} {i n : Nat} (h : n ≤ i) : firstP Q xs (n - i) i = -1 := by
  rw [show n - i = 0 by omega]; rfl
theorem firstP_any (Q : RowR → Bool) (xs : List RowR) : ∀ (k i : Nat), i + k ≤ xs.length → decide (0 ≤ firstP Q xs k i) = ((xs.drop i).take k).any Q
  | 0, i, h => by simp [firstP]
  | k + 1, i, h => by
    have hi : i < xs.length := by omega
    rw [List.drop_eq_getElem_cons hi, List.take_succ_cons, List.any_cons, ← firstP_any Q xs k (i + 1) (by omega)]
    simp only [firstP, List.getElem?_eq_getElem hi]
    cases Q xs[i] <;> simp
/-- whether a name stands before -/
def dupR (xs : List RowR) (i : Nat) (nm : ByteArray) : Bool := (xs.take i).any fun y => y.nm.toList == nm.toList
def hasV (x : RowR) : Bool := x.st.toList.isEmpty
def isNm (nm : ByteArray) (y : RowR) : Bool := y.nm.toList == nm.toList
set_option maxHeartbeats 1000000 in
set_option maxRecDepth 100000 in
theorem indexN_pos (xs : List RowR) (n b off cap B : Nat) (nm : ByteArray) (w : World) (hn : n ≤ xs.length) (h1 : n ≤ 1000) (hc : ∀ i x, xs[i]? = some x → RowAt w b (off + i * 3) x) (hB : w.cell? ⟨B, 0, none⟩ = some (.string nm)) :
    Calls Tryz.prog 37 #[.slice (some ⟨b, off, none⟩) n cap, .func (.func 40) #[] #[.pointer (some ⟨B, 0, none⟩)]] w fun e w' => e = .returned (.int .i64 (firstP (isNm nm) xs n 0)) ∧ Gr w w' := by
  have HC := Lib.hid hc
  have HN := Lib.hid hn
  have HE : Hid (firstP (isNm nm) xs n 0 = firstP (isNm nm) xs (n - 0) 0) := rfl
  clear hc hn
  go_enter Tryz.func37, Tryz.ntmps37
  go_wp2_with fail
  go_loopg [8] n (fun gk s8 wr => ∃ i : Nat, s8 = .int .i64 i ∧ gk + i = n ∧ Gr w wr ∧ Hid (firstP (isNm nm) xs (n - i) i = firstP (isNm nm) xs (n - 0) 0))
  case atStart => exact ⟨0, rfl, by omega, Gr.refl _, rfl⟩
  case round =>
    obtain ⟨i, rfl, hi, hg, HF⟩ := hrel
    by_cases hlt : i < n
    · obtain ⟨x, hx⟩ : ∃ x, xs[i]? = some x := ⟨xs[i]'(by have := HN.out; omega), List.getElem?_eq_getElem _⟩
      obtain ⟨c0, c1, c2, hv, _⟩ := (HC.out i x hx).gr hg
      obtain ⟨⟨p', cap', hu, _⟩⟩ := hv
      have hf := firstP_step (Q := (isNm nm)) hx hlt
      have hi2 : (i : Int) < n := by omega
      have HT := Lib.hid (sameR_c x B nm _ _ _ hu wr (hg.cell hB))
      rw [hu] at c2 HT
      clear hx
      try unfold resV at HT
      have e0 : (x.nm.toList == nm.toList) = (isNm nm) x := rfl
      rw [e0] at HT
      cases e1 : (isNm nm) x
      · rw [e1] at hf HT
        simp only [Bool.false_eq_true, if_false] at hf
        have HF2 := Lib.hid hf
        clear hf e1 e0
        go_wp2_with (refine HT.out.mono ?_; rintro e w4 ⟨rfl, hg2⟩)
        go_roundg (gk - 1)
        case measure => omega
        case rel => exact ⟨i + 1, by go_num, by omega, hg.trans hg2, by unfold Hid; rw [← HF2.out, HF.out]⟩
      · rw [e1] at hf HT
        simp only [if_true] at hf
        have HF2 := Lib.hid hf
        clear hf e1 e0
        go_wp2_with (refine HT.out.mono ?_; rintro e w4 ⟨rfl, hg2⟩)
        go_ret
        exact ⟨by rw [HE.out, ← HF.out, HF2.out]; rfl, hg.trans hg2⟩
    · have HE2 := Lib.hid (firstP_end (Q := (isNm nm)) (xs := xs) (i := i) (n := n) (by omega))
      have hi2 : (n : Int) ≤ i := by omega
      go_wp2_with fail
      go_ret
      exact ⟨by rw [HE.out, ← HF.out, HE2.out]; rfl, hg⟩
set_option maxHeartbeats 1000000 in
set_option maxRecDepth 100000 in
theorem indexV_pos (xs : List RowR) (n b off cap : Nat) (w : World) (hn : n ≤ xs.length) (h1 : n ≤ 1000) (hc : ∀ i x, xs[i]? = some x → RowAt w b (off + i * 3) x) :
    Calls Tryz.prog 37 #[.slice (some ⟨b, off, none⟩) n cap, .func (.func 23) #[] #[]] w fun e w' => e = .returned (.int .i64 (firstP hasV xs n 0)) ∧ Gr w w' := by
  have HC := Lib.hid hc
  have HN := Lib.hid hn
  have HE : Hid (firstP hasV xs n 0 = firstP hasV xs (n - 0) 0) := rfl
  clear hc hn
  go_enter Tryz.func37, Tryz.ntmps37
  go_wp2_with fail
  go_loopg [8] n (fun gk s8 wr => ∃ i : Nat, s8 = .int .i64 i ∧ gk + i = n ∧ Gr w wr ∧ Hid (firstP hasV xs (n - i) i = firstP hasV xs (n - 0) 0))
  case atStart => exact ⟨0, rfl, by omega, Gr.refl _, rfl⟩
  case round =>
    obtain ⟨i, rfl, hi, hg, HF⟩ := hrel
    by_cases hlt : i < n
    · obtain ⟨x, hx⟩ : ∃ x, xs[i]? = some x := ⟨xs[i]'(by have := HN.out; omega), List.getElem?_eq_getElem _⟩
      obtain ⟨c0, c1, c2, hv, _⟩ := (HC.out i x hx).gr hg
      obtain ⟨⟨p', cap', hu, _⟩⟩ := hv
      have hf := firstP_step (Q := hasV) hx hlt
      have hi2 : (i : Int) < n := by omega
      have HT := Lib.hid (hasValues_c x.nm x.st x.u ⟨_, _, _, hu⟩ wr)
      rw [hu] at c2 HT
      clear hx
      try unfold resV at HT
      have e0 : x.st.toList.isEmpty = hasV x := rfl
      rw [e0] at HT
      cases e1 : hasV x
      · rw [e1] at hf HT
        simp only [Bool.false_eq_true, if_false] at hf
        have HF2 := Lib.hid hf
        clear hf e1 e0
        go_wp2_with (refine HT.out.mono ?_; rintro e w4 ⟨rfl, hg2⟩)
        go_roundg (gk - 1)
        case measure => omega
        case rel => exact ⟨i + 1, by go_num, by omega, hg.trans hg2, by unfold Hid; rw [← HF2.out, HF.out]⟩
      · rw [e1] at hf HT
        simp only [if_true] at hf
        have HF2 := Lib.hid hf
        clear hf e1 e0
        go_wp2_with (refine HT.out.mono ?_; rintro e w4 ⟨rfl, hg2⟩)
        go_ret
        exact ⟨by rw [HE.out, ← HF.out, HF2.out]; rfl, hg.trans hg2⟩
    · have HE2 := Lib.hid (firstP_end (Q := hasV) (xs := xs) (i := i) (n := n) (by omega))
      have hi2 : (n : Int) ≤ i := by omega
      go_wp2_with fail
      go_ret
      exact ⟨by rw [HE.out, ← HF.out, HE2.out]; rfl, hg⟩
theorem containsR_pos (xs : List RowR) (n b off cap B : Nat) (nm : ByteArray) (w : World) (hn : n ≤ xs.length) (h1 : n ≤ 1000) (hc : ∀ i x, xs[i]? = some x → RowAt w b (off + i * 3) x) (hB : w.cell? ⟨B, 0, none⟩ = some (.string nm)) :
    Calls Tryz.prog 43 #[.slice (some ⟨b, off, none⟩) n cap, .func (.func 40) #[] #[.pointer (some ⟨B, 0, none⟩)]] w fun e w' => e = .returned (.bool (dupR xs n nm)) ∧ Gr w w' := by
  have HI := Lib.hid (indexN_pos xs n b off cap B nm w hn h1 hc hB)
  have HE : Hid (dupR xs n nm = decide (0 ≤ firstP (isNm nm) xs n 0)) := by
    unfold Hid dupR
    rw [firstP_any (isNm nm) xs n 0 (by omega), List.drop_zero]
    rfl
  clear hc hB
  generalize firstP (isNm nm) xs n 0 = z at *
  go_enter Tryz.func43, Tryz.ntmps43
  go_wp2_with fail
  refine HI.out.mono ?_
  rintro e w4 ⟨rfl, hg⟩
  go_wp2_with fail
  go_ret
  exact ⟨by rw [HE.out]; rfl, hg⟩
end Go.Proofs.YtebnbjaaogfikaaGreatDoor
namespace Go.Proofs.YtebnbjaaogfikaaGreatDoor
open Go.RowKit Go.Lib
set_option linter.unusedSimpArgs false
set_option linter.unusedVariables false
/-- whether a row fits the first one that has values -/
def fitFirst (xs : List RowR) (fz : Int) (x : RowR) : Bool := match xs[fz.toNat]? with
  | some f => fitB f.st x.st f.xs x.xs
  | none => true
/-- the error of a result of a round -/
def rowE (xs : List RowR) (fz : Int) (i : Nat) (x : RowR) : Int :=
  firstE [resE x.nm x.st x.xs, if dupR xs i x.nm then 9 else 0, if (if decide (0 ≤ fz) then !fitFirst xs fz x else false) then 2 else 0]
/-- the error of a round, from a result on -/
def rowFrom (xs : List RowR) (fz : Int) : Nat → Nat → Int
  | 0, _ => 0
  | k + 1, i => match xs[i]? with
    | some x => if rowE xs fz i x = 0 then rowFrom xs fz k (i + 1) else rowE xs fz i x
    | none => 0
theorem rowFrom_step {xs : List RowR} {fz : Int} {n i : Nat} {x : RowR} (hi : i < n) (h : xs[i]? = some x) : rowFrom xs fz (n - i) i = if rowE xs fz i x = 0 then rowFrom xs fz (n - (i + 1)) (i + 1) else rowE xs fz i x := by
  obtain ⟨k, hk⟩ : ∃ k, n - i = k + 1 := ⟨n - i - 1, by omega⟩
  have hk2 : n - (i + 1) = k := by omega
  rw [hk, hk2]
  simp only [rowFrom, h]
set_option maxHeartbeats 1000000 in
set_option maxRecDepth 100000 in
theorem one_row (xs : List RowR) (fz : Int) (i n b off cap L F : Nat) (x : RowR) (w : World) (hn : xs.length = n) (hi : i < n) (h1 : n ≤ 1000) (hcap : n ≤ cap) (hmx : cap ≤ maxLen) (hS : StatesIn w) (hv : IntsV w x.u x.xs) (hl : x.xs.length ≤ 1000)
    (hc : ∀ i x, xs[i]? = some x → RowAt w b (off + i * 3) x) (hL : w.cell? ⟨L, 0, none⟩ = some (.slice (some ⟨b, off, none⟩) n cap)) (hF : w.cell? ⟨F, 0, none⟩ = some (.int .i64 fz)) (hf : fz < n) :
    Calls Tryz.prog 39 #[.int .i64 i, resV x.nm x.st x.u, .pointer (some ⟨L, 0, none⟩), .pointer (some ⟨F, 0, none⟩)] w fun e w' => e = .returned (.int .i64 (rowE xs fz i x)) ∧ Gr w w' := by
  have hR : rowE xs fz i x = firstE [resE x.nm x.st x.xs, if dupR xs i x.nm then 9 else 0, if (if decide (0 ≤ fz) then !fitFirst xs fz x else false) then 2 else 0] := rfl
  have HK := Lib.hid (fun (W : World) (g : Gr w W) => checkResult_c x.nm x.st x.u x.xs W (hS.gr g) (hv.gr g) hl)
  have HD := Lib.hid (fun (B : Nat) (W : World) (g : Gr w W) hB => containsR_pos xs i b off cap B x.nm W (by omega) (by omega) (fun i x hx => (hc i x hx).gr g) hB)
  have HFit : decide (0 ≤ fz) = true → Hid (∃ f : RowR, RowAt w b (off + fz.toNat * 3) f ∧ ∀ (W : World), Gr w W → Calls Tryz.prog 44 #[resV f.nm f.st f.u, resV x.nm x.st x.u] W fun e w' => e = .returned (.bool (fitFirst xs fz x)) ∧ Gr W w') := by
    intro h0
    have h0' : 0 ≤ fz := of_decide_eq_true h0
    obtain ⟨f, hf2⟩ : ∃ f, xs[fz.toNat]? = some f := ⟨xs[fz.toNat]'(by omega), List.getElem?_eq_getElem _⟩
    have hv2 : fitFirst xs fz x = fitB f.st x.st f.xs x.xs := by unfold fitFirst; rw [hf2]
    have ha := hc _ f hf2
    refine ⟨f, ha, fun W g => ?_⟩
    rw [hv2]
    exact fit_c f.nm f.st x.nm x.st f.u x.u f.xs x.xs W (hS.gr g) (ha.val.gr g) (hv.gr g)
  obtain ⟨⟨pu, cu, hu, _⟩⟩ := id hv
  rw [hu] at HK HFit
  rw [hu]
  unfold resV at HK HFit
  unfold resV
  generalize resE x.nm x.st x.xs = e1 at *
  generalize dupR xs i x.nm = d at *
  generalize fitFirst xs fz x = t at *
  obtain ⟨e2, h2', H2⟩ := if_e d 9
  obtain ⟨e3, h3', H3⟩ := if_e (if decide (0 ≤ fz) then !t else false) 2
  rw [← h2', ← h3'] at hR
  have hF3 := first_three e1 e2 e3
  rw [← hR] at hF3
  generalize rowE xs fz i x = err at *
  replace H2 := Lib.hid H2
  have HF := Lib.hid hF3
  obtain ⟨W, hW, g, a0, a1, a2⟩ := box3 w (.string x.nm) (.string x.st) (.slice pu x.xs.length cu) 34
  have l0 := g.cell hL
  have f0 := g.cell hF
  have HW := Lib.hid hW
  have hi1 : (i : Int) ≤ cap := by omega
  have hi0 : (0 : Int) ≤ i := by omega
  generalize x.xs.length = xn at *
  clear hW hc hL hF hF3 hR h2' h3' hn hv hS
  cases h0 : decide (0 ≤ fz)
  · rw [h0] at H3
    simp only [Bool.false_eq_true, if_false] at H3
    replace H3 := Lib.hid H3
    clear HFit
    go_enter Tryz.func39, Tryz.ntmps39
    go_wp2_with fail
    rw [HW.out]
    generalize w.heap.size = B at *
    clear HW
    have gd := (Gr.refl W).drew
    replace a0 := gd.cell a0
    replace a1 := gd.cell a1
    replace a2 := gd.cell a2
    replace l0 := gd.cell l0
    replace f0 := gd.cell f0
    replace g := g.trans gd
    clear gd
    refine wp_region_held_drew (S := (fun w' => (w'.cell? ⟨B, 0, none⟩ = some (.string x.nm) ∧ w'.cell? ⟨B, 1, none⟩ = some (.string x.st) ∧ w'.cell? ⟨B, 2, none⟩ = some (.slice pu xn cu)) ∧ w'.cell? ⟨L, 0, none⟩ = some (.slice (some ⟨b, off, none⟩) n cap) ∧ w'.cell? ⟨F, 0, none⟩ = some (.int .i64 fz))) (by kernel_rfl) ⟨⟨a0, a1, a2⟩, l0, f0⟩ (fun hHeld => ?_)
    generalize W.drew = V at *
    refine wpAnyH_take (i := 0) (v := (.agg #[.string x.nm, .string x.st, .slice pu xn cu])) (op_at rfl) (by kernel_rfl) (by kernel_rfl) (by kernel_rfl) (fun _ _ _ h => h) (Or.inl ⟨rfl, fun w hSw => ?_⟩) (by assumption) ?_
    · (try dsimp only at hSw); go_simp; try with_reducible rfl
    (try simp only [Act.put, List.setIfInBounds_toArray, List.set_cons_zero, List.set_cons_succ])
    refine wpAnyH_take (i := 2) (v := (.slice (some ⟨b, off, none⟩) n cap)) (op_at rfl) (by kernel_rfl) (by kernel_rfl) (by kernel_rfl) (fun _ _ _ h => h) (Or.inl ⟨rfl, fun w hSw => ?_⟩) (by assumption) ?_
    · (try dsimp only at hSw); go_simp; try with_reducible rfl
    (try simp only [Act.put, List.setIfInBounds_toArray, List.set_cons_zero, List.set_cons_succ])
    refine wpAnyH_take (i := 3) (v := (.int .i64 i)) (op_at rfl) (by kernel_rfl) (by kernel_rfl) (by kernel_rfl) (fun _ _ _ h => h) (Or.inl ⟨rfl, fun w hSw => ?_⟩) (by assumption) ?_
    · (try dsimp only at hSw); go_simp; try with_reducible rfl
    (try simp only [Act.put, List.setIfInBounds_toArray, List.set_cons_zero, List.set_cons_succ])
    refine wpAnyH_take (i := 4) (v := (.slice (some ⟨b, off, none⟩) i cap)) (op_at rfl) (by kernel_rfl) (by kernel_rfl) (by kernel_rfl) (fun _ _ _ h => h) (Or.inl ⟨rfl, fun w hSw => ?_⟩) (by assumption) ?_
    · (try dsimp only at hSw); go_simp; try with_reducible rfl
    (try simp only [Act.put, List.setIfInBounds_toArray, List.set_cons_zero, List.set_cons_succ])
    refine wpAnyH_take (i := 5) (v := (.func (.func 40) #[] #[.pointer (some ⟨B, 0, none⟩)])) (op_at rfl) (by kernel_rfl) (by kernel_rfl) (by kernel_rfl) (fun _ _ _ h => h) (Or.inl ⟨rfl, fun w hSw => ?_⟩) (by assumption) ?_
    · (try dsimp only at hSw); go_simp; try with_reducible rfl
    (try simp only [Act.put, List.setIfInBounds_toArray, List.set_cons_zero, List.set_cons_succ])
    refine wpAnyH_take (i := 8) (v := (.int .i64 fz)) (op_at rfl) (by kernel_rfl) (by kernel_rfl) (by kernel_rfl) (fun _ _ _ h => h) (Or.inl ⟨rfl, fun w hSw => ?_⟩) (by assumption) ?_
    · (try dsimp only at hSw); go_simp; try with_reducible rfl
    (try simp only [Act.put, List.setIfInBounds_toArray, List.set_cons_zero, List.set_cons_succ])
    refine wpAnyH_take (i := 9) (v := (.bool false)) (op_at rfl) (by kernel_rfl) (by kernel_rfl) (by kernel_rfl) (fun _ _ _ h => h) (Or.inl ⟨rfl, fun w hSw => ?_⟩) (by assumption) ?_
    · (try dsimp only at hSw); go_simp; try with_reducible rfl
    (try simp only [Act.put, List.setIfInBounds_toArray, List.set_cons_zero, List.set_cons_succ])
    refine wpAnyH_ready (rs := [1]) (by kernel_rfl) (by simp) (AllReadyH.cons (op_at rfl) (fun K hK => ?_) AllReadyH.nil)
    go_simp
    (refine (HK.out _ g).mono ?_; rintro e W1 ⟨rfl, hg⟩; replace a0 := hg.cell a0; replace a1 := hg.cell a1; replace a2 := hg.cell a2; replace l0 := hg.cell l0; replace f0 := hg.cell f0; replace g := g.trans hg; clear hg)
    go_wp2_with fail
    refine hK.out _ _ ⟨⟨a0, a1, a2⟩, l0, f0⟩ (fun hHeld => ?_)
    clear hK K
    (try simp only [Act.put, List.setIfInBounds_toArray, List.set_cons_zero, List.set_cons_succ])
    refine wpAnyH_ready (rs := [6]) (by kernel_rfl) (by simp) (AllReadyH.cons (op_at rfl) (fun K hK => ?_) AllReadyH.nil)
    go_simp
    (refine (HD.out B _ g a0).mono ?_; rintro e W2 ⟨rfl, hg⟩; replace a0 := hg.cell a0; replace a1 := hg.cell a1; replace a2 := hg.cell a2; replace l0 := hg.cell l0; replace f0 := hg.cell f0; replace g := g.trans hg; clear hg)
    go_wp2_with fail
    refine hK.out _ _ ⟨⟨a0, a1, a2⟩, l0, f0⟩ (fun hHeld => ?_)
    clear hK K
    (try simp only [Act.put, List.setIfInBounds_toArray, List.set_cons_zero, List.set_cons_succ])
    refine wpAnyH_ready (rs := [7]) (by kernel_rfl) (by simp) (AllReadyH.cons (op_at rfl) (fun K hK => ?_) AllReadyH.nil)
    go_simp
    (refine (H2.out _).mono ?_; rintro e w' ⟨rfl, rfl⟩)
    go_wp2_with fail
    refine hK.out _ _ ⟨⟨a0, a1, a2⟩, l0, f0⟩ (fun hHeld => ?_)
    clear hK K
    (try simp only [Act.put, List.setIfInBounds_toArray, List.set_cons_zero, List.set_cons_succ])
    refine wpAnyH_take (i := 10) (v := (.bool false)) (op_at rfl) (by kernel_rfl) (by kernel_rfl) (by kernel_rfl) (fun _ _ _ h => h) (Or.inl ⟨rfl, fun w hSw => ?_⟩) (by assumption) ?_
    · (try dsimp only at hSw); go_simp; try with_reducible rfl
    (try simp only [Act.put, List.setIfInBounds_toArray, List.set_cons_zero, List.set_cons_succ])
    refine wpAnyH_take (i := 11) (v := undef) (op_at rfl) (by kernel_rfl) (by kernel_rfl) (by kernel_rfl) (fun _ _ _ h => h) (Or.inr ⟨rfl, rfl⟩) (by assumption) ?_
    (try simp only [Act.put, List.setIfInBounds_toArray, List.set_cons_zero, List.set_cons_succ])
    refine wpAnyH_take (i := 12) (v := undef) (op_at rfl) (by kernel_rfl) (by kernel_rfl) (by kernel_rfl) (fun _ _ _ h => h) (Or.inr ⟨rfl, rfl⟩) (by assumption) ?_
    (try simp only [Act.put, List.setIfInBounds_toArray, List.set_cons_zero, List.set_cons_succ])
    refine wpAnyH_take (i := 13) (v := undef) (op_at rfl) (by kernel_rfl) (by kernel_rfl) (by kernel_rfl) (fun _ _ _ h => h) (Or.inr ⟨rfl, rfl⟩) (by assumption) ?_
    (try simp only [Act.put, List.setIfInBounds_toArray, List.set_cons_zero, List.set_cons_succ])
    refine wpAnyH_take (i := 14) (v := undef) (op_at rfl) (by kernel_rfl) (by kernel_rfl) (by kernel_rfl) (fun _ _ _ h => h) (Or.inr ⟨rfl, rfl⟩) (by assumption) ?_
    (try simp only [Act.put, List.setIfInBounds_toArray, List.set_cons_zero, List.set_cons_succ])
    refine wpAnyH_take (i := 15) (v := undef) (op_at rfl) (by kernel_rfl) (by kernel_rfl) (by kernel_rfl) (fun _ _ _ h => h) (Or.inr ⟨rfl, rfl⟩) (by assumption) ?_
    (try simp only [Act.put, List.setIfInBounds_toArray, List.set_cons_zero, List.set_cons_succ])
    refine wpAnyH_take (i := 16) (v := undef) (op_at rfl) (by kernel_rfl) (by kernel_rfl) (by kernel_rfl) (fun _ _ _ h => h) (Or.inr ⟨rfl, rfl⟩) (by assumption) ?_
    (try simp only [Act.put, List.setIfInBounds_toArray, List.set_cons_zero, List.set_cons_succ])
    refine wpAnyH_take (i := 17) (v := undef) (op_at rfl) (by kernel_rfl) (by kernel_rfl) (by kernel_rfl) (fun _ _ _ h => h) (Or.inr ⟨rfl, rfl⟩) (by assumption) ?_
    (try simp only [Act.put, List.setIfInBounds_toArray, List.set_cons_zero, List.set_cons_succ])
    refine wpAnyH_take (i := 18) (v := (.bool false)) (op_at rfl) (by kernel_rfl) (by kernel_rfl) (by kernel_rfl) (fun _ _ _ h => h) (Or.inl ⟨rfl, fun w hSw => ?_⟩) (by assumption) ?_
    · (try dsimp only at hSw); go_simp; try with_reducible rfl
    (try simp only [Act.put, List.setIfInBounds_toArray, List.set_cons_zero, List.set_cons_succ])
    refine wpAnyH_ready (rs := [19]) (by kernel_rfl) (by simp) (AllReadyH.cons (op_at rfl) (fun K hK => ?_) AllReadyH.nil)
    go_simp
    (refine (H3.out _).mono ?_; rintro e w' ⟨rfl, rfl⟩)
    go_wp2_with fail
    refine hK.out _ _ ⟨⟨a0, a1, a2⟩, l0, f0⟩ (fun hHeld => ?_)
    clear hK K
    (try simp only [Act.put, List.setIfInBounds_toArray, List.set_cons_zero, List.set_cons_succ])
    refine wpAnyH_ready (rs := [20]) (by kernel_rfl) (by simp) (AllReadyH.cons (op_at rfl) (fun K hK => ?_) AllReadyH.nil)
    go_simp
    obtain ⟨W3, hW3, g3, s0, s1, s2⟩ := box3 W2 (.int .i64 e1) (.int .i64 e2) (.int .i64 e3) 28
    rw [hW3]
    clear hW3
    replace a0 := g3.cell a0
    replace a1 := g3.cell a1
    replace a2 := g3.cell a2
    replace l0 := g3.cell l0
    replace f0 := g3.cell f0
    replace g := g.trans g3
    refine hK.out _ _ ⟨⟨a0, a1, a2⟩, l0, f0⟩ (fun hHeld => ?_)
    clear hK K
    (try simp only [Act.put, List.setIfInBounds_toArray, List.set_cons_zero, List.set_cons_succ])
    refine wpAnyH_ready (rs := [21]) (by kernel_rfl) (by simp) (AllReadyH.cons (op_at rfl) (fun K hK => ?_) AllReadyH.nil)
    go_simp
    (refine (HF.out _ _ W3 s0 s1 s2).mono ?_; rintro e w8 ⟨rfl, rfl⟩)
    go_wp2_with fail
    refine hK.out _ _ ⟨⟨a0, a1, a2⟩, l0, f0⟩ (fun hHeld => ?_)
    clear hK K
    (try simp only [Act.put, List.setIfInBounds_toArray, List.set_cons_zero, List.set_cons_succ])
    refine wpAnyH_take (i := 22) (v := (.int .i64 err)) (op_at rfl) (by kernel_rfl) (by kernel_rfl) (by kernel_rfl) (fun _ _ _ h => h) (Or.inl ⟨rfl, fun w hSw => ?_⟩) (by assumption) ?_
    · (try dsimp only at hSw); go_simp; try with_reducible rfl
    (try simp only [Act.put, List.setIfInBounds_toArray, List.set_cons_zero, List.set_cons_succ])
    refine wpAnyH_done (by kernel_rfl) ?_ _
    go_wp2_with fail
    go_ret
    exact ⟨rfl, g⟩
  · obtain ⟨f, ha, hT⟩ := (HFit h0).out
    rw [h0] at H3
    simp only [if_true] at H3
    replace H3 := Lib.hid H3
    have h0' : 0 ≤ fz := of_decide_eq_true h0
    obtain ⟨k, rfl⟩ : ∃ k : Nat, fz = k := ⟨fz.toNat, by omega⟩
    rw [Int.toNat_natCast] at ha
    obtain ⟨m0, m1, m2, hvf, _⟩ := ha.gr g
    obtain ⟨⟨pf, cf, huf, _⟩⟩ := hvf
    rw [huf] at m2 hT
    generalize f.xs.length = fn at *
    have HT := Lib.hid hT
    clear HFit hT ha huf h0'
    go_enter Tryz.func39, Tryz.ntmps39
    go_wp2_with fail
    rw [HW.out]
    generalize w.heap.size = B at *
    clear HW
    have gd := (Gr.refl W).drew
    replace a0 := gd.cell a0
    replace a1 := gd.cell a1
    replace a2 := gd.cell a2
    replace l0 := gd.cell l0
    replace f0 := gd.cell f0
    replace m0 := gd.cell m0
    replace m1 := gd.cell m1
    replace m2 := gd.cell m2
    replace g := g.trans gd
    clear gd
    refine wp_region_held_drew (S := (fun w' => (w'.cell? ⟨B, 0, none⟩ = some (.string x.nm) ∧ w'.cell? ⟨B, 1, none⟩ = some (.string x.st) ∧ w'.cell? ⟨B, 2, none⟩ = some (.slice pu xn cu)) ∧ w'.cell? ⟨L, 0, none⟩ = some (.slice (some ⟨b, off, none⟩) n cap) ∧ w'.cell? ⟨F, 0, none⟩ = some (.int .i64 (k : Int)) ∧ w'.cell? ⟨b, off + k * 3, none⟩ = some (.string f.nm) ∧ w'.cell? ⟨b, off + k * 3 + 1, none⟩ = some (.string f.st) ∧ w'.cell? ⟨b, off + k * 3 + 2, none⟩ = some (.slice pf fn cf))) (by kernel_rfl) ⟨⟨a0, a1, a2⟩, l0, f0, m0, m1, m2⟩ (fun hHeld => ?_)
    generalize W.drew = V at *
    refine wpAnyH_take (i := 0) (v := (.agg #[.string x.nm, .string x.st, .slice pu xn cu])) (op_at rfl) (by kernel_rfl) (by kernel_rfl) (by kernel_rfl) (fun _ _ _ h => h) (Or.inl ⟨rfl, fun w hSw => ?_⟩) (by assumption) ?_
    · (try dsimp only at hSw); go_simp; try with_reducible rfl
    (try simp only [Act.put, List.setIfInBounds_toArray, List.set_cons_zero, List.set_cons_succ])
    refine wpAnyH_take (i := 2) (v := (.slice (some ⟨b, off, none⟩) n cap)) (op_at rfl) (by kernel_rfl) (by kernel_rfl) (by kernel_rfl) (fun _ _ _ h => h) (Or.inl ⟨rfl, fun w hSw => ?_⟩) (by assumption) ?_
    · (try dsimp only at hSw); go_simp; try with_reducible rfl
    (try simp only [Act.put, List.setIfInBounds_toArray, List.set_cons_zero, List.set_cons_succ])
    refine wpAnyH_take (i := 3) (v := (.int .i64 i)) (op_at rfl) (by kernel_rfl) (by kernel_rfl) (by kernel_rfl) (fun _ _ _ h => h) (Or.inl ⟨rfl, fun w hSw => ?_⟩) (by assumption) ?_
    · (try dsimp only at hSw); go_simp; try with_reducible rfl
    (try simp only [Act.put, List.setIfInBounds_toArray, List.set_cons_zero, List.set_cons_succ])
    refine wpAnyH_take (i := 4) (v := (.slice (some ⟨b, off, none⟩) i cap)) (op_at rfl) (by kernel_rfl) (by kernel_rfl) (by kernel_rfl) (fun _ _ _ h => h) (Or.inl ⟨rfl, fun w hSw => ?_⟩) (by assumption) ?_
    · (try dsimp only at hSw); go_simp; try with_reducible rfl
    (try simp only [Act.put, List.setIfInBounds_toArray, List.set_cons_zero, List.set_cons_succ])
    refine wpAnyH_take (i := 5) (v := (.func (.func 40) #[] #[.pointer (some ⟨B, 0, none⟩)])) (op_at rfl) (by kernel_rfl) (by kernel_rfl) (by kernel_rfl) (fun _ _ _ h => h) (Or.inl ⟨rfl, fun w hSw => ?_⟩) (by assumption) ?_
    · (try dsimp only at hSw); go_simp; try with_reducible rfl
    (try simp only [Act.put, List.setIfInBounds_toArray, List.set_cons_zero, List.set_cons_succ])
    refine wpAnyH_take (i := 8) (v := (.int .i64 (k : Int))) (op_at rfl) (by kernel_rfl) (by kernel_rfl) (by kernel_rfl) (fun _ _ _ h => h) (Or.inl ⟨rfl, fun w hSw => ?_⟩) (by assumption) ?_
    · (try dsimp only at hSw); go_simp; try with_reducible rfl
    (try simp only [Act.put, List.setIfInBounds_toArray, List.set_cons_zero, List.set_cons_succ])
    refine wpAnyH_take (i := 9) (v := (.bool true)) (op_at rfl) (by kernel_rfl) (by kernel_rfl) (by kernel_rfl) (fun _ _ _ h => h) (Or.inl ⟨rfl, fun w hSw => ?_⟩) (by assumption) ?_
    · (try dsimp only at hSw); go_simp; try with_reducible rfl
    (try simp only [Act.put, List.setIfInBounds_toArray, List.set_cons_zero, List.set_cons_succ])
    refine wpAnyH_ready (rs := [1]) (by kernel_rfl) (by simp) (AllReadyH.cons (op_at rfl) (fun K hK => ?_) AllReadyH.nil)
    go_simp
    (refine (HK.out _ g).mono ?_; rintro e W1 ⟨rfl, hg⟩; replace a0 := hg.cell a0; replace a1 := hg.cell a1; replace a2 := hg.cell a2; replace l0 := hg.cell l0; replace f0 := hg.cell f0; replace m0 := hg.cell m0; replace m1 := hg.cell m1; replace m2 := hg.cell m2; replace g := g.trans hg; clear hg)
    go_wp2_with fail
    refine hK.out _ _ ⟨⟨a0, a1, a2⟩, l0, f0, m0, m1, m2⟩ (fun hHeld => ?_)
    clear hK K
    (try simp only [Act.put, List.setIfInBounds_toArray, List.set_cons_zero, List.set_cons_succ])
    refine wpAnyH_ready (rs := [6]) (by kernel_rfl) (by simp) (AllReadyH.cons (op_at rfl) (fun K hK => ?_) AllReadyH.nil)
    go_simp
    (refine (HD.out B _ g a0).mono ?_; rintro e W2 ⟨rfl, hg⟩; replace a0 := hg.cell a0; replace a1 := hg.cell a1; replace a2 := hg.cell a2; replace l0 := hg.cell l0; replace f0 := hg.cell f0; replace m0 := hg.cell m0; replace m1 := hg.cell m1; replace m2 := hg.cell m2; replace g := g.trans hg; clear hg)
    go_wp2_with fail
    refine hK.out _ _ ⟨⟨a0, a1, a2⟩, l0, f0, m0, m1, m2⟩ (fun hHeld => ?_)
    clear hK K
    (try simp only [Act.put, List.setIfInBounds_toArray, List.set_cons_zero, List.set_cons_succ])
    refine wpAnyH_ready (rs := [7]) (by kernel_rfl) (by simp) (AllReadyH.cons (op_at rfl) (fun K hK => ?_) AllReadyH.nil)
    go_simp
    (refine (H2.out _).mono ?_; rintro e w' ⟨rfl, rfl⟩)
    go_wp2_with fail
    refine hK.out _ _ ⟨⟨a0, a1, a2⟩, l0, f0, m0, m1, m2⟩ (fun hHeld => ?_)
    clear hK K
    (try simp only [Act.put, List.setIfInBounds_toArray, List.set_cons_zero, List.set_cons_succ])
    refine wpAnyH_take (i := 10) (v := (.bool true)) (op_at rfl) (by kernel_rfl) (by kernel_rfl) (by kernel_rfl) (fun _ _ _ h => h) (Or.inl ⟨rfl, fun w hSw => ?_⟩) (by assumption) ?_
    · (try dsimp only at hSw); go_simp; try with_reducible rfl
    (try simp only [Act.put, List.setIfInBounds_toArray, List.set_cons_zero, List.set_cons_succ])
    refine wpAnyH_take (i := 11) (v := (.slice (some ⟨b, off, none⟩) n cap)) (op_at rfl) (by kernel_rfl) (by kernel_rfl) (by kernel_rfl) (fun _ _ _ h => h) (Or.inl ⟨rfl, fun w hSw => ?_⟩) (by assumption) ?_
    · (try dsimp only at hSw); go_simp; try with_reducible rfl
    (try simp only [Act.put, List.setIfInBounds_toArray, List.set_cons_zero, List.set_cons_succ])
    refine wpAnyH_take (i := 12) (v := (.int .i64 (k : Int))) (op_at rfl) (by kernel_rfl) (by kernel_rfl) (by kernel_rfl) (fun _ _ _ h => h) (Or.inl ⟨rfl, fun w hSw => ?_⟩) (by assumption) ?_
    · (try dsimp only at hSw); go_simp; try with_reducible rfl
    (try simp only [Act.put, List.setIfInBounds_toArray, List.set_cons_zero, List.set_cons_succ])
    refine wpAnyH_take (i := 13) (v := (.pointer (some ⟨b, off + k * 3, none⟩))) (op_at rfl) (by kernel_rfl) (by kernel_rfl) (by kernel_rfl) (fun _ _ _ h => h) (Or.inl ⟨rfl, fun w hSw => ?_⟩) (by assumption) ?_
    · (try dsimp only at hSw); go_simp; try with_reducible rfl
    (try simp only [Act.put, List.setIfInBounds_toArray, List.set_cons_zero, List.set_cons_succ])
    refine wpAnyH_take (i := 14) (v := (.agg #[.string f.nm, .string f.st, .slice pf fn cf])) (op_at rfl) (by kernel_rfl) (by kernel_rfl) (by kernel_rfl) (fun _ _ _ h => h) (Or.inl ⟨rfl, fun w hSw => ?_⟩) (by assumption) ?_
    · (try dsimp only at hSw); go_simp; try with_reducible rfl
    (try simp only [Act.put, List.setIfInBounds_toArray, List.set_cons_zero, List.set_cons_succ])
    refine wpAnyH_take (i := 15) (v := (.agg #[.string x.nm, .string x.st, .slice pu xn cu])) (op_at rfl) (by kernel_rfl) (by kernel_rfl) (by kernel_rfl) (fun _ _ _ h => h) (Or.inl ⟨rfl, fun w hSw => ?_⟩) (by assumption) ?_
    · (try dsimp only at hSw); go_simp; try with_reducible rfl
    (try simp only [Act.put, List.setIfInBounds_toArray, List.set_cons_zero, List.set_cons_succ])
    refine wpAnyH_ready (rs := [16]) (by kernel_rfl) (by simp) (AllReadyH.cons (op_at rfl) (fun K hK => ?_) AllReadyH.nil)
    go_simp
    (refine (HT.out _ g).mono ?_; rintro e W2 ⟨rfl, hg⟩; replace a0 := hg.cell a0; replace a1 := hg.cell a1; replace a2 := hg.cell a2; replace l0 := hg.cell l0; replace f0 := hg.cell f0; replace m0 := hg.cell m0; replace m1 := hg.cell m1; replace m2 := hg.cell m2; replace g := g.trans hg; clear hg)
    go_wp2_with fail
    refine hK.out _ _ ⟨⟨a0, a1, a2⟩, l0, f0, m0, m1, m2⟩ (fun hHeld => ?_)
    clear hK K
    (try simp only [Act.put, List.setIfInBounds_toArray, List.set_cons_zero, List.set_cons_succ])
    refine wpAnyH_take (i := 17) (v := (.bool (!t))) (op_at rfl) (by kernel_rfl) (by kernel_rfl) (by kernel_rfl) (fun _ _ _ h => h) (Or.inl ⟨rfl, fun w hSw => ?_⟩) (by assumption) ?_
    · (try dsimp only at hSw); go_simp; try with_reducible rfl
    (try simp only [Act.put, List.setIfInBounds_toArray, List.set_cons_zero, List.set_cons_succ])
    refine wpAnyH_take (i := 18) (v := (.bool (!t))) (op_at rfl) (by kernel_rfl) (by kernel_rfl) (by kernel_rfl) (fun _ _ _ h => h) (Or.inl ⟨rfl, fun w hSw => ?_⟩) (by assumption) ?_
    · (try dsimp only at hSw); go_simp; try with_reducible rfl
    (try simp only [Act.put, List.setIfInBounds_toArray, List.set_cons_zero, List.set_cons_succ])
    refine wpAnyH_ready (rs := [19]) (by kernel_rfl) (by simp) (AllReadyH.cons (op_at rfl) (fun K hK => ?_) AllReadyH.nil)
    go_simp
    (refine (H3.out _).mono ?_; rintro e w' ⟨rfl, rfl⟩)
    go_wp2_with fail
    refine hK.out _ _ ⟨⟨a0, a1, a2⟩, l0, f0, m0, m1, m2⟩ (fun hHeld => ?_)
    clear hK K
    (try simp only [Act.put, List.setIfInBounds_toArray, List.set_cons_zero, List.set_cons_succ])
    refine wpAnyH_ready (rs := [20]) (by kernel_rfl) (by simp) (AllReadyH.cons (op_at rfl) (fun K hK => ?_) AllReadyH.nil)
    go_simp
    obtain ⟨W3, hW3, g3, s0, s1, s2⟩ := box3 W2 (.int .i64 e1) (.int .i64 e2) (.int .i64 e3) 28
    rw [hW3]
    clear hW3
    replace a0 := g3.cell a0
    replace a1 := g3.cell a1
    replace a2 := g3.cell a2
    replace l0 := g3.cell l0
    replace f0 := g3.cell f0
    replace m0 := g3.cell m0
    replace m1 := g3.cell m1
    replace m2 := g3.cell m2
    replace g := g.trans g3
    refine hK.out _ _ ⟨⟨a0, a1, a2⟩, l0, f0, m0, m1, m2⟩ (fun hHeld => ?_)
    clear hK K
    (try simp only [Act.put, List.setIfInBounds_toArray, List.set_cons_zero, List.set_cons_succ])
    refine wpAnyH_ready (rs := [21]) (by kernel_rfl) (by simp) (AllReadyH.cons (op_at rfl) (fun K hK => ?_) AllReadyH.nil)
    go_simp
    (refine (HF.out _ _ W3 s0 s1 s2).mono ?_; rintro e w8 ⟨rfl, rfl⟩)
    go_wp2_with fail
    refine hK.out _ _ ⟨⟨a0, a1, a2⟩, l0, f0, m0, m1, m2⟩ (fun hHeld => ?_)
    clear hK K
    (try simp only [Act.put, List.setIfInBounds_toArray, List.set_cons_zero, List.set_cons_succ])
    refine wpAnyH_take (i := 22) (v := (.int .i64 err)) (op_at rfl) (by kernel_rfl) (by kernel_rfl) (by kernel_rfl) (fun _ _ _ h => h) (Or.inl ⟨rfl, fun w hSw => ?_⟩) (by assumption) ?_
    · (try dsimp only at hSw); go_simp; try with_reducible rfl
    (try simp only [Act.put, List.setIfInBounds_toArray, List.set_cons_zero, List.set_cons_succ])
    refine wpAnyH_done (by kernel_rfl) ?_ _
    go_wp2_with fail
    go_ret
    exact ⟨rfl, g⟩
end Go.Proofs.YtebnbjaaogfikaaGreatDoor
