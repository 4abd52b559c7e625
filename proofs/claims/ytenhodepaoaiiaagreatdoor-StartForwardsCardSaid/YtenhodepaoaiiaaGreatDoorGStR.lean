/- Who goes on (chapter 6): the program's CheckResults, Forward and Replace, with their errors. -/
import Derived.Test.YtenhodepaoaiiaaGreatDoorStQ
namespace Go.Proofs.YtenhodepaoaiiaaGreatDoor
open Go.RowKit Go.Lib
set_option linter.unusedSimpArgs false
set_option linter.unusedVariables false
set_option maxHeartbeats 2000000
set_option maxRecDepth 100000
theorem findRes_c {xs : List RowR} {n b off cap L : Nat} {w : World} (hn : xs.length = n) (h1 : n ≤ 160) (hcap : n ≤ cap) (hmx : cap ≤ maxLen) (hc : ∀ i x, xs[i]? = some x → RowAt w b (off + i * 3) x) (hL : w.cell? ⟨L, 0, none⟩ = some (.slice (some ⟨b, off, none⟩) n cap)) :
    Calls Tryz.prog 82 #[.slice (some ⟨b, off, none⟩) n cap, .func (.func 40) #[] #[.pointer (some ⟨L, 0, none⟩)]] w fun e w' => (∃ i : Int, e = .returned (.tuple #[.int .i64 i, .int .i64 (rowsG xs n 0)])) ∧ Gr w w' := by
  have HX := Lib.hid (fun k (h : k < n) => (show ∃ x, xs[k]? = some x from ⟨xs[k]'(by omega), List.getElem?_eq_getElem _⟩))
  have HC := Lib.hid hc
  have HS := Lib.hid (fun i x (hi : i < n) (h : xs[i]? = some x) => rowsG_step hi h)
  have HE : Hid (rowsG xs 0 n = 0) := rfl
  have HO := Lib.hid (fun (j : Nat) (x : RowR) (W : World) (g : Gr w W) (hx : xs[j]? = some x) => oneRes_c (L := L) (w := W) hn h1 hcap hmx hx (fun i x hx => (hc i x hx).gr g) (((hc j x hx).gr g).val) (g.cell hL))
  generalize hrg : rowsG xs = R at *
  clear hc hL hn hrg
  go_enter Tryz.func82, Tryz.ntmps82
  go_wp2_with fail
  go_loopg [11] n (fun gk s11 wr => ∃ i : Nat, s11 = .int .i64 i ∧ gk + i = n ∧ Gr w wr ∧ Hid (R (n - i) i = R n 0))
  case atStart => exact ⟨0, rfl, by omega, Gr.refl _, by simp [Hid]⟩
  case round =>
    obtain ⟨i, rfl, hi, hg, HF⟩ := hrel
    by_cases hlt : i < n
    · obtain ⟨x, hx⟩ := HX.out i hlt
      obtain ⟨c0, c1, c2, hv, _⟩ := (HC.out i x hx).gr hg
      have hi2 : (i : Int) < n := by omega
      have hst := HS.out i x hlt hx
      obtain ⟨⟨pu, cu, hu, _⟩⟩ := id hv
      rw [hu] at c2
      have g1 := (Gr.refl wr).alloc (.cells #[.string x.nm, .string x.st, .slice pu x.xs.length cu] 42)
      have HT := Lib.hid (HO.out i x _ (hg.trans g1) hx)
      rw [hu] at HT
      clear hx hv hu
      generalize x.xs.length = xn at *
      by_cases h0 : rowG xs i x = 0
      · rw [h0] at HT
        rw [if_pos h0] at hst
        have HF2 := Lib.hid hst
        clear hst h0
        go_wp2_with (refine HT.out.mono ?_; rintro e w4 ⟨rfl, hg2⟩)
        go_roundg (gk - 1)
        case measure => omega
        case rel => exact ⟨i + 1, by go_num, by omega, hg.trans (g1.trans hg2), by unfold Hid; rw [← HF2.out, HF.out]⟩
      · rw [if_neg h0] at hst
        generalize rowG xs i x = z at *
        have q2 : (z != 0) = true := bne_iff_ne.2 h0
        have HQ : Hid (R n 0 = z) := by unfold Hid; rw [← HF.out, hst]
        clear hst h0
        go_wp2_with (refine HT.out.mono ?_; rintro e w4 ⟨rfl, hg2⟩)
        exact bodyPost_ret (v := .tuple #[.int .i64 i, .int .i64 z]) (by simp [results, Tryz.results82, go_sem]) rfl ⟨⟨i, by rw [HQ.out]⟩, hg.trans (g1.trans hg2)⟩
    · have hin : i = n := by omega
      have hi2 : ¬ (i : Int) < n := by omega
      have HQ : Hid (R n 0 = 0) := by unfold Hid; rw [← HF.out, hin, Nat.sub_self]; exact HE.out
      go_wp2_with fail
      exact bodyPost_ret (v := .tuple #[.int .i64 0, .int .i64 0]) (by simp [results, Tryz.results82, go_sem]) rfl ⟨⟨0, by rw [HQ.out]⟩, hg⟩
theorem eachRes_c {xs : List RowR} {n b off cap L : Nat} {w : World} (hn : xs.length = n) (h1 : n ≤ 160) (hcap : n ≤ cap) (hmx : cap ≤ maxLen) (hc : ∀ i x, xs[i]? = some x → RowAt w b (off + i * 3) x) (hL : w.cell? ⟨L, 0, none⟩ = some (.slice (some ⟨b, off, none⟩) n cap)) :
    Calls Tryz.prog 39 #[.slice (some ⟨b, off, none⟩) n cap, .func (.func 40) #[] #[.pointer (some ⟨L, 0, none⟩)]] w fun e w' => e = .returned (.int .i64 (rowsG xs n 0)) ∧ Gr w w' := by
  have H := Lib.hid (findRes_c hn h1 hcap hmx hc hL)
  clear hc hL hn
  go_enter Tryz.func39, Tryz.ntmps39
  go_wp2_with (refine H.out.mono ?_; rintro e w4 ⟨⟨i, rfl⟩, hg⟩)
  go_ret
  exact ⟨rfl, hg⟩
theorem checkRes_many (p : Option Addr) (n cap : Nat) (hn : 160 < n) (w : World) :
    Calls Tryz.prog 8 #[.slice p n cap] w fun e w' => e = .returned (.int .i64 5) ∧ Gr w w' := by
  have h2 : decide ((160 : Int) < n) = true := decide_eq_true (by omega)
  go_enter Tryz.func8, Tryz.ntmps8
  go_wp2_with fail
  go_ret
  exact ⟨rfl, (Gr.refl w).alloc _⟩
theorem checkRes_c {xs : List RowR} {p : Option Addr} {n cap : Nat} {w : World} (h : RowsV w (.slice p n cap) xs) :
    Calls Tryz.prog 8 #[.slice p n cap] w fun e w' => e = .returned (.int .i64 (listG xs)) ∧ Gr w w' := by
  obtain ⟨hn, hcap, hh⟩ := h.at
  unfold listG
  by_cases h1 : 160 < n
  · rw [if_pos (by omega)]; exact checkRes_many p n cap h1 w
  rw [if_neg (by omega), hn]
  by_cases h0 : 0 < n
  · obtain ⟨b, off, rfl, hc⟩ := hh h0
    have HE := Lib.hid (fun L W (g : Gr w W) hL => eachRes_c (L := L) (w := W) hn (by omega) hcap.1 hcap.2 (fun i x hx => (hc i x hx).gr g) hL)
    obtain ⟨W, hW, g, a0⟩ := box1 w (.slice (some ⟨b, off, none⟩) n cap) 22
    have HW := Lib.hid hW
    have hz2 : decide ((160 : Int) < n) = false := decide_eq_false (by omega)
    generalize rowsG xs n 0 = R at *
    clear hW hc hn hh h
    go_enter Tryz.func8, Tryz.ntmps8
    go_wp2_with fail
    rw [HW.out]
    generalize w.heap.size = B at *
    clear HW
    refine (HE.out B W g a0).mono ?_
    rintro e w4 ⟨rfl, hg⟩
    go_wp2_with fail
    go_ret
    exact ⟨rfl, g.trans hg⟩
  · obtain rfl : n = 0 := by omega
    exact checkRes_0 p cap w
theorem quota_c {xs : List RowR} {p : Option Addr} {n cap : Nat} {w : World} (h : RowsV w (.slice p n cap) xs) (m : Int) :
    Calls Tryz.prog 47 #[.slice p n cap, .int .i64 m] w fun e w' => e = .returned (.int .i64 (firstE [listG xs, outE m 0 160])) ∧ Gr w w' := by
  have HC := Lib.hid (checkRes_c h)
  have HRg := Lib.hid (fun W => range_c m 0 160 W)
  generalize listG xs = E1 at *
  generalize outE m 0 160 = E2 at *
  have HF := Lib.hid (fun b cap W => first_pair E1 E2 b cap W)
  obtain ⟨F, hF⟩ : ∃ z, firstE [E1, E2] = z := ⟨_, rfl⟩
  have HFz := Lib.hid hF
  rw [hF]
  clear h hF
  go_enter Tryz.func47, Tryz.ntmps47
  go_wp2_with fail
  refine HC.out.mono ?_
  rintro e w0 ⟨rfl, g0⟩
  go_wp2_with fail
  refine (HRg.out _).mono ?_
  rintro e w0' ⟨rfl, rfl⟩
  go_wp2_with fail
  refine (HF.out _ _ _ (by exact cell_new _ #[_, _] _ 0 (by simp)) (by exact cell_new _ #[_, _] _ 1 (by simp))).mono ?_
  rintro e w0'' ⟨rfl, rfl⟩
  rw [HFz.out]
  go_wp2_with fail
  go_ret
  exact ⟨rfl, g0.alloc _⟩
/-- Forward with an error -/
theorem forwardS_bad {xs : List RowR} {p : Option Addr} {n c : Nat} {w : World} (m : Int) (hx : RowsV w (.slice p n c) xs) {E : Int} (hE : firstE [listG xs, outE m 0 160] = E) (hE0 : E ≠ 0) :
    Calls Tryz.prog 9 #[.slice p n c, .int .i64 m] w fun e w' => e = .returned (.tuple #[.slice none 0 0, .int .i64 E]) ∧ Gr w w' := by
  have HQ := Lib.hid (quota_c hx m)
  rw [hE] at HQ
  have hE2 : (E != 0) = true := bne_iff_ne.2 hE0
  clear hx hE hE0
  go_enter Tryz.func9, Tryz.ntmps9
  go_wp2_with fail
  refine HQ.out.mono ?_
  rintro e w1 ⟨rfl, g1⟩
  go_wp2_with fail
  exact bodyPost_ret (v := .tuple #[.slice none 0 0, .int .i64 E]) (by simp [results, Tryz.results9, go_sem]) rfl ⟨rfl, g1⟩
end Go.Proofs.YtenhodepaoaiiaaGreatDoor
namespace Go.Proofs.YtenhodepaoaiiaaGreatDoor
open Go.RowKit Go.Lib
set_option linter.unusedSimpArgs false
set_option linter.unusedVariables false
set_option maxHeartbeats 2000000
set_option maxRecDepth 100000
/-- the error of a name of those who are out -/
def nameG (xs : List RowR) (ns : List ByteArray) (j : Nat) (s : ByteArray) : Int := if dupR xs xs.length s = true then (if hasS (ns.take j) s = true then 9 else 0) else 10
def namesG (xs : List RowR) (ns : List ByteArray) : Nat → Nat → Int
  | 0, _ => 0
  | k + 1, i => match ns[i]? with
    | some s => if nameG xs ns i s = 0 then namesG xs ns k (i + 1) else nameG xs ns i s
    | none => 0
theorem namesG_step {xs : List RowR} {ns : List ByteArray} {n i : Nat} {s : ByteArray} (hi : i < n) (h : ns[i]? = some s) : namesG xs ns (n - i) i = if nameG xs ns i s = 0 then namesG xs ns (n - (i + 1)) (i + 1) else nameG xs ns i s := by
  obtain ⟨k, hk⟩ : ∃ k, n - i = k + 1 := ⟨n - i - 1, by omega⟩
  have hk2 : n - (i + 1) = k := by omega
  rw [hk, hk2]
  simp only [namesG, h]
/-- the error of those who are out -/
def outG (xs : List RowR) (ns : List ByteArray) : Int := if 160 < ns.length then 5 else namesG xs ns ns.length 0
theorem nameG_zero {xs : List RowR} {ns : List ByteArray} {j : Nat} {s : ByteArray} : nameG xs ns j s = 0 ↔ dupR xs xs.length s = true ∧ hasS (ns.take j) s = false := by
  unfold nameG
  cases dupR xs xs.length s <;> cases hasS (ns.take j) s <;> simp
theorem namesG_at {xs : List RowR} {ns : List ByteArray} : ∀ (k i : Nat), namesG xs ns k i = 0 → ∀ (j : Nat) (s : ByteArray), i ≤ j → j < i + k → ns[j]? = some s → nameG xs ns j s = 0
  | 0, i, _, j, s, h1, h2, _ => by omega
  | k + 1, i, h, j, s, h1, h2, hs => by
    simp only [namesG] at h
    cases hi : ns[i]? with
    | none =>
      have a := List.getElem?_eq_none_iff.1 hi
      have b := (List.getElem?_eq_some_iff.1 hs).1
      omega
    | some t =>
      rw [hi] at h
      simp only at h
      by_cases h0 : nameG xs ns i t = 0
      · rw [if_pos h0] at h
        by_cases hji : j = i
        · subst hji; rw [hi] at hs; cases hs; exact h0
        · exact namesG_at k (i + 1) h j s (by omega) (by omega) hs
      · rw [if_neg h0] at h; exact absurd h h0
theorem outG_ok {xs : List RowR} {ns : List ByteArray} (h : outG xs ns = 0) : OutOK xs ns ∧ ns.length ≤ 160 := by
  unfold outG at h
  by_cases h1 : 160 < ns.length
  · rw [if_pos h1] at h; omega
  · rw [if_neg h1] at h
    have hz := fun j s (hs : ns[j]? = some s) => nameG_zero.1 (namesG_at _ _ h j s (Nat.zero_le _) (by have := (List.getElem?_eq_some_iff.1 hs).1; omega) hs)
    refine ⟨⟨fun s hs => ?_, fun j s hs => (hz j s hs).2⟩, by omega⟩
    obtain ⟨j, hj⟩ := List.mem_iff_getElem?.1 hs
    exact (hz j s hj).1
theorem containsF_0 (p : Option Addr) (cap : Nat) (f : Value) (w : World) :
    Calls Tryz.prog 85 #[.slice p 0 cap, f] w fun e w' => e = .returned (.bool false) ∧ w = w' := by
  have H := Lib.hid (indexF_0 p cap f w)
  go_enter Tryz.func85, Tryz.ntmps85
  go_wp2_with (refine H.out.mono ?_; rintro e w4 ⟨rfl, rfl⟩)
  go_ret
  exact ⟨rfl, rfl⟩
theorem hasResult_0 (p : Option Addr) (cap : Nat) (nm : ByteArray) (w : World) :
    Calls Tryz.prog 44 #[.slice p 0 cap, .string nm] w fun e w' => e = .returned (.bool false) ∧ Gr w w' := by
  have H := Lib.hid (fun f W => containsF_0 p cap f W)
  go_enter Tryz.func44, Tryz.ntmps44
  go_wp2_with (refine (H.out _ _).mono ?_; rintro e w4 ⟨rfl, rfl⟩)
  go_ret
  exact ⟨rfl, (Gr.refl w).alloc _⟩
theorem hasResult_c {xs : List RowR} {p : Option Addr} {n c : Nat} {w : World} (h : RowsV w (.slice p n c) xs) (h1 : n ≤ 1000) (nm : ByteArray) :
    Calls Tryz.prog 44 #[.slice p n c, .string nm] w fun e w' => e = .returned (.bool (dupR xs xs.length nm)) ∧ Gr w w' := by
  obtain ⟨hn, _, hh⟩ := h.at
  by_cases h0 : 0 < n
  · obtain ⟨b, off, rfl, hc⟩ := hh h0
    rw [hn]
    exact hasResult_pos xs n b off c nm w (by omega) h1 hc
  · obtain rfl : n = 0 := by omega
    rw [List.length_eq_zero_iff.1 hn]
    exact hasResult_0 p c nm w
theorem twiceS_c (ns : List ByteArray) (n b off cap j : Nat) (s : ByteArray) (w : World) (hn : ns.length = n) (h1 : n ≤ 160) (hcap : n ≤ cap) (hmx : cap ≤ maxLen) (hs : ns[j]? = some s) (hc : ∀ i t, ns[i]? = some t → w.cell? ⟨b, off + i, none⟩ = some (.string t)) :
    Calls Tryz.prog 95 #[.slice (some ⟨b, off, none⟩) n cap, .int .i64 j] w fun e w' => e = .returned (.int .i64 (if hasS (ns.take j) s = true then 9 else 0)) ∧ Gr w w' := by
  have hjn := (List.getElem?_eq_some_iff.1 hs).1
  have HC := Lib.hid (fun (W : World) (g : Gr w W) => containsS_pos ns j b off cap s W (by omega) (by omega) (fun i t ht => g.cell (hc i t ht)))
  generalize hasS (ns.take j) s = tB at *
  have H9 := Lib.hid (fun (W : World) => if_c tB 9 W)
  generalize (if tB = true then (9 : Int) else 0) = e9 at *
  have hs0 := hc j s hs
  have hj1 : (j : Int) ≤ cap := by omega
  have hj0 : (0 : Int) ≤ j := by omega
  have hj2 : (j : Int) < n := by omega
  clear hc hs hn
  go_enter Tryz.func95, Tryz.ntmps95
  go_wp2_with fail
  have g := (Gr.refl w).drew
  have c0 := g.cell hs0
  refine wp_region_held_drew (S := (fun w' => w'.cell? ⟨b, off + j, none⟩ = some (.string s))) (by kernel_rfl) c0 (fun hHeld => ?_)
  generalize w.drew = V at *
  refine wpAnyH_take (i := 0) (v := (.slice (some ⟨b, off, none⟩) n cap)) (op_at rfl) (by kernel_rfl) (by kernel_rfl) (by kernel_rfl) (fun _ _ _ h => h) (Or.inl ⟨rfl, fun w hSw => ?_⟩) (by assumption) ?_
  · (try dsimp only at hSw); go_simp; try with_reducible rfl
  (try simp only [Act.put, List.setIfInBounds_toArray, List.set_cons_zero, List.set_cons_succ])
  refine wpAnyH_take (i := 1) (v := (.int .i64 j)) (op_at rfl) (by kernel_rfl) (by kernel_rfl) (by kernel_rfl) (fun _ _ _ h => h) (Or.inl ⟨rfl, fun w hSw => ?_⟩) (by assumption) ?_
  · (try dsimp only at hSw); go_simp; try with_reducible rfl
  (try simp only [Act.put, List.setIfInBounds_toArray, List.set_cons_zero, List.set_cons_succ])
  refine wpAnyH_take (i := 2) (v := (.slice (some ⟨b, off, none⟩) j cap)) (op_at rfl) (by kernel_rfl) (by kernel_rfl) (by kernel_rfl) (fun _ _ _ h => h) (Or.inl ⟨rfl, fun w hSw => ?_⟩) (by assumption) ?_
  · (try dsimp only at hSw); go_simp; try with_reducible rfl
  (try simp only [Act.put, List.setIfInBounds_toArray, List.set_cons_zero, List.set_cons_succ])
  refine wpAnyH_take (i := 3) (v := (.slice (some ⟨b, off, none⟩) n cap)) (op_at rfl) (by kernel_rfl) (by kernel_rfl) (by kernel_rfl) (fun _ _ _ h => h) (Or.inl ⟨rfl, fun w hSw => ?_⟩) (by assumption) ?_
  · (try dsimp only at hSw); go_simp; try with_reducible rfl
  (try simp only [Act.put, List.setIfInBounds_toArray, List.set_cons_zero, List.set_cons_succ])
  refine wpAnyH_take (i := 4) (v := (.int .i64 j)) (op_at rfl) (by kernel_rfl) (by kernel_rfl) (by kernel_rfl) (fun _ _ _ h => h) (Or.inl ⟨rfl, fun w hSw => ?_⟩) (by assumption) ?_
  · (try dsimp only at hSw); go_simp; try with_reducible rfl
  (try simp only [Act.put, List.setIfInBounds_toArray, List.set_cons_zero, List.set_cons_succ])
  refine wpAnyH_take (i := 5) (v := (.pointer (some ⟨b, off + j, none⟩))) (op_at rfl) (by kernel_rfl) (by kernel_rfl) (by kernel_rfl) (fun _ _ _ h => h) (Or.inl ⟨rfl, fun w hSw => ?_⟩) (by assumption) ?_
  · (try dsimp only at hSw); go_simp; try with_reducible rfl
  (try simp only [Act.put, List.setIfInBounds_toArray, List.set_cons_zero, List.set_cons_succ])
  refine wpAnyH_take (i := 6) (v := (.string s)) (op_at rfl) (by kernel_rfl) (by kernel_rfl) (by kernel_rfl) (fun _ _ _ h => h) (Or.inl ⟨rfl, fun w hSw => ?_⟩) (by assumption) ?_
  · (try dsimp only at hSw); go_simp; try with_reducible rfl
  (try simp only [Act.put, List.setIfInBounds_toArray, List.set_cons_zero, List.set_cons_succ])
  refine wpAnyH_ready (rs := [7]) (by kernel_rfl) (by simp) (AllReadyH.cons (op_at rfl) (fun K hK => ?_) AllReadyH.nil)
  go_simp
  (refine (HC.out _ g).mono ?_; rintro e w' ⟨rfl, rfl⟩)
  go_wp2_with fail
  refine hK.out _ _ c0 (fun hHeld => ?_)
  clear hK K
  (try simp only [Act.put, List.setIfInBounds_toArray, List.set_cons_zero, List.set_cons_succ])
  refine wpAnyH_ready (rs := [8]) (by kernel_rfl) (by simp) (AllReadyH.cons (op_at rfl) (fun K hK => ?_) AllReadyH.nil)
  go_simp
  (refine (H9.out _).mono ?_; rintro e w' ⟨rfl, rfl⟩)
  go_wp2_with fail
  refine hK.out _ _ c0 (fun hHeld => ?_)
  clear hK K
  (try simp only [Act.put, List.setIfInBounds_toArray, List.set_cons_zero, List.set_cons_succ])
  refine wpAnyH_take (i := 9) (v := (.int .i64 e9)) (op_at rfl) (by kernel_rfl) (by kernel_rfl) (by kernel_rfl) (fun _ _ _ h => h) (Or.inl ⟨rfl, fun w hSw => ?_⟩) (by assumption) ?_
  · (try dsimp only at hSw); go_simp; try with_reducible rfl
  (try simp only [Act.put, List.setIfInBounds_toArray, List.set_cons_zero, List.set_cons_succ])
  refine wpAnyH_done (by kernel_rfl) ?_ _
  go_wp2_with fail
  go_ret
  exact ⟨rfl, g⟩
theorem oneOut_c {xs : List RowR} {ns : List ByteArray} {p1 : Option Addr} {n1 cap1 n b off cap j L1 L2 : Nat} {s : ByteArray} {w : World} (hx : RowsV w (.slice p1 n1 cap1) xs) (h11 : n1 ≤ 200) (hn : ns.length = n) (h1 : n ≤ 160) (hcap : n ≤ cap) (hmx : cap ≤ maxLen) (hs : ns[j]? = some s) (hc : ∀ i t, ns[i]? = some t → w.cell? ⟨b, off + i, none⟩ = some (.string t)) (hL1 : w.cell? ⟨L1, 0, none⟩ = some (.slice p1 n1 cap1)) (hL2 : w.cell? ⟨L2, 0, none⟩ = some (.slice (some ⟨b, off, none⟩) n cap)) :
    Calls Tryz.prog 94 #[.int .i64 j, .string s, .pointer (some ⟨L1, 0, none⟩), .pointer (some ⟨L2, 0, none⟩)] w fun e w' => e = .returned (.int .i64 (nameG xs ns j s)) ∧ Gr w w' := by
  have HD := Lib.hid (fun (W : World) (g : Gr w W) => hasResult_c (hx.gr g) (by omega) s)
  have HT := Lib.hid (fun (W : World) (g : Gr w W) => twiceS_c ns n b off cap j s W hn h1 hcap hmx hs (fun i t ht => g.cell (hc i t ht)))
  have hrow : nameG xs ns j s = firstE [if (!dupR xs xs.length s) = true then 10 else 0, if hasS (ns.take j) s = true then 9 else 0] := by
    unfold nameG
    cases dupR xs xs.length s <;> cases hasS (ns.take j) s <;> simp [firstE]
  rw [hrow]
  clear hrow
  generalize dupR xs xs.length s = hB at *
  generalize (if hasS (ns.take j) s = true then (9 : Int) else 0) = e9 at *
  have H10 := Lib.hid (fun (W : World) => if_c (!hB) 10 W)
  generalize (if (!hB) = true then (10 : Int) else 0) = e10 at *
  have HF := Lib.hid (fun b cap W => first_pair e10 e9 b cap W)
  obtain ⟨FF, hFF⟩ : ∃ z, firstE [e10, e9] = z := ⟨_, rfl⟩
  have HFz := Lib.hid hFF
  rw [hFF]
  clear hx hc hs hFF
  go_enter Tryz.func94, Tryz.ntmps94
  go_wp2_with fail
  have g := (Gr.refl w).drew
  have l1 := g.cell hL1
  have l2 := g.cell hL2
  refine wp_region_held_drew (S := (fun w' => w'.cell? ⟨L1, 0, none⟩ = some (.slice p1 n1 cap1) ∧ w'.cell? ⟨L2, 0, none⟩ = some (.slice (some ⟨b, off, none⟩) n cap))) (by kernel_rfl) ⟨l1, l2⟩ (fun hHeld => ?_)
  generalize w.drew = V at *
  refine wpAnyH_take (i := 0) (v := (.slice p1 n1 cap1)) (op_at rfl) (by kernel_rfl) (by kernel_rfl) (by kernel_rfl) (fun _ _ _ h => h) (Or.inl ⟨rfl, fun w hSw => ?_⟩) (by assumption) ?_
  · (try dsimp only at hSw); go_simp; try with_reducible rfl
  (try simp only [Act.put, List.setIfInBounds_toArray, List.set_cons_zero, List.set_cons_succ])
  refine wpAnyH_take (i := 1) (v := (.string s)) (op_at rfl) (by kernel_rfl) (by kernel_rfl) (by kernel_rfl) (fun _ _ _ h => h) (Or.inl ⟨rfl, fun w hSw => ?_⟩) (by assumption) ?_
  · (try dsimp only at hSw); go_simp; try with_reducible rfl
  (try simp only [Act.put, List.setIfInBounds_toArray, List.set_cons_zero, List.set_cons_succ])
  refine wpAnyH_take (i := 5) (v := (.slice (some ⟨b, off, none⟩) n cap)) (op_at rfl) (by kernel_rfl) (by kernel_rfl) (by kernel_rfl) (fun _ _ _ h => h) (Or.inl ⟨rfl, fun w hSw => ?_⟩) (by assumption) ?_
  · (try dsimp only at hSw); go_simp; try with_reducible rfl
  (try simp only [Act.put, List.setIfInBounds_toArray, List.set_cons_zero, List.set_cons_succ])
  refine wpAnyH_take (i := 6) (v := (.int .i64 j)) (op_at rfl) (by kernel_rfl) (by kernel_rfl) (by kernel_rfl) (fun _ _ _ h => h) (Or.inl ⟨rfl, fun w hSw => ?_⟩) (by assumption) ?_
  · (try dsimp only at hSw); go_simp; try with_reducible rfl
  (try simp only [Act.put, List.setIfInBounds_toArray, List.set_cons_zero, List.set_cons_succ])
  refine wpAnyH_ready (rs := [2]) (by kernel_rfl) (by simp) (AllReadyH.cons (op_at rfl) (fun K hK => ?_) AllReadyH.nil)
  go_simp
  (refine (HD.out _ g).mono ?_; rintro e W5 ⟨rfl, hg⟩; replace l1 := hg.cell l1; replace l2 := hg.cell l2; replace g := g.trans hg; clear hg)
  go_wp2_with fail
  refine hK.out _ _ ⟨l1, l2⟩ (fun hHeld => ?_)
  clear hK K
  (try simp only [Act.put, List.setIfInBounds_toArray, List.set_cons_zero, List.set_cons_succ])
  refine wpAnyH_take (i := 3) (v := (.bool (!hB))) (op_at rfl) (by kernel_rfl) (by kernel_rfl) (by kernel_rfl) (fun _ _ _ h => h) (Or.inl ⟨rfl, fun w hSw => ?_⟩) (by assumption) ?_
  · (try dsimp only at hSw); go_simp; try with_reducible rfl
  (try simp only [Act.put, List.setIfInBounds_toArray, List.set_cons_zero, List.set_cons_succ])
  refine wpAnyH_ready (rs := [4]) (by kernel_rfl) (by simp) (AllReadyH.cons (op_at rfl) (fun K hK => ?_) AllReadyH.nil)
  go_simp
  (refine (H10.out _).mono ?_; rintro e w' ⟨rfl, rfl⟩)
  go_wp2_with fail
  refine hK.out _ _ ⟨l1, l2⟩ (fun hHeld => ?_)
  clear hK K
  (try simp only [Act.put, List.setIfInBounds_toArray, List.set_cons_zero, List.set_cons_succ])
  refine wpAnyH_ready (rs := [7]) (by kernel_rfl) (by simp) (AllReadyH.cons (op_at rfl) (fun K hK => ?_) AllReadyH.nil)
  go_simp
  (refine (HT.out _ g).mono ?_; rintro e W6 ⟨rfl, hg⟩; replace l1 := hg.cell l1; replace l2 := hg.cell l2; replace g := g.trans hg; clear hg)
  go_wp2_with fail
  refine hK.out _ _ ⟨l1, l2⟩ (fun hHeld => ?_)
  clear hK K
  (try simp only [Act.put, List.setIfInBounds_toArray, List.set_cons_zero, List.set_cons_succ])
  refine wpAnyH_ready (rs := [8]) (by kernel_rfl) (by simp) (AllReadyH.cons (op_at rfl) (fun K hK => ?_) AllReadyH.nil)
  go_simp
  obtain ⟨W3, hW3, g3, s0, s1⟩ := box2 W6 (.int .i64 e10) (.int .i64 e9) 27
  rw [hW3]
  clear hW3
  replace l1 := g3.cell l1
  replace l2 := g3.cell l2
  replace g := g.trans g3
  refine hK.out _ _ ⟨l1, l2⟩ (fun hHeld => ?_)
  clear hK K
  (try simp only [Act.put, List.setIfInBounds_toArray, List.set_cons_zero, List.set_cons_succ])
  refine wpAnyH_ready (rs := [9]) (by kernel_rfl) (by simp) (AllReadyH.cons (op_at rfl) (fun K hK => ?_) AllReadyH.nil)
  go_simp
  (refine (HF.out _ _ W3 s0 s1).mono ?_; rintro e w8 ⟨rfl, rfl⟩; rw [HFz.out])
  go_wp2_with fail
  refine hK.out _ _ ⟨l1, l2⟩ (fun hHeld => ?_)
  clear hK K
  (try simp only [Act.put, List.setIfInBounds_toArray, List.set_cons_zero, List.set_cons_succ])
  refine wpAnyH_take (i := 10) (v := (.int .i64 FF)) (op_at rfl) (by kernel_rfl) (by kernel_rfl) (by kernel_rfl) (fun _ _ _ h => h) (Or.inl ⟨rfl, fun w hSw => ?_⟩) (by assumption) ?_
  · (try dsimp only at hSw); go_simp; try with_reducible rfl
  (try simp only [Act.put, List.setIfInBounds_toArray, List.set_cons_zero, List.set_cons_succ])
  refine wpAnyH_done (by kernel_rfl) ?_ _
  go_wp2_with fail
  go_ret
  exact ⟨rfl, g⟩
end Go.Proofs.YtenhodepaoaiiaaGreatDoor
