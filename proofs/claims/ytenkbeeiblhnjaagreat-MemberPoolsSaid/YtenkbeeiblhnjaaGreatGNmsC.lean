/- Members: names in a list, whole. -/
import Derived.Test.YtenkbeeiblhnjaaGreatNmsA
import Derived.Test.YtenkbeeiblhnjaaGreatGSyA
import Derived.Test.YtenkbeeiblhnjaaGreatTsA
namespace Go.Proofs.YtenkbeeiblhnjaaGreat
open Go.RowKit Go.Lib
set_option linter.unusedSimpArgs false
set_option linter.unusedVariables false
/-- the error of a name in a list -/
def strE (xs : List ByteArray) (i : Nat) (x : ByteArray) : Int := firstE [nmE x, if hasS (xs.take i) x then 9 else 0]
set_option maxHeartbeats 1000000 in
set_option maxRecDepth 100000 in
theorem oneStr_c (xs : List ByteArray) (i b off cap : Nat) (x : ByteArray) (w : World) (hi : i ≤ xs.length) (h1 : xs.length ≤ 1000) (hc : ∀ i x, xs[i]? = some x → StrAt w b (off + i) x) :
    Calls Tryz.prog 99 #[.slice (some ⟨b, off, none⟩) i cap, .string x] w fun e w' => e = .returned (.int .i64 (strE xs i x)) ∧ Gr w w' := by
  have hR : strE xs i x = firstE [nmE x, if hasS (xs.take i) x then 9 else 0] := rfl
  have HH := Lib.hid (fun W (g : Gr w W) => containsS_pos xs i b off cap x W hi (by omega) (fun j y hy => ((hc j y hy).gr g).nm))
  generalize hasS (xs.take i) x = dd at *
  obtain ⟨e1, h1', H1⟩ := name_e x
  obtain ⟨e2, h2', H2⟩ := if_e dd 9
  rw [← h1', ← h2'] at hR
  have hF := first_pair e1 e2
  rw [← hR] at hF
  generalize strE xs i x = err at *
  replace H1 := Lib.hid H1
  replace H2 := Lib.hid H2
  have HF := Lib.hid hF
  clear hF hR h1' h2' hc
  go_enter Tryz.func99, Tryz.ntmps99
  go_wp2_with fail
  refine (H1.out _).mono ?_
  rintro e W1 ⟨rfl, hg⟩
  go_wp2_with fail
  refine (HH.out _ hg).mono ?_
  rintro e W2 ⟨rfl, rfl⟩
  go_wp2_with fail
  refine (H2.out _).mono ?_
  rintro e W2 ⟨rfl, rfl⟩
  go_wp2_with fail
  obtain ⟨WW, hWW, gW, s0, s1⟩ := box2 W1 (.int .i64 e1) (.int .i64 e2) 32
  rw [hWW]
  refine (HF.out _ _ WW s0 s1).mono ?_
  rintro e W8 ⟨rfl, rfl⟩
  go_wp2_with fail
  go_ret
  exact ⟨rfl, hg.trans gW⟩
theorem checkNms_c (xs : List ByteArray) (m : Nat) (v : Value) (w : World) (hm : m ≤ 1000) (hv : StrAts w v xs) :
    Calls Tryz.prog 55 #[v, .int .i64 m] w fun e w' => e = .returned (.int .i64 (listE m (strE xs) xs)) ∧ Gr w w' := by
  have HL := Lib.hid (listStr_c (strE xs) xs m v w hm hv (fun p b off cap hp hl i x W hi hx hg => by
    obtain ⟨⟨p', cap', h1, h2, h3⟩⟩ := hv
    obtain ⟨b', off', h4, h5⟩ := h3 (by omega)
    rw [hp] at h1
    subst h4
    simp only [Value.slice.injEq, Option.some.injEq, Addr.mk.injEq, and_true] at h1
    obtain ⟨⟨rfl, rfl⟩, _, _⟩ := h1
    exact oneStr_c xs i b off cap x W (by omega) (by omega) (fun j y hy => (h5 j y hy).gr hg)))
  generalize listE m (strE xs) xs = z at *
  obtain ⟨p, n, cap, rfl⟩ : ∃ p n cap, v = .slice p n cap := by
    obtain ⟨⟨p, cap, rfl, _⟩⟩ := hv
    exact ⟨p, _, cap, rfl⟩
  clear hv
  go_enter Tryz.func55, Tryz.ntmps55
  go_wp2_with fail
  refine HL.out.mono ?_
  rintro e w4 ⟨rfl, hg⟩
  go_wp2_with fail
  go_ret
  exact ⟨rfl, hg⟩
theorem strE_eq (xs : List ByteArray) (i : Nat) (x : ByteArray) : strE xs i x = if (!decide (Nm x)) = true then 8 else if hasS (xs.take i) x = true then 9 else 0 := by
  unfold strE nmE
  by_cases q0 : Nm x <;> cases hasS (xs.take i) x <;> simp [firstE, q0]
set_option maxHeartbeats 1000000 in
set_option maxRecDepth 100000 in
theorem refNms_pos (xs : List ByteArray) (n b off cap : Nat) (w : World) (hn : xs.length = n) (h1 : n ≤ 1000) (hcap : n ≤ cap) (hc : ∀ i x, xs[i]? = some x → StrAt w b (off + i) x) :
    Calls Tryz.prog 54 #[.slice (some ⟨b, off, none⟩) n cap] w fun e w' => e = .returned (.int .i64 (errG (strE xs) xs n 0)) ∧ Gr w w' := by
  have HC := Lib.hid hc
  have HN := Lib.hid hn
  clear hc hn
  go_enter Tryz.func54, Tryz.ntmps54
  go_wp2_with fail
  go_loopg [3] n (fun gk s3 wr => ∃ i : Nat, s3 = .int .i64 i ∧ gk + i = n ∧ Gr w wr ∧ Hid (errG (strE xs) xs (n - i) i = errG (strE xs) xs n 0))
  case atStart => exact ⟨0, rfl, by omega, Gr.refl _, by simp [Hid]⟩
  case round =>
    obtain ⟨i, rfl, hi, hg, HF⟩ := hrel
    by_cases hlt : i < n
    · obtain ⟨x, hx⟩ : ∃ x, xs[i]? = some x := ⟨xs[i]'(by have := HN.out; omega), List.getElem?_eq_getElem _⟩
      obtain ⟨c0⟩ := (HC.out i x hx).gr hg
      have hf := errG_step (E := strE xs) hlt hx
      rw [strE_eq] at hf
      have hi2 : (i : Int) < n := by omega
      have hi3 : (i : Int) ≤ cap := by omega
      have hi4 : (0 : Int) ≤ i := by omega
      have hN0 := fun W => refIsName_c x W
      have HO := Lib.hid (fun W (g : Gr wr W) => hasWordT_c xs (some ⟨b, off, none⟩) i cap x W (by have := HN.out; omega) (by omega) (fun _ => ⟨b, off, rfl, fun j y hy => ((HC.out j y hy).gr (hg.trans g)).nm⟩))
      clear hx
      generalize decide (Nm x) = n0 at hf hN0
      generalize hasS (xs.take i) x = dd at hf HO
      replace hN0 := Lib.hid hN0
      have HF0 := Lib.hid hf
      clear hf
      cases n0
      · have HF1 := HF0.out
        simp only [Bool.not_true, Bool.not_false, if_true, show ¬ (8 : Int) = 0 by decide, if_false] at HF1
        have HF2 := Lib.hid HF1
        clear HF1 HF0
        go_wp2_with fail
        refine (hN0.out _).mono ?_
        rintro e w4 ⟨rfl, rfl⟩
        go_wp2_with fail
        go_ret
        exact ⟨by rw [← HF.out, HF2.out]; rfl, hg⟩
      have HF1 := HF0.out
      simp only [Bool.not_true, Bool.false_eq_true, if_false] at HF1
      have HF2 := Lib.hid HF1
      clear HF1 HF0
      go_wp2_with fail
      refine (hN0.out _).mono ?_
      rintro e w4 ⟨rfl, rfl⟩
      go_wp2_with fail
      have g9 := (Gr.refl wr).drew
      replace c0 := g9.cell c0
      have hg9 := hg.trans g9
      refine wp_region_held_drew (S := (fun w' => w'.cell? ⟨b, off + i, none⟩ = some (.string x))) (by kernel_rfl) c0 (fun hHeld => ?_)
      generalize wr.drew = V at *
      refine wpAnyH_take (i := 0) (v := (.slice (some ⟨b, off, none⟩) n cap)) (op_at rfl) (by kernel_rfl) (by kernel_rfl) (by kernel_rfl) (fun _ _ _ h => h) (Or.inl ⟨rfl, fun w hSw => ?_⟩) (by assumption) ?_
      · (try dsimp only at hSw); go_simp; try with_reducible rfl
      (try simp only [Act.put, List.setIfInBounds_toArray, List.set_cons_zero, List.set_cons_succ])
      refine wpAnyH_take (i := 1) (v := (.int .i64 i)) (op_at rfl) (by kernel_rfl) (by kernel_rfl) (by kernel_rfl) (fun _ _ _ h => h) (Or.inl ⟨rfl, fun w hSw => ?_⟩) (by assumption) ?_
      · (try dsimp only at hSw); go_simp; try with_reducible rfl
      (try simp only [Act.put, List.setIfInBounds_toArray, List.set_cons_zero, List.set_cons_succ])
      refine wpAnyH_take (i := 2) (v := (.slice (some ⟨b, off, none⟩) i cap)) (op_at rfl) (by kernel_rfl) (by kernel_rfl) (by kernel_rfl) (fun _ _ _ h => h) (Or.inl ⟨rfl, fun w hSw => ?_⟩) (by assumption) ?_
      · (try dsimp only at hSw); go_simp; try with_reducible rfl
      (try simp only [Act.put, List.setIfInBounds_toArray, List.set_cons_zero, List.set_cons_succ])
      refine wpAnyH_take (i := 3) (v := (.slice (some ⟨b, off, none⟩) n cap)) (op_at rfl) (by kernel_rfl) (by kernel_rfl) (by kernel_rfl) (fun _ _ _ h => h) (Or.inl ⟨rfl, fun w hSw => ?_⟩) (by assumption) ?_
      · (try dsimp only at hSw); go_simp; try with_reducible rfl
      (try simp only [Act.put, List.setIfInBounds_toArray, List.set_cons_zero, List.set_cons_succ])
      refine wpAnyH_take (i := 4) (v := (.int .i64 i)) (op_at rfl) (by kernel_rfl) (by kernel_rfl) (by kernel_rfl) (fun _ _ _ h => h) (Or.inl ⟨rfl, fun w hSw => ?_⟩) (by assumption) ?_
      · (try dsimp only at hSw); go_simp; try with_reducible rfl
      (try simp only [Act.put, List.setIfInBounds_toArray, List.set_cons_zero, List.set_cons_succ])
      refine wpAnyH_take (i := 5) (v := (.pointer (some ⟨b, off + i, none⟩))) (op_at rfl) (by kernel_rfl) (by kernel_rfl) (by kernel_rfl) (fun _ _ _ h => h) (Or.inl ⟨rfl, fun w hSw => ?_⟩) (by assumption) ?_
      · (try dsimp only at hSw); go_simp; try with_reducible rfl
      (try simp only [Act.put, List.setIfInBounds_toArray, List.set_cons_zero, List.set_cons_succ])
      refine wpAnyH_take (i := 6) (v := (.string x)) (op_at rfl) (by kernel_rfl) (by kernel_rfl) (by kernel_rfl) (fun _ _ _ h => h) (Or.inl ⟨rfl, fun w hSw => ?_⟩) (by assumption) ?_
      · (try dsimp only at hSw); go_simp; try with_reducible rfl
      (try simp only [Act.put, List.setIfInBounds_toArray, List.set_cons_zero, List.set_cons_succ])
      refine wpAnyH_ready (rs := [7]) (by kernel_rfl) (by simp) (AllReadyH.cons (op_at rfl) (fun K hK => ?_) AllReadyH.nil)
      go_simp
      (refine (HO.out _ g9).mono ?_; rintro e w' ⟨rfl, rfl⟩)
      go_wp2_with fail
      refine hK.out _ _ c0 (fun hHeld => ?_)
      clear hK K
      (try simp only [Act.put, List.setIfInBounds_toArray, List.set_cons_zero, List.set_cons_succ])
      refine wpAnyH_done (by kernel_rfl) ?_ _
      cases dd
      · have HF3 := HF2.out
        simp only [Bool.false_eq_true, if_false, if_true] at HF3
        have HF4 := Lib.hid HF3
        clear HF3 HF2
        go_wp2_with fail
        go_roundg (gk - 1)
        case measure => omega
        case rel => exact ⟨i + 1, by go_num, by omega, hg9, by unfold Hid; rw [← HF4.out, HF.out]⟩
      · have HF3 := HF2.out
        simp only [if_true, show ¬ (9 : Int) = 0 by decide, if_false] at HF3
        have HF4 := Lib.hid HF3
        clear HF3 HF2
        go_wp2_with fail
        go_ret
        exact ⟨by rw [← HF.out, HF4.out]; rfl, hg9⟩
    · have hin : i = n := by omega
      have HE2 : Hid (errG (strE xs) xs (n - i) i = 0) := by unfold Hid; rw [hin, Nat.sub_self]; rfl
      have hi2 : (n : Int) ≤ i := by omega
      clear hin
      go_wp2_with fail
      go_ret
      exact ⟨by rw [← HF.out, HE2.out]; rfl, hg⟩
end Go.Proofs.YtenkbeeiblhnjaaGreat
namespace Go.Proofs.YtenkbeeiblhnjaaGreat
open Go.RowKit Go.Lib
set_option linter.unusedSimpArgs false
set_option linter.unusedVariables false
/-- the last day of a test that Q has, or what was before -/
def lastZ (Q : TstR → Bool) : List TstR → Int → Int
  | [], m => m
  | x :: r, m => lastZ Q r (if Q x then max m x.dy else m)
def lastQ (nm : ByteArray) (a b : Int) (x : TstR) : Bool := (x.nm.toList == nm.toList) && (decide (a ≤ x.dy) && decide (x.dy ≤ b))
def lastT (xs : List TstR) (nm : ByteArray) (a b : Int) : Int := lastZ (lastQ nm a b) xs (-1)
theorem lastZ_add (Q : TstR → Bool) (x : TstR) : ∀ (l : List TstR) (m : Int), lastZ Q (l ++ [x]) m = if Q x then max (lastZ Q l m) x.dy else lastZ Q l m
  | [], m => rfl
  | y :: l, m => by simp only [List.cons_append, lastZ]; exact lastZ_add Q x l _
theorem lastZ_take (Q : TstR → Bool) {xs : List TstR} {i : Nat} {x : TstR} (h : xs[i]? = some x) (m : Int) : lastZ Q (xs.take (i + 1)) m = if Q x then max (lastZ Q (xs.take i) m) x.dy else lastZ Q (xs.take i) m := by
  rw [List.take_add_one, h]
  exact lastZ_add Q x _ m
set_option maxHeartbeats 1000000 in
set_option maxRecDepth 100000 in
theorem refLast_c {v : Value} {xs : List TstR} {w : World} (nm : ByteArray) (a c : Int) (h : TstAts w v xs) (h1 : xs.length ≤ 1000) :
    Calls Tryz.prog 64 #[v, .string nm, .int .i64 a, .int .i64 c] w fun e w' => e = .returned (.int .i64 (lastT xs nm a c)) ∧ w = w' := by
  obtain ⟨⟨p, cap, rfl, _, hh⟩⟩ := h
  obtain ⟨n, hn⟩ : ∃ n, n = xs.length := ⟨_, rfl⟩
  rw [← hn] at h1 hh ⊢
  have HN := Lib.hid hn
  have HH := Lib.hid hh
  have HT : Hid (lastZ (lastQ nm a c) (xs.take n) (-1) = lastT xs nm a c) := by unfold Hid lastT; rw [hn, List.take_length]
  clear hn hh
  go_enter Tryz.func64, Tryz.ntmps64
  go_wp2_with fail
  go_loopg [9, 10] n (fun gk s9 s10 wr => ∃ i : Nat, s10 = .int .i64 i ∧ gk + i = n ∧ s9 = .int .i64 (lastZ (lastQ nm a c) (xs.take i) (-1)) ∧ wr = w)
  case atStart => exact ⟨0, rfl, by omega, rfl, rfl⟩
  case round =>
    obtain ⟨i, rfl, hi, rfl, rfl⟩ := hrel
    by_cases hlt : i < n
    · obtain ⟨x, hx⟩ : ∃ x, xs[i]? = some x := ⟨xs[i]'(by have := HN.out; omega), List.getElem?_eq_getElem _⟩
      obtain ⟨b, off, rfl, hc⟩ := HH.out (by omega)
      obtain ⟨c0, c1⟩ := hc i x hx
      have hst := lastZ_take (lastQ nm a c) hx (-1)
      have hi2 : (i : Int) < n := by omega
      generalize lastZ (lastQ nm a c) (xs.take i) (-1) = cu at *
      rw [show lastQ nm a c x = ((x.nm.toList == nm.toList) && (decide (a ≤ x.dy) && decide (x.dy ≤ c))) from rfl] at hst
      clear hx hc
      cases e0 : (x.nm.toList == nm.toList) <;> cases e1 : decide (a ≤ x.dy) <;> cases e2 : decide (x.dy ≤ c) <;> rcases Decidable.em (x.dy ≤ cu) with hmx | hmx
      all_goals
        simp only [e0, e1, e2, Bool.false_and, Bool.and_false, Bool.true_and, Bool.false_eq_true, if_false, if_true] at hst
        have HST := Lib.hid hst
        clear hst
        go_wp2_with fail
        go_roundg (gk - 1)
        case measure => omega
        case rel => exact ⟨i + 1, by go_num, by omega, by first | (rw [HST.out]; done) | (rw [HST.out]; congr 1; omega), rfl⟩
    · have hin : i = n := by omega
      subst hin
      rw [HT.out]
      go_wp2_with fail
      go_ret
      exact ⟨rfl, rfl⟩
/-- words as cells -/
def strC (ns : List ByteArray) : List Value := ns.map fun s => .string s
theorem strC_add (ns : List ByteArray) (s : ByteArray) : strC (ns ++ [s]) = strC ns ++ [.string s] := by simp [strC]
theorem strAts_of_owns {w : World} {base : Nat} {v : Value} {ns : List ByteArray} {T : TypeId} {n : Nat} (hn : ns.length = n) (h : w.ownsRow base T 1 v n (strC ns)) : StrAts w v ns := by
  subst hn
  rcases h.2 with ⟨rfl, h0⟩ | ⟨g, cap, cur, rfl, _, _, hle, hmx, _, _⟩
  · exact ⟨none, 0, by rw [h0], ⟨by omega, by unfold maxLen; omega⟩, fun h => by omega⟩
  · refine ⟨some ⟨g, 0, none⟩, cap, rfl, ⟨hle, hmx⟩, fun _ => ⟨g, 0, rfl, fun i x hx => ?_⟩⟩
    have e : ∀ j, (⟨g, 0, none⟩ : Addr).add j = ⟨g, j, none⟩ := fun j => by unfold Addr.add; split <;> simp_all
    have c0 := h.cells (g := g) rfl i (.string x) (by simp [strC, hx])
    rw [e] at c0
    exact ⟨by simpa using c0⟩
theorem infoStrN : (Tryz.prog.info? 9).map (fun i => (i.zero, i.size, i.bytes)) = some (some (.string ⟨#[]⟩), 1, 16) := by kernel_rfl
/-- the names without a test on the days before -/
def lateL (xs : List TstR) (ds d : Int) (cs : List ByteArray) : List ByteArray := cs.filter fun s => decide (lastT xs s (d - ds) d < 0)
theorem lateL_take {xs : List TstR} {ds d : Int} {cs : List ByteArray} {k : Nat} {s : ByteArray} (h : cs[k]? = some s) : lateL xs ds d (cs.take (k + 1)) = lateL xs ds d (cs.take k) ++ (if decide (lastT xs s (d - ds) d < 0) then [s] else []) := by
  unfold lateL
  rw [List.take_add_one, h, List.filter_append]
  congr 1
  simp only [Option.toList_some, List.filter_cons, List.filter_nil]
theorem lateL_len (xs : List TstR) (ds d : Int) (cs : List ByteArray) : (lateL xs ds d cs).length ≤ cs.length := List.length_filter_le _ _
set_option maxHeartbeats 1000000 in
set_option maxRecDepth 100000 in
theorem refLate_c {vc v : Value} {cs : List ByteArray} {xs : List TstR} {w : World} (ds d : Int) (hcs : StrAts w vc cs) (h : TstAts w v xs) (h1 : xs.length ≤ 1000) (h2 : cs.length ≤ 1000) (q1 : 0 ≤ ds) (q2 : ds ≤ 99999) (q3 : 0 ≤ d) (q4 : d ≤ 99999) :
    Calls Tryz.prog 19 #[vc, v, .int .i64 ds, .int .i64 d] w fun e w' => ∃ u, e = .returned u ∧ StrAts w' u (lateL xs ds d cs) ∧ Gr w w' := by
  obtain ⟨i0, hi, hz0, hz1, hz2⟩ := info_parts infoStrN
  have HL := Lib.hid (fun s W (g : Gr w W) => refLast_c s (d - ds) d (h.gr g) h1)
  obtain ⟨pt, nt, capt, rfl⟩ : ∃ p n cap, v = .slice p n cap := by
    obtain ⟨⟨p, cap, rfl, _⟩⟩ := h
    exact ⟨p, _, cap, rfl⟩
  obtain ⟨⟨p, cap, rfl, _, hh⟩⟩ := hcs
  obtain ⟨n, hn⟩ : ∃ n, n = cs.length := ⟨_, rfl⟩
  rw [← hn] at h2 hh ⊢
  have HN := Lib.hid hn
  have HH := Lib.hid hh
  clear hn hh h
  go_enter Tryz.func19, Tryz.ntmps19
  go_wp2_with fail
  go_loopw [9, 10] (fun bv iv wr => ∃ i : Nat, i ≤ n ∧ iv = .int .i64 i ∧ wr.ownsRow w.heap.size 9 1 bv (lateL xs ds d (cs.take i)).length (strC (lateL xs ds d (cs.take i))) ∧ Gr w wr) (fun _ iv _ => n - (intOf iv).toNat)
  case atStart => exact ⟨0, Nat.zero_le _, rfl, World.ownsRow_nil _ _ _ _, Gr.refl _⟩
  case round =>
    obtain ⟨i, hi', rfl, hown, hg⟩ := hrel
    have hsz := hg.size
    by_cases hlt : i < n
    · obtain ⟨x, hx⟩ : ∃ x, cs[i]? = some x := ⟨cs[i]'(by have := HN.out; omega), List.getElem?_eq_getElem _⟩
      obtain ⟨b, off, rfl, hc⟩ := HH.out (by omega)
      obtain ⟨c0⟩ := (hc i x hx).gr hg
      have hst := lateL_take (xs := xs) (ds := ds) (d := d) hx
      have hle : (lateL xs ds d (cs.take i)).length ≤ i := Nat.le_trans (lateL_len _ _ _ _) (by rw [List.length_take]; omega)
      have hi2 : (i : Int) < n := by omega
      have HT := Lib.hid (fun W g => HL.out x W g)
      generalize lastT xs x (d - ds) d = z at *
      generalize lateL xs ds d (cs.take i) = L at *
      clear hx hc
      cases hz : decide (z < 0)
      · rw [hz] at hst
        simp only [Bool.false_eq_true, if_false, List.append_nil] at hst
        have HST := Lib.hid hst
        clear hst
        go_wp2_with fail
        refine (HT.out _ hg).mono ?_
        rintro e W ⟨rfl, rfl⟩
        go_wp2_with fail
        go_roundw
        case rel => exact ⟨i + 1, by omega, by go_num, by rw [HST.out]; exact hown, hg⟩
        case measure => simp [intOf]; omega
      · rw [hz] at hst
        simp only [if_true] at hst
        have HST := Lib.hid hst
        have HLn : Hid ((strC L).length = L.length) := by simp [Hid, strC]
        clear hst
        go_wp2_with fail
        refine (HT.out _ hg).mono ?_
        rintro e W ⟨rfl, rfl⟩
        go_wp2_with (first
          | (at_builtin; refine wpList_append_own _ rfl _ _ 22 rfl w.heap.size 9 i0 (.string ⟨#[]⟩) 1 16 Tryz.underlying22 hi hz0 hz1 hz2 rfl (by decide) _ _ _ rfl (hown.alloc _) ⟨W2.heap.size, 0, none⟩ 1 1 [.string x] rfl rfl (cell_one_new _ _ _) (by intro u hu; simp at hu; subst hu; rfl) (by unfold maxLen; omega) (by omega) (by simp; omega) ?_; intro v1 w1 hown1 hgrow1 hnil1)
          | (at_builtin; refine wpList_append_own _ rfl _ _ 22 rfl w.heap.size 9 i0 (.string ⟨#[]⟩) 1 16 Tryz.underlying22 hi hz0 hz1 hz2 rfl (by decide) _ _ _ rfl (hown.alloc _) ⟨wr.heap.size, 0, none⟩ 1 1 [.string x] rfl rfl (cell_one_new _ _ _) (by intro u hu; simp at hu; subst hu; rfl) (by unfold maxLen; omega) (by omega) (by simp; omega) ?_; intro v1 w1 hown1 hgrow1 hnil1))
        go_roundw
        case rel => exact ⟨i + 1, by omega, by go_num, by rw [HST.out, strC_add]; simpa using hown1, Below.grown (hg.alloc _) hgrow1 (by simp; omega) (fun j hj => (hown.lt j hj).1)⟩
        case measure => simp [intOf]; omega
    · obtain rfl : i = n := by omega
      rw [List.take_of_length_le (by have := HN.out; omega)] at hown
      go_wp2_with fail
      go_ret
      exact ⟨_, rfl, strAts_of_owns rfl hown, hg⟩
end Go.Proofs.YtenkbeeiblhnjaaGreat
