/- Members: Lapse and Licensed, the reference's. -/
import Derived.Test.YtmlmbgifkmkmgaaGreatMbYg
import Derived.Test.YtmlmbgifkmkmgaaGreatGMbH
namespace Go.Proofs.YtmlmbgifkmkmgaaGreat
open Go.RowKit Go.Lib
set_option linter.unusedSimpArgs false
set_option linter.unusedVariables false
/-- of this climber, and holds on the day -/
def mineH (nm : ByteArray) (d : Int) (x : CatR) : Bool := (x.nm.toList == nm.toList) && (decide (x.lo ≤ d) && decide (d ≤ x.hi))
def nextZ (Q : CatR → Bool) : List CatR → Int → Int
  | [], m => m
  | x :: r, m => nextZ Q r (if Q x then max m (x.hi + 1) else m)
theorem nextZ_add (Q : CatR → Bool) (x : CatR) : ∀ (l : List CatR) (m : Int), nextZ Q (l ++ [x]) m = if Q x then max (nextZ Q l m) (x.hi + 1) else nextZ Q l m
  | [], m => rfl
  | y :: l, m => by simp only [List.cons_append, nextZ]; exact nextZ_add Q x l _
theorem nextZ_ge (Q : CatR → Bool) : ∀ (l : List CatR) (m : Int), m ≤ nextZ Q l m
  | [], m => Int.le_refl _
  | y :: l, m => by
    have := nextZ_ge Q l (if Q y then max m (y.hi + 1) else m)
    simp only [nextZ]
    split at this <;> simp_all <;> omega
theorem nextZ_mem (Q : CatR → Bool) : ∀ (l : List CatR) (m : Int) (x : CatR), x ∈ l → Q x = true → x.hi + 1 ≤ nextZ Q l m
  | y :: l, m, x, h, hq => by
    rcases List.mem_cons.1 h with rfl | h
    · have := nextZ_ge Q l (if Q x then max m (x.hi + 1) else m)
      simp only [nextZ]
      rw [hq] at this ⊢
      simp only [if_true] at this ⊢
      omega
    · exact nextZ_mem Q l _ x h hq
theorem nextZ_or (Q : CatR → Bool) : ∀ (l : List CatR) (m : Int), nextZ Q l m = m ∨ ∃ x ∈ l, Q x = true ∧ nextZ Q l m = x.hi + 1
  | [], m => .inl rfl
  | y :: l, m => by
    simp only [nextZ]
    rcases nextZ_or Q l (if Q y then max m (y.hi + 1) else m) with h | ⟨x, hx, hq, h⟩
    · rw [h]
      cases hy : Q y
      · exact .inl (by simp)
      · simp only [if_true]
        rcases Int.le_total (y.hi + 1) m with h2 | h2
        · exact .inl (by omega)
        · exact .inr ⟨y, by simp, hy, by omega⟩
    · exact .inr ⟨x, by simp [hx], hq, h⟩
theorem nextZ_take (Q : CatR → Bool) {xs : List CatR} {i : Nat} {x : CatR} (h : xs[i]? = some x) (m : Int) : nextZ Q (xs.take (i + 1)) m = if Q x then max (nextZ Q (xs.take i) m) (x.hi + 1) else nextZ Q (xs.take i) m := by
  rw [List.take_add_one, h]
  exact nextZ_add Q x _ m
theorem lapse_skip {h : Int → Bool} : ∀ (m k : Nat) (d : Int), (∀ j : Nat, j < m → h (d + j) = true) → lapseZ h (k + m) d = lapseZ h k (d + m)
  | 0, k, d, _ => by simp
  | m + 1, k, d, hh => by
    have h0 := hh 0 (by omega)
    rw [show d + ((0 : Nat) : Int) = d by simp] at h0
    rw [show k + (m + 1) = (k + m) + 1 by omega]
    show (if h d then lapseZ h (k + m) (d + 1) else d) = _
    rw [if_pos h0, lapse_skip m k (d + 1) (fun j hj => by have := hh (j + 1) (by omega); rwa [show d + 1 + (j : Int) = d + ((j + 1 : Nat) : Int) by omega])]
    congr 1
    omega
theorem mine_iff {nm : ByteArray} {xs : List CatR} {x : CatR} : x ∈ mineL nm xs ↔ x ∈ xs ∧ (x.nm.toList == nm.toList) = true := by
  unfold mineL otherQ isN
  rw [List.mem_filter]
  simp
/-- a round of the reference's loop -/
theorem lap_round (nm : ByteArray) (xs : List CatR) (day : Int) (k : Nat) (hhi : ∀ y ∈ xs, y.hi ≤ 99999) (hk : (100000 : Int) - day ≤ k) :
    (nextZ (mineH nm day) xs day = day ∧ lapseZ (holdsB (mineL nm xs)) (k + 1) day = day) ∨
    (day < nextZ (mineH nm day) xs day ∧ nextZ (mineH nm day) xs day ≤ 100000 ∧ ∃ k2 : Nat, (100000 : Int) - nextZ (mineH nm day) xs day ≤ k2 ∧ lapseZ (holdsB (mineL nm xs)) (k + 1) day = lapseZ (holdsB (mineL nm xs)) (k2 + 1) (nextZ (mineH nm day) xs day)) := by
  have hge := nextZ_ge (mineH nm day) xs day
  rcases nextZ_or (mineH nm day) xs day with h | ⟨x, hx, hq, h⟩
  · refine .inl ⟨h, ?_⟩
    have hf : holdsB (mineL nm xs) day = false := by
      unfold holdsB
      rw [List.any_eq_false]
      intro y hy hb
      obtain ⟨h1, h2⟩ := mine_iff.1 hy
      have hqy : mineH nm day y = true := by
        unfold mineH
        unfold holdB at hb
        rw [h2, hb]
        rfl
      have := nextZ_mem (mineH nm day) xs day y h1 hqy
      unfold holdB at hb
      rw [Bool.and_eq_true, decide_eq_true_eq, decide_eq_true_eq] at hb
      omega
    show (if holdsB (mineL nm xs) day then _ else day) = day
    rw [hf]
    rfl
  · have hq2 := hq
    unfold mineH at hq2
    rw [Bool.and_eq_true, Bool.and_eq_true, decide_eq_true_eq, decide_eq_true_eq] at hq2
    obtain ⟨q1, q2, q3⟩ := hq2
    have h99 := hhi x hx
    refine .inr ⟨by omega, by omega, k - (x.hi + 1 - day).toNat, by omega, ?_⟩
    have hm : x ∈ mineL nm xs := mine_iff.2 ⟨hx, q1⟩
    have := lapse_skip (h := holdsB (mineL nm xs)) (x.hi + 1 - day).toNat (k - (x.hi + 1 - day).toNat + 1) day (fun j hj => by
      unfold holdsB
      rw [List.any_eq_true]
      refine ⟨x, hm, ?_⟩
      unfold holdB
      rw [Bool.and_eq_true, decide_eq_true_eq, decide_eq_true_eq]
      omega)
    rw [show k - (x.hi + 1 - day).toNat + 1 + (x.hi + 1 - day).toNat = k + 1 by omega] at this
    rw [this, h]
    congr 1
    omega
set_option maxHeartbeats 1000000 in
set_option maxRecDepth 100000 in
theorem refLapse_c {v : Value} {xs : List CatR} {w : World} (nm : ByteArray) (d : Int) (h : CatAts w v xs) (h1 : xs.length ≤ 1000) (hd0 : 0 ≤ d) (hd : d ≤ 100000) (hr : ∀ y ∈ xs, 0 ≤ y.lo ∧ y.lo ≤ y.hi ∧ y.hi ≤ 99999) :
    Calls Tryz.prog 36 #[v, .string nm, .int .i64 d] w fun e w' => e = .returned (.int .i64 (lapD xs nm d)) ∧ Gr w w' := by
  obtain ⟨⟨p, cap, rfl, _, hh⟩⟩ := h
  obtain ⟨n, hn⟩ : ∃ n, n = xs.length := ⟨_, rfl⟩
  rw [← hn] at h1 hh ⊢
  have HN := Lib.hid hn
  have HR := Lib.hid hr
  have HH := Lib.hid hh
  have HM := Lib.hid (fun day k hk => lap_round nm xs day k (fun y hy => (hr y hy).2.2) hk)
  have HT : Hid (xs.take n = xs) := by unfold Hid; rw [hn]; exact List.take_length
  clear hn hr hh
  go_enter Tryz.func36, Tryz.ntmps36
  go_wp2_with fail
  go_loopw [2, 7, 8] (fun dv nv iv wr => ∃ (day : Int) (k : Nat), dv = .int .i64 day ∧ 0 ≤ day ∧ day ≤ 100000 ∧ (100000 : Int) - day ≤ k ∧ lapD xs nm d = lapseZ (holdsB (mineL nm xs)) (k + 1) day ∧ Gr w wr) (fun dv _ _ _ => (100000 - intOf dv).toNat)
  case atStart => exact ⟨d, 100000, rfl, hd0, hd, by omega, rfl, Gr.refl _⟩
  case round =>
    obtain ⟨day, k, rfl, q0, q1, q2, q3, hg⟩ := hrel
    have HL := Lib.hid q3
    have HQ2 := Lib.hid q2
    clear q2 q3
    go_wp2_with fail
    go_loopg [7, 8] n (fun gk s7 s8 wr2 => ∃ i : Nat, s8 = .int .i64 i ∧ gk + i = n ∧ s7 = .int .i64 (nextZ (mineH nm day) (xs.take i) day) ∧ Gr wr wr2)
    case atStart => exact ⟨0, rfl, by omega, rfl, Gr.refl _⟩
    case round =>
      obtain ⟨i, rfl, hi, rfl, hg2⟩ := hrel
      by_cases hlt : i < n
      · obtain ⟨x, hx⟩ : ∃ x, xs[i]? = some x := ⟨xs[i]'(by have := HN.out; omega), List.getElem?_eq_getElem _⟩
        obtain ⟨b, off, rfl, hc⟩ := HH.out (by omega)
        obtain ⟨c0, c1, c2⟩ := (hc i x hx).gr (hg.trans hg2)
        have hx3 := HR.out x (List.mem_of_getElem? hx)
        have hst := nextZ_take (mineH nm day) hx day
        have hi2 : (i : Int) < n := by omega
        generalize nextZ (mineH nm day) (xs.take i) day = cu at *
        rw [show mineH nm day x = ((x.nm.toList == nm.toList) && (decide (x.lo ≤ day) && decide (day ≤ x.hi))) from rfl] at hst
        clear hx hc
        obtain ⟨z1, z2, z3⟩ := hx3
        have z4 : x.hi + 1 ≤ 100000 := by omega
        cases e0 : (x.nm.toList == nm.toList) <;> cases e1 : decide (x.lo ≤ day) <;> cases e2 : decide (day ≤ x.hi) <;> rcases Decidable.em (x.hi + 1 ≤ cu) with hmx | hmx
        all_goals
          simp only [e0, e1, e2, Bool.false_and, Bool.and_false, Bool.true_and, Bool.false_eq_true, if_false, if_true] at hst
          have HST := Lib.hid hst
          clear hst
          go_wp2_with fail
          go_roundg (gk - 1)
          case measure => omega
          case rel => exact ⟨i + 1, by go_num, by omega, by first | (rw [HST.out]; done) | (rw [HST.out]; congr 1; omega), hg2⟩
      · have hin : i = n := by omega
        subst hin
        rw [HT.out]
        have hM := HM.out day k HQ2.out
        generalize nextZ (mineH nm day) xs day = nx at *
        rcases hM with ⟨m1, m2⟩ | ⟨m1, m2, k2, m3, m4⟩
        · have hne : (nx == day) = true := by simp; omega
          clear m1
          have HL2 := Lib.hid (HL.out.trans m2)
          clear m2
          go_wp2_with fail
          go_ret
          exact ⟨by rw [HL2.out]; rfl, hg.trans hg2⟩
        · have HL2 := Lib.hid (HL.out.trans m4)
          have hne : (nx == day) = false := by simp; omega
          clear m4
          go_wp2_with fail
          go_roundw
          case rel => exact ⟨nx, k2, rfl, by omega, m2, m3, HL2.out, hg.trans hg2⟩
          case measure => simp [intOf]; omega
theorem refLicensed_c {v : Value} {xs : List CatR} {w : World} (nm : ByteArray) (d t : Int) (h : CatAts w v xs) (h1 : xs.length ≤ 1000) (hd0 : 0 ≤ d) (hd : d ≤ 100000) (hr : ∀ y ∈ xs, 0 ≤ y.lo ∧ y.lo ≤ y.hi ∧ y.hi ≤ 99999) :
    Calls Tryz.prog 35 #[v, .string nm, .int .i64 d, .int .i64 t] w fun e w' => e = .returned (.bool (decide (t < lapD xs nm d))) ∧ Gr w w' := by
  have HL := Lib.hid (refLapse_c nm d h h1 hd0 hd hr)
  generalize lapD xs nm d = D at *
  obtain ⟨p, n, cap, rfl⟩ : ∃ p n cap, v = .slice p n cap := by
    obtain ⟨⟨p, cap, rfl, _⟩⟩ := h
    exact ⟨p, _, cap, rfl⟩
  clear h
  go_enter Tryz.func35, Tryz.ntmps35
  go_wp2_with fail
  refine HL.out.mono ?_
  rintro e W1 ⟨rfl, hg⟩
  go_wp2_with fail
  go_ret
  exact ⟨rfl, hg⟩
end Go.Proofs.YtmlmbgifkmkmgaaGreat
