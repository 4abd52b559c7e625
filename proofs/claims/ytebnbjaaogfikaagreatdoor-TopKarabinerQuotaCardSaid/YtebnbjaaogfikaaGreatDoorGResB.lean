/- A result by itself: the reference's CheckResult. -/
import Derived.Test.YtebnbjaaogfikaaGreatDoorGOpN
import Derived.Test.YtebnbjaaogfikaaGreatDoorGThF
import Derived.Test.YtebnbjaaogfikaaGreatDoorGCmp
import Derived.Test.YtebnbjaaogfikaaGreatDoorGRkE
namespace Go.Proofs.YtebnbjaaogfikaaGreatDoor
open Go.RowKit Go.Lib
set_option linter.unusedSimpArgs false
set_option linter.unusedVariables false
theorem gradeZ_neg (l : List UInt8) : decide (gradeZ l < 0) = (gradeZ l == -1) := by
  unfold gradeZ
  split
  · rfl
  split
  · rfl
  split
  · rfl
  split
  · rfl
  · rfl
theorem resE_eq (c s : ByteArray) (xs : List Int) : resE c s xs = if !decide (Nm c) then 8 else if gradeZ s.toList == -1 then 13 else if !s.toList.isEmpty && decide (0 < xs.length) then 1 else if decide ((8 : Int) < xs.length) then 5 else valsE xs := by
  unfold resE firstE firstE firstE firstE firstE
  cases decide (Nm c) <;> cases gradeZ s.toList == -1 <;> cases (!s.toList.isEmpty && decide (0 < xs.length)) <;> cases decide ((8 : Int) < xs.length) <;> simp [firstE] <;> exact fun h => h.symm
set_option maxHeartbeats 1000000 in
set_option maxRecDepth 100000 in
theorem refCheck_c (c s : ByteArray) (v : Value) (xs : List Int) (w : World) (h : IntsV w v xs) :
    Calls Tryz.prog 35 #[resV c s v] w fun e w' => e = .returned (.int .i64 (resE c s xs)) ∧ Gr w w' := by
  unfold resV
  have hR := resE_eq c s xs
  have hN := fun W => refIsName_c c W
  have hB := fun W => grade_c s W
  obtain ⟨p, cap, rfl, hh⟩ := h.out
  obtain ⟨W, hW, g, a0, a1, a2⟩ := box3 w (.string c) (.string s) (.slice p xs.length cap) 34
  have hgn := gradeZ_neg s.toList
  generalize gradeZ s.toList = z at *
  cases h1 : decide (Nm c)
  · rw [h1] at hR hN
    have HR := Lib.hid hR
    have HN := Lib.hid hN
    have HB := Lib.hid hB
    have HW := Lib.hid hW
    clear hR hN hB hW hh
    go_enter Tryz.func35, Tryz.ntmps35
    go_wp2_with fail
    rw [HW.out]
    refine (HN.out _).mono ?_
    rintro e w4 ⟨rfl, rfl⟩
    go_wp2_with fail
    go_ret
    exact ⟨by rw [HR.out]; rfl, g⟩
  rw [h1] at hR hN
  clear h1
  cases h2 : (z == -1)
  case true =>
    rw [h2] at hR hgn
    have HR := Lib.hid hR
    have HN := Lib.hid hN
    have HB := Lib.hid hB
    have HW := Lib.hid hW
    clear hR hN hB hW hh
    go_enter Tryz.func35, Tryz.ntmps35
    go_wp2_with fail
    rw [HW.out]
    refine (HN.out _).mono ?_
    rintro e w4 ⟨rfl, rfl⟩
    go_wp2_with fail
    refine (HB.out _).mono ?_
    rintro e w4 ⟨rfl, rfl⟩
    go_wp2_with fail
    go_ret
    exact ⟨by rw [HR.out]; rfl, g⟩
  rw [h2] at hR hgn
  cases hE : s.toList.isEmpty
  · rw [hE] at hR
    have hE2 : ¬ s.toList = [] := by intro e; rw [e] at hE; cases hE
    by_cases hl : 0 < xs.length
    · rw [decide_eq_true hl] at hR
      have HR := Lib.hid hR
      have HN := Lib.hid hN
      have HB := Lib.hid hB
      have HW := Lib.hid hW
      clear hR hN hB hW hh
      go_enter Tryz.func35, Tryz.ntmps35
      go_wp2_with fail
      rw [HW.out]
      refine (HN.out _).mono ?_
      rintro e w4 ⟨rfl, rfl⟩
      go_wp2_with fail
      refine (HB.out _).mono ?_
      rintro e w4 ⟨rfl, rfl⟩
      go_wp2_with fail
      go_ret
      exact ⟨by rw [HR.out]; rfl, g⟩
    · rw [decide_eq_false hl] at hR
      have hx : xs = [] := List.eq_nil_of_length_eq_zero (by omega)
      subst hx
      replace hW : w.alloc (.cells #[.string c, .string s, .slice p 0 cap] 34) = W := hW
      replace a2 : W.cell? ⟨w.heap.size, 2, none⟩ = some (.slice p 0 cap) := a2
      clear hh
      have HR := Lib.hid hR
      have HN := Lib.hid hN
      have HB := Lib.hid hB
      have HW := Lib.hid hW
      clear hR hN hB hW
      go_enter Tryz.func35, Tryz.ntmps35
      go_wp2_with fail
      rw [HW.out]
      refine (HN.out _).mono ?_
      rintro e w4 ⟨rfl, rfl⟩
      go_wp2_with fail
      refine (HB.out _).mono ?_
      rintro e w4 ⟨rfl, rfl⟩
      go_wp2_with fail
      refine wp_loop_rounds 1 ?_
      rw [rounds_succ]
      go_wp2_with fail
      go_ret
      exact ⟨by rw [HR.out]; rfl, g⟩
  · rw [hE] at hR
    have hE2 : s.toList = [] := by cases hq : s.toList with | nil => rfl | cons _ _ => rw [hq] at hE; cases hE
    rcases Nat.lt_or_ge 8 xs.length with hl | hl
    · rw [decide_eq_true (show (8 : Int) < xs.length by omega)] at hR
      clear hh
      have HR := Lib.hid hR
      have HN := Lib.hid hN
      have HB := Lib.hid hB
      have HW := Lib.hid hW
      clear hR hN hB hW
      go_enter Tryz.func35, Tryz.ntmps35
      go_wp2_with fail
      rw [HW.out]
      refine (HN.out _).mono ?_
      rintro e w4 ⟨rfl, rfl⟩
      go_wp2_with fail
      refine (HB.out _).mono ?_
      rintro e w4 ⟨rfl, rfl⟩
      go_wp2_with fail
      go_ret
      exact ⟨by rw [HR.out]; rfl, g⟩
    · rw [decide_eq_false (show ¬ (8 : Int) < xs.length by omega)] at hR
      by_cases h0 : 0 < xs.length
      · obtain ⟨b, off, rfl, hc⟩ := hh h0
        have HC := Lib.hid (fun i x hx => g.cell (hc i x hx))
        have HLn := Lib.hid (rfl : xs.length = xs.length)
        clear hh hc h
        generalize hn : xs.length = n at *
        have HN2 := Lib.hid hn
        clear hn HLn
        have HR := Lib.hid hR
        have HN := Lib.hid hN
        have HB := Lib.hid hB
        have HW := Lib.hid hW
        clear hR hN hB hW
        go_enter Tryz.func35, Tryz.ntmps35
        go_wp2_with fail
        rw [HW.out]
        refine (HN.out _).mono ?_
        rintro e w4 ⟨rfl, rfl⟩
        go_wp2_with fail
        refine (HB.out _).mono ?_
        rintro e w4 ⟨rfl, rfl⟩
        go_wp2_with fail
        go_loopg [3] n (fun g s3 wr => ∃ k : Nat, s3 = .int .i64 k ∧ g + k = n ∧ wr = W ∧ Hid (valsE (xs.drop k) = valsE xs))
        case atStart => exact ⟨0, rfl, by omega, rfl, by simp [Hid]⟩
        case round =>
          obtain ⟨k, rfl, hk, rfl, HF⟩ := hrel
          by_cases hlt : k < n
          · obtain ⟨x, hx⟩ : ∃ x, xs[k]? = some x := ⟨xs[k]'(by have := HN2.out; omega), List.getElem?_eq_getElem _⟩
            have hcell := HC.out k x hx
            have hf := valsE_drop hx
            clear hx
            cases q1 : decide (x < -999999999) <;> cases q2 : decide (999999999 < x)
            all_goals
              have ho : outE x (-999999999) 999999999 = if (decide (x < -999999999) || decide (999999999 < x)) then 3 else 0 := rfl
              rw [q1, q2] at ho
              simp only [Bool.or_true, Bool.or_false, Bool.false_eq_true, if_false, if_true] at ho
              rw [ho] at hf
              first
                | (rw [if_pos rfl] at hf
                   have HF2 := Lib.hid hf
                   clear hf ho
                   go_wp2_with fail
                   go_roundg (gk - 1)
                   case measure => omega
                   case rel => exact ⟨k + 1, by go_num, by omega, rfl, by unfold Hid; rw [← HF2.out, HF.out]⟩)
                | (rw [if_neg (by decide)] at hf
                   have HF2 := Lib.hid hf
                   clear hf ho
                   go_wp2_with fail
                   go_ret
                   exact ⟨by rw [HR.out, ← HF.out, HF2.out]; rfl, g⟩)
          · have : xs.drop k = [] := List.drop_of_length_le (by have := HN2.out; omega)
            have HE : Hid (valsE xs = 0) := by unfold Hid; rw [← HF.out, this]; rfl
            clear this
            go_wp2_with fail
            go_ret
            exact ⟨by rw [HR.out, HE.out]; rfl, g⟩
      · have hx : xs = [] := List.eq_nil_of_length_eq_zero (by omega)
        subst hx
        replace hW : w.alloc (.cells #[.string c, .string s, .slice p 0 cap] 34) = W := hW
        replace a2 : W.cell? ⟨w.heap.size, 2, none⟩ = some (.slice p 0 cap) := a2
        clear hh
        have HR := Lib.hid hR
        have HN := Lib.hid hN
        have HB := Lib.hid hB
        have HW := Lib.hid hW
        clear hR hN hB hW
        go_enter Tryz.func35, Tryz.ntmps35
        go_wp2_with fail
        rw [HW.out]
        refine (HN.out _).mono ?_
        rintro e w4 ⟨rfl, rfl⟩
        go_wp2_with fail
        refine (HB.out _).mono ?_
        rintro e w4 ⟨rfl, rfl⟩
        go_wp2_with fail
        refine wp_loop_rounds 1 ?_
        rw [rounds_succ]
        go_wp2_with fail
        go_ret
        exact ⟨by rw [HR.out]; rfl, g⟩
end Go.Proofs.YtebnbjaaogfikaaGreatDoor
namespace Go.Proofs.YtebnbjaaogfikaaGreatDoor
open Go.RowKit Go.Lib
set_option linter.unusedSimpArgs false
set_option linter.unusedVariables false
theorem gradeZ_pos {l : List UInt8} (h : l.isEmpty = false) (h1 : (gradeZ l == -1) = false) : 0 < gradeZ l := by
  unfold gradeZ at *
  split
  · rename_i e; rw [e] at h; cases h
  split
  · decide
  split
  · decide
  split
  · decide
  · rename_i h2 h3 h4 h5
    rw [if_neg h2, if_neg h3, if_neg h4, if_neg h5] at h1
    cases h1
/-- a result without an error -/
theorem resE_zero {c s : ByteArray} {xs : List Int} (h : resE c s xs = 0) : (gradeZ s.toList == -1) = false ∧ (s.toList.isEmpty = false → xs = []) := by
  rw [resE_eq] at h
  split at h
  · cases h
  split at h
  · cases h
  split at h
  · cases h
  rename_i h1 h2
  refine ⟨by simpa using h1, fun he => ?_⟩
  rw [he] at h2
  simp at h2
  exact h2
theorem gradeZ_nil {l : List UInt8} (h : l.isEmpty = true) : gradeZ l = 0 := by
  cases l with
  | nil => rfl
  | cons _ _ => cases h
theorem cmpZ_pos {a b : Int} (h : a ≠ b) : cmpZ a b ≠ 0 := fun e => h (cmpZ_zero e)
end Go.Proofs.YtebnbjaaogfikaaGreatDoor
namespace Go.Proofs.YtebnbjaaogfikaaGreatDoor
open Go.RowKit Go.Lib
set_option linter.unusedSimpArgs false
set_option linter.unusedVariables false
set_option maxHeartbeats 1000000 in
set_option maxRecDepth 100000 in
theorem refFind_pos (xs : List RowR) (n b off cap : Nat) (nm : ByteArray) (w : World) (hn : n ≤ xs.length) (h1 : n ≤ 1000) (hc : ∀ i x, xs[i]? = some x → RowAt w b (off + i * 3) x) :
    Calls Tryz.prog 36 #[.slice (some ⟨b, off, none⟩) n cap, .string nm] w fun e w' => e = .returned (.int .i64 (firstP (isNm nm) xs n 0)) ∧ w = w' := by
  have HC := Lib.hid hc
  have HX := Lib.hid (fun k (h : k < n) => (show ∃ x, xs[k]? = some x from ⟨xs[k]'(by omega), List.getElem?_eq_getElem _⟩))
  have HS := Lib.hid (fun i x (h : xs[i]? = some x) (hi : i < n) => firstP_step (Q := isNm nm) h hi)
  have HE := Lib.hid (fun i (h : n ≤ i) => firstP_end (Q := isNm nm) (xs := xs) h)
  have HQ : Hid (∀ x : RowR, isNm nm x = (x.nm.toList == nm.toList)) := fun x => rfl
  clear hc hn
  generalize firstP (isNm nm) xs = F at *
  go_enter Tryz.func36, Tryz.ntmps36
  go_wp2_with fail
  go_loopg [5] n (fun gk s5 wr => ∃ i : Nat, s5 = .int .i64 i ∧ gk + i = n ∧ wr = w ∧ Hid (F (n - i) i = F n 0))
  case atStart => exact ⟨0, rfl, by omega, rfl, by simp [Hid]⟩
  case round =>
    obtain ⟨i, rfl, hi, rfl, HF⟩ := hrel
    by_cases hlt : i < n
    · obtain ⟨x, hx⟩ := HX.out i hlt
      obtain ⟨c0, c1, c2, hv, _⟩ := HC.out i x hx
      have hst := HS.out i x hx hlt
      have hi2 : (i : Int) < n := by omega
      rw [HQ.out] at hst
      cases hh : (x.nm.toList == nm.toList)
      · rw [hh] at hst
        have HST := Lib.hid hst
        have hne : ¬ x.nm.toList = nm.toList := by simpa using hh
        clear hst hx
        go_wp2_with fail
        go_roundg (gk - 1)
        case measure => omega
        case rel => exact ⟨i + 1, by go_num, by omega, rfl, by have := HF.out; rw [HST.out] at this; simpa [Hid] using this⟩
      · rw [hh] at hst
        have HST := Lib.hid hst
        have hne : x.nm.toList = nm.toList := by simpa using hh
        clear hst hx
        go_wp2_with fail
        go_ret
        have q : F n 0 = i := by have := HF.out; rw [HST.out] at this; simpa using this.symm
        exact ⟨by rw [q]; rfl, rfl⟩
    · obtain rfl : i = n := by omega
      have := HF.out
      rw [HE.out i (Nat.le_refl _)] at this
      have HT := Lib.hid this
      clear this
      go_wp2_with fail
      go_ret
      exact ⟨by rw [← HT.out]; rfl, rfl⟩
theorem fitB_same (x : RowR) : fitB x.st x.st x.xs x.xs = true := by unfold fitB; simp
/-- what the reference holds: the number of values of the first result with values, once it has been met -/
def zOf (xs : List RowR) (fz : Int) (i : Nat) : Int := if 0 ≤ fz ∧ fz < i then (match xs[fz.toNat]? with | some f => (f.xs.length : Int) | none => -1) else -1
theorem firstP_spec (Q : RowR → Bool) (xs : List RowR) : ∀ (k i : Nat), i + k ≤ xs.length →
    (firstP Q xs k i = -1 ∧ ∀ (j : Nat) (x : RowR), i ≤ j → j < i + k → xs[j]? = some x → Q x = false) ∨
    (∃ f : Nat, firstP Q xs k i = f ∧ i ≤ f ∧ f < i + k ∧ (∃ x, xs[f]? = some x ∧ Q x = true) ∧ ∀ (j : Nat) (x : RowR), i ≤ j → j < f → xs[j]? = some x → Q x = false)
  | 0, i, h => .inl ⟨rfl, fun j x h1 h2 => by omega⟩
  | k + 1, i, h => by
    have hi : i < xs.length := by omega
    have hx := List.getElem?_eq_getElem hi
    generalize xs[i] = x at hx
    simp only [firstP, hx]
    cases hq : Q x
    · rw [if_neg (by simp)]
      rcases firstP_spec Q xs k (i + 1) (by omega) with ⟨e, hh⟩ | ⟨f, e, h1, h2, h3, h4⟩
      · refine .inl ⟨e, fun j y hj1 hj2 hy => ?_⟩
        by_cases hji : j = i
        · subst hji; rw [hx] at hy; cases hy; exact hq
        · exact hh j y (by omega) (by omega) hy
      · refine .inr ⟨f, e, by omega, by omega, h3, fun j y hj1 hj2 hy => ?_⟩
        by_cases hji : j = i
        · subst hji; rw [hx] at hy; cases hy; exact hq
        · exact h4 j y (by omega) hj2 hy
    · rw [if_pos rfl]
      exact .inr ⟨i, rfl, Nat.le_refl _, by omega, ⟨x, hx, hq⟩, fun j y h1 h2 => by omega⟩
/-- the reference's and the program's error of a result behind the first two tests -/
theorem row_third {xs : List RowR} {i : Nat} {x : RowR} (hx : xs[i]? = some x) :
    (hasV x = false → (if (if decide (0 ≤ firstV xs) then !fitFirst xs (firstV xs) x else false) then (2 : Int) else 0) = 0 ∧ zOf xs (firstV xs) (i + 1) = zOf xs (firstV xs) i) ∧
    (hasV x = true → zOf xs (firstV xs) i = -1 → (if (if decide (0 ≤ firstV xs) then !fitFirst xs (firstV xs) x else false) then (2 : Int) else 0) = 0 ∧ zOf xs (firstV xs) (i + 1) = x.xs.length) ∧
    (hasV x = true → zOf xs (firstV xs) i ≠ -1 → (if (if decide (0 ≤ firstV xs) then !fitFirst xs (firstV xs) x else false) then (2 : Int) else 0) = (if (x.xs.length : Int) = zOf xs (firstV xs) i then 0 else 2) ∧ zOf xs (firstV xs) (i + 1) = zOf xs (firstV xs) i ∧ 0 ≤ zOf xs (firstV xs) i) := by
  have hil := (List.getElem?_eq_some_iff.1 hx).1
  rcases firstP_spec hasV xs xs.length 0 (by omega) with ⟨e, hh⟩ | ⟨f, e, h1, h2, ⟨y, hy, hq⟩, h4⟩
  · have e' : firstV xs = -1 := e
    have hv := hh i x (by omega) (by omega) hx
    rw [e']
    refine ⟨fun _ => ⟨by simp, by unfold zOf; simp⟩, fun h => (by rw [hv] at h; cases h), fun h => (by rw [hv] at h; cases h)⟩
  · have e' : firstV xs = f := e
    rw [e']
    have hfit : fitFirst xs (f : Int) x = fitB y.st x.st y.xs x.xs := by unfold fitFirst; rw [Int.toNat_natCast, hy]
    have h0 : decide ((0 : Int) ≤ f) = true := by simp
    have hz : ∀ j : Nat, zOf xs (f : Int) j = if f < j then (y.xs.length : Int) else -1 := fun j => by
      unfold zOf
      rw [Int.toNat_natCast, hy]
      by_cases hj : f < j
      · rw [if_pos ⟨by omega, by omega⟩, if_pos hj]
      · rw [if_neg (by omega), if_neg hj]
    have hys : y.st.toList.isEmpty = true := hq
    rw [h0, hfit, hz, hz]
    refine ⟨fun hv => ?_, fun hv hzz => ?_, fun hv hzz => ?_⟩
    · have hxs : x.st.toList.isEmpty = false := hv
      have hne : f ≠ i := fun e => by subst e; rw [hx] at hy; cases hy; rw [hv] at hq; cases hq
      refine ⟨by unfold fitB; rw [hxs]; simp, ?_⟩
      by_cases hj : f < i
      · rw [if_pos hj, if_pos (by omega)]
      · rw [if_neg hj, if_neg (by omega)]
    · have hxs : x.st.toList.isEmpty = true := hv
      have hnlt : ¬ f < i := fun hj => by rw [if_pos hj] at hzz; omega
      have hfi : f = i := by
        rcases Nat.lt_or_ge i f with h | h
        · have := h4 i x (by omega) h hx
          rw [hv] at this; cases this
        · omega
      subst hfi
      rw [hx] at hy
      cases hy
      refine ⟨by rw [fitB_same]; simp, by rw [if_pos (show f < f + 1 by omega)]⟩
    · have hxs : x.st.toList.isEmpty = true := hv
      by_cases hj : f < i
      · rw [if_pos hj, if_pos (show f < i + 1 by omega)]
        refine ⟨?_, rfl, by omega⟩
        unfold fitB
        rw [hys, hxs]
        by_cases hl : x.xs.length = y.xs.length
        · simp [hl]
        · have hl2 : ¬ y.xs.length = x.xs.length := fun e => hl e.symm
          have hl3 : ¬ (x.xs.length : Int) = y.xs.length := by omega
          have hl4 : ¬ (y.xs.length : Int) = x.xs.length := by omega
          simp [hl, hl2, hl3, hl4]
      · rw [if_neg hj] at hzz
        exact absurd rfl hzz
set_option maxHeartbeats 2000000 in
set_option maxRecDepth 100000 in
theorem refRound_pos (xs : List RowR) (n b off cap : Nat) (w : World) (hn : xs.length = n) (h1 : n ≤ 160) (hcap : n ≤ cap) (hmx : cap ≤ maxLen) (hc : ∀ i x, xs[i]? = some x → RowAt w b (off + i * 3) x) :
    Calls Tryz.prog 13 #[.slice (some ⟨b, off, none⟩) n cap] w fun e w' => e = .returned (.int .i64 (rowFrom xs (firstV xs) n 0)) ∧ Gr w w' := by
  have HC := Lib.hid hc
  have HX := Lib.hid (fun k (h : k < n) => (show ∃ x, xs[k]? = some x from ⟨xs[k]'(by omega), List.getElem?_eq_getElem _⟩))
  have HS := Lib.hid (fun i x (hi : i < n) (h : xs[i]? = some x) => rowFrom_step (fz := firstV xs) hi h)
  have HR := Lib.hid (fun i x => (show rowE xs (firstV xs) i x = firstE [resE x.nm x.st x.xs, if dupR xs i x.nm then 9 else 0, if (if decide (0 ≤ firstV xs) then !fitFirst xs (firstV xs) x else false) then 2 else 0] from rfl))
  have HT := Lib.hid (fun i x (h : xs[i]? = some x) => row_third h)
  have HD := Lib.hid (fun (i : Nat) (nm : ByteArray) (h : i ≤ n) => (show decide (0 ≤ firstP (isNm nm) xs i 0) = dupR xs i nm from by rw [firstP_any (isNm nm) xs i 0 (by omega)]; rfl))
  have HF := Lib.hid (fun (i cap : Nat) (nm : ByteArray) (W : World) (g : Gr w W) (hi : i ≤ n) => refFind_pos xs i b off cap nm W (by omega) (by omega) (fun i x hx => (hc i x hx).gr g))
  have HK := Lib.hid (fun (x : RowR) (W : World) (hv : IntsV W x.u x.xs) => refCheck_c x.nm x.st x.u x.xs W hv)
  have HZ : Hid (zOf xs (firstV xs) 0 = -1) := by unfold Hid zOf; rw [if_neg (by omega)]
  have HE : Hid (rowFrom xs (firstV xs) 0 n = 0) := rfl
  have hz2 : decide ((160 : Int) < n) = false := decide_eq_false (by omega)
  clear hc
  generalize zOf xs (firstV xs) = zz at *
  generalize (fun i x => rowE xs (firstV xs) i x) = EE at *
  clear hn
  go_enter Tryz.func13, Tryz.ntmps13
  go_wp2_with fail
  go_loopg [3, 4] n (fun gk s3 s4 wr => ∃ i : Nat, s4 = .int .i64 i ∧ s3 = .int .i64 (zz i) ∧ gk + i = n ∧ Gr w wr ∧ Hid (rowFrom xs (firstV xs) (n - i) i = rowFrom xs (firstV xs) n 0))
  case atStart => exact ⟨0, rfl, by rw [HZ.out], by omega, Gr.refl _, by simp [Hid]⟩
  case round =>
    obtain ⟨i, rfl, rfl, hi, hnx, HFr⟩ := hrel
    by_cases hlt : i < n
    · obtain ⟨x, hx⟩ := HX.out i hlt
      obtain ⟨c0, c1, c2, hv, _⟩ := (HC.out i x hx).gr hnx
      have hst := HS.out i x hlt hx
      have hi2 : (i : Int) < n := by omega
      have hKx := HK.out x wr hv
      have hrx := HR.out i x
      have hT := HT.out i x hx
      have hdx := HD.out i x.nm (by omega)
      obtain ⟨⟨pu, cu, hu, _⟩⟩ := id hv
      unfold resV at hKx
      rw [hu] at c2 hKx
      generalize (if (if decide (0 ≤ firstV xs) then !fitFirst xs (firstV xs) x else false) then (2 : Int) else 0) = e3 at *
      generalize resE x.nm x.st x.xs = e1 at *
      by_cases he1 : e1 = 0
      · subst he1
        generalize hfp : firstP (isNm x.nm) xs i 0 = fp at *
        cases hdd : dupR xs i x.nm
        · rw [hdd] at hdx hrx
          have hrx2 : rowE xs (firstV xs) i x = e3 := by rw [hrx]; simp only [firstE]; by_cases h3 : e3 = 0 <;> simp [h3]
          have HFq := Lib.hid (fun (cap : Nat) (W : World) (g : Gr wr W) => HF.out i cap x.nm W (hnx.trans g) (by omega))
          rw [hfp] at HFq
          have HKX := Lib.hid hKx
          rw [hrx2] at hst
          have HST := Lib.hid hst
          clear hst hrx hrx2 hKx hfp hdd hx
          cases hh : hasV x
          · have hst3 : x.st.toList.isEmpty = false := hh
            obtain ⟨h3, hzz⟩ := hT.1 hh
            have HFz := Lib.hid (show rowFrom xs (firstV xs) (n - (i + 1)) (i + 1) = rowFrom xs (firstV xs) n 0 from by rw [← HFr.out, HST.out, if_pos h3])
            have HZZ := Lib.hid hzz
            clear hT hh h3 hzz HST
            go_wp2_with (refine HKX.out.mono ?_; rintro e wq ⟨rfl, gq⟩; have d0 := gq.cell c0; have d1 := gq.cell c1; have d2 := gq.cell c2)
            go_quiet ((go_at_call 36; with_reducible exact quietE (HFq.out _ _ (gq.drewN _))))
            go_wp2_with fail
            go_roundg (gk - 1)
            case measure => omega
            case rel => exact ⟨i + 1, by go_num, by rw [HZZ.out], by omega, (hnx.trans gq).drewN _, HFz⟩
          · have hst3 : x.st.toList.isEmpty = true := hh
            by_cases hzz : zz i = -1
            · obtain ⟨h3, hz1⟩ := hT.2.1 hh hzz
              have HFz := Lib.hid (show rowFrom xs (firstV xs) (n - (i + 1)) (i + 1) = rowFrom xs (firstV xs) n 0 from by rw [← HFr.out, HST.out, if_pos h3])
              have HZZ := Lib.hid hz1
              rw [hzz]
              clear hT hh h3 hz1 HST hzz
              go_wp2_with (refine HKX.out.mono ?_; rintro e wq ⟨rfl, gq⟩; have d0 := gq.cell c0; have d1 := gq.cell c1; have d2 := gq.cell c2)
              go_quiet ((go_at_call 36; with_reducible exact quietE (HFq.out _ _ (gq.drewN _))))
              go_wp2_with fail
              go_roundg (gk - 1)
              case measure => omega
              case rel => exact ⟨i + 1, by go_num, by rw [HZZ.out], by omega, (hnx.trans gq).drewN _, HFz⟩
            · obtain ⟨h3, hz1, hz0⟩ := hT.2.2 hh hzz
              have HZZ := Lib.hid hz1
              by_cases hl : (x.xs.length : Int) = zz i
              · rw [if_pos hl] at h3
                have HFz := Lib.hid (show rowFrom xs (firstV xs) (n - (i + 1)) (i + 1) = rowFrom xs (firstV xs) n 0 from by rw [← HFr.out, HST.out, if_pos h3])
                clear hT hh h3 hz1 HST hzz
                generalize zz i = z at *
                go_wp2_with (refine HKX.out.mono ?_; rintro e wq ⟨rfl, gq⟩; have d0 := gq.cell c0; have d1 := gq.cell c1; have d2 := gq.cell c2)
                go_quiet ((go_at_call 36; with_reducible exact quietE (HFq.out _ _ (gq.drewN _))))
                go_wp2_with fail
                go_roundg (gk - 1)
                case measure => omega
                case rel => exact ⟨i + 1, by go_num, by rw [HZZ.out], by omega, (hnx.trans gq).drewN _, HFz⟩
              · rw [if_neg hl] at h3
                have HFF : Hid (rowFrom xs (firstV xs) n 0 = 2) := by unfold Hid; rw [← HFr.out, HST.out, h3]; rfl
                clear hT hh h3 hz1 HST hzz HZZ
                generalize zz i = z at *
                go_wp2_with (refine HKX.out.mono ?_; rintro e wq ⟨rfl, gq⟩; have d0 := gq.cell c0; have d1 := gq.cell c1; have d2 := gq.cell c2)
                go_quiet ((go_at_call 36; with_reducible exact quietE (HFq.out _ _ (gq.drewN _))))
                go_wp2_with fail
                go_ret
                exact ⟨by rw [HFF.out]; rfl, (hnx.trans gq).drewN _⟩
        · have hrx2 : rowE xs (firstV xs) i x = 9 := by rw [hrx, hdd]; simp [firstE]
          rw [hdd] at hdx
          have HFq := Lib.hid (fun (cap : Nat) (W : World) (g : Gr wr W) => HF.out i cap x.nm W (hnx.trans g) (by omega))
          rw [hfp] at HFq
          have HKX := Lib.hid hKx
          rw [hrx2, if_neg (by omega)] at hst
          have HFF : Hid (rowFrom xs (firstV xs) n 0 = 9) := by unfold Hid; rw [← HFr.out, hst]
          clear hst hrx hrx2 hT hKx hfp hdd hx
          go_wp2_with (refine HKX.out.mono ?_; rintro e wq ⟨rfl, gq⟩; have d0 := gq.cell c0; have d1 := gq.cell c1; have d2 := gq.cell c2)
          go_quiet ((go_at_call 36; with_reducible exact quietE (HFq.out _ _ (gq.drewN _))))
          go_wp2_with fail
          go_ret
          exact ⟨by rw [HFF.out]; rfl, (hnx.trans gq).drewN _⟩
      · have hz1 : rowE xs (firstV xs) i x = e1 := by rw [hrx]; simp [firstE, he1]
        rw [hz1, if_neg he1] at hst
        have HKX := Lib.hid hKx
        have HFF : Hid (rowFrom xs (firstV xs) n 0 = e1) := by unfold Hid; rw [← HFr.out, hst]
        clear hst hrx hT hdx hKx hz1 hx
        go_wp2_with (refine HKX.out.mono ?_; rintro e wq ⟨rfl, gq⟩)
        go_ret
        exact ⟨by rw [HFF.out]; rfl, hnx.trans gq⟩
    · obtain rfl : i = n := by omega
      have hT := HFr.out
      rw [Nat.sub_self, HE.out] at hT
      have HT2 := Lib.hid hT
      clear hT
      go_wp2_with fail
      go_ret
      exact ⟨by rw [← HT2.out]; rfl, hnx⟩
end Go.Proofs.YtebnbjaaogfikaaGreatDoor
namespace Go.Proofs.YtebnbjaaogfikaaGreatDoor
open Go.RowKit Go.Lib
set_option linter.unusedSimpArgs false
set_option linter.unusedVariables false
/-- row y, whose values lie in block g, is a copy of row x -/
structure Cpy (w : World) (g : Nat) (x y : RowR) : Prop where
  nm : y.nm = x.nm
  st : y.st = x.st
  xs : y.xs = x.xs
  u : ∃ cap, y.u = .slice (some ⟨g, 0, none⟩) x.xs.length cap ∧ x.xs.length ≤ cap ∧ cap ≤ maxLen
  cells : ∃ cur, w.heap[g]? = some (.cells cur 3 (0, 0)) ∧ cur.toList.take x.xs.length = ints x.xs
/-- rows ys, with values in blocks gs, are copies of xs -/
structure Cps (w : World) (base : Nat) (xs : List RowR) (gs : List Nat) (ys : List RowR) : Prop where
  leny : ys.length = xs.length
  leng : gs.length = xs.length
  cpy : ∀ (i : Nat) (x y : RowR) (g : Nat), xs[i]? = some x → ys[i]? = some y → gs[i]? = some g → Cpy w g x y
  rng : ∀ g ∈ gs, base ≤ g ∧ g < w.heap.size
  apart : ∀ (i j g : Nat), gs[i]? = some g → gs[j]? = some g → i = j
theorem Cpy.gr {w w' : World} {g : Nat} {x y : RowR} (h : Cpy w g x y) (k : w'.heap[g]? = w.heap[g]?) : Cpy w' g x y := ⟨h.nm, h.st, h.xs, h.u, by obtain ⟨cur, h1, h2⟩ := h.cells; exact ⟨cur, by rw [k]; exact h1, h2⟩⟩
theorem Cps.nil (w : World) (base : Nat) : Cps w base [] [] [] := ⟨rfl, rfl, fun i x y g h => by simp at h, fun g h => by simp at h, fun i j g h => by simp at h⟩
theorem Cps.gr {w w' : World} {base : Nat} {xs ys : List RowR} {gs : List Nat} (h : Cps w base xs gs ys) (k : Gr w w') : Cps w' base xs gs ys :=
  ⟨h.leny, h.leng, fun i x y g hx hy hg => (h.cpy i x y g hx hy hg).gr (Below.block k g (h.rng g (List.mem_of_getElem? hg)).2), fun g hg => ⟨(h.rng g hg).1, Nat.lt_of_lt_of_le (h.rng g hg).2 k.size⟩, h.apart⟩
theorem take_get {α : Type} {xs : List α} {k i : Nat} {x : α} (h : (xs.take k)[i]? = some x) : xs[i]? = some x := by
  rw [List.getElem?_take] at h
  split at h
  · exact h
  · cases h
theorem Cps.block {w : World} {base : Nat} {xs ys : List RowR} {gs : List Nat} (h : Cps w base xs gs ys) {g : Nat} (hg : g ∈ gs) : ∃ cur, w.heap[g]? = some (.cells cur 3 (0, 0)) := by
  obtain ⟨i, hi⟩ := List.mem_iff_getElem?.1 hg
  have hl := (List.getElem?_eq_some_iff.1 hi).1
  have hx : i < xs.length := by rw [← h.leng]; exact hl
  have hy : i < ys.length := by rw [h.leny]; exact hx
  obtain ⟨cur, h1, _⟩ := (h.cpy i _ _ g (List.getElem?_eq_getElem hx) (List.getElem?_eq_getElem hy) hi).cells
  exact ⟨cur, h1⟩
theorem Cps.add {w w' : World} {base : Nat} {xs ys : List RowR} {gs : List Nat} (h : Cps w base xs gs ys) {x y : RowR} {g : Nat} (hold : ∀ g' ∈ gs, w'.heap[g']? = w.heap[g']?) (hs : w.heap.size ≤ w'.heap.size) (hc : Cpy w' g x y) (hg : w.heap.size ≤ g) (hb : base ≤ w.heap.size) :
    Cps w' base (xs ++ [x]) (gs ++ [g]) (ys ++ [y]) := by
  have hgl : g < w'.heap.size := by obtain ⟨cur, h1, _⟩ := hc.cells; exact (Array.getElem?_eq_some_iff.1 h1).1
  refine ⟨by simp [h.leny], by simp [h.leng], fun i x' y' g' hx hy hg' => ?_, fun g' hg' => ?_, fun i j g' hi hj => ?_⟩
  · by_cases hi : i < xs.length
    · rw [List.getElem?_append_left hi] at hx
      rw [List.getElem?_append_left (by rw [h.leny]; exact hi)] at hy
      rw [List.getElem?_append_left (by rw [h.leng]; exact hi)] at hg'
      exact (h.cpy i x' y' g' hx hy hg').gr (hold g' (List.mem_of_getElem? hg'))
    · have hl := (List.getElem?_eq_some_iff.1 hx).1
      simp only [List.length_append, List.length_cons, List.length_nil] at hl
      have e : i = xs.length := by omega
      subst e
      rw [List.getElem?_append_right (Nat.le_refl _), Nat.sub_self] at hx
      rw [List.getElem?_append_right (by rw [h.leny]; exact Nat.le_refl _), h.leny, Nat.sub_self] at hy
      rw [List.getElem?_append_right (by rw [h.leng]; exact Nat.le_refl _), h.leng, Nat.sub_self] at hg'
      simp only [List.getElem?_cons_zero, Option.some.injEq] at hx hy hg'
      subst hx hy hg'
      exact hc
  · rw [List.mem_append, List.mem_singleton] at hg'
    rcases hg' with hg' | rfl
    · exact ⟨(h.rng g' hg').1, Nat.lt_of_lt_of_le (h.rng g' hg').2 hs⟩
    · exact ⟨Nat.le_trans hb hg, hgl⟩
  · have key : ∀ i, (gs ++ [g])[i]? = some g' → (i < gs.length ∧ gs[i]? = some g' ∧ g' < w.heap.size) ∨ (i = gs.length ∧ g' = g) := fun i hi => by
      by_cases hl : i < gs.length
      · rw [List.getElem?_append_left hl] at hi
        exact .inl ⟨hl, hi, (h.rng g' (List.mem_of_getElem? hi)).2⟩
      · have hl2 := (List.getElem?_eq_some_iff.1 hi).1
        simp only [List.length_append, List.length_cons, List.length_nil] at hl2
        have e : i = gs.length := by omega
        subst e
        rw [List.getElem?_append_right (Nat.le_refl _), Nat.sub_self] at hi
        simp only [List.getElem?_cons_zero, Option.some.injEq] at hi
        exact .inr ⟨rfl, hi.symm⟩
    rcases key i hi with ⟨a, b, c⟩ | ⟨a, b⟩ <;> rcases key j hj with ⟨a', b', c'⟩ | ⟨a', b'⟩
    · exact h.apart i j g' b b'
    · omega
    · omega
    · omega
/-- an own row of integers that is not nil -/
theorem own_some {w : World} {base n : Nat} {v : Value} {xs : List Value} {T : TypeId} (h : w.ownsRow base T 1 v n xs) (hv : v ≠ .slice none 0 0) :
    ∃ g cap cur, v = .slice (some ⟨g, 0, none⟩) n cap ∧ base ≤ g ∧ n ≤ cap ∧ cap ≤ maxLen ∧ w.heap[g]? = some (.cells cur T (0, 0)) ∧ cur.toList.take n = xs := by
  rcases h.2 with ⟨rfl, _⟩ | ⟨g, cap, cur, rfl, hb, hg, hle, hmx, _, ht⟩
  · exact absurd rfl hv
  · exact ⟨g, cap, cur, rfl, hb, by omega, by omega, hg, by simpa using ht⟩
end Go.Proofs.YtebnbjaaogfikaaGreatDoor
namespace Go.Proofs.YtebnbjaaogfikaaGreatDoor
open Go.RowKit Go.Lib
set_option linter.unusedSimpArgs false
set_option linter.unusedVariables false
/-- a result without its place in memory: name, state, values -/
structure Bare where
  nm : ByteArray
  st : ByteArray
  xs : List Int
def bare (x : RowR) : Bare := ⟨x.nm, x.st, x.xs⟩
def cmpB (a b : Bare) : Int := ordZ a.st b.st a.xs b.xs
theorem cmpR_bare (x y : RowR) : cmpR x y = cmpB (bare x) (bare y) := rfl
def rankB (bs : List Bare) (b : Bare) : Int := 1 + (bs.countP fun c => decide (cmpB c b < 0) : Nat)
def ranksB (bs : List Bare) : List Int := bs.map (rankB bs)
theorem rankR_bare (xs : List RowR) (x : RowR) : rankR xs x = rankB (xs.map bare) (bare x) := by
  unfold rankR rankB
  rw [List.countP_map]
  rfl
theorem ranksL_bare (xs : List RowR) : ranksL xs = ranksB (xs.map bare) := by
  unfold ranksL ranksB
  rw [List.map_map]
  apply List.map_congr_left
  intro x _
  exact rankR_bare xs x
theorem ranksB_len (bs : List Bare) : (ranksB bs).length = bs.length := by simp [ranksB]
theorem ranksB_at {bs : List Bare} {i : Nat} {b : Bare} (h : bs[i]? = some b) : (ranksB bs)[i]? = some (rankB bs b) := by
  unfold ranksB; rw [List.getElem?_map, h]; rfl
theorem cmpB_flip (a b : Bare) : cmpB b a = - cmpB a b := cmpR_flip ⟨a.nm, a.st, undef, a.xs⟩ ⟨b.nm, b.st, undef, b.xs⟩
theorem cmpB_trans (a b c : Bare) (h1 : cmpB a b ≤ 0) (h2 : cmpB b c ≤ 0) : cmpB a c ≤ 0 := cmpR_trans ⟨a.nm, a.st, undef, a.xs⟩ ⟨b.nm, b.st, undef, b.xs⟩ ⟨c.nm, c.st, undef, c.xs⟩ h1 h2
theorem cmpB_self (a : Bare) : cmpB a a = 0 := by have := cmpB_flip a a; omega
theorem rankB_same {bs : List Bare} {a b : Bare} (h : cmpB a b = 0) : rankB bs a = rankB bs b := by
  unfold rankB
  congr 2
  apply List.countP_congr
  intro c _
  have f1 := cmpB_flip a b
  have t1 := cmpB_trans c a b
  have t2 := cmpB_trans c b a
  have t3 := cmpB_trans a b c
  have t4 := cmpB_trans b a c
  have f2 := cmpB_flip a c
  have f3 := cmpB_flip b c
  simp only [decide_eq_true_eq]
  constructor
  · intro h1
    by_cases h2 : cmpB c b < 0
    · exact h2
    · have := t4 (by omega) (by omega); omega
  · intro h1
    by_cases h2 : cmpB c a < 0
    · exact h2
    · have := t3 (by omega) (by omega); omega
theorem countP_strict {α : Type} {P Q : α → Bool} : ∀ (l : List α), (∀ x ∈ l, P x = true → Q x = true) → (∃ x ∈ l, P x = false ∧ Q x = true) → l.countP P < l.countP Q
  | [], _, h => by obtain ⟨x, hx, _⟩ := h; cases hx
  | y :: l, h, hx => by
    have hle := List.countP_mono_left (l := l) (p := P) (q := Q) (fun x hx => h x (List.mem_cons_of_mem _ hx))
    rw [List.countP_cons, List.countP_cons]
    obtain ⟨x, hm, hp, hq⟩ := hx
    rcases List.mem_cons.1 hm with rfl | hm
    · rw [hp, hq]; simp; omega
    · have := countP_strict l (fun x hx => h x (List.mem_cons_of_mem _ hx)) ⟨x, hm, hp, hq⟩
      have h0 := h y (by simp)
      cases hpy : P y <;> cases hqy : Q y <;> simp_all <;> omega
theorem rankB_less {bs : List Bare} {a b : Bare} (ha : a ∈ bs) (h : cmpB a b < 0) : rankB bs a < rankB bs b := by
  unfold rankB
  have := countP_strict (P := fun c => decide (cmpB c a < 0)) (Q := fun c => decide (cmpB c b < 0)) bs (fun c _ hc => by
    have hc' : cmpB c a < 0 := by simpa using hc
    have t1 := cmpB_trans c a b (by omega) (by omega)
    have t2 := cmpB_trans b c a
    have f1 := cmpB_flip a b
    have f2 := cmpB_flip b c
    have t3 := cmpB_trans b c a
    by_cases h2 : cmpB c b < 0
    · simpa using h2
    · have := t3 (by omega) (by omega); omega) ⟨a, ha, by rw [cmpB_self]; rfl, by simpa using h⟩
  omega
/-- ranks agree with comparisons -/
theorem rankB_iff {bs : List Bare} {a b : Bare} (ha : a ∈ bs) (hb : b ∈ bs) : (decide (cmpB a b < 0) = decide (rankB bs a < rankB bs b)) ∧ (decide (cmpB a b = 0) = decide (rankB bs a = rankB bs b)) := by
  have f := cmpB_flip a b
  rcases Int.lt_trichotomy (cmpB a b) 0 with h | h | h
  · have := rankB_less (bs := bs) ha h
    exact ⟨by rw [decide_eq_true h, decide_eq_true this], by rw [decide_eq_false (by omega), decide_eq_false (by omega)]⟩
  · have := rankB_same (bs := bs) h
    exact ⟨by rw [decide_eq_false (by omega), decide_eq_false (by omega)], by rw [decide_eq_true h, decide_eq_true this]⟩
  · have := rankB_less (bs := bs) (a := b) (b := a) hb (by omega)
    exact ⟨by rw [decide_eq_false (by omega), decide_eq_false (by omega)], by rw [decide_eq_false (by omega), decide_eq_false (by omega)]⟩
theorem rankB_perm {bs cs : List Bare} (h : bs.Perm cs) (b : Bare) : rankB bs b = rankB cs b := by
  unfold rankB; rw [h.countP_eq]
theorem ranksB_rev (bs : List Bare) : ranksB bs.reverse = (ranksB bs).reverse := by
  unfold ranksB
  rw [List.map_reverse]
  congr 1
  apply List.map_congr_left
  intro b _
  exact rankB_perm (List.reverse_perm bs) b
/-- a round without an error -/
structure ValidB (bs : List Bare) : Prop where
  each : ∀ b ∈ bs, resE b.nm b.st b.xs = 0
  apart : (bs.map fun b => b.nm.toList).Nodup
  even : ∀ b ∈ bs, ∀ c ∈ bs, b.st.toList.isEmpty = true → c.st.toList.isEmpty = true → b.xs.length = c.xs.length
theorem rowFrom_zero_of {xs : List RowR} {fz : Int} (h : ∀ (i : Nat) (x : RowR), xs[i]? = some x → rowE xs fz i x = 0) : ∀ k i, rowFrom xs fz k i = 0
  | 0, _ => rfl
  | k + 1, i => by
    simp only [rowFrom]
    cases hx : xs[i]? with
    | none => rfl
    | some x => simp only [h i x hx]; simpa using rowFrom_zero_of h k (i + 1)
theorem rowE_zero {xs : List RowR} {fz : Int} : ∀ (k i : Nat), rowFrom xs fz k i = 0 → ∀ (j : Nat) (x : RowR), i ≤ j → j < i + k → xs[j]? = some x → rowE xs fz j x = 0
  | 0, i, _, j, x, h1, h2, _ => by omega
  | k + 1, i, h, j, x, h1, h2, hx => by
    simp only [rowFrom] at h
    cases hxi : xs[i]? with
    | none => 
      have := List.getElem?_eq_none_iff.1 hxi
      have := (List.getElem?_eq_some_iff.1 hx).1
      omega
    | some y =>
      rw [hxi] at h
      simp only at h
      by_cases h0 : rowE xs fz i y = 0
      · rw [if_pos h0] at h
        by_cases hji : j = i
        · subst hji; rw [hx] at hxi; cases hxi; exact h0
        · exact rowE_zero k (i + 1) h j x (by omega) (by omega) hx
      · rw [if_neg h0] at h; exact absurd h h0
theorem rowE_parts {xs : List RowR} {fz : Int} {i : Nat} {x : RowR} : rowE xs fz i x = 0 ↔ resE x.nm x.st x.xs = 0 ∧ dupR xs i x.nm = false ∧ (if (if decide (0 ≤ fz) then !fitFirst xs fz x else false) then (2 : Int) else 0) = 0 := by
  unfold rowE
  generalize resE x.nm x.st x.xs = a
  generalize (if (if decide (0 ≤ fz) then !fitFirst xs fz x else false) then (2 : Int) else 0) = c
  cases dupR xs i x.nm <;> simp only [firstE] <;> by_cases ha : a = 0 <;> by_cases hc : c = 0 <;> simp [ha, hc]
theorem valid_of_zero {xs : List RowR} (h : rowFrom xs (firstV xs) xs.length 0 = 0) : ValidB (xs.map bare) := by
  have hz := fun j x (hx : xs[j]? = some x) => rowE_parts.1 (rowE_zero xs.length 0 h j x (Nat.zero_le _) (by have := (List.getElem?_eq_some_iff.1 hx).1; omega) hx)
  refine ⟨fun b hb => ?_, ?_, fun b hb c hc hbs hcs => ?_⟩
  · obtain ⟨x, hx, rfl⟩ := List.mem_map.1 hb
    obtain ⟨j, hj⟩ := List.mem_iff_getElem?.1 hx
    exact (hz j x hj).1
  · rw [List.map_map]
    unfold List.Nodup
    rw [List.pairwise_iff_getElem]
    intro i j hi hj hij
    simp only [List.length_map] at hi hj
    simp only [List.getElem_map, Function.comp, bare]
    have hd := (hz j _ (List.getElem?_eq_getElem hj)).2.1
    unfold dupR at hd
    rw [List.any_eq_false] at hd
    have := hd xs[i] (List.mem_iff_getElem?.2 ⟨i, by rw [List.getElem?_take, if_pos hij]; exact List.getElem?_eq_getElem hi⟩)
    simpa using this
  · obtain ⟨x, hx, rfl⟩ := List.mem_map.1 hb
    obtain ⟨y, hy, rfl⟩ := List.mem_map.1 hc
    rcases firstP_spec hasV xs xs.length 0 (by omega) with ⟨e, hh⟩ | ⟨f, e, h1, h2, ⟨q, hq, hqv⟩, h4⟩
    · obtain ⟨j, hj⟩ := List.mem_iff_getElem?.1 hx
      have := hh j x (by omega) (by have := (List.getElem?_eq_some_iff.1 hj).1; omega) hj
      have hbs' : hasV x = true := hbs
      rw [this] at hbs'; cases hbs'
    · have key : ∀ z ∈ xs, z.st.toList.isEmpty = true → z.xs.length = q.xs.length := fun z hz' hzs => by
        obtain ⟨j, hj⟩ := List.mem_iff_getElem?.1 hz'
        have h3 := (hz j z hj).2.2
        have e' : firstV xs = f := e
        rw [e'] at h3
        have hfit : fitFirst xs (f : Int) z = fitB q.st z.st q.xs z.xs := by unfold fitFirst; rw [Int.toNat_natCast, hq]
        rw [hfit] at h3
        have hqs : q.st.toList.isEmpty = true := hqv
        unfold fitB at h3
        rw [hqs, hzs] at h3
        by_cases hl : q.xs.length = z.xs.length
        · exact hl.symm
        · have hl4 : ¬ (q.xs.length : Int) = z.xs.length := by omega
          simp [hl, hl4] at h3
      have e1 := key x hx hbs
      have e2 := key y hy hcs
      show x.xs.length = y.xs.length
      omega
theorem zero_of_valid {xs : List RowR} (h : ValidB (xs.map bare)) : rowFrom xs (firstV xs) xs.length 0 = 0 := by
  apply rowFrom_zero_of
  intro i x hx
  have hil := (List.getElem?_eq_some_iff.1 hx).1
  have hm : bare x ∈ xs.map bare := List.mem_map.2 ⟨x, List.mem_of_getElem? hx, rfl⟩
  refine rowE_parts.2 ⟨h.each _ hm, ?_, ?_⟩
  · unfold dupR
    rw [List.any_eq_false]
    intro y hy
    obtain ⟨j, hj⟩ := List.mem_iff_getElem?.1 hy
    have hji := (List.getElem?_eq_some_iff.1 hj).1
    rw [List.length_take] at hji
    rw [List.getElem?_take, if_pos (by omega)] at hj
    have hp := h.apart
    rw [List.map_map] at hp
    unfold List.Nodup at hp
    rw [List.pairwise_iff_getElem] at hp
    have := hp j i (by simp; omega) (by simp; omega) (by omega)
    simp only [List.getElem_map, Function.comp, bare] at this
    have e1 := (List.getElem?_eq_some_iff.1 hj).2
    have e2 := (List.getElem?_eq_some_iff.1 hx).2
    rw [e1, e2] at this
    simpa using this
  · rcases firstP_spec hasV xs xs.length 0 (by omega) with ⟨e, hh⟩ | ⟨f, e, h1, h2, ⟨q, hq, hqv⟩, h4⟩
    · have e' : firstV xs = -1 := e
      rw [e']; simp
    · have e' : firstV xs = f := e
      rw [e']
      have hfit : fitFirst xs (f : Int) x = fitB q.st x.st q.xs x.xs := by unfold fitFirst; rw [Int.toNat_natCast, hq]
      rw [hfit]
      unfold fitB
      cases hxs : x.st.toList.isEmpty
      · simp
      · have := h.even (bare q) (List.mem_map.2 ⟨q, List.mem_of_getElem? hq, rfl⟩) (bare x) hm hqv hxs
        have this' : q.xs.length = x.xs.length := this
        rw [this']; simp
theorem ValidB.rev {bs : List Bare} (h : ValidB bs) : ValidB bs.reverse :=
  ⟨fun b hb => h.each b (List.mem_reverse.1 hb), by rw [List.map_reverse]; exact (List.reverse_perm _).nodup_iff.2 h.apart, fun b hb c hc => h.even b (List.mem_reverse.1 hb) c (List.mem_reverse.1 hc)⟩
end Go.Proofs.YtebnbjaaogfikaaGreatDoor
