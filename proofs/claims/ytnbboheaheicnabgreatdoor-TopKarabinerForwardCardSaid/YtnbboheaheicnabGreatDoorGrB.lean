/- The reference's grade. -/
import Derived.Test.YtnbboheaheicnabGreatDoorResG
import Derived.Test.YtnbboheaheicnabGreatDoorCmpG
import Derived.Test.YtnbboheaheicnabGreatDoorRkCDE
namespace Go.Proofs.YtnbboheaheicnabGreatDoor
open Go.RowKit Go.Lib
set_option linter.unusedSimpArgs false
set_option linter.unusedVariables false
set_option maxHeartbeats 1000000 in
set_option maxRecDepth 100000 in
theorem grade_c (s : ByteArray) (w : World) :
    Calls Tryz.prog 64 #[.string s] w fun e w' => e = .returned (.int .i64 (gradeZ s.toList)) ∧ w = w' := by
  have HG : ∀ z, gradeZ s.toList = z → Hid (gradeZ s.toList = z) := fun z h => h
  rcases grade_of s.toList with h | h | h | h | ⟨h0, h1, h2, h3⟩
  · replace HG := HG 0 (by rw [h]; rfl)
    go_enter Tryz.func64, Tryz.ntmps64
    go_wp2_with fail
    go_ret
    exact ⟨by rw [HG.out]; rfl, rfl⟩
  · replace HG := HG 1 (by rw [h]; rfl)
    go_enter Tryz.func64, Tryz.ntmps64
    go_wp2_with fail
    go_ret
    exact ⟨by rw [HG.out]; rfl, rfl⟩
  · replace HG := HG 2 (by rw [h]; rfl)
    go_enter Tryz.func64, Tryz.ntmps64
    go_wp2_with fail
    go_ret
    exact ⟨by rw [HG.out]; rfl, rfl⟩
  · replace HG := HG 3 (by rw [h]; rfl)
    go_enter Tryz.func64, Tryz.ntmps64
    go_wp2_with fail
    go_ret
    exact ⟨by rw [HG.out]; rfl, rfl⟩
  · replace HG := HG (-1) (gradeZ_other h0 h1 h2 h3)
    go_enter Tryz.func64, Tryz.ntmps64
    go_wp2_with fail
    go_ret
    exact ⟨by rw [HG.out]; rfl, rfl⟩
end Go.Proofs.YtnbboheaheicnabGreatDoor
namespace Go.Proofs.YtnbboheaheicnabGreatDoor
open Go.RowKit Go.Lib
set_option linter.unusedSimpArgs false
set_option linter.unusedVariables false
theorem gradeZ_neg (l : List UInt8) : decide (gradeZ l < 0) = (gradeZ l == -1) := by
  unfold gradeZ
  split
  · rfl
  split
  · rfl
  split
  · rfl
  split
  · rfl
  · rfl
theorem resE_eq (c s : ByteArray) (xs : List Int) : resE c s xs = if !decide (Nm c) then 8 else if gradeZ s.toList == -1 then 13 else if !s.toList.isEmpty && decide (0 < xs.length) then 1 else if decide ((8 : Int) < xs.length) then 5 else valsE xs := by
  unfold resE firstE firstE firstE firstE firstE
  cases decide (Nm c) <;> cases gradeZ s.toList == -1 <;> cases (!s.toList.isEmpty && decide (0 < xs.length)) <;> cases decide ((8 : Int) < xs.length) <;> simp [firstE] <;> exact fun h => h.symm
set_option maxHeartbeats 1000000 in
set_option maxRecDepth 100000 in
theorem refCheck_c (c s : ByteArray) (v : Value) (xs : List Int) (w : World) (h : IntsV w v xs) :
    Calls Tryz.prog 33 #[resV c s v] w fun e w' => e = .returned (.int .i64 (resE c s xs)) ∧ Gr w w' := by
  unfold resV
  have hR := resE_eq c s xs
  have hN := fun W => refIsName_c c W
  have hB := fun W => grade_c s W
  obtain ⟨p, cap, rfl, hh⟩ := h.out
  obtain ⟨W, hW, g, a0, a1, a2⟩ := box3 w (.string c) (.string s) (.slice p xs.length cap) 33
  have hgn := gradeZ_neg s.toList
  generalize gradeZ s.toList = z at *
  cases h1 : decide (Nm c)
  · rw [h1] at hR hN
    have HR := Lib.hid hR
    have HN := Lib.hid hN
    have HB := Lib.hid hB
    have HW := Lib.hid hW
    clear hR hN hB hW hh
    go_enter Tryz.func33, Tryz.ntmps33
    go_wp2_with fail
    rw [HW.out]
    refine (HN.out _).mono ?_
    rintro e w4 ⟨rfl, rfl⟩
    go_wp2_with fail
    go_ret
    exact ⟨by rw [HR.out]; rfl, g⟩
  rw [h1] at hR hN
  clear h1
  cases h2 : (z == -1)
  case true =>
    rw [h2] at hR hgn
    have HR := Lib.hid hR
    have HN := Lib.hid hN
    have HB := Lib.hid hB
    have HW := Lib.hid hW
    clear hR hN hB hW hh
    go_enter Tryz.func33, Tryz.ntmps33
    go_wp2_with fail
    rw [HW.out]
    refine (HN.out _).mono ?_
    rintro e w4 ⟨rfl, rfl⟩
    go_wp2_with fail
    refine (HB.out _).mono ?_
    rintro e w4 ⟨rfl, rfl⟩
    go_wp2_with fail
    go_ret
    exact ⟨by rw [HR.out]; rfl, g⟩
  rw [h2] at hR hgn
  cases hE : s.toList.isEmpty
  · rw [hE] at hR
    have hE2 : ¬ s.toList = [] := by intro e; rw [e] at hE; cases hE
    by_cases hl : 0 < xs.length
    · rw [decide_eq_true hl] at hR
      have HR := Lib.hid hR
      have HN := Lib.hid hN
      have HB := Lib.hid hB
      have HW := Lib.hid hW
      clear hR hN hB hW hh
      go_enter Tryz.func33, Tryz.ntmps33
      go_wp2_with fail
      rw [HW.out]
      refine (HN.out _).mono ?_
      rintro e w4 ⟨rfl, rfl⟩
      go_wp2_with fail
      refine (HB.out _).mono ?_
      rintro e w4 ⟨rfl, rfl⟩
      go_wp2_with fail
      go_ret
      exact ⟨by rw [HR.out]; rfl, g⟩
    · rw [decide_eq_false hl] at hR
      have hx : xs = [] := List.eq_nil_of_length_eq_zero (by omega)
      subst hx
      replace hW : w.alloc (.cells #[.string c, .string s, .slice p 0 cap] 33) = W := hW
      replace a2 : W.cell? ⟨w.heap.size, 2, none⟩ = some (.slice p 0 cap) := a2
      clear hh
      have HR := Lib.hid hR
      have HN := Lib.hid hN
      have HB := Lib.hid hB
      have HW := Lib.hid hW
      clear hR hN hB hW
      go_enter Tryz.func33, Tryz.ntmps33
      go_wp2_with fail
      rw [HW.out]
      refine (HN.out _).mono ?_
      rintro e w4 ⟨rfl, rfl⟩
      go_wp2_with fail
      refine (HB.out _).mono ?_
      rintro e w4 ⟨rfl, rfl⟩
      go_wp2_with fail
      refine wp_loop_rounds 1 ?_
      rw [rounds_succ]
      go_wp2_with fail
      go_ret
      exact ⟨by rw [HR.out]; rfl, g⟩
  · rw [hE] at hR
    have hE2 : s.toList = [] := by cases hq : s.toList with | nil => rfl | cons _ _ => rw [hq] at hE; cases hE
    rcases Nat.lt_or_ge 8 xs.length with hl | hl
    · rw [decide_eq_true (show (8 : Int) < xs.length by omega)] at hR
      clear hh
      have HR := Lib.hid hR
      have HN := Lib.hid hN
      have HB := Lib.hid hB
      have HW := Lib.hid hW
      clear hR hN hB hW
      go_enter Tryz.func33, Tryz.ntmps33
      go_wp2_with fail
      rw [HW.out]
      refine (HN.out _).mono ?_
      rintro e w4 ⟨rfl, rfl⟩
      go_wp2_with fail
      refine (HB.out _).mono ?_
      rintro e w4 ⟨rfl, rfl⟩
      go_wp2_with fail
      go_ret
      exact ⟨by rw [HR.out]; rfl, g⟩
    · rw [decide_eq_false (show ¬ (8 : Int) < xs.length by omega)] at hR
      by_cases h0 : 0 < xs.length
      · obtain ⟨b, off, rfl, hc⟩ := hh h0
        have HC := Lib.hid (fun i x hx => g.cell (hc i x hx))
        have HLn := Lib.hid (rfl : xs.length = xs.length)
        clear hh hc h
        generalize hn : xs.length = n at *
        have HN2 := Lib.hid hn
        clear hn HLn
        have HR := Lib.hid hR
        have HN := Lib.hid hN
        have HB := Lib.hid hB
        have HW := Lib.hid hW
        clear hR hN hB hW
        go_enter Tryz.func33, Tryz.ntmps33
        go_wp2_with fail
        rw [HW.out]
        refine (HN.out _).mono ?_
        rintro e w4 ⟨rfl, rfl⟩
        go_wp2_with fail
        refine (HB.out _).mono ?_
        rintro e w4 ⟨rfl, rfl⟩
        go_wp2_with fail
        go_loopg [3] n (fun g s3 wr => ∃ k : Nat, s3 = .int .i64 k ∧ g + k = n ∧ wr = W ∧ Hid (valsE (xs.drop k) = valsE xs))
        case atStart => exact ⟨0, rfl, by omega, rfl, by simp [Hid]⟩
        case round =>
          obtain ⟨k, rfl, hk, rfl, HF⟩ := hrel
          by_cases hlt : k < n
          · obtain ⟨x, hx⟩ : ∃ x, xs[k]? = some x := ⟨xs[k]'(by have := HN2.out; omega), List.getElem?_eq_getElem _⟩
            have hcell := HC.out k x hx
            have hf := valsE_drop hx
            clear hx
            cases q1 : decide (x < -999999999) <;> cases q2 : decide (999999999 < x)
            all_goals
              have ho : outE x (-999999999) 999999999 = if (decide (x < -999999999) || decide (999999999 < x)) then 3 else 0 := rfl
              rw [q1, q2] at ho
              simp only [Bool.or_true, Bool.or_false, Bool.false_eq_true, if_false, if_true] at ho
              rw [ho] at hf
              first
                | (rw [if_pos rfl] at hf
                   have HF2 := Lib.hid hf
                   clear hf ho
                   go_wp2_with fail
                   go_roundg (gk - 1)
                   case measure => omega
                   case rel => exact ⟨k + 1, by go_num, by omega, rfl, by unfold Hid; rw [← HF2.out, HF.out]⟩)
                | (rw [if_neg (by decide)] at hf
                   have HF2 := Lib.hid hf
                   clear hf ho
                   go_wp2_with fail
                   go_ret
                   exact ⟨by rw [HR.out, ← HF.out, HF2.out]; rfl, g⟩)
          · have : xs.drop k = [] := List.drop_of_length_le (by have := HN2.out; omega)
            have HE : Hid (valsE xs = 0) := by unfold Hid; rw [← HF.out, this]; rfl
            clear this
            go_wp2_with fail
            go_ret
            exact ⟨by rw [HR.out, HE.out]; rfl, g⟩
      · have hx : xs = [] := List.eq_nil_of_length_eq_zero (by omega)
        subst hx
        replace hW : w.alloc (.cells #[.string c, .string s, .slice p 0 cap] 33) = W := hW
        replace a2 : W.cell? ⟨w.heap.size, 2, none⟩ = some (.slice p 0 cap) := a2
        clear hh
        have HR := Lib.hid hR
        have HN := Lib.hid hN
        have HB := Lib.hid hB
        have HW := Lib.hid hW
        clear hR hN hB hW
        go_enter Tryz.func33, Tryz.ntmps33
        go_wp2_with fail
        rw [HW.out]
        refine (HN.out _).mono ?_
        rintro e w4 ⟨rfl, rfl⟩
        go_wp2_with fail
        refine (HB.out _).mono ?_
        rintro e w4 ⟨rfl, rfl⟩
        go_wp2_with fail
        refine wp_loop_rounds 1 ?_
        rw [rounds_succ]
        go_wp2_with fail
        go_ret
        exact ⟨by rw [HR.out]; rfl, g⟩
end Go.Proofs.YtnbboheaheicnabGreatDoor
namespace Go.Proofs.YtnbboheaheicnabGreatDoor
open Go.RowKit Go.Lib
set_option linter.unusedSimpArgs false
set_option linter.unusedVariables false
theorem gradeZ_pos {l : List UInt8} (h : l.isEmpty = false) (h1 : (gradeZ l == -1) = false) : 0 < gradeZ l := by
  unfold gradeZ at *
  split
  · rename_i e; rw [e] at h; cases h
  split
  · decide
  split
  · decide
  split
  · decide
  · rename_i h2 h3 h4 h5
    rw [if_neg h2, if_neg h3, if_neg h4, if_neg h5] at h1
    cases h1
/-- a result without an error -/
theorem resE_zero {c s : ByteArray} {xs : List Int} (h : resE c s xs = 0) : (gradeZ s.toList == -1) = false ∧ (s.toList.isEmpty = false → xs = []) := by
  rw [resE_eq] at h
  split at h
  · cases h
  split at h
  · cases h
  split at h
  · cases h
  rename_i h1 h2
  refine ⟨by simpa using h1, fun he => ?_⟩
  rw [he] at h2
  simp at h2
  exact h2
theorem gradeZ_nil {l : List UInt8} (h : l.isEmpty = true) : gradeZ l = 0 := by
  cases l with
  | nil => rfl
  | cons _ _ => cases h
theorem cmpZ_pos {a b : Int} (h : a ≠ b) : cmpZ a b ≠ 0 := fun e => h (cmpZ_zero e)
end Go.Proofs.YtnbboheaheicnabGreatDoor
namespace Go.Proofs.YtnbboheaheicnabGreatDoor
open Go.RowKit Go.Lib
set_option linter.unusedSimpArgs false
set_option linter.unusedVariables false
set_option maxHeartbeats 1000000 in
set_option maxRecDepth 100000 in
theorem refFind_pos (xs : List RowR) (n b off cap : Nat) (nm : ByteArray) (w : World) (hn : n ≤ xs.length) (h1 : n ≤ 1000) (hc : ∀ i x, xs[i]? = some x → RowAt w b (off + i * 3) x) :
    Calls Tryz.prog 34 #[.slice (some ⟨b, off, none⟩) n cap, .string nm] w fun e w' => e = .returned (.int .i64 (firstP (isNm nm) xs n 0)) ∧ w = w' := by
  have HC := Lib.hid hc
  have HX := Lib.hid (fun k (h : k < n) => (show ∃ x, xs[k]? = some x from ⟨xs[k]'(by omega), List.getElem?_eq_getElem _⟩))
  have HS := Lib.hid (fun i x (h : xs[i]? = some x) (hi : i < n) => firstP_step (Q := isNm nm) h hi)
  have HE := Lib.hid (fun i (h : n ≤ i) => firstP_end (Q := isNm nm) (xs := xs) h)
  have HQ : Hid (∀ x : RowR, isNm nm x = (x.nm.toList == nm.toList)) := fun x => rfl
  clear hc hn
  generalize firstP (isNm nm) xs = F at *
  go_enter Tryz.func34, Tryz.ntmps34
  go_wp2_with fail
  go_loopg [5] n (fun gk s5 wr => ∃ i : Nat, s5 = .int .i64 i ∧ gk + i = n ∧ wr = w ∧ Hid (F (n - i) i = F n 0))
  case atStart => exact ⟨0, rfl, by omega, rfl, by simp [Hid]⟩
  case round =>
    obtain ⟨i, rfl, hi, rfl, HF⟩ := hrel
    by_cases hlt : i < n
    · obtain ⟨x, hx⟩ := HX.out i hlt
      obtain ⟨c0, c1, c2, hv, _⟩ := HC.out i x hx
      have hst := HS.out i x hx hlt
      have hi2 : (i : Int) < n := by omega
      rw [HQ.out] at hst
      cases hh : (x.nm.toList == nm.toList)
      · rw [hh] at hst
        have HST := Lib.hid hst
        have hne : ¬ x.nm.toList = nm.toList := by simpa using hh
        clear hst hx
        go_wp2_with fail
        go_roundg (gk - 1)
        case measure => omega
        case rel => exact ⟨i + 1, by go_num, by omega, rfl, by have := HF.out; rw [HST.out] at this; simpa [Hid] using this⟩
      · rw [hh] at hst
        have HST := Lib.hid hst
        have hne : x.nm.toList = nm.toList := by simpa using hh
        clear hst hx
        go_wp2_with fail
        go_ret
        have q : F n 0 = i := by have := HF.out; rw [HST.out] at this; simpa using this.symm
        exact ⟨by rw [q]; rfl, rfl⟩
    · obtain rfl : i = n := by omega
      have := HF.out
      rw [HE.out i (Nat.le_refl _)] at this
      have HT := Lib.hid this
      clear this
      go_wp2_with fail
      go_ret
      exact ⟨by rw [← HT.out]; rfl, rfl⟩
theorem fitB_same (x : RowR) : fitB x.st x.st x.xs x.xs = true := by unfold fitB; simp
/-- what the reference holds: the number of values of the first result with values, once it has been met -/
def zOf (xs : List RowR) (fz : Int) (i : Nat) : Int := if 0 ≤ fz ∧ fz < i then (match xs[fz.toNat]? with | some f => (f.xs.length : Int) | none => -1) else -1
theorem firstP_spec (Q : RowR → Bool) (xs : List RowR) : ∀ (k i : Nat), i + k ≤ xs.length →
    (firstP Q xs k i = -1 ∧ ∀ (j : Nat) (x : RowR), i ≤ j → j < i + k → xs[j]? = some x → Q x = false) ∨
    (∃ f : Nat, firstP Q xs k i = f ∧ i ≤ f ∧ f < i + k ∧ (∃ x, xs[f]? = some x ∧ Q x = true) ∧ ∀ (j : Nat) (x : RowR), i ≤ j → j < f → xs[j]? = some x → Q x = false)
  | 0, i, h => .inl ⟨rfl, fun j x h1 h2 => by omega⟩
  | k + 1, i, h => by
    have hi : i < xs.length := by omega
    have hx := List.getElem?_eq_getElem hi
    generalize xs[i] = x at hx
    simp only [firstP, hx]
    cases hq : Q x
    · rw [if_neg (by simp)]
      rcases firstP_spec Q xs k (i + 1) (by omega) with ⟨e, hh⟩ | ⟨f, e, h1, h2, h3, h4⟩
      · refine .inl ⟨e, fun j y hj1 hj2 hy => ?_⟩
        by_cases hji : j = i
        · subst hji; rw [hx] at hy; cases hy; exact hq
        · exact hh j y (by omega) (by omega) hy
      · refine .inr ⟨f, e, by omega, by omega, h3, fun j y hj1 hj2 hy => ?_⟩
        by_cases hji : j = i
        · subst hji; rw [hx] at hy; cases hy; exact hq
        · exact h4 j y (by omega) hj2 hy
    · rw [if_pos rfl]
      exact .inr ⟨i, rfl, Nat.le_refl _, by omega, ⟨x, hx, hq⟩, fun j y h1 h2 => by omega⟩
/-- the reference's and the program's error of a result behind the first two tests -/
theorem row_third {xs : List RowR} {i : Nat} {x : RowR} (hx : xs[i]? = some x) :
    (hasV x = false → (if (if decide (0 ≤ firstV xs) then !fitFirst xs (firstV xs) x else false) then (2 : Int) else 0) = 0 ∧ zOf xs (firstV xs) (i + 1) = zOf xs (firstV xs) i) ∧
    (hasV x = true → zOf xs (firstV xs) i = -1 → (if (if decide (0 ≤ firstV xs) then !fitFirst xs (firstV xs) x else false) then (2 : Int) else 0) = 0 ∧ zOf xs (firstV xs) (i + 1) = x.xs.length) ∧
    (hasV x = true → zOf xs (firstV xs) i ≠ -1 → (if (if decide (0 ≤ firstV xs) then !fitFirst xs (firstV xs) x else false) then (2 : Int) else 0) = (if (x.xs.length : Int) = zOf xs (firstV xs) i then 0 else 2) ∧ zOf xs (firstV xs) (i + 1) = zOf xs (firstV xs) i ∧ 0 ≤ zOf xs (firstV xs) i) := by
  have hil := (List.getElem?_eq_some_iff.1 hx).1
  rcases firstP_spec hasV xs xs.length 0 (by omega) with ⟨e, hh⟩ | ⟨f, e, h1, h2, ⟨y, hy, hq⟩, h4⟩
  · have e' : firstV xs = -1 := e
    have hv := hh i x (by omega) (by omega) hx
    rw [e']
    refine ⟨fun _ => ⟨by simp, by unfold zOf; simp⟩, fun h => (by rw [hv] at h; cases h), fun h => (by rw [hv] at h; cases h)⟩
  · have e' : firstV xs = f := e
    rw [e']
    have hfit : fitFirst xs (f : Int) x = fitB y.st x.st y.xs x.xs := by unfold fitFirst; rw [Int.toNat_natCast, hy]
    have h0 : decide ((0 : Int) ≤ f) = true := by simp
    have hz : ∀ j : Nat, zOf xs (f : Int) j = if f < j then (y.xs.length : Int) else -1 := fun j => by
      unfold zOf
      rw [Int.toNat_natCast, hy]
      by_cases hj : f < j
      · rw [if_pos ⟨by omega, by omega⟩, if_pos hj]
      · rw [if_neg (by omega), if_neg hj]
    have hys : y.st.toList.isEmpty = true := hq
    rw [h0, hfit, hz, hz]
    refine ⟨fun hv => ?_, fun hv hzz => ?_, fun hv hzz => ?_⟩
    · have hxs : x.st.toList.isEmpty = false := hv
      have hne : f ≠ i := fun e => by subst e; rw [hx] at hy; cases hy; rw [hv] at hq; cases hq
      refine ⟨by unfold fitB; rw [hxs]; simp, ?_⟩
      by_cases hj : f < i
      · rw [if_pos hj, if_pos (by omega)]
      · rw [if_neg hj, if_neg (by omega)]
    · have hxs : x.st.toList.isEmpty = true := hv
      have hnlt : ¬ f < i := fun hj => by rw [if_pos hj] at hzz; omega
      have hfi : f = i := by
        rcases Nat.lt_or_ge i f with h | h
        · have := h4 i x (by omega) h hx
          rw [hv] at this; cases this
        · omega
      subst hfi
      rw [hx] at hy
      cases hy
      refine ⟨by rw [fitB_same]; simp, by rw [if_pos (show f < f + 1 by omega)]⟩
    · have hxs : x.st.toList.isEmpty = true := hv
      by_cases hj : f < i
      · rw [if_pos hj, if_pos (show f < i + 1 by omega)]
        refine ⟨?_, rfl, by omega⟩
        unfold fitB
        rw [hys, hxs]
        by_cases hl : x.xs.length = y.xs.length
        · simp [hl]
        · have hl2 : ¬ y.xs.length = x.xs.length := fun e => hl e.symm
          have hl3 : ¬ (x.xs.length : Int) = y.xs.length := by omega
          have hl4 : ¬ (y.xs.length : Int) = x.xs.length := by omega
          simp [hl, hl2, hl3, hl4]
      · rw [if_neg hj] at hzz
        exact absurd rfl hzz
set_option maxHeartbeats 2000000 in
set_option maxRecDepth 100000 in
theorem refRound_pos (xs : List RowR) (n b off cap : Nat) (w : World) (hn : xs.length = n) (h1 : n ≤ 160) (hcap : n ≤ cap) (hmx : cap ≤ maxLen) (hc : ∀ i x, xs[i]? = some x → RowAt w b (off + i * 3) x) :
    Calls Tryz.prog 14 #[.slice (some ⟨b, off, none⟩) n cap] w fun e w' => e = .returned (.int .i64 (rowFrom xs (firstV xs) n 0)) ∧ Gr w w' := by
  have HC := Lib.hid hc
  have HX := Lib.hid (fun k (h : k < n) => (show ∃ x, xs[k]? = some x from ⟨xs[k]'(by omega), List.getElem?_eq_getElem _⟩))
  have HS := Lib.hid (fun i x (hi : i < n) (h : xs[i]? = some x) => rowFrom_step (fz := firstV xs) hi h)
  have HR := Lib.hid (fun i x => (show rowE xs (firstV xs) i x = firstE [resE x.nm x.st x.xs, if dupR xs i x.nm then 9 else 0, if (if decide (0 ≤ firstV xs) then !fitFirst xs (firstV xs) x else false) then 2 else 0] from rfl))
  have HT := Lib.hid (fun i x (h : xs[i]? = some x) => row_third h)
  have HD := Lib.hid (fun (i : Nat) (nm : ByteArray) (h : i ≤ n) => (show decide (0 ≤ firstP (isNm nm) xs i 0) = dupR xs i nm from by rw [firstP_any (isNm nm) xs i 0 (by omega)]; rfl))
  have HF := Lib.hid (fun (i cap : Nat) (nm : ByteArray) (W : World) (g : Gr w W) (hi : i ≤ n) => refFind_pos xs i b off cap nm W (by omega) (by omega) (fun i x hx => (hc i x hx).gr g))
  have HK := Lib.hid (fun (x : RowR) (W : World) (hv : IntsV W x.u x.xs) => refCheck_c x.nm x.st x.u x.xs W hv)
  have HZ : Hid (zOf xs (firstV xs) 0 = -1) := by unfold Hid zOf; rw [if_neg (by omega)]
  have HE : Hid (rowFrom xs (firstV xs) 0 n = 0) := rfl
  have hz2 : decide ((160 : Int) < n) = false := decide_eq_false (by omega)
  clear hc
  generalize zOf xs (firstV xs) = zz at *
  generalize (fun i x => rowE xs (firstV xs) i x) = EE at *
  clear hn
  go_enter Tryz.func14, Tryz.ntmps14
  go_wp2_with fail
  go_loopg [3, 4] n (fun gk s3 s4 wr => ∃ i : Nat, s4 = .int .i64 i ∧ s3 = .int .i64 (zz i) ∧ gk + i = n ∧ Gr w wr ∧ Hid (rowFrom xs (firstV xs) (n - i) i = rowFrom xs (firstV xs) n 0))
  case atStart => exact ⟨0, rfl, by rw [HZ.out], by omega, Gr.refl _, by simp [Hid]⟩
  case round =>
    obtain ⟨i, rfl, rfl, hi, hnx, HFr⟩ := hrel
    by_cases hlt : i < n
    · obtain ⟨x, hx⟩ := HX.out i hlt
      obtain ⟨c0, c1, c2, hv, _⟩ := (HC.out i x hx).gr hnx
      have hst := HS.out i x hlt hx
      have hi2 : (i : Int) < n := by omega
      have hKx := HK.out x wr hv
      have hrx := HR.out i x
      have hT := HT.out i x hx
      have hdx := HD.out i x.nm (by omega)
      obtain ⟨⟨pu, cu, hu, _⟩⟩ := id hv
      unfold resV at hKx
      rw [hu] at c2 hKx
      generalize (if (if decide (0 ≤ firstV xs) then !fitFirst xs (firstV xs) x else false) then (2 : Int) else 0) = e3 at *
      generalize resE x.nm x.st x.xs = e1 at *
      by_cases he1 : e1 = 0
      · subst he1
        generalize hfp : firstP (isNm x.nm) xs i 0 = fp at *
        cases hdd : dupR xs i x.nm
        · rw [hdd] at hdx hrx
          have hrx2 : rowE xs (firstV xs) i x = e3 := by rw [hrx]; simp only [firstE]; by_cases h3 : e3 = 0 <;> simp [h3]
          have HFq := Lib.hid (fun (cap : Nat) (W : World) (g : Gr wr W) => HF.out i cap x.nm W (hnx.trans g) (by omega))
          rw [hfp] at HFq
          have HKX := Lib.hid hKx
          rw [hrx2] at hst
          have HST := Lib.hid hst
          clear hst hrx hrx2 hKx hfp hdd hx
          cases hh : hasV x
          · have hst3 : x.st.toList.isEmpty = false := hh
            obtain ⟨h3, hzz⟩ := hT.1 hh
            have HFz := Lib.hid (show rowFrom xs (firstV xs) (n - (i + 1)) (i + 1) = rowFrom xs (firstV xs) n 0 from by rw [← HFr.out, HST.out, if_pos h3])
            have HZZ := Lib.hid hzz
            clear hT hh h3 hzz HST
            go_wp2_with (refine HKX.out.mono ?_; rintro e wq ⟨rfl, gq⟩; have d0 := gq.cell c0; have d1 := gq.cell c1; have d2 := gq.cell c2)
            go_quiet ((go_at_call 34; with_reducible exact quietE (HFq.out _ _ (gq.drewN _))))
            go_wp2_with fail
            go_roundg (gk - 1)
            case measure => omega
            case rel => exact ⟨i + 1, by go_num, by rw [HZZ.out], by omega, (hnx.trans gq).drewN _, HFz⟩
          · have hst3 : x.st.toList.isEmpty = true := hh
            by_cases hzz : zz i = -1
            · obtain ⟨h3, hz1⟩ := hT.2.1 hh hzz
              have HFz := Lib.hid (show rowFrom xs (firstV xs) (n - (i + 1)) (i + 1) = rowFrom xs (firstV xs) n 0 from by rw [← HFr.out, HST.out, if_pos h3])
              have HZZ := Lib.hid hz1
              rw [hzz]
              clear hT hh h3 hz1 HST hzz
              go_wp2_with (refine HKX.out.mono ?_; rintro e wq ⟨rfl, gq⟩; have d0 := gq.cell c0; have d1 := gq.cell c1; have d2 := gq.cell c2)
              go_quiet ((go_at_call 34; with_reducible exact quietE (HFq.out _ _ (gq.drewN _))))
              go_wp2_with fail
              go_roundg (gk - 1)
              case measure => omega
              case rel => exact ⟨i + 1, by go_num, by rw [HZZ.out], by omega, (hnx.trans gq).drewN _, HFz⟩
            · obtain ⟨h3, hz1, hz0⟩ := hT.2.2 hh hzz
              have HZZ := Lib.hid hz1
              by_cases hl : (x.xs.length : Int) = zz i
              · rw [if_pos hl] at h3
                have HFz := Lib.hid (show rowFrom xs (firstV xs) (n - (i + 1)) (i + 1) = rowFrom xs (firstV xs) n 0 from by rw [← HFr.out, HST.out, if_pos h3])
                clear hT hh h3 hz1 HST hzz
                generalize zz i = z at *
                go_wp2_with (refine HKX.out.mono ?_; rintro e wq ⟨rfl, gq⟩; have d0 := gq.cell c0; have d1 := gq.cell c1; have d2 := gq.cell c2)
                go_quiet ((go_at_call 34; with_reducible exact quietE (HFq.out _ _ (gq.drewN _))))
                go_wp2_with fail
                go_roundg (gk - 1)
                case measure => omega
                case rel => exact ⟨i + 1, by go_num, by rw [HZZ.out], by omega, (hnx.trans gq).drewN _, HFz⟩
              · rw [if_neg hl] at h3
                have HFF : Hid (rowFrom xs (firstV xs) n 0 = 2) := by unfold Hid; rw [← HFr.out, HST.out, h3]; rfl
                clear hT hh h3 hz1 HST hzz HZZ
                generalize zz i = z at *
                go_wp2_with (refine HKX.out.mono ?_; rintro e wq ⟨rfl, gq⟩; have d0 := gq.cell c0; have d1 := gq.cell c1; have d2 := gq.cell c2)
                go_quiet ((go_at_call 34; with_reducible exact quietE (HFq.out _ _ (gq.drewN _))))
                go_wp2_with fail
                go_ret
                exact ⟨by rw [HFF.out]; rfl, (hnx.trans gq).drewN _⟩
        · have hrx2 : rowE xs (firstV xs) i x = 9 := by rw [hrx, hdd]; simp [firstE]
          rw [hdd] at hdx
          have HFq := Lib.hid (fun (cap : Nat) (W : World) (g : Gr wr W) => HF.out i cap x.nm W (hnx.trans g) (by omega))
          rw [hfp] at HFq
          have HKX := Lib.hid hKx
          rw [hrx2, if_neg (by omega)] at hst
          have HFF : Hid (rowFrom xs (firstV xs) n 0 = 9) := by unfold Hid; rw [← HFr.out, hst]
          clear hst hrx hrx2 hT hKx hfp hdd hx
          go_wp2_with (refine HKX.out.mono ?_; rintro e wq ⟨rfl, gq⟩; have d0 := gq.cell c0; have d1 := gq.cell c1; have d2 := gq.cell c2)
          go_quiet ((go_at_call 34; with_reducible exact quietE (HFq.out _ _ (gq.drewN _))))
          go_wp2_with fail
          go_ret
          exact ⟨by rw [HFF.out]; rfl, (hnx.trans gq).drewN _⟩
      · have hz1 : rowE xs (firstV xs) i x = e1 := by rw [hrx]; simp [firstE, he1]
        rw [hz1, if_neg he1] at hst
        have HKX := Lib.hid hKx
        have HFF : Hid (rowFrom xs (firstV xs) n 0 = e1) := by unfold Hid; rw [← HFr.out, hst]
        clear hst hrx hT hdx hKx hz1 hx
        go_wp2_with (refine HKX.out.mono ?_; rintro e wq ⟨rfl, gq⟩)
        go_ret
        exact ⟨by rw [HFF.out]; rfl, hnx.trans gq⟩
    · obtain rfl : i = n := by omega
      have hT := HFr.out
      rw [Nat.sub_self, HE.out] at hT
      have HT2 := Lib.hid hT
      clear hT
      go_wp2_with fail
      go_ret
      exact ⟨by rw [← HT2.out]; rfl, hnx⟩
end Go.Proofs.YtnbboheaheicnabGreatDoor
