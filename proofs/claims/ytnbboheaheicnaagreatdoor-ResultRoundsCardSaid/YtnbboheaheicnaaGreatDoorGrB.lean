/- The reference's grade. -/
import Derived.Test.YtnbboheaheicnaaGreatDoorResG
namespace Go.Proofs.YtnbboheaheicnaaGreatDoor
open Go.RowKit Go.Lib
set_option linter.unusedSimpArgs false
set_option linter.unusedVariables false
set_option maxHeartbeats 1000000 in
set_option maxRecDepth 100000 in
theorem grade_c (s : ByteArray) (w : World) :
    Calls Tryz.prog 97 #[.string s] w fun e w' => e = .returned (.int .i64 (gradeZ s.toList)) ∧ w = w' := by
  have HG : ∀ z, gradeZ s.toList = z → Hid (gradeZ s.toList = z) := fun z h => h
  rcases grade_of s.toList with h | h | h | h | ⟨h0, h1, h2, h3⟩
  · replace HG := HG 0 (by rw [h]; rfl)
    go_enter Tryz.func97, Tryz.ntmps97
    go_wp2_with fail
    go_ret
    exact ⟨by rw [HG.out]; rfl, rfl⟩
  · replace HG := HG 1 (by rw [h]; rfl)
    go_enter Tryz.func97, Tryz.ntmps97
    go_wp2_with fail
    go_ret
    exact ⟨by rw [HG.out]; rfl, rfl⟩
  · replace HG := HG 2 (by rw [h]; rfl)
    go_enter Tryz.func97, Tryz.ntmps97
    go_wp2_with fail
    go_ret
    exact ⟨by rw [HG.out]; rfl, rfl⟩
  · replace HG := HG 3 (by rw [h]; rfl)
    go_enter Tryz.func97, Tryz.ntmps97
    go_wp2_with fail
    go_ret
    exact ⟨by rw [HG.out]; rfl, rfl⟩
  · replace HG := HG (-1) (gradeZ_other h0 h1 h2 h3)
    go_enter Tryz.func97, Tryz.ntmps97
    go_wp2_with fail
    go_ret
    exact ⟨by rw [HG.out]; rfl, rfl⟩
end Go.Proofs.YtnbboheaheicnaaGreatDoor
namespace Go.Proofs.YtnbboheaheicnaaGreatDoor
open Go.RowKit Go.Lib
set_option linter.unusedSimpArgs false
set_option linter.unusedVariables false
theorem gradeZ_neg (l : List UInt8) : decide (gradeZ l < 0) = (gradeZ l == -1) := by
  unfold gradeZ
  split
  · rfl
  split
  · rfl
  split
  · rfl
  split
  · rfl
  · rfl
theorem resE_eq (c s : ByteArray) (xs : List Int) : resE c s xs = if !decide (Nm c) then 8 else if gradeZ s.toList == -1 then 13 else if !s.toList.isEmpty && decide (0 < xs.length) then 1 else if decide ((8 : Int) < xs.length) then 5 else valsE xs := by
  unfold resE firstE firstE firstE firstE firstE
  cases decide (Nm c) <;> cases gradeZ s.toList == -1 <;> cases (!s.toList.isEmpty && decide (0 < xs.length)) <;> cases decide ((8 : Int) < xs.length) <;> simp [firstE] <;> exact fun h => h.symm
set_option maxHeartbeats 1000000 in
set_option maxRecDepth 100000 in
theorem refCheck_c (c s : ByteArray) (v : Value) (xs : List Int) (w : World) (h : IntsV w v xs) :
    Calls Tryz.prog 36 #[resV c s v] w fun e w' => e = .returned (.int .i64 (resE c s xs)) ∧ Gr w w' := by
  unfold resV
  have hR := resE_eq c s xs
  have hN := fun W => refIsName_c c W
  have hB := fun W => grade_c s W
  obtain ⟨p, cap, rfl, hh⟩ := h.out
  obtain ⟨W, hW, g, a0, a1, a2⟩ := box3 w (.string c) (.string s) (.slice p xs.length cap) 40
  have hgn := gradeZ_neg s.toList
  generalize gradeZ s.toList = z at *
  cases h1 : decide (Nm c)
  · rw [h1] at hR hN
    have HR := Lib.hid hR
    have HN := Lib.hid hN
    have HB := Lib.hid hB
    have HW := Lib.hid hW
    clear hR hN hB hW hh
    go_enter Tryz.func36, Tryz.ntmps36
    go_wp2_with fail
    rw [HW.out]
    refine (HN.out _).mono ?_
    rintro e w4 ⟨rfl, rfl⟩
    go_wp2_with fail
    go_ret
    exact ⟨by rw [HR.out]; rfl, g⟩
  rw [h1] at hR hN
  clear h1
  cases h2 : (z == -1)
  case true =>
    rw [h2] at hR hgn
    have HR := Lib.hid hR
    have HN := Lib.hid hN
    have HB := Lib.hid hB
    have HW := Lib.hid hW
    clear hR hN hB hW hh
    go_enter Tryz.func36, Tryz.ntmps36
    go_wp2_with fail
    rw [HW.out]
    refine (HN.out _).mono ?_
    rintro e w4 ⟨rfl, rfl⟩
    go_wp2_with fail
    refine (HB.out _).mono ?_
    rintro e w4 ⟨rfl, rfl⟩
    go_wp2_with fail
    go_ret
    exact ⟨by rw [HR.out]; rfl, g⟩
  rw [h2] at hR hgn
  cases hE : s.toList.isEmpty
  · rw [hE] at hR
    have hE2 : ¬ s.toList = [] := by intro e; rw [e] at hE; cases hE
    by_cases hl : 0 < xs.length
    · rw [decide_eq_true hl] at hR
      have HR := Lib.hid hR
      have HN := Lib.hid hN
      have HB := Lib.hid hB
      have HW := Lib.hid hW
      clear hR hN hB hW hh
      go_enter Tryz.func36, Tryz.ntmps36
      go_wp2_with fail
      rw [HW.out]
      refine (HN.out _).mono ?_
      rintro e w4 ⟨rfl, rfl⟩
      go_wp2_with fail
      refine (HB.out _).mono ?_
      rintro e w4 ⟨rfl, rfl⟩
      go_wp2_with fail
      go_ret
      exact ⟨by rw [HR.out]; rfl, g⟩
    · rw [decide_eq_false hl] at hR
      have hx : xs = [] := List.eq_nil_of_length_eq_zero (by omega)
      subst hx
      replace hW : w.alloc (.cells #[.string c, .string s, .slice p 0 cap] 40) = W := hW
      replace a2 : W.cell? ⟨w.heap.size, 2, none⟩ = some (.slice p 0 cap) := a2
      clear hh
      have HR := Lib.hid hR
      have HN := Lib.hid hN
      have HB := Lib.hid hB
      have HW := Lib.hid hW
      clear hR hN hB hW
      go_enter Tryz.func36, Tryz.ntmps36
      go_wp2_with fail
      rw [HW.out]
      refine (HN.out _).mono ?_
      rintro e w4 ⟨rfl, rfl⟩
      go_wp2_with fail
      refine (HB.out _).mono ?_
      rintro e w4 ⟨rfl, rfl⟩
      go_wp2_with fail
      refine wp_loop_rounds 1 ?_
      rw [rounds_succ]
      go_wp2_with fail
      go_ret
      exact ⟨by rw [HR.out]; rfl, g⟩
  · rw [hE] at hR
    have hE2 : s.toList = [] := by cases hq : s.toList with | nil => rfl | cons _ _ => rw [hq] at hE; cases hE
    rcases Nat.lt_or_ge 8 xs.length with hl | hl
    · rw [decide_eq_true (show (8 : Int) < xs.length by omega)] at hR
      clear hh
      have HR := Lib.hid hR
      have HN := Lib.hid hN
      have HB := Lib.hid hB
      have HW := Lib.hid hW
      clear hR hN hB hW
      go_enter Tryz.func36, Tryz.ntmps36
      go_wp2_with fail
      rw [HW.out]
      refine (HN.out _).mono ?_
      rintro e w4 ⟨rfl, rfl⟩
      go_wp2_with fail
      refine (HB.out _).mono ?_
      rintro e w4 ⟨rfl, rfl⟩
      go_wp2_with fail
      go_ret
      exact ⟨by rw [HR.out]; rfl, g⟩
    · rw [decide_eq_false (show ¬ (8 : Int) < xs.length by omega)] at hR
      by_cases h0 : 0 < xs.length
      · obtain ⟨b, off, rfl, hc⟩ := hh h0
        have HC := Lib.hid (fun i x hx => g.cell (hc i x hx))
        have HLn := Lib.hid (rfl : xs.length = xs.length)
        clear hh hc h
        generalize hn : xs.length = n at *
        have HN2 := Lib.hid hn
        clear hn HLn
        have HR := Lib.hid hR
        have HN := Lib.hid hN
        have HB := Lib.hid hB
        have HW := Lib.hid hW
        clear hR hN hB hW
        go_enter Tryz.func36, Tryz.ntmps36
        go_wp2_with fail
        rw [HW.out]
        refine (HN.out _).mono ?_
        rintro e w4 ⟨rfl, rfl⟩
        go_wp2_with fail
        refine (HB.out _).mono ?_
        rintro e w4 ⟨rfl, rfl⟩
        go_wp2_with fail
        go_loopg [3] n (fun g s3 wr => ∃ k : Nat, s3 = .int .i64 k ∧ g + k = n ∧ wr = W ∧ Hid (valsE (xs.drop k) = valsE xs))
        case atStart => exact ⟨0, rfl, by omega, rfl, by simp [Hid]⟩
        case round =>
          obtain ⟨k, rfl, hk, rfl, HF⟩ := hrel
          by_cases hlt : k < n
          · obtain ⟨x, hx⟩ : ∃ x, xs[k]? = some x := ⟨xs[k]'(by have := HN2.out; omega), List.getElem?_eq_getElem _⟩
            have hcell := HC.out k x hx
            have hf := valsE_drop hx
            clear hx
            cases q1 : decide (x < -999999999) <;> cases q2 : decide (999999999 < x)
            all_goals
              have ho : outE x (-999999999) 999999999 = if (decide (x < -999999999) || decide (999999999 < x)) then 3 else 0 := rfl
              rw [q1, q2] at ho
              simp only [Bool.or_true, Bool.or_false, Bool.false_eq_true, if_false, if_true] at ho
              rw [ho] at hf
              first
                | (rw [if_pos rfl] at hf
                   have HF2 := Lib.hid hf
                   clear hf ho
                   go_wp2_with fail
                   go_roundg (gk - 1)
                   case measure => omega
                   case rel => exact ⟨k + 1, by go_num, by omega, rfl, by unfold Hid; rw [← HF2.out, HF.out]⟩)
                | (rw [if_neg (by decide)] at hf
                   have HF2 := Lib.hid hf
                   clear hf ho
                   go_wp2_with fail
                   go_ret
                   exact ⟨by rw [HR.out, ← HF.out, HF2.out]; rfl, g⟩)
          · have : xs.drop k = [] := List.drop_of_length_le (by have := HN2.out; omega)
            have HE : Hid (valsE xs = 0) := by unfold Hid; rw [← HF.out, this]; rfl
            clear this
            go_wp2_with fail
            go_ret
            exact ⟨by rw [HR.out, HE.out]; rfl, g⟩
      · have hx : xs = [] := List.eq_nil_of_length_eq_zero (by omega)
        subst hx
        replace hW : w.alloc (.cells #[.string c, .string s, .slice p 0 cap] 40) = W := hW
        replace a2 : W.cell? ⟨w.heap.size, 2, none⟩ = some (.slice p 0 cap) := a2
        clear hh
        have HR := Lib.hid hR
        have HN := Lib.hid hN
        have HB := Lib.hid hB
        have HW := Lib.hid hW
        clear hR hN hB hW
        go_enter Tryz.func36, Tryz.ntmps36
        go_wp2_with fail
        rw [HW.out]
        refine (HN.out _).mono ?_
        rintro e w4 ⟨rfl, rfl⟩
        go_wp2_with fail
        refine (HB.out _).mono ?_
        rintro e w4 ⟨rfl, rfl⟩
        go_wp2_with fail
        refine wp_loop_rounds 1 ?_
        rw [rounds_succ]
        go_wp2_with fail
        go_ret
        exact ⟨by rw [HR.out]; rfl, g⟩
end Go.Proofs.YtnbboheaheicnaaGreatDoor
