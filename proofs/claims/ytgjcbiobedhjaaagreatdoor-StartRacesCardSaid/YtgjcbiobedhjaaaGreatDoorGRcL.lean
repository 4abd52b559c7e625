/- Brackets: what goes wrong, and one name alone. -/
import Derived.Test.YtgjcbiobedhjaaaGreatDoorRcK
namespace Go.Proofs.YtgjcbiobedhjaaaGreatDoor
open Go.RowKit Go.Lib
set_option linter.unusedSimpArgs false
set_option linter.unusedVariables false
/-- the error of the two places, for a good n -/
def twoE (n x y : Int) : Int := if outE x 1 n + outE y 1 n ≠ 0 then 10 else if x = y then 9 else 0
/-- the error of Meet -/
def meetE (n x y : Int) : Int := if outE n 1 64 ≠ 0 then outE n 1 64 else twoE n x y
theorem outE_if6 (n l h : Int) : outE n l h = if n < l ∨ h < n then 3 else 0 := by
  by_cases hc : n < l ∨ h < n
  · rw [if_pos hc]
    rcases Int.lt_or_le n l with h1 | h1 <;> rcases Int.lt_or_le h n with h2 | h2
    all_goals first | omega | (unfold outE outB; simp [h1, h2]) | (unfold outE outB; simp; omega)
  · rw [if_neg hc]
    exact outE_zero.2 ⟨by omega, by omega⟩
theorem if_e6 (b : Bool) (m : Int) : ∃ z, z = (if b then m else 0) ∧ ∀ W, Calls Tryz.prog 55 #[.bool b, .int .i64 m] W fun e w' => e = .returned (.int .i64 z) ∧ W = w' := ⟨_, rfl, fun W => if_c b m W⟩
set_option maxHeartbeats 1000000 in
set_option maxRecDepth 100000 in
theorem meet_bad (n x y : Int) (h : meetE n x y ≠ 0) (w : World) :
    Calls Tryz.prog 42 #[.int .i64 n, .int .i64 x, .int .i64 y] w fun e w' => e = .returned (.tuple #[.int .i64 0, .int .i64 (meetE n x y)]) ∧ Gr w w' := by
  obtain ⟨e1, he1, HR0⟩ := range_e n 1 64
  have HR := Lib.hid HR0
  obtain ⟨e3, he3, HI3'⟩ := if_e6 (x == y) 9
  have HI3 := Lib.hid HI3'
  have key : ∀ b : Bool, (b = true ↔ (outE x 1 n + outE y 1 n ≠ 0)) → ∀ e2, e2 = (if b then 10 else 0) → firstE [e1, e2, e3] = meetE n x y := by
    intro b hb e2 he2
    unfold meetE twoE
    rw [he1, he2, he3]
    have h10 : outE n 1 64 = 0 ∨ outE n 1 64 = 3 := by rw [outE_if6]; split <;> simp
    rcases h10 with h10 | h10 <;> rw [h10]
    · cases b
      · have hz : ¬ (outE x 1 n + outE y 1 n ≠ 0) := fun hh => by have := hb.2 hh; cases this
        rw [if_neg hz]
        by_cases hxy : x = y <;> simp [firstE, hxy]
      · rw [if_pos (hb.1 rfl)]
        simp [firstE]
    · simp [firstE]
  have hxE := outE_if6 x 1 n
  have hyE := outE_if6 y 1 n
  clear HR0 HI3'
  rcases (by omega : x < 1 ∨ (1 ≤ x ∧ n < x) ∨ (1 ≤ x ∧ x ≤ n ∧ y < 1) ∨ (1 ≤ x ∧ x ≤ n ∧ 1 ≤ y ∧ n < y) ∨ (1 ≤ x ∧ x ≤ n ∧ 1 ≤ y ∧ y ≤ n)) with hc | ⟨hc1, hc⟩ | ⟨hc1, hc2, hc⟩ | ⟨hc1, hc2, hc3, hc⟩ | ⟨hc1, hc2, hc3, hc4⟩
  · obtain ⟨e2, he2, HI2'⟩ := if_e6 true 10
    have HI2 := Lib.hid HI2'
    have HE : Hid (firstE [e1, e2, e3] = meetE n x y) := key true (by constructor <;> intro hh <;> first | rfl | (rw [hxE, hyE]; split <;> split <;> omega)) e2 he2
    have d0 : decide (x < 1) = true := decide_eq_true (by omega)
    clear HI2' key hxE hyE he1 he2 he3 hc   
    obtain ⟨W, hW, g, a0, a1, a2⟩ := box3 w (.int .i64 e1) (.int .i64 e2) (.int .i64 e3) 28
    have HW := Lib.hid hW
    have HF := Lib.hid (fun b c W => first_three e1 e2 e3 b c W)
    rw [HE.out] at HF
    generalize meetE n x y = z at *
    have z1 : (z != 0) = true := bne_iff_ne.2 h
    clear hW h HE
    go_enter Tryz.func42, Tryz.ntmps42
    go_wp2_with fail
    refine (HR.out _).mono ?_
    rintro e w4 ⟨rfl, rfl⟩
    go_wp2_with fail
    refine (HI2.out _).mono ?_
    rintro e w4 ⟨rfl, rfl⟩
    go_wp2_with fail
    refine (HI3.out _).mono ?_
    rintro e w4 ⟨rfl, rfl⟩
    go_wp2_with fail
    rw [HW.out]
    refine (HF.out _ _ W a0 a1 a2).mono ?_
    rintro e w4 ⟨rfl, rfl⟩
    go_wp2_with fail
    exact bodyPost_ret (v := .tuple #[.int .i64 0, .int .i64 z]) (by simp [results, Tryz.results42, go_sem]) rfl ⟨rfl, g⟩
  · obtain ⟨e2, he2, HI2'⟩ := if_e6 true 10
    have HI2 := Lib.hid HI2'
    have HE : Hid (firstE [e1, e2, e3] = meetE n x y) := key true (by constructor <;> intro hh <;> first | rfl | (rw [hxE, hyE]; split <;> split <;> omega)) e2 he2
    have d0 : decide (n < x) = true := decide_eq_true (by omega)
    have d1 : decide (x < 1) = false := decide_eq_false (by omega)
    clear HI2' key hxE hyE he1 he2 he3 hc hc1  
    obtain ⟨W, hW, g, a0, a1, a2⟩ := box3 w (.int .i64 e1) (.int .i64 e2) (.int .i64 e3) 28
    have HW := Lib.hid hW
    have HF := Lib.hid (fun b c W => first_three e1 e2 e3 b c W)
    rw [HE.out] at HF
    generalize meetE n x y = z at *
    have z1 : (z != 0) = true := bne_iff_ne.2 h
    clear hW h HE
    go_enter Tryz.func42, Tryz.ntmps42
    go_wp2_with fail
    refine (HR.out _).mono ?_
    rintro e w4 ⟨rfl, rfl⟩
    go_wp2_with fail
    refine (HI2.out _).mono ?_
    rintro e w4 ⟨rfl, rfl⟩
    go_wp2_with fail
    refine (HI3.out _).mono ?_
    rintro e w4 ⟨rfl, rfl⟩
    go_wp2_with fail
    rw [HW.out]
    refine (HF.out _ _ W a0 a1 a2).mono ?_
    rintro e w4 ⟨rfl, rfl⟩
    go_wp2_with fail
    exact bodyPost_ret (v := .tuple #[.int .i64 0, .int .i64 z]) (by simp [results, Tryz.results42, go_sem]) rfl ⟨rfl, g⟩
  · obtain ⟨e2, he2, HI2'⟩ := if_e6 true 10
    have HI2 := Lib.hid HI2'
    have HE : Hid (firstE [e1, e2, e3] = meetE n x y) := key true (by constructor <;> intro hh <;> first | rfl | (rw [hxE, hyE]; split <;> split <;> omega)) e2 he2
    have d0 : decide (y < 1) = true := decide_eq_true (by omega)
    have d1 : decide (x < 1) = false := decide_eq_false (by omega)
    have d2 : decide (n < x) = false := decide_eq_false (by omega)
    clear HI2' key hxE hyE he1 he2 he3 hc hc1 hc2 
    obtain ⟨W, hW, g, a0, a1, a2⟩ := box3 w (.int .i64 e1) (.int .i64 e2) (.int .i64 e3) 28
    have HW := Lib.hid hW
    have HF := Lib.hid (fun b c W => first_three e1 e2 e3 b c W)
    rw [HE.out] at HF
    generalize meetE n x y = z at *
    have z1 : (z != 0) = true := bne_iff_ne.2 h
    clear hW h HE
    go_enter Tryz.func42, Tryz.ntmps42
    go_wp2_with fail
    refine (HR.out _).mono ?_
    rintro e w4 ⟨rfl, rfl⟩
    go_wp2_with fail
    refine (HI2.out _).mono ?_
    rintro e w4 ⟨rfl, rfl⟩
    go_wp2_with fail
    refine (HI3.out _).mono ?_
    rintro e w4 ⟨rfl, rfl⟩
    go_wp2_with fail
    rw [HW.out]
    refine (HF.out _ _ W a0 a1 a2).mono ?_
    rintro e w4 ⟨rfl, rfl⟩
    go_wp2_with fail
    exact bodyPost_ret (v := .tuple #[.int .i64 0, .int .i64 z]) (by simp [results, Tryz.results42, go_sem]) rfl ⟨rfl, g⟩
  · obtain ⟨e2, he2, HI2'⟩ := if_e6 true 10
    have HI2 := Lib.hid HI2'
    have HE : Hid (firstE [e1, e2, e3] = meetE n x y) := key true (by constructor <;> intro hh <;> first | rfl | (rw [hxE, hyE]; split <;> split <;> omega)) e2 he2
    have d0 : decide (n < y) = true := decide_eq_true (by omega)
    have d1 : decide (x < 1) = false := decide_eq_false (by omega)
    have d2 : decide (n < x) = false := decide_eq_false (by omega)
    have d3 : decide (y < 1) = false := decide_eq_false (by omega)
    clear HI2' key hxE hyE he1 he2 he3 hc hc1 hc2 hc3
    obtain ⟨W, hW, g, a0, a1, a2⟩ := box3 w (.int .i64 e1) (.int .i64 e2) (.int .i64 e3) 28
    have HW := Lib.hid hW
    have HF := Lib.hid (fun b c W => first_three e1 e2 e3 b c W)
    rw [HE.out] at HF
    generalize meetE n x y = z at *
    have z1 : (z != 0) = true := bne_iff_ne.2 h
    clear hW h HE
    go_enter Tryz.func42, Tryz.ntmps42
    go_wp2_with fail
    refine (HR.out _).mono ?_
    rintro e w4 ⟨rfl, rfl⟩
    go_wp2_with fail
    refine (HI2.out _).mono ?_
    rintro e w4 ⟨rfl, rfl⟩
    go_wp2_with fail
    refine (HI3.out _).mono ?_
    rintro e w4 ⟨rfl, rfl⟩
    go_wp2_with fail
    rw [HW.out]
    refine (HF.out _ _ W a0 a1 a2).mono ?_
    rintro e w4 ⟨rfl, rfl⟩
    go_wp2_with fail
    exact bodyPost_ret (v := .tuple #[.int .i64 0, .int .i64 z]) (by simp [results, Tryz.results42, go_sem]) rfl ⟨rfl, g⟩
  · obtain ⟨e2, he2, HI2'⟩ := if_e6 false 10
    have HI2 := Lib.hid HI2'
    have HE : Hid (firstE [e1, e2, e3] = meetE n x y) := key false (by constructor <;> intro hh; (cases hh); (rw [hxE, hyE, if_neg (by omega), if_neg (by omega)] at hh; exact absurd rfl hh)) e2 he2
    have d0 : decide (x < 1) = false := decide_eq_false (by omega)
    have d1 : decide (n < x) = false := decide_eq_false (by omega)
    have d2 : decide (y < 1) = false := decide_eq_false (by omega)
    have d3 : decide (n < y) = false := decide_eq_false (by omega)
    clear HI2' key hxE hyE he1 he2 he3 hc4 hc1 hc2 hc3
    obtain ⟨W, hW, g, a0, a1, a2⟩ := box3 w (.int .i64 e1) (.int .i64 e2) (.int .i64 e3) 28
    have HW := Lib.hid hW
    have HF := Lib.hid (fun b c W => first_three e1 e2 e3 b c W)
    rw [HE.out] at HF
    generalize meetE n x y = z at *
    have z1 : (z != 0) = true := bne_iff_ne.2 h
    clear hW h HE
    go_enter Tryz.func42, Tryz.ntmps42
    go_wp2_with fail
    refine (HR.out _).mono ?_
    rintro e w4 ⟨rfl, rfl⟩
    go_wp2_with fail
    refine (HI2.out _).mono ?_
    rintro e w4 ⟨rfl, rfl⟩
    go_wp2_with fail
    refine (HI3.out _).mono ?_
    rintro e w4 ⟨rfl, rfl⟩
    go_wp2_with fail
    rw [HW.out]
    refine (HF.out _ _ W a0 a1 a2).mono ?_
    rintro e w4 ⟨rfl, rfl⟩
    go_wp2_with fail
    exact bodyPost_ret (v := .tuple #[.int .i64 0, .int .i64 z]) (by simp [results, Tryz.results42, go_sem]) rfl ⟨rfl, g⟩
theorem races_bad (ns : List ByteArray) (v : Value) (w : World) (hv : StrAts w v ns) (h : namesE ns ≠ 0) :
    Calls Tryz.prog 29 #[v] w fun e w' => e = .returned (.tuple #[.slice none 0 0, .int .i64 (namesE ns)]) ∧ Gr w w' := by
  have HV := Lib.hid hv
  obtain ⟨⟨p, cap, rfl, _, _⟩⟩ := hv
  obtain ⟨W, hW, g, a0⟩ := box1 w (.slice p ns.length cap) 62
  have HW := Lib.hid hW
  have HC := Lib.hid (checkNm6_c ns _ W (HV.out.gr g))
  generalize namesE ns = z at *
  have z1 : (z != 0) = true := bne_iff_ne.2 h
  clear hW h HV
  generalize ns.length = n at *
  go_enter Tryz.func29, Tryz.ntmps29
  go_wp2_with fail
  rw [HW.out]
  go_wp2_with fail
  refine HC.out.mono ?_
  rintro e w4 ⟨rfl, hg⟩
  go_wp2_with fail
  exact bodyPost_ret (v := .tuple #[.slice none 0 0, .int .i64 z]) (by simp [results, Tryz.results29, go_sem]) rfl ⟨rfl, g.trans hg⟩
set_option maxRecDepth 100000 in
theorem races_one (ns : List ByteArray) (v : Value) (w : World) (hv : StrAts w v ns) (h : namesE ns = 0) (h1 : ns.length = 1) :
    Calls Tryz.prog 29 #[v] w fun e w' => ∃ q c, e = .returned (.tuple #[.slice q 1 c, .int .i64 0]) ∧ RaS w' q (firstR ns 0) ∧ Gr w w' := by
  have HV := Lib.hid hv
  obtain ⟨⟨p, cap, rfl, _, hh⟩⟩ := hv
  obtain ⟨x, hx⟩ : ∃ x, ns = [x] := List.length_eq_one_iff.1 h1
  subst hx
  obtain ⟨b, off, rfl, hc⟩ := hh (by simp)
  have c0 := (hc 0 x rfl).nm
  simp only [List.length_singleton, Nat.add_zero] at *
  obtain ⟨W, hW, g, a0⟩ := box1 w (.slice (some ⟨b, off, none⟩) 1 cap) 62
  have HW := Lib.hid hW
  have HC := Lib.hid (checkNm6_c [x] _ W (HV.out.gr g))
  rw [h] at HC
  have HF : Hid (firstR [x] 0 = [⟨x, ⟨#[]⟩, walkW x ⟨#[]⟩⟩]) := rfl
  have HRO : Hid (∀ V, Calls Tryz.prog 58 #[.string x, .string ⟨#[]⟩] V fun e w' => e = .returned (.agg #[.string x, .string ⟨#[]⟩, .int .i64 (walkW x ⟨#[]⟩)]) ∧ Gr V w') := raceOf_c _ _
  generalize walkW x ⟨#[]⟩ = ww at *
  replace c0 := Gr.cell g c0
  clear hW h HV hc hh h1
  go_enter Tryz.func29, Tryz.ntmps29
  go_wp2_with fail
  rw [HW.out]
  go_wp2_with fail
  refine HC.out.mono ?_
  rintro e w4 ⟨rfl, hg⟩
  have a4 := Gr.cell hg a0
  have c4 := Gr.cell hg c0
  go_wp2_with fail
  refine (HRO.out _).mono ?_
  rintro e w5 ⟨rfl, hg5⟩
  obtain ⟨W6, hW6, g6, z0, z1, z2⟩ := box3 w5 (.string x) (.string ⟨#[]⟩) (.int .i64 ww) 33
  have HW6 := Lib.hid hW6
  clear hW6
  go_wp2_with fail
  try rw [HW6.out]
  refine bodyPost_ret (v := .tuple #[.slice (some ⟨w5.heap.size, 0, none⟩) 1 1, .int .i64 0]) (by simp [results, Tryz.results29, go_sem]) rfl ⟨_, _, rfl, ?_, g.trans (hg.trans (hg5.trans g6))⟩
  rw [HF.out]
  refine ⟨fun _ => ⟨_, 0, rfl, fun i r hr => ?_⟩⟩
  cases i with
  | zero => simp at hr; subst hr; exact ⟨z0, z1, z2⟩
  | succ i => simp at hr
end Go.Proofs.YtgjcbiobedhjaaaGreatDoor
namespace Go.Proofs.YtgjcbiobedhjaaaGreatDoor
open Go.RowKit Go.Lib
set_option linter.unusedSimpArgs false
set_option linter.unusedVariables false
set_option maxHeartbeats 4000000 in
set_option maxRecDepth 100000 in
theorem first6_c (x y : Int) (b cap : Nat) (w : World) (hx : w.cell? ⟨b, 0, none⟩ = some (.int .i64 x)) (hy : w.cell? ⟨b, 1, none⟩ = some (.int .i64 y)) :
    Calls Tryz.prog 13 #[.slice (some ⟨b, 0, none⟩) 2 cap] w fun e w' => e = .returned (.int .i64 (firstE [x, y])) ∧ w = w' := by
  have HE : Hid (firstE [x, y] = if x = 0 then y else x) := by
    unfold Hid
    by_cases h : x = 0
    · rw [if_pos h]; unfold firstE; by_cases h2 : y = 0 <;> simp [firstE, h, h2]
    · rw [if_neg h]; unfold firstE; simp [h]
  by_cases h : x = 0
  · rw [if_pos h] at HE
    have h1 : (x != 0) = false := by rw [h]; rfl
    by_cases h2 : y = 0
    · have h3 : (y != 0) = false := by rw [h2]; rfl
      go_enter Tryz.func13, Tryz.ntmps13
      go_wp2_with fail
      refine wp_loop_rounds 3 ?_
      rw [rounds_succ]
      go_wp2_with fail
      rw [rounds_succ]
      go_wp2_with fail
      rw [rounds_succ]
      go_wp2_with fail
      go_ret
      exact ⟨by rw [HE.out, h2]; rfl, rfl⟩
    · have h3 : (y != 0) = true := bne_iff_ne.2 h2
      go_enter Tryz.func13, Tryz.ntmps13
      go_wp2_with fail
      refine wp_loop_rounds 3 ?_
      rw [rounds_succ]
      go_wp2_with fail
      rw [rounds_succ]
      go_wp2_with fail
      go_ret
      exact ⟨by rw [HE.out]; rfl, rfl⟩
  · rw [if_neg h] at HE
    have h1 : (x != 0) = true := bne_iff_ne.2 h
    go_enter Tryz.func13, Tryz.ntmps13
    go_wp2_with fail
    refine wp_loop_rounds 3 ?_
    rw [rounds_succ]
    go_wp2_with fail
    go_ret
    exact ⟨by rw [HE.out]; rfl, rfl⟩
set_option maxRecDepth 100000 in
theorem int6_ok (x : Int) (w : World) : Calls Tryz.prog 21 #[.int .i64 x, .int .i64 0, .int .i64 0, .int .i64 x] w fun e w' => e = .returned (.bool true) ∧ w = w' := by
  have h : (x == x) = true := by simp
  go_enter Tryz.func21, Tryz.ntmps21
  go_wp2_with fail
  go_ret
  exact ⟨by simp, rfl⟩
set_option maxRecDepth 100000 in
theorem int6_err (z y : Int) (h : z ≠ 0) (w : World) : Calls Tryz.prog 21 #[.int .i64 0, .int .i64 z, .int .i64 z, .int .i64 y] w fun e w' => e = .returned (.bool true) ∧ w = w' := by
  have h1 : (z != 0) = true := bne_iff_ne.2 h
  have h2 : (z == z) = true := by simp
  go_enter Tryz.func21, Tryz.ntmps21
  go_wp2_with fail
  go_ret
  exact ⟨by simp, rfl⟩
theorem outside6_c (n l h : Int) (w : World) :
    Calls Tryz.prog 49 #[.int .i64 n, .int .i64 l, .int .i64 h] w fun e w' => e = .returned (.int .i64 (outE n l h)) ∧ w = w' := by
  have HE : Hid (outE n l h = if (decide (n < l) || decide (h < n)) = true then 3 else 0) := rfl
  cases h1 : decide (n < l) <;> cases h2 : decide (h < n)
  all_goals
    rw [h1, h2] at HE
    go_enter Tryz.func49, Tryz.ntmps49
    go_wp2_with fail
    go_ret
    exact ⟨by rw [HE.out]; rfl, rfl⟩
theorem when6_c (b : Bool) (n : Int) (w : World) : Calls Tryz.prog 14 #[.bool b, .int .i64 n] w fun e w' => e = .returned (.int .i64 (if b then n else 0)) ∧ w = w' := by
  cases b
  all_goals
    go_enter Tryz.func14, Tryz.ntmps14
    go_wp2_with fail
    go_ret
    exact ⟨rfl, rfl⟩
end Go.Proofs.YtgjcbiobedhjaaaGreatDoor
