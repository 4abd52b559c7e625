/- Brackets: what goes wrong, and one name alone. -/
import Derived.Test.YthfmgficbnmmnaaGreatDoorRcK
namespace Go.Proofs.YthfmgficbnmmnaaGreatDoor
open Go.RowKit Go.Lib
set_option linter.unusedSimpArgs false
set_option linter.unusedVariables false
set_option maxRecDepth 100000 in
theorem races_one (ns : List ByteArray) (v : Value) (w : World) (hv : StrAts w v ns) (h : namesE ns = 0) (h1 : ns.length = 1) :
    Calls Tryz.prog 19 #[v] w fun e w' => ∃ q c, e = .returned (.tuple #[.slice q 1 c, .int .i64 0]) ∧ RaS w' q (firstR ns 0) ∧ Gr w w' := by
  have HV := Lib.hid hv
  obtain ⟨⟨p, cap, rfl, _, hh⟩⟩ := hv
  obtain ⟨x, hx⟩ : ∃ x, ns = [x] := List.length_eq_one_iff.1 h1
  subst hx
  obtain ⟨b, off, rfl, hc⟩ := hh (by simp)
  have c0 := (hc 0 x rfl).nm
  simp only [List.length_singleton, Nat.add_zero] at *
  obtain ⟨W, hW, g, a0⟩ := box1 w (.slice (some ⟨b, off, none⟩) 1 cap) 48
  have HW := Lib.hid hW
  have HC := Lib.hid (checkNm6_c [x] _ W (HV.out.gr g))
  rw [h] at HC
  have HF : Hid (firstR [x] 0 = [⟨x, ⟨#[]⟩, walkW x ⟨#[]⟩⟩]) := rfl
  have HRO : Hid (∀ V, Calls Tryz.prog 55 #[.string x, .string ⟨#[]⟩] V fun e w' => e = .returned (.agg #[.string x, .string ⟨#[]⟩, .int .i64 (walkW x ⟨#[]⟩)]) ∧ Gr V w') := raceOf_c _ _
  generalize walkW x ⟨#[]⟩ = ww at *
  replace c0 := Gr.cell g c0
  clear hW h HV hc hh h1
  go_enter Tryz.func19, Tryz.ntmps19
  go_wp2_with fail
  rw [HW.out]
  go_wp2_with fail
  refine HC.out.mono ?_
  rintro e w4 ⟨rfl, hg⟩
  have a4 := Gr.cell hg a0
  have c4 := Gr.cell hg c0
  go_wp2_with fail
  refine (HRO.out _).mono ?_
  rintro e w5 ⟨rfl, hg5⟩
  obtain ⟨W6, hW6, g6, z0, z1, z2⟩ := box3 w5 (.string x) (.string ⟨#[]⟩) (.int .i64 ww) 55
  have HW6 := Lib.hid hW6
  clear hW6
  go_wp2_with fail
  try rw [HW6.out]
  refine bodyPost_ret (v := .tuple #[.slice (some ⟨w5.heap.size, 0, none⟩) 1 1, .int .i64 0]) (by simp [results, Tryz.results19, go_sem]) rfl ⟨_, _, rfl, ?_, g.trans (hg.trans (hg5.trans g6))⟩
  rw [HF.out]
  refine ⟨fun _ => ⟨_, 0, rfl, fun i r hr => ?_⟩⟩
  cases i with
  | zero => simp at hr; subst hr; exact ⟨z0, z1, z2⟩
  | succ i => simp at hr
end Go.Proofs.YthfmgficbnmmnaaGreatDoor
namespace Go.Proofs.YthfmgficbnmmnaaGreatDoor
open Go.RowKit Go.Lib
set_option linter.unusedSimpArgs false
set_option linter.unusedVariables false
theorem outside6_c (n l h : Int) (w : World) :
    Calls Tryz.prog 44 #[.int .i64 n, .int .i64 l, .int .i64 h] w fun e w' => e = .returned (.int .i64 (outE n l h)) ∧ w = w' := by
  have HE : Hid (outE n l h = if (decide (n < l) || decide (h < n)) = true then 3 else 0) := rfl
  cases h1 : decide (n < l) <;> cases h2 : decide (h < n)
  all_goals
    rw [h1, h2] at HE
    go_enter Tryz.func44, Tryz.ntmps44
    go_wp2_with fail
    go_ret
    exact ⟨by rw [HE.out]; rfl, rfl⟩
end Go.Proofs.YthfmgficbnmmnaaGreatDoor
