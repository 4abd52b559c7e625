/- Brackets: what goes wrong, and one name alone. -/
import Derived.Test.YthfmgficbnmmnaaGreatDoorRcK
namespace Go.Proofs.YthfmgficbnmmnaaGreatDoor
open Go.RowKit Go.Lib
set_option linter.unusedSimpArgs false
set_option linter.unusedVariables false
end Go.Proofs.YthfmgficbnmmnaaGreatDoor
namespace Go.Proofs.YthfmgficbnmmnaaGreatDoor
open Go.RowKit Go.Lib
set_option linter.unusedSimpArgs false
set_option linter.unusedVariables false
set_option maxHeartbeats 4000000 in
set_option maxRecDepth 100000 in
theorem first6_c (x y : Int) (b cap : Nat) (w : World) (hx : w.cell? ⟨b, 0, none⟩ = some (.int .i64 x)) (hy : w.cell? ⟨b, 1, none⟩ = some (.int .i64 y)) :
    Calls Tryz.prog 9 #[.slice (some ⟨b, 0, none⟩) 2 cap] w fun e w' => e = .returned (.int .i64 (firstE [x, y])) ∧ w = w' := by
  have HE : Hid (firstE [x, y] = if x = 0 then y else x) := by
    unfold Hid
    by_cases h : x = 0
    · rw [if_pos h]; unfold firstE; by_cases h2 : y = 0 <;> simp [firstE, h, h2]
    · rw [if_neg h]; unfold firstE; simp [h]
  by_cases h : x = 0
  · rw [if_pos h] at HE
    have h1 : (x != 0) = false := by rw [h]; rfl
    by_cases h2 : y = 0
    · have h3 : (y != 0) = false := by rw [h2]; rfl
      go_enter Tryz.func9, Tryz.ntmps9
      go_wp2_with fail
      refine wp_loop_rounds 3 ?_
      rw [rounds_succ]
      go_wp2_with fail
      rw [rounds_succ]
      go_wp2_with fail
      rw [rounds_succ]
      go_wp2_with fail
      go_ret
      exact ⟨by rw [HE.out, h2]; rfl, rfl⟩
    · have h3 : (y != 0) = true := bne_iff_ne.2 h2
      go_enter Tryz.func9, Tryz.ntmps9
      go_wp2_with fail
      refine wp_loop_rounds 3 ?_
      rw [rounds_succ]
      go_wp2_with fail
      rw [rounds_succ]
      go_wp2_with fail
      go_ret
      exact ⟨by rw [HE.out]; rfl, rfl⟩
  · rw [if_neg h] at HE
    have h1 : (x != 0) = true := bne_iff_ne.2 h
    go_enter Tryz.func9, Tryz.ntmps9
    go_wp2_with fail
    refine wp_loop_rounds 3 ?_
    rw [rounds_succ]
    go_wp2_with fail
    go_ret
    exact ⟨by rw [HE.out]; rfl, rfl⟩
set_option maxRecDepth 100000 in
theorem int6_ok (x : Int) (w : World) : Calls Tryz.prog 11 #[.int .i64 x, .int .i64 0, .int .i64 0, .int .i64 x] w fun e w' => e = .returned (.bool true) ∧ w = w' := by
  have h : (x == x) = true := by simp
  go_enter Tryz.func11, Tryz.ntmps11
  go_wp2_with fail
  go_ret
  exact ⟨by simp, rfl⟩
set_option maxRecDepth 100000 in
theorem int6_err (z y : Int) (h : z ≠ 0) (w : World) : Calls Tryz.prog 11 #[.int .i64 0, .int .i64 z, .int .i64 z, .int .i64 y] w fun e w' => e = .returned (.bool true) ∧ w = w' := by
  have h1 : (z != 0) = true := bne_iff_ne.2 h
  have h2 : (z == z) = true := by simp
  go_enter Tryz.func11, Tryz.ntmps11
  go_wp2_with fail
  go_ret
  exact ⟨by simp, rfl⟩
theorem outside6_c (n l h : Int) (w : World) :
    Calls Tryz.prog 44 #[.int .i64 n, .int .i64 l, .int .i64 h] w fun e w' => e = .returned (.int .i64 (outE n l h)) ∧ w = w' := by
  have HE : Hid (outE n l h = if (decide (n < l) || decide (h < n)) = true then 3 else 0) := rfl
  cases h1 : decide (n < l) <;> cases h2 : decide (h < n)
  all_goals
    rw [h1, h2] at HE
    go_enter Tryz.func44, Tryz.ntmps44
    go_wp2_with fail
    go_ret
    exact ⟨by rw [HE.out]; rfl, rfl⟩
end Go.Proofs.YthfmgficbnmmnaaGreatDoor
