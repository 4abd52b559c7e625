/- StartLists: the law, walked. -/
import Derived.Test.YtcnpmebihdonoaaGreatDoorGDrC
import Derived.Test.YtcnpmebihdonoaaGreatDoorGOpN
namespace Go.Proofs.YtcnpmebihdonoaaGreatDoor
open Go.RowKit Go.Lib
set_option linter.unusedSimpArgs false
set_option linter.unusedVariables false
theorem ent_range {xs : List EntR} (h : listE 160 (entE xs) xs = 0) : xs.length ≤ 160 ∧ ∀ x ∈ xs, 0 ≤ x.sd ∧ x.sd ≤ 999999999 := by
  unfold listE at h
  split at h
  · cases h
  · rename_i hl
    refine ⟨by omega, fun x hm => ?_⟩
    obtain ⟨i, hi, hx⟩ := List.mem_iff_getElem.1 hm
    have h0 := errG_zero xs.length 0 h (by omega) i x (by omega) (by omega) (by rw [List.getElem?_eq_getElem hi, hx])
    unfold entE at h0
    exact outE_zero.1 (firstE_zero h0 (outE x.sd 0 999999999) (by simp))
theorem firstE_two0 (z q : Int) (h : z = 0) : firstE [z, q] = q := by
  subst h
  by_cases h2 : q = 0 <;> simp [firstE, h2]
theorem firstE_two1 (z q : Int) (h : z ≠ 0) : firstE [z, q] = z := by simp [firstE, h]
end Go.Proofs.YtcnpmebihdonoaaGreatDoor
