/- Witnesses: what the law asks of a question. -/
import Derived.Test.YtigmonaggppehaaGreatDoorWitAB
import Derived.Test.YtigmonaggppehaaGreatDoorWitMC
import Derived.Test.YtigmonaggppehaaGreatDoorOpV
namespace Go.Proofs.YtigmonaggppehaaGreatDoor
open Go.RowKit Go.Lib
set_option linter.unusedSimpArgs false
set_option linter.unusedVariables false
set_option maxHeartbeats 1000000 in
set_option maxRecDepth 100000 in
theorem askedR_c {v : Value} {xs : List OpR} {w : World} (cl r : Int) (h : OpsV w v xs) :
    Calls Tryz.prog 10 #[v, .int .i64 cl, .int .i64 r] w fun e w' => e = .returned (.int .i64 (questE xs cl r)) ∧ Gr w w' := by
  obtain ⟨p, cap, rfl⟩ := opsV_slice h
  have HO := Lib.hid (refOpen_c h)
  have HQ : questE xs cl r = firstE [openE xs, climbE cl xs.length, outE r 1 xs.length] := rfl
  by_cases h0 : openE xs = 0
  · rw [h0] at HO HQ
    clear h h0
    generalize xs.length = n at *
    by_cases h1 : cl < 0
    · have HE : Hid (questE xs cl r = 10) := by unfold Hid; rw [HQ]; unfold climbE; rw [if_pos (Or.inl h1)]; rfl
      clear HQ
      go_enter Tryz.func10, Tryz.ntmps10
      go_wp2_with fail
      refine HO.out.mono ?_
      rintro e w1 ⟨rfl, g⟩
      go_wp2_with fail
      go_ret
      exact ⟨by rw [HE.out]; rfl, g⟩
    · by_cases h2 : (n : Int) ≤ cl
      · have HE : Hid (questE xs cl r = 10) := by unfold Hid; rw [HQ]; unfold climbE; rw [if_pos (Or.inr h2)]; rfl
        clear HQ
        go_enter Tryz.func10, Tryz.ntmps10
        go_wp2_with fail
        refine HO.out.mono ?_
        rintro e w1 ⟨rfl, g⟩
        go_wp2_with fail
        go_ret
        exact ⟨by rw [HE.out]; rfl, g⟩
      · have hc0 : climbE cl n = 0 := by unfold climbE; rw [if_neg (by omega)]
        rw [hc0] at HQ
        clear hc0
        by_cases h3 : r < 1
        · have HE : Hid (questE xs cl r = 3) := by unfold Hid; rw [HQ]; unfold outE outB; rw [decide_eq_true h3]; rfl
          clear HQ
          go_enter Tryz.func10, Tryz.ntmps10
          go_wp2_with fail
          refine HO.out.mono ?_
          rintro e w1 ⟨rfl, g⟩
          go_wp2_with fail
          go_ret
          exact ⟨by rw [HE.out]; rfl, g⟩
        · by_cases h4 : (n : Int) < r
          · have HE : Hid (questE xs cl r = 3) := by unfold Hid; rw [HQ]; unfold outE outB; rw [decide_eq_true h4, Bool.or_true]; rfl
            clear HQ
            go_enter Tryz.func10, Tryz.ntmps10
            go_wp2_with fail
            refine HO.out.mono ?_
            rintro e w1 ⟨rfl, g⟩
            go_wp2_with fail
            go_ret
            exact ⟨by rw [HE.out]; rfl, g⟩
          · have HE : Hid (questE xs cl r = 0) := by unfold Hid; rw [HQ]; unfold outE outB; rw [decide_eq_false h3, decide_eq_false h4]; rfl
            clear HQ
            go_enter Tryz.func10, Tryz.ntmps10
            go_wp2_with fail
            refine HO.out.mono ?_
            rintro e w1 ⟨rfl, g⟩
            go_wp2_with fail
            go_ret
            exact ⟨by rw [HE.out]; rfl, g⟩
  · have HE : Hid (questE xs cl r = openE xs) := by unfold Hid; rw [HQ]; unfold firstE; rw [if_neg h0]
    rw [HE.out]
    have hz : (openE xs == 0) = false := beq_eq_false_iff_ne.2 h0
    clear HE h0 h HQ
    generalize xs.length = n at *
    generalize openE xs = E at *
    go_enter Tryz.func10, Tryz.ntmps10
    go_wp2_with fail
    refine HO.out.mono ?_
    rintro e w1 ⟨rfl, g⟩
    go_wp2_with fail
    go_ret
    exact ⟨rfl, g⟩
/-- what is known where a question has no error -/
theorem quest_ok {xs : List OpR} {cl r : Int} (h : questE xs cl r = 0) : openE xs = 0 ∧ 0 ≤ cl ∧ cl < xs.length ∧ 1 ≤ r ∧ r ≤ xs.length := by
  unfold questE firstE firstE firstE firstE at h
  by_cases h0 : openE xs = 0
  · rw [if_pos h0] at h
    by_cases h1 : climbE cl xs.length = 0
    · rw [if_pos h1] at h
      by_cases h2 : outE r 1 xs.length = 0
      · refine ⟨h0, ?_⟩
        unfold climbE at h1
        split at h1
        · cases h1
        · unfold outE outB at h2
          split at h2
          · cases h2
          · rename_i a b
            simp only [Bool.or_eq_true, decide_eq_true_eq, not_or] at b
            omega
      · rw [if_neg h2] at h
        exact absurd h h2
    · rw [if_neg h1] at h
      exact absurd h h1
  · rw [if_neg h0] at h
    exact absurd h h0
end Go.Proofs.YtigmonaggppehaaGreatDoor
