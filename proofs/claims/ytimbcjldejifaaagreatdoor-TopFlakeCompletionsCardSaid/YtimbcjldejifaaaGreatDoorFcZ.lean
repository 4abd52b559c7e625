/- TopFlakeCompletions, as it was given (the tied card): for whatever climbers with open values and number of one of them: where the climbers are at most four, without an error, and have at most four values each, the ranks that the climber has in all completions, gone through one by one, are just those that result.Ranks tells and result.Witness finds values for; for the others result.Excluded returns bars that result.CheckExcluded accepts; and the law's own test passes. Conditions: none but those of the given card (the program's table holds what its text lays). -/
import Derived.Test.YtimbcjldejifaaaGreatDoorFcQ
import Derived.Test.YtimbcjldejifaaaGreatDoorCards
import Derived.Test.YtimbcjldejifaaaGreatDoorTie
import Derived.SevenTiedAt
namespace Go.Proofs.YtimbcjldejifaaaGreatDoor
open Go
theorem topFlakeCompletions_card : Rows.TopFlakeCompletionsCardSaid :=
  Claim7.holds_tied_plain_at .later [] [.data] true (true, "c3f07d0732be0aae7a3008082cd8ec7b0f8d843788b57feae4b2ca63c79f6900") false
    topFlakeCompletions_holds (fun _ h => by cases h) (by kernel_rfl) (fun _ h => by cases h) topFlakeCompletions_row_tie rfl ⟨rfl, rfl⟩ (by kernel_rfl) rfl
    (fun f fn hf hfn => by
      obtain rfl : f = 3 := Option.some.inj ((show Tryz.prog.funcNamed "crux/cruxtop.TopFlakeCompletions" = some 3 by kernel_rfl).symm.trans hf) |>.symm
      obtain rfl : fn = Tryz.f3 := (Option.some.inj (Tryz.func3.symm.trans hfn)).symm
      exact ⟨by kernel_rfl, fun j t ht => by
        rw [Tryz.params3] at ht
        have hm : t ∈ [22, 3] := by simpa using Array.mem_of_getElem? ht
        have hall : ([22, 3].all fun u => !Tryz.prog.wantsStandIn u) = true := by kernel_rfl
        exact (show Tryz.prog.wantsStandIn t = false by simpa using List.all_eq_true.1 hall t hm)⟩)
    (by kernel_rfl)
#print axioms topFlakeCompletions_card
end Go.Proofs.YtimbcjldejifaaaGreatDoor
