/- ResultNarrows, as it was given (the tied card): for whatever open values, climber and number, the best and the worst possible rank are those of the greatest and the least values, with a value that is decided no further rank becomes possible, with all values decided just the rank of the results is left, and awake() is true. Conditions: none but those of the given card (the program's and the library's tables hold what its text lays). -/
import Derived.Test.YtigmonaggppehaaGreatDoorNaQ
import Derived.Test.YtigmonaggppehaaGreatDoorCards
import Derived.Test.YtigmonaggppehaaGreatDoorTie
import Derived.SevenTiedAt
namespace Go.Proofs.YtigmonaggppehaaGreatDoor
open Go
theorem resultNarrows_card : Rows.ResultNarrowsCardSaid :=
  Claim7.holds_tied_plain_at .later [] [.data, .data, .data, .data] true (true, "ab778f376649adf4553af90e0d866d1a29c5d710d082c8271401357807d0a651") false
    resultNarrows_holds (fun _ h => by cases h) (by kernel_rfl) (fun _ h => by cases h) resultNarrows_row_tie rfl ⟨rfl, rfl⟩ (by kernel_rfl) rfl
    (fun f fn hf hfn => by
      obtain rfl : f = 4 := Option.some.inj ((show Tryz.prog.funcNamed "crux/cruxlaw07.ResultNarrows" = some 4 by kernel_rfl).symm.trans hf) |>.symm
      obtain rfl : fn = Tryz.f4 := (Option.some.inj (Tryz.func4.symm.trans hfn)).symm
      exact ⟨by kernel_rfl, fun j t ht => by
        rw [Tryz.params4] at ht
        have hm : t ∈ [22, 3, 5] := by simpa using Array.mem_of_getElem? ht
        have hall : ([22, 3, 5].all fun u => !Tryz.prog.wantsStandIn u) = true := by kernel_rfl
        exact (show Tryz.prog.wantsStandIn t = false by simpa using List.all_eq_true.1 hall t hm)⟩)
    (by kernel_rfl)
#print axioms resultNarrows_card
end Go.Proofs.YtigmonaggppehaaGreatDoor
