/- ResultWitnesses, as it was given (the tied card): for whatever open values, climber, rank and values, CheckWitness returns the error of the reference, Witness values with the rank or the error of the reference, and awake() is true. Conditions: none but those of the given card (the program's and the library's tables hold what its text lays). -/
import Derived.Test.YtigmonaggppehaaGreatDoorWitQ
import Derived.Test.YtigmonaggppehaaGreatDoorCards
import Derived.Test.YtigmonaggppehaaGreatDoorTie
import Derived.SevenTiedAt
namespace Go.Proofs.YtigmonaggppehaaGreatDoor
open Go
theorem resultWitnesses_card : Rows.ResultWitnessesCardSaid :=
  Claim7.holds_tied_plain_at .later [] [.data, .data, .data, .data] true (true, "ab778f376649adf4553af90e0d866d1a29c5d710d082c8271401357807d0a651") false
    resultWitnesses_holds (fun _ h => by cases h) (by kernel_rfl) (fun _ h => by cases h) resultWitnesses_row_tie rfl ⟨rfl, rfl⟩ (by kernel_rfl) rfl
    (fun f fn hf hfn => by
      obtain rfl : f = 3 := Option.some.inj ((show Tryz.prog.funcNamed "crux/cruxlaw07.ResultWitnesses" = some 3 by kernel_rfl).symm.trans hf) |>.symm
      obtain rfl : fn = Tryz.f3 := (Option.some.inj (Tryz.func3.symm.trans hfn)).symm
      exact ⟨by kernel_rfl, fun j t ht => by
        rw [Tryz.params3] at ht
        have hm : t ∈ [22, 23, 24] := by simpa using Array.mem_of_getElem? ht
        have hall : ([22, 23, 24].all fun u => !Tryz.prog.wantsStandIn u) = true := by kernel_rfl
        exact (show Tryz.prog.wantsStandIn t = false by simpa using List.all_eq_true.1 hall t hm)⟩)
    (by kernel_rfl)
#print axioms resultWitnesses_card
end Go.Proofs.YtigmonaggppehaaGreatDoor
