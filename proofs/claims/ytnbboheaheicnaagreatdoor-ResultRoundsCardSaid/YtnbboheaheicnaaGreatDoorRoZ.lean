/- ResultRounds, as it was given (the tied card): for whatever results and number of places, CheckRound, Rank and Through return the results or the errors of the reference, and awake() is true. Conditions: none but those of the given card (the program's and the library's tables hold what its text lays). -/
import Derived.Test.YtnbboheaheicnaaGreatDoorRoQ
import Derived.Test.YtnbboheaheicnaaGreatDoorCards
import Derived.Test.YtnbboheaheicnaaGreatDoorTie
import Derived.SevenTiedAt
namespace Go.Proofs.YtnbboheaheicnaaGreatDoor
open Go
theorem resultRounds_card : Rows.ResultRoundsCardSaid :=
  Claim7.holds_tied_plain_at .later [] [.data, .data, .data, .data] true (true, "9e3ce3f0e7fe38ee71d4ebffebc281bb4ad8cf4f6bdcceb9c5a8d21d67da8870") false
    resultRounds_holds (fun _ h => by cases h) (by kernel_rfl) (fun _ h => by cases h) resultRounds_row_tie rfl ⟨rfl, rfl⟩ (by kernel_rfl) rfl
    (fun f fn hf hfn => by
      obtain rfl : f = 3 := Option.some.inj ((show Tryz.prog.funcNamed "crux/cruxlaw07.ResultRounds" = some 3 by kernel_rfl).symm.trans hf) |>.symm
      obtain rfl : fn = Tryz.f3 := (Option.some.inj (Tryz.func3.symm.trans hfn)).symm
      exact ⟨by kernel_rfl, fun j t ht => by
        rw [Tryz.params3] at ht
        have hm : t ∈ [22, 3] := by simpa using Array.mem_of_getElem? ht
        have hall : ([22, 3].all fun u => !Tryz.prog.wantsStandIn u) = true := by kernel_rfl
        exact (show Tryz.prog.wantsStandIn t = false by simpa using List.all_eq_true.1 hall t hm)⟩)
    (by kernel_rfl)
#print axioms resultRounds_card
end Go.Proofs.YtnbboheaheicnaaGreatDoor
