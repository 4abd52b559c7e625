/- TopKarabinerForward, as it was given (the tied card): for whatever results, number of places and names of those who are out: where the results are at most ten and right, the quota is from 0 to 20 and at most ten are out, each of them once and with a result, start.Forward and result.Through let the same go on, start.Replace lets those go on that result.Through lets go on among the others, and who goes on and is not out is among them; and the law's own test passes. Conditions: none but those of the given card (the program's table holds what its text lays). -/
import Derived.Test.YtnbboheaheicnabGreatDoorKaQ
import Derived.Test.YtnbboheaheicnabGreatDoorCards
import Derived.Test.YtnbboheaheicnabGreatDoorTie
import Derived.SevenTiedAt
namespace Go.Proofs.YtnbboheaheicnabGreatDoor
open Go
theorem topKarabinerForward_card : Rows.TopKarabinerForwardCardSaid :=
  Claim7.holds_tied_plain_at .later [] [.data] true (true, "08048b23fb59d6d8d6f06523134bc926bf1ceb10aebfea05f03c0c1ca4620455") false
    topKarabinerForward_holds (fun _ h => by cases h) (by kernel_rfl) (fun _ h => by cases h) topKarabinerForward_row_tie rfl ⟨rfl, rfl⟩ (by kernel_rfl) rfl
    (fun f fn hf hfn => by
      obtain rfl : f = 3 := Option.some.inj ((show Tryz.prog.funcNamed "crux/cruxtop.TopKarabinerForward" = some 3 by kernel_rfl).symm.trans hf) |>.symm
      obtain rfl : fn = Tryz.f3 := (Option.some.inj (Tryz.func3.symm.trans hfn)).symm
      exact ⟨by kernel_rfl, fun j t ht => by
        rw [Tryz.params3] at ht
        have hm : t ∈ [22, 3, 23] := by simpa using Array.mem_of_getElem? ht
        have hall : ([22, 3, 23].all fun u => !Tryz.prog.wantsStandIn u) = true := by kernel_rfl
        exact (show Tryz.prog.wantsStandIn t = false by simpa using List.all_eq_true.1 hall t hm)⟩)
    (by kernel_rfl)
#print axioms topKarabinerForward_card
end Go.Proofs.YtnbboheaheicnabGreatDoor
