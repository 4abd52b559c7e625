/- StartForwards, as it was given (the tied card): for whatever results, number of places and names of those who have withdrawn: where the results are short, start.CheckResults, start.Forward and start.Replace return what the reference returns, or the first error; and the law's own test passes. Conditions: none but those of the given card (the program's table holds what its text lays). -/
import Derived.Test.YtenhodepaoaiiaaGreatDoorGFwH
import Derived.Test.YtenhodepaoaiiaaGreatDoorCards
import Derived.Test.YtenhodepaoaiiaaGreatDoorTie
import Derived.SevenTiedAt
namespace Go.Proofs.YtenhodepaoaiiaaGreatDoor
open Go
theorem startForwards_card : Rows.StartForwardsCardSaid :=
  Claim7.holds_tied_plain_at .later [] [.data] true (true, "7a4dd08246fce0af7087c2caed69caa30cafe702e544c582eb7048d5586e557a") false
    startForwards_holds (fun _ h => by cases h) (by kernel_rfl) (fun _ h => by cases h) startForwards_row_tie rfl ⟨rfl, rfl⟩ (by kernel_rfl) rfl
    (fun f fn hf hfn => by
      obtain rfl : f = 3 := Option.some.inj ((show Tryz.prog.funcNamed "crux/cruxlaw06.StartForwards" = some 3 by kernel_rfl).symm.trans hf) |>.symm
      obtain rfl : fn = Tryz.f3 := (Option.some.inj (Tryz.func3.symm.trans hfn)).symm
      exact ⟨by kernel_rfl, fun j t ht => by
        rw [Tryz.params3] at ht
        have hm : t ∈ [22, 3, 23] := by simpa using Array.mem_of_getElem? ht
        have hall : ([22, 3, 23].all fun u => !Tryz.prog.wantsStandIn u) = true := by kernel_rfl
        exact (show Tryz.prog.wantsStandIn t = false by simpa using List.all_eq_true.1 hall t hm)⟩)
    (by kernel_rfl)
#print axioms startForwards_card
end Go.Proofs.YtenhodepaoaiiaaGreatDoor
