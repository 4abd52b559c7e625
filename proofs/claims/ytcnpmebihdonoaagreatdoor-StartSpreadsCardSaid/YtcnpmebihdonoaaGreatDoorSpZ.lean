/- StartSpreads, as it was given (the tied card): for whatever starters, order and numbers that choose: where the starters are right and few, each group has a starter from each full row of the seeded order, groups differ by at most one, no order that is asked and no exchange of two has fewer neighbours of one nation than the list that start.Apart returns, and turned round it has as many; and the law's own test passes. Conditions: none but those of the given card (the program's table holds what its text lays). -/
import Derived.Test.YtcnpmebihdonoaaGreatDoorSpQ
import Derived.Test.YtcnpmebihdonoaaGreatDoorCards
import Derived.Test.YtcnpmebihdonoaaGreatDoorTie
import Derived.SevenTiedAt
namespace Go.Proofs.YtcnpmebihdonoaaGreatDoor
open Go
theorem startSpreads_card : Rows.StartSpreadsCardSaid :=
  Claim7.holds_tied_plain_at .later [] [.data] true (true, "e653bf9255f039a9b295738a7f4a96143c5594c98ad8537037777524d5d410a1") false
    startSpreads_holds (fun _ h => by cases h) (by kernel_rfl) (fun _ h => by cases h) startSpreads_row_tie rfl ⟨rfl, rfl⟩ (by kernel_rfl) rfl
    (fun f fn hf hfn => by
      obtain rfl : f = 4 := Option.some.inj ((show Tryz.prog.funcNamed "crux/cruxlaw06.StartSpreads" = some 4 by kernel_rfl).symm.trans hf) |>.symm
      obtain rfl : fn = Tryz.f4 := (Option.some.inj (Tryz.func4.symm.trans hfn)).symm
      exact ⟨by kernel_rfl, fun j t ht => by
        rw [Tryz.params4] at ht
        have hm : t ∈ [22, 23, 45] := by simpa using Array.mem_of_getElem? ht
        have hall : ([22, 23, 45].all fun u => !Tryz.prog.wantsStandIn u) = true := by kernel_rfl
        exact (show Tryz.prog.wantsStandIn t = false by simpa using List.all_eq_true.1 hall t hm)⟩)
    (by kernel_rfl)
#print axioms startSpreads_card
end Go.Proofs.YtcnpmebihdonoaaGreatDoor
