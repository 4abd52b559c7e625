/- StartSeeds: the tied card. -/
import Derived.Test.YtekpcmgkpbfcjaaGreatDoorSeedQ
import Derived.Test.YtekpcmgkpbfcjaaGreatDoorCards
import Derived.Test.YtekpcmgkpbfcjaaGreatDoorTie
import Derived.SevenTiedAt
namespace Go.Proofs.YtekpcmgkpbfcjaaGreatDoor
open Go
theorem startSeeds_card : Rows.StartSeedsCardSaid :=
  Claim7.holds_tied_plain_at .later [] [.data] true (true, "88e63e9399e827613adefda82d71003b7206c776c54ab0e4fc1b4d376ae565ed") false
    startSeeds_holds (fun _ h => by cases h) (by kernel_rfl) (fun _ h => by cases h) startSeeds_row_tie rfl ⟨rfl, rfl⟩ (by kernel_rfl) rfl
    (fun f fn hf hfn => by
      obtain rfl : f = 4 := Option.some.inj ((show Tryz.prog.funcNamed "crux/cruxlaw06.StartSeeds" = some 4 by kernel_rfl).symm.trans hf) |>.symm
      obtain rfl : fn = Tryz.f4 := (Option.some.inj (Tryz.func4.symm.trans hfn)).symm
      exact ⟨by kernel_rfl, fun j t ht => by
        rw [Tryz.params4] at ht
        have hm : t ∈ [3, 45] := by simpa using Array.mem_of_getElem? ht
        have hall : ([3, 45].all fun u => !Tryz.prog.wantsStandIn u) = true := by kernel_rfl
        exact (show Tryz.prog.wantsStandIn t = false by simpa using List.all_eq_true.1 hall t hm)⟩)
    (by kernel_rfl)
#print axioms startSeeds_card
end Go.Proofs.YtekpcmgkpbfcjaaGreatDoor
