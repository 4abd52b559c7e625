/- StartPlaces, as it was given (the tied card): for whatever rounds and two runs: start.Duel and start.Places return what the reference returns, or the first error. -/
import Derived.Test.YthfmgficbnmmnaaGreatDoorPlQ
import Derived.Test.YthfmgficbnmmnaaGreatDoorCards
import Derived.Test.YthfmgficbnmmnaaGreatDoorTie
import Derived.SevenTiedAt
namespace Go.Proofs.YthfmgficbnmmnaaGreatDoor
open Go
theorem startPlaces_card : Rows.StartPlacesCardSaid :=
  Claim7.holds_tied_plain_at .later [] [.data] true (true, "de3ac3f6be7ee03d0d9c078aa0768d364bb9d54256560e8bf35cf7f4d0172883") false
    startPlaces_holds (fun _ h => by cases h) (by kernel_rfl) (fun _ h => by cases h) startPlaces_row_tie rfl ⟨rfl, rfl⟩ (by kernel_rfl) rfl
    (fun f fn hf hfn => by
      obtain rfl : f = 3 := Option.some.inj ((show Tryz.prog.funcNamed "crux/cruxlaw06.StartPlaces" = some 3 by kernel_rfl).symm.trans hf) |>.symm
      obtain rfl : fn = Tryz.f3 := (Option.some.inj (Tryz.func3.symm.trans hfn)).symm
      exact ⟨by kernel_rfl, fun j t ht => by
        rw [Tryz.params3] at ht
        have hm : t ∈ [22, 24, 24] := by simpa using Array.mem_of_getElem? ht
        have hall : (([22, 24, 24] : List TypeId).all fun u => !Tryz.prog.wantsStandIn u) = true := by kernel_rfl
        exact (show Tryz.prog.wantsStandIn t = false by simpa using List.all_eq_true.1 hall t hm)⟩)
    (by kernel_rfl)
#print axioms startPlaces_card
end Go.Proofs.YthfmgficbnmmnaaGreatDoor
