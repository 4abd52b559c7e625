/- StartCalls: the tied card. -/
import Derived.Test.YtdpdbgcdmpdaoaaGreatDoorCallQ
import Derived.Test.YtdpdbgcdmpdaoaaGreatDoorCards
import Derived.Test.YtdpdbgcdmpdaoaaGreatDoorTie
import Derived.SevenTiedAt
namespace Go.Proofs.YtdpdbgcdmpdaoaaGreatDoor
open Go
theorem startCalls_card : Rows.StartCallsCardSaid :=
  Claim7.holds_tied_plain_at .later [] [.data] true (true, "fed103ec6bb6e67f36ba4700badddb4cd1190c3054a0184f82a85ca4ac688786") false
    startCalls_holds (fun _ h => by cases h) (by kernel_rfl) (fun _ h => by cases h) startCalls_row_tie rfl ⟨rfl, rfl⟩ (by kernel_rfl) rfl
    (fun f fn hf hfn => by
      obtain rfl : f = 3 := Option.some.inj ((show Tryz.prog.funcNamed "crux/cruxlaw06.StartCalls" = some 3 by kernel_rfl).symm.trans hf) |>.symm
      obtain rfl : fn = Tryz.f3 := (Option.some.inj (Tryz.func3.symm.trans hfn)).symm
      exact ⟨by kernel_rfl, fun j t ht => by
        rw [Tryz.params3] at ht
        have hm : t ∈ [3, 23] := by simpa using Array.mem_of_getElem? ht
        have hall : ([3, 23].all fun u => !Tryz.prog.wantsStandIn u) = true := by kernel_rfl
        exact (show Tryz.prog.wantsStandIn t = false by simpa using List.all_eq_true.1 hall t hm)⟩)
    (by kernel_rfl)
#print axioms startCalls_card
end Go.Proofs.YtdpdbgcdmpdaoaaGreatDoor
