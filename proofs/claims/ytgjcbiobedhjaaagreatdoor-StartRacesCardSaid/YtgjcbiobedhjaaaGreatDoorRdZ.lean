/- StartRaces, as it was given (the tied card): for whatever races: start.CheckRaces, start.Next and start.Small return what the reference returns, or the first error. -/
import Derived.Test.YtgjcbiobedhjaaaGreatDoorRdQ
import Derived.Test.YtgjcbiobedhjaaaGreatDoorCards
import Derived.Test.YtgjcbiobedhjaaaGreatDoorTie
import Derived.SevenTiedAt
namespace Go.Proofs.YtgjcbiobedhjaaaGreatDoor
open Go
theorem startRaces_card : Rows.StartRacesCardSaid :=
  Claim7.holds_tied_plain_at .later [] [.data] true (true, "3f4b6416298144637577a29503d9f9c658eb1849169ce3a42cfb983573f8c666") false
    startRaces_holds (fun _ h => by cases h) (by kernel_rfl) (fun _ h => by cases h) startRaces_row_tie rfl ⟨rfl, rfl⟩ (by kernel_rfl) rfl
    (fun f fn hf hfn => by
      obtain rfl : f = 3 := Option.some.inj ((show Tryz.prog.funcNamed "crux/cruxlaw06.StartRaces" = some 3 by kernel_rfl).symm.trans hf) |>.symm
      obtain rfl : fn = Tryz.f3 := (Option.some.inj (Tryz.func3.symm.trans hfn)).symm
      exact ⟨by kernel_rfl, fun j t ht => by
        rw [Tryz.params3] at ht
        have hm : t ∈ [22] := by simpa using Array.mem_of_getElem? ht
        have hall : (([22] : List TypeId).all fun u => !Tryz.prog.wantsStandIn u) = true := by kernel_rfl
        exact (show Tryz.prog.wantsStandIn t = false by simpa using List.all_eq_true.1 hall t hm)⟩)
    (by kernel_rfl)
#print axioms startRaces_card
end Go.Proofs.YtgjcbiobedhjaaaGreatDoor
