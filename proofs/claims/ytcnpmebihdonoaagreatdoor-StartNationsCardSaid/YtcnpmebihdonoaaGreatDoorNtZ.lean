/- StartNations, as it was given (the tied card): for whatever starters and order: where both are of the sizes asked, start.Routes, start.Neighbours and start.Fewest return what the reference returns, and start.Apart a list with the fewest neighbours of one nation, or the first error; and the law's own test passes. Conditions: none but those of the given card (the program's table holds what its text lays). -/
import Derived.Test.YtcnpmebihdonoaaGreatDoorNtQ
import Derived.Test.YtcnpmebihdonoaaGreatDoorCards
import Derived.Test.YtcnpmebihdonoaaGreatDoorTie
import Derived.SevenTiedAt
namespace Go.Proofs.YtcnpmebihdonoaaGreatDoor
open Go
theorem startNations_card : Rows.StartNationsCardSaid :=
  Claim7.holds_tied_plain_at .later [] [.data] true (true, "e653bf9255f039a9b295738a7f4a96143c5594c98ad8537037777524d5d410a1") false
    startNations_holds (fun _ h => by cases h) (by kernel_rfl) (fun _ h => by cases h) startNations_row_tie rfl ⟨rfl, rfl⟩ (by kernel_rfl) rfl
    (fun f fn hf hfn => by
      obtain rfl : f = 3 := Option.some.inj ((show Tryz.prog.funcNamed "crux/cruxlaw06.StartNations" = some 3 by kernel_rfl).symm.trans hf) |>.symm
      obtain rfl : fn = Tryz.f3 := (Option.some.inj (Tryz.func3.symm.trans hfn)).symm
      exact ⟨by kernel_rfl, fun j t ht => by
        rw [Tryz.params3] at ht
        have hm : t ∈ [22, 23] := by simpa using Array.mem_of_getElem? ht
        have hall : ([22, 23].all fun u => !Tryz.prog.wantsStandIn u) = true := by kernel_rfl
        exact (show Tryz.prog.wantsStandIn t = false by simpa using List.all_eq_true.1 hall t hm)⟩)
    (by kernel_rfl)
#print axioms startNations_card
end Go.Proofs.YtcnpmebihdonoaaGreatDoor
