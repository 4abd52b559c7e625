/- StartLists, as it was given (the tied card): for whatever starters, number of groups and key: where the list is short, start.CheckStarters, start.Seeded and start.Groups return what the reference returns, or the first error; and the law's own test passes. Conditions: none but those of the given card (the program's table holds what its text lays). -/
import Derived.Test.YtlcbdgmclhdofaaGreatDoorLsQ
import Derived.Test.YtlcbdgmclhdofaaGreatDoorCards
import Derived.Test.YtlcbdgmclhdofaaGreatDoorTie
import Derived.SevenTiedAt
namespace Go.Proofs.YtlcbdgmclhdofaaGreatDoor
open Go
theorem startLists_card : Rows.StartListsCardSaid :=
  Claim7.holds_tied_plain_at .later [] [.data] true (true, "570617ef3a8b6484afaeeb5f391fdfc599a3f9be8edafa0ecb3ca18bdd0c0e59") false
    startLists_holds (fun _ h => by cases h) (by kernel_rfl) (fun _ h => by cases h) startLists_row_tie rfl ⟨rfl, rfl⟩ (by kernel_rfl) rfl
    (fun f fn hf hfn => by
      obtain rfl : f = 3 := Option.some.inj ((show Tryz.prog.funcNamed "crux/cruxlaw06.StartLists" = some 3 by kernel_rfl).symm.trans hf) |>.symm
      obtain rfl : fn = Tryz.f3 := (Option.some.inj (Tryz.func3.symm.trans hfn)).symm
      exact ⟨by kernel_rfl, fun j t ht => by
        rw [Tryz.params3] at ht
        have hm : t ∈ [22, 3, 3] := by simpa using Array.mem_of_getElem? ht
        have hall : ([22, 3, 3].all fun u => !Tryz.prog.wantsStandIn u) = true := by kernel_rfl
        exact (show Tryz.prog.wantsStandIn t = false by simpa using List.all_eq_true.1 hall t hm)⟩)
    (by kernel_rfl)
#print axioms startLists_card
end Go.Proofs.YtlcbdgmclhdofaaGreatDoor
