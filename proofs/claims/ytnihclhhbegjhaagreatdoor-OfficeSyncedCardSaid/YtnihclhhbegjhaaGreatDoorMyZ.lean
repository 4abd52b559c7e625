/- OfficeSynced, as it was given (the tied card): for whatever archive and part of it: what the part lacks, merged into the part, is the archive. -/
import Derived.Test.YtnihclhhbegjhaaGreatDoorMyQ
import Derived.Test.YtnihclhhbegjhaaGreatDoorCards
import Derived.Test.YtnihclhhbegjhaaGreatDoorTie
import Derived.SevenTiedAt
namespace Go.Proofs.YtnihclhhbegjhaaGreatDoor
open Go
theorem officeSynced_card : Rows.OfficeSyncedCardSaid :=
  Claim7.holds_tied_plain_at .later [] [.data, .data, .data, .data, .sentinel, .sentinel, .pinned] true (true, "f25cbacdc898a4537643c02f4190e275e211be761ce65e56b22e70fed7925d6b") true
    officeSynced_holds (fun _ h => by cases h) (by kernel_rfl) (fun _ h => by cases h) officeSynced_row_tie rfl ⟨rfl, rfl⟩ (by kernel_rfl) rfl
    (fun f fn hf hfn => by
      obtain rfl : f = 6 := Option.some.inj ((show Tryz.prog.funcNamed "crux/cruxlaw10.OfficeSynced" = some 6 by kernel_rfl).symm.trans hf) |>.symm
      obtain rfl : fn = Tryz.f6 := (Option.some.inj (Tryz.func6.symm.trans hfn)).symm
      exact ⟨by kernel_rfl, fun j t ht => by
        rw [Tryz.params6] at ht
        have hm : t ∈ [24, 73] := by simpa using Array.mem_of_getElem? ht
        have hall : (([24, 73] : List TypeId).all fun u => !Tryz.prog.wantsStandIn u) = true := by kernel_rfl
        exact (show Tryz.prog.wantsStandIn t = false by simpa using List.all_eq_true.1 hall t hm)⟩)
    (by kernel_rfl)
#print axioms officeSynced_card
end Go.Proofs.YtnihclhhbegjhaaGreatDoor
