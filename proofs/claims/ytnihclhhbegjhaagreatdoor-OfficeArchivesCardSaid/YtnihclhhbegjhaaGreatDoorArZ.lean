/- OfficeArchives, as it was given (the tied card): for whatever two archives, desk and sheet: office.CheckArchive, office.Post and office.Merge return what the reference returns, or the first error. -/
import Derived.Test.YtnihclhhbegjhaaGreatDoorArQ
import Derived.Test.YtnihclhhbegjhaaGreatDoorCards
import Derived.Test.YtnihclhhbegjhaaGreatDoorTie
import Derived.SevenTiedAt
namespace Go.Proofs.YtnihclhhbegjhaaGreatDoor
open Go
theorem officeArchives_card : Rows.OfficeArchivesCardSaid :=
  Claim7.holds_tied_plain_at .later [] [.data, .data, .data, .data, .sentinel, .sentinel, .pinned] true (true, "f25cbacdc898a4537643c02f4190e275e211be761ce65e56b22e70fed7925d6b") true
    officeArchives_holds (fun _ h => by cases h) (by kernel_rfl) (fun _ h => by cases h) officeArchives_row_tie rfl ⟨rfl, rfl⟩ (by kernel_rfl) rfl
    (fun f fn hf hfn => by
      obtain rfl : f = 3 := Option.some.inj ((show Tryz.prog.funcNamed "crux/cruxlaw10.OfficeArchives" = some 3 by kernel_rfl).symm.trans hf) |>.symm
      obtain rfl : fn = Tryz.f3 := (Option.some.inj (Tryz.func3.symm.trans hfn)).symm
      exact ⟨by kernel_rfl, fun j t ht => by
        rw [Tryz.params3] at ht
        have hm : t ∈ [24, 24, 29] := by simpa using Array.mem_of_getElem? ht
        have hall : (([24, 24, 29] : List TypeId).all fun u => !Tryz.prog.wantsStandIn u) = true := by kernel_rfl
        exact (show Tryz.prog.wantsStandIn t = false by simpa using List.all_eq_true.1 hall t hm)⟩)
    (by kernel_rfl)
#print axioms officeArchives_card
end Go.Proofs.YtnihclhhbegjhaaGreatDoor
