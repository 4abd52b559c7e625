/- OfficeSheets, as it was given (the tied card): for whatever entry: office.CheckSheet, office.Ranks and office.CheckEntry return what the reference returns, or the first error. -/
import Derived.Test.YtjkiidkacpffnaaGreatDoorOfQ
import Derived.Test.YtjkiidkacpffnaaGreatDoorCards
import Derived.Test.YtjkiidkacpffnaaGreatDoorTie
import Derived.SevenTiedAt
namespace Go.Proofs.YtjkiidkacpffnaaGreatDoor
open Go
theorem officeSheets_card : Rows.OfficeSheetsCardSaid :=
  Claim7.holds_tied_plain_at .later [] [.data, .data, .data, .data, .sentinel, .sentinel, .pinned] true (true, "03bb7edd6a4494958194d1e44f79b36d8b078bb2e024ff4e0165fd781fe9f088") true
    officeSheets_holds (fun _ h => by cases h) (by kernel_rfl) (fun _ h => by cases h) officeSheets_row_tie rfl ⟨rfl, rfl⟩ (by kernel_rfl) rfl
    (fun f fn hf hfn => by
      obtain rfl : f = 3 := Option.some.inj ((show Tryz.prog.funcNamed "crux/cruxlaw10.OfficeSheets" = some 3 by kernel_rfl).symm.trans hf) |>.symm
      obtain rfl : fn = Tryz.f3 := (Option.some.inj (Tryz.func3.symm.trans hfn)).symm
      exact ⟨by kernel_rfl, fun j t ht => by
        rw [Tryz.params3] at ht
        have hm : t ∈ [26] := by simpa using Array.mem_of_getElem? ht
        have hall : (([26] : List TypeId).all fun u => !Tryz.prog.wantsStandIn u) = true := by kernel_rfl
        exact (show Tryz.prog.wantsStandIn t = false by simpa using List.all_eq_true.1 hall t hm)⟩)
    (by kernel_rfl)
#print axioms officeSheets_card
end Go.Proofs.YtjkiidkacpffnaaGreatDoor
