/- OfficeOrders, as it was given (the tied card): for whatever sheet: the ranks of its results are 1 and the number of results with lesser ranks, in the order of values and states. -/
import Derived.Test.YtjkiidkacpffnaaGreatDoorOgQ
import Derived.Test.YtjkiidkacpffnaaGreatDoorCards
import Derived.Test.YtjkiidkacpffnaaGreatDoorTie
import Derived.SevenTiedAt
namespace Go.Proofs.YtjkiidkacpffnaaGreatDoor
open Go
theorem officeOrders_card : Rows.OfficeOrdersCardSaid :=
  Claim7.holds_tied_plain_at .later [] [.data, .data, .data, .data, .sentinel, .sentinel, .pinned] true (true, "03bb7edd6a4494958194d1e44f79b36d8b078bb2e024ff4e0165fd781fe9f088") true
    officeOrders_holds (fun _ h => by cases h) (by kernel_rfl) (fun _ h => by cases h) officeOrders_row_tie rfl ⟨rfl, rfl⟩ (by kernel_rfl) rfl
    (fun f fn hf hfn => by
      obtain rfl : f = 4 := Option.some.inj ((show Tryz.prog.funcNamed "crux/cruxlaw10.OfficeOrders" = some 4 by kernel_rfl).symm.trans hf) |>.symm
      obtain rfl : fn = Tryz.f4 := (Option.some.inj (Tryz.func4.symm.trans hfn)).symm
      exact ⟨by kernel_rfl, fun j t ht => by
        rw [Tryz.params4] at ht
        have hm : t ∈ [24] := by simpa using Array.mem_of_getElem? ht
        have hall : (([24] : List TypeId).all fun u => !Tryz.prog.wantsStandIn u) = true := by kernel_rfl
        exact (show Tryz.prog.wantsStandIn t = false by simpa using List.all_eq_true.1 hall t hm)⟩)
    (by kernel_rfl)
#print axioms officeOrders_card
end Go.Proofs.YtjkiidkacpffnaaGreatDoor
