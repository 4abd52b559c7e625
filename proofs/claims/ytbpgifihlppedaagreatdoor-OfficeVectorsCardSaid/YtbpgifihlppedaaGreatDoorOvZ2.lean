/- OfficeVectors, as it was given (the tied card): for whatever archive and marks: office.Vector, office.Gaps and office.Lacking return what the reference returns, or the first error. -/
import Derived.Test.YtbpgifihlppedaaGreatDoorOvQ2
import Derived.Test.YtbpgifihlppedaaGreatDoorCards
import Derived.Test.YtbpgifihlppedaaGreatDoorTie
import Derived.SevenTiedAt
namespace Go.Proofs.YtbpgifihlppedaaGreatDoor
open Go
theorem officeVectors_card : Rows.OfficeVectorsCardSaid :=
  Claim7.holds_tied_plain_at .later [] [.data, .data, .data, .data, .sentinel, .sentinel, .pinned] true (true, "7005e5d97418984edc7e2b0b7a26ab6d6d3ab7c3a59518be09f8be36553ffee6") true
    officeVectors_holds (fun _ h => by cases h) (by kernel_rfl) (fun _ h => by cases h) officeVectors_row_tie rfl ⟨rfl, rfl⟩ (by kernel_rfl) rfl
    (fun f fn hf hfn => by
      obtain rfl : f = 5 := Option.some.inj ((show Tryz.prog.funcNamed "crux/cruxlaw10.OfficeVectors" = some 5 by kernel_rfl).symm.trans hf) |>.symm
      obtain rfl : fn = Tryz.f5 := (Option.some.inj (Tryz.func5.symm.trans hfn)).symm
      exact ⟨by kernel_rfl, fun j t ht => by
        rw [Tryz.params5] at ht
        have hm : t ∈ [24, 55] := by simpa using Array.mem_of_getElem? ht
        have hall : (([24, 55] : List TypeId).all fun u => !Tryz.prog.wantsStandIn u) = true := by kernel_rfl
        exact (show Tryz.prog.wantsStandIn t = false by simpa using List.all_eq_true.1 hall t hm)⟩)
    (by kernel_rfl)
#print axioms officeVectors_card
end Go.Proofs.YtbpgifihlppedaaGreatDoor
