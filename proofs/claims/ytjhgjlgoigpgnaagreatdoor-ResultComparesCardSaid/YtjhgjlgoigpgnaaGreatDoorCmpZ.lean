/- ResultCompares, as it was given (the tied card): for whatever two results, Compare returns the number or the first error of the reference, and awake() is true. Conditions: none but those of the given card (the program's and the library's tables hold what its text lays). -/
import Derived.Test.YtjhgjlgoigpgnaaGreatDoorCmpQ
import Derived.Test.YtjhgjlgoigpgnaaGreatDoorCards
import Derived.Test.YtjhgjlgoigpgnaaGreatDoorTie
import Derived.SevenTiedAt
namespace Go.Proofs.YtjhgjlgoigpgnaaGreatDoor
open Go
theorem resultCompares_card : Rows.ResultComparesCardSaid :=
  Claim7.holds_tied_plain_at .later [] [.data, .data, .data, .data] true (true, "a88ca8a317e625fd2d1c0fcc44bc3a8bc9aad26919ed63d447164c63dffd7d43") false
    resultCompares_holds (fun _ h => by cases h) (by kernel_rfl) (fun _ h => by cases h) resultCompares_row_tie rfl ⟨rfl, rfl⟩ (by kernel_rfl) rfl
    (fun f fn hf hfn => by
      obtain rfl : f = 3 := Option.some.inj ((show Tryz.prog.funcNamed "crux/cruxlaw07.ResultCompares" = some 3 by kernel_rfl).symm.trans hf) |>.symm
      obtain rfl : fn = Tryz.f3 := (Option.some.inj (Tryz.func3.symm.trans hfn)).symm
      exact ⟨by kernel_rfl, fun j t ht => by
        rw [Tryz.params3] at ht
        have hm : t ∈ [24, 24] := by simpa using Array.mem_of_getElem? ht
        have hall : ([24, 24].all fun u => !Tryz.prog.wantsStandIn u) = true := by kernel_rfl
        exact (show Tryz.prog.wantsStandIn t = false by simpa using List.all_eq_true.1 hall t hm)⟩)
    (by kernel_rfl)
#print axioms resultCompares_card
end Go.Proofs.YtjhgjlgoigpgnaaGreatDoor
