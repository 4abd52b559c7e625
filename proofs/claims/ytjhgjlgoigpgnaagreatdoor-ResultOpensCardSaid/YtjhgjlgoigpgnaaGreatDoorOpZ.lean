/- ResultOpens, as it was given (the tied card): for whatever open values and climber, CheckOpen and Ranks return the results or the errors of the reference, and awake() is true. Conditions: none but those of the given card (the program's and the library's tables hold what its text lays). -/
import Derived.Test.YtjhgjlgoigpgnaaGreatDoorOpX
import Derived.Test.YtjhgjlgoigpgnaaGreatDoorCards
import Derived.Test.YtjhgjlgoigpgnaaGreatDoorTie
import Derived.SevenTiedAt
namespace Go.Proofs.YtjhgjlgoigpgnaaGreatDoor
open Go
theorem resultOpens_card : Rows.ResultOpensCardSaid :=
  Claim7.holds_tied_plain_at .later [] [.data, .data, .data, .data] true (true, "a88ca8a317e625fd2d1c0fcc44bc3a8bc9aad26919ed63d447164c63dffd7d43") false
    resultOpens_holds (fun _ h => by cases h) (by kernel_rfl) (fun _ h => by cases h) resultOpens_row_tie rfl ⟨rfl, rfl⟩ (by kernel_rfl) rfl
    (fun f fn hf hfn => by
      obtain rfl : f = 4 := Option.some.inj ((show Tryz.prog.funcNamed "crux/cruxlaw07.ResultOpens" = some 4 by kernel_rfl).symm.trans hf) |>.symm
      obtain rfl : fn = Tryz.f4 := (Option.some.inj (Tryz.func4.symm.trans hfn)).symm
      exact ⟨by kernel_rfl, fun j t ht => by
        rw [Tryz.params4] at ht
        have hm : t ∈ [34, 3] := by simpa using Array.mem_of_getElem? ht
        have hall : ([34, 3].all fun u => !Tryz.prog.wantsStandIn u) = true := by kernel_rfl
        exact (show Tryz.prog.wantsStandIn t = false by simpa using List.all_eq_true.1 hall t hm)⟩)
    (by kernel_rfl)
#print axioms resultOpens_card
end Go.Proofs.YtjhgjlgoigpgnaaGreatDoor
