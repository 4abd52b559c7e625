/- ResultOrders, as it was given (the tied card): for whatever results and number, ranks agree with comparisons, the results in another order have the same ranks, a greater first value makes no rank worse, whoever goes on goes on with one place more, and awake() is true. Conditions: none but those of the given card (the program's and the library's tables hold what its text lays). -/
import Derived.Test.YtnbboheaheicnaaGreatDoorOrQ
import Derived.Test.YtnbboheaheicnaaGreatDoorCards
import Derived.Test.YtnbboheaheicnaaGreatDoorTie
import Derived.SevenTiedAt
namespace Go.Proofs.YtnbboheaheicnaaGreatDoor
open Go
theorem resultOrders_card : Rows.ResultOrdersCardSaid :=
  Claim7.holds_tied_plain_at .later [] [.data, .data, .data, .data] true (true, "9e3ce3f0e7fe38ee71d4ebffebc281bb4ad8cf4f6bdcceb9c5a8d21d67da8870") false
    resultOrders_holds (fun _ h => by cases h) (by kernel_rfl) (fun _ h => by cases h) resultOrders_row_tie rfl ⟨rfl, rfl⟩ (by kernel_rfl) rfl
    (fun f fn hf hfn => by
      obtain rfl : f = 4 := Option.some.inj ((show Tryz.prog.funcNamed "crux/cruxlaw07.ResultOrders" = some 4 by kernel_rfl).symm.trans hf) |>.symm
      obtain rfl : fn = Tryz.f4 := (Option.some.inj (Tryz.func4.symm.trans hfn)).symm
      exact ⟨by kernel_rfl, fun j t ht => by
        rw [Tryz.params4] at ht
        have hm : t ∈ [22, 5] := by simpa using Array.mem_of_getElem? ht
        have hall : ([22, 5].all fun u => !Tryz.prog.wantsStandIn u) = true := by kernel_rfl
        exact (show Tryz.prog.wantsStandIn t = false by simpa using List.all_eq_true.1 hall t hm)⟩)
    (by kernel_rfl)
#print axioms resultOrders_card
end Go.Proofs.YtnbboheaheicnaaGreatDoor
