/- TopKarabinerQuota, as it was given (the tied card): for whatever results, number of places and names of those who are out: where the results are at most ten and right, no two of them that count are tied, the quota is from 0 to 20 and at most ten are out, each of them once and with a result, season.Places with the one rule, whose list are those who go on by result.Through, gives its places to those whom start.Replace lets go on; and the law's own test passes. Conditions: none but those of the given card (the program's table holds what its text lays). -/
import Derived.Test.YtebnbjaaogfikaaGreatDoorQkQ
import Derived.Test.YtebnbjaaogfikaaGreatDoorCards
import Derived.Test.YtebnbjaaogfikaaGreatDoorTie
import Derived.SevenTiedAt
namespace Go.Proofs.YtebnbjaaogfikaaGreatDoor
open Go
theorem topKarabinerQuota_card : Rows.TopKarabinerQuotaCardSaid :=
  Claim7.holds_tied_plain_at .later [] [.data] true (true, "89ada9c30a960e03f06c7e7b27ddaf094285522e6346f484f7059f1785ca8702") false
    topKarabinerQuota_holds (fun _ h => by cases h) (by kernel_rfl) (fun _ h => by cases h) topKarabinerQuota_row_tie rfl ⟨rfl, rfl⟩ (by kernel_rfl) rfl
    (fun f fn hf hfn => by
      obtain rfl : f = 3 := Option.some.inj ((show Tryz.prog.funcNamed "crux/cruxtop.TopKarabinerQuota" = some 3 by kernel_rfl).symm.trans hf) |>.symm
      obtain rfl : fn = Tryz.f3 := (Option.some.inj (Tryz.func3.symm.trans hfn)).symm
      exact ⟨by kernel_rfl, fun j t ht => by
        rw [Tryz.params3] at ht
        have hm : t ∈ [22, 3, 23] := by simpa using Array.mem_of_getElem? ht
        have hall : ([22, 3, 23].all fun u => !Tryz.prog.wantsStandIn u) = true := by kernel_rfl
        exact (show Tryz.prog.wantsStandIn t = false by simpa using List.all_eq_true.1 hall t hm)⟩)
    (by kernel_rfl)
#print axioms topKarabinerQuota_card
end Go.Proofs.YtebnbjaaogfikaaGreatDoor
