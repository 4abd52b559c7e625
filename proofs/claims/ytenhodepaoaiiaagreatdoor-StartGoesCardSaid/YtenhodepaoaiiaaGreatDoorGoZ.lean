/- StartGoes, as it was given (the tied card): for whatever results, number of places and two bytes that choose climbers: where the results are at most 14 and right, and the number of places is from 0 to 160, start.Forward lets the same go on for the results in the other order, at least as many as there are places, as far as there are results without a state, and no others; start.Replace changes nothing if one withdraws who doesn't go on, takes out who has withdrawn, keeps all others, and leads to the same in two steps as at once; and the law's own test passes. Conditions: none but those of the given card (the program's table holds what its text lays). -/
import Derived.Test.YtenhodepaoaiiaaGreatDoorGoQ
import Derived.Test.YtenhodepaoaiiaaGreatDoorCards
import Derived.Test.YtenhodepaoaiiaaGreatDoorTie
import Derived.SevenTiedAt
namespace Go.Proofs.YtenhodepaoaiiaaGreatDoor
open Go
theorem startGoes_card : Rows.StartGoesCardSaid :=
  Claim7.holds_tied_plain_at .later [] [.data] true (true, "7a4dd08246fce0af7087c2caed69caa30cafe702e544c582eb7048d5586e557a") false
    startGoes_holds (fun _ h => by cases h) (by kernel_rfl) (fun _ h => by cases h) startGoes_row_tie rfl ⟨rfl, rfl⟩ (by kernel_rfl) rfl
    (fun f fn hf hfn => by
      obtain rfl : f = 4 := Option.some.inj ((show Tryz.prog.funcNamed "crux/cruxlaw06.StartGoes" = some 4 by kernel_rfl).symm.trans hf) |>.symm
      obtain rfl : fn = Tryz.f4 := (Option.some.inj (Tryz.func4.symm.trans hfn)).symm
      exact ⟨by kernel_rfl, fun j t ht => by
        rw [Tryz.params4] at ht
        have hm : t ∈ [22, 3, 39] := by simpa using Array.mem_of_getElem? ht
        have hall : ([22, 3, 39].all fun u => !Tryz.prog.wantsStandIn u) = true := by kernel_rfl
        exact (show Tryz.prog.wantsStandIn t = false by simpa using List.all_eq_true.1 hall t hm)⟩)
    (by kernel_rfl)
#print axioms startGoes_card
end Go.Proofs.YtenhodepaoaiiaaGreatDoor
