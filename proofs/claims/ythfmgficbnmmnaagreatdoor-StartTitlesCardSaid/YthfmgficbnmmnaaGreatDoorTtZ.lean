/- StartTitles, as it was given (the tied card): for whatever names and choices: the rounds that start.Next gives are right, and start.Places gives each name once, in order, a loser the place behind as many as raced; where the better seed always wins, the first four places are the seeds'. -/
import Derived.Test.YthfmgficbnmmnaaGreatDoorTtQ
import Derived.Test.YthfmgficbnmmnaaGreatDoorCards
import Derived.Test.YthfmgficbnmmnaaGreatDoorTie
import Derived.SevenTiedAt
namespace Go.Proofs.YthfmgficbnmmnaaGreatDoor
open Go
theorem startTitles_card : Rows.StartTitlesCardSaid :=
  Claim7.holds_tied_plain_at .later [] [.data] true (true, "de3ac3f6be7ee03d0d9c078aa0768d364bb9d54256560e8bf35cf7f4d0172883") false
    startTitles_holds (fun _ h => by cases h) (by kernel_rfl) (fun _ h => by cases h) startTitles_row_tie rfl ⟨rfl, rfl⟩ (by kernel_rfl) rfl
    (fun f fn hf hfn => by
      obtain rfl : f = 4 := Option.some.inj ((show Tryz.prog.funcNamed "crux/cruxlaw06.StartTitles" = some 4 by kernel_rfl).symm.trans hf) |>.symm
      obtain rfl : fn = Tryz.f4 := (Option.some.inj (Tryz.func4.symm.trans hfn)).symm
      exact ⟨by kernel_rfl, fun j t ht => by
        rw [Tryz.params4] at ht
        have hm : t ∈ [48, 49] := by simpa using Array.mem_of_getElem? ht
        have hall : (([48, 49] : List TypeId).all fun u => !Tryz.prog.wantsStandIn u) = true := by kernel_rfl
        exact (show Tryz.prog.wantsStandIn t = false by simpa using List.all_eq_true.1 hall t hm)⟩)
    (by kernel_rfl)
#print axioms startTitles_card
end Go.Proofs.YthfmgficbnmmnaaGreatDoor
