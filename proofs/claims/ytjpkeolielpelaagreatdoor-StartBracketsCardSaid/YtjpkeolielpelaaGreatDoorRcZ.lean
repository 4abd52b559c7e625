/- StartBrackets, as it was given (the tied card): for whatever number, seeds and names: start.Bracket, start.Meet and start.Races return what the reference returns, or the first error. -/
import Derived.Test.YtjpkeolielpelaaGreatDoorRcQ
import Derived.Test.YtjpkeolielpelaaGreatDoorCards
import Derived.Test.YtjpkeolielpelaaGreatDoorTie
import Derived.SevenTiedAt
namespace Go.Proofs.YtjpkeolielpelaaGreatDoor
open Go
theorem startBrackets_card : Rows.StartBracketsCardSaid :=
  Claim7.holds_tied_plain_at .later [] [.data] true (true, "463843e5d299d54180c6bb5cd9c714b129bd0b63b8bd6267e02734cfdcb80868") false
    startBrackets_holds (fun _ h => by cases h) (by kernel_rfl) (fun _ h => by cases h) startBrackets_row_tie rfl ⟨rfl, rfl⟩ (by kernel_rfl) rfl
    (fun f fn hf hfn => by
      obtain rfl : f = 3 := Option.some.inj ((show Tryz.prog.funcNamed "crux/cruxlaw06.StartBrackets" = some 3 by kernel_rfl).symm.trans hf) |>.symm
      obtain rfl : fn = Tryz.f3 := (Option.some.inj (Tryz.func3.symm.trans hfn)).symm
      exact ⟨by kernel_rfl, fun j t ht => by
        rw [Tryz.params3] at ht
        have hm : t ∈ [3, 22, 23] := by simpa using Array.mem_of_getElem? ht
        have hall : (([3, 22, 23] : List TypeId).all fun u => !Tryz.prog.wantsStandIn u) = true := by kernel_rfl
        exact (show Tryz.prog.wantsStandIn t = false by simpa using List.all_eq_true.1 hall t hm)⟩)
    (by kernel_rfl)
#print axioms startBrackets_card
end Go.Proofs.YtjpkeolielpelaaGreatDoor
