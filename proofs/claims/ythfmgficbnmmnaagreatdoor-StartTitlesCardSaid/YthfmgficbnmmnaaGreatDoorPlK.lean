/- Places: the reference's. -/
import Derived.Test.YthfmgficbnmmnaaGreatDoorPlJ
namespace Go.Proofs.YthfmgficbnmmnaaGreatDoor
open Go.RowKit Go.Lib
set_option linter.unusedSimpArgs false
set_option linter.unusedVariables false
/-- the places of a race -/
def rcP (m : Int) (r : RaR) : List PlR := (laneL r).flatMap (plOf m)
theorem rndP_eq (l : List RaR) : rndP l = l.flatMap (rcP ((l.length : Int) + 1)) := by
  unfold rndP clL rcP
  rw [List.flatMap_assoc]
theorem own_far {w w' : World} {b s n k : Nat} {T T2 : TypeId} {v : Value} {l : List Value} {cur : Array Value} {z : Nat × Nat} (h : w.ownsRow b T s v n l) (hg : w.grownBy w' v.ownBlock) (hk : w.heap[k]? = some (.cells cur T2 z)) (hT : T2 ≠ T) : w'.heap[k]? = some (.cells cur T2 z) :=
  (hg.block k (Array.getElem?_eq_some_iff.1 hk).1 (fun e => by
    rcases h.2 with ⟨rfl, _⟩ | ⟨g, cap, cur', rfl, _, hgg, _⟩
    · cases e
    · cases e
      rw [hgg] at hk
      cases hk
      exact hT rfl)).trans hk
end Go.Proofs.YthfmgficbnmmnaaGreatDoor
