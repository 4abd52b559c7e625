/- Brackets: the program's Races. -/
import Derived.Test.YthfmgficbnmmnaaGreatDoorGRcE
namespace Go.Proofs.YthfmgficbnmmnaaGreatDoor
open Go.RowKit Go.Shelf
set_option linter.unusedSimpArgs false
set_option linter.unusedVariables false
attribute [local go_sem] Oper.semAt_some
theorem noDefer {ops : Array Oper} (h : ops.toList.all (fun o => match o.op with | .defer _ => false | _ => true) = true) : ∀ (i : Nat) o, ops[i]? = some o → ∀ c, o.op ≠ .defer c := by
  intro i o ho c hc
  rw [List.all_eq_true] at h
  have := h o (by rw [← Array.getElem?_toList] at ho; exact List.mem_of_getElem? ho)
  rw [hc] at this
  cases this
theorem kpX_putObj {n₀ x l : Nat} (W : World) (o : Obj) (h : n₀ ≤ l) : KpX n₀ x W (W.putObj l o) := fun k hk _ => World.putObj_heap_other (by omega)
theorem kpX_lt {x : Nat} {A B : World} (h : KpX A.heap.size x A B) {k : Nat} (hk : k < A.heap.size) (hne : k ≠ x) : k < B.heap.size := by
  have := h k hk hne
  rw [Array.getElem?_eq_getElem hk] at this
  exact (Array.getElem?_eq_some_iff.1 this).1
theorem KpX.gr {n₀ x : Nat} {W W' : World} (h : Gr W W') (hn : n₀ ≤ W.heap.size) : KpX n₀ x W W' := fun k hk _ => Below.block h k (by omega)
theorem KpX.grown {n₀ x : Nat} {W W' : World} {row : Option Nat} (h : W.grownBy W' row) (hn : n₀ ≤ W.heap.size) (hr : ∀ g, row = some g → n₀ ≤ g) : KpX n₀ x W W' := fun k hk _ => h.block k (by omega) (fun e => by have := hr k e.symm; omega)
theorem KpX.setCell (n₀ x : Nat) (W : World) (v : Value) : KpX n₀ x W (W.setCell ⟨x, 0, none⟩ v) := fun k _ hk => Below.heap_setCell _ _ _ _ hk
theorem gr_others {W W' : World} (h : Gr W W') : KeepsOthers W W' := ⟨Below.size h, fun k o hk _ => (Below.block h k (Array.getElem?_eq_some_iff.1 hk).1).trans hk⟩
theorem own_others {w w' : World} {b s n : Nat} {T : TypeId} {v : Value} {l : List Value} (h : w.ownsRow b T s v n l) (hg : w.grownBy w' v.ownBlock) : KeepsOthers w w' := KeepsOthers.of_grownBy hg fun j o e ho => by
  rcases h.2 with ⟨rfl, _⟩ | ⟨g, cap, cur, rfl, _, hgg, _⟩
  · cases e
  · cases e
    rw [hgg] at ho
    cases ho
    rfl
end Go.Proofs.YthfmgficbnmmnaaGreatDoor
