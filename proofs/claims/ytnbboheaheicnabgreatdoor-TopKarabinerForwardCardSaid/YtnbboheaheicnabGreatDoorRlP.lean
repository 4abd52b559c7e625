/- Copies of rows: plain. -/
import Derived.Test.YtnbboheaheicnabGreatDoorRkR
import Derived.Test.YtnbboheaheicnabGreatDoorRkCDE
namespace Go.Proofs.YtnbboheaheicnabGreatDoor
open Go.RowKit Go.Lib
set_option linter.unusedSimpArgs false
set_option linter.unusedVariables false
/-- row y, whose values lie in block g, is a copy of row x -/
structure Cpy (w : World) (g : Nat) (x y : RowR) : Prop where
  nm : y.nm = x.nm
  st : y.st = x.st
  xs : y.xs = x.xs
  u : ∃ cap, y.u = .slice (some ⟨g, 0, none⟩) x.xs.length cap ∧ x.xs.length ≤ cap ∧ cap ≤ maxLen
  cells : ∃ cur, w.heap[g]? = some (.cells cur 3 (0, 0)) ∧ cur.toList.take x.xs.length = ints x.xs
/-- rows ys, with values in blocks gs, are copies of xs -/
structure Cps (w : World) (base : Nat) (xs : List RowR) (gs : List Nat) (ys : List RowR) : Prop where
  leny : ys.length = xs.length
  leng : gs.length = xs.length
  cpy : ∀ (i : Nat) (x y : RowR) (g : Nat), xs[i]? = some x → ys[i]? = some y → gs[i]? = some g → Cpy w g x y
  rng : ∀ g ∈ gs, base ≤ g ∧ g < w.heap.size
  apart : ∀ (i j g : Nat), gs[i]? = some g → gs[j]? = some g → i = j
theorem Cpy.gr {w w' : World} {g : Nat} {x y : RowR} (h : Cpy w g x y) (k : w'.heap[g]? = w.heap[g]?) : Cpy w' g x y := ⟨h.nm, h.st, h.xs, h.u, by obtain ⟨cur, h1, h2⟩ := h.cells; exact ⟨cur, by rw [k]; exact h1, h2⟩⟩
theorem Cps.nil (w : World) (base : Nat) : Cps w base [] [] [] := ⟨rfl, rfl, fun i x y g h => by simp at h, fun g h => by simp at h, fun i j g h => by simp at h⟩
theorem Cps.gr {w w' : World} {base : Nat} {xs ys : List RowR} {gs : List Nat} (h : Cps w base xs gs ys) (k : Gr w w') : Cps w' base xs gs ys :=
  ⟨h.leny, h.leng, fun i x y g hx hy hg => (h.cpy i x y g hx hy hg).gr (Below.block k g (h.rng g (List.mem_of_getElem? hg)).2), fun g hg => ⟨(h.rng g hg).1, Nat.lt_of_lt_of_le (h.rng g hg).2 k.size⟩, h.apart⟩
theorem take_get {α : Type} {xs : List α} {k i : Nat} {x : α} (h : (xs.take k)[i]? = some x) : xs[i]? = some x := by
  rw [List.getElem?_take] at h
  split at h
  · exact h
  · cases h
theorem Cps.block {w : World} {base : Nat} {xs ys : List RowR} {gs : List Nat} (h : Cps w base xs gs ys) {g : Nat} (hg : g ∈ gs) : ∃ cur, w.heap[g]? = some (.cells cur 3 (0, 0)) := by
  obtain ⟨i, hi⟩ := List.mem_iff_getElem?.1 hg
  have hl := (List.getElem?_eq_some_iff.1 hi).1
  have hx : i < xs.length := by rw [← h.leng]; exact hl
  have hy : i < ys.length := by rw [h.leny]; exact hx
  obtain ⟨cur, h1, _⟩ := (h.cpy i _ _ g (List.getElem?_eq_getElem hx) (List.getElem?_eq_getElem hy) hi).cells
  exact ⟨cur, h1⟩
theorem Cps.add {w w' : World} {base : Nat} {xs ys : List RowR} {gs : List Nat} (h : Cps w base xs gs ys) {x y : RowR} {g : Nat} (hold : ∀ g' ∈ gs, w'.heap[g']? = w.heap[g']?) (hs : w.heap.size ≤ w'.heap.size) (hc : Cpy w' g x y) (hg : w.heap.size ≤ g) (hb : base ≤ w.heap.size) :
    Cps w' base (xs ++ [x]) (gs ++ [g]) (ys ++ [y]) := by
  have hgl : g < w'.heap.size := by obtain ⟨cur, h1, _⟩ := hc.cells; exact (Array.getElem?_eq_some_iff.1 h1).1
  refine ⟨by simp [h.leny], by simp [h.leng], fun i x' y' g' hx hy hg' => ?_, fun g' hg' => ?_, fun i j g' hi hj => ?_⟩
  · by_cases hi : i < xs.length
    · rw [List.getElem?_append_left hi] at hx
      rw [List.getElem?_append_left (by rw [h.leny]; exact hi)] at hy
      rw [List.getElem?_append_left (by rw [h.leng]; exact hi)] at hg'
      exact (h.cpy i x' y' g' hx hy hg').gr (hold g' (List.mem_of_getElem? hg'))
    · have hl := (List.getElem?_eq_some_iff.1 hx).1
      simp only [List.length_append, List.length_cons, List.length_nil] at hl
      have e : i = xs.length := by omega
      subst e
      rw [List.getElem?_append_right (Nat.le_refl _), Nat.sub_self] at hx
      rw [List.getElem?_append_right (by rw [h.leny]; exact Nat.le_refl _), h.leny, Nat.sub_self] at hy
      rw [List.getElem?_append_right (by rw [h.leng]; exact Nat.le_refl _), h.leng, Nat.sub_self] at hg'
      simp only [List.getElem?_cons_zero, Option.some.injEq] at hx hy hg'
      subst hx hy hg'
      exact hc
  · rw [List.mem_append, List.mem_singleton] at hg'
    rcases hg' with hg' | rfl
    · exact ⟨(h.rng g' hg').1, Nat.lt_of_lt_of_le (h.rng g' hg').2 hs⟩
    · exact ⟨Nat.le_trans hb hg, hgl⟩
  · have key : ∀ i, (gs ++ [g])[i]? = some g' → (i < gs.length ∧ gs[i]? = some g' ∧ g' < w.heap.size) ∨ (i = gs.length ∧ g' = g) := fun i hi => by
      by_cases hl : i < gs.length
      · rw [List.getElem?_append_left hl] at hi
        exact .inl ⟨hl, hi, (h.rng g' (List.mem_of_getElem? hi)).2⟩
      · have hl2 := (List.getElem?_eq_some_iff.1 hi).1
        simp only [List.length_append, List.length_cons, List.length_nil] at hl2
        have e : i = gs.length := by omega
        subst e
        rw [List.getElem?_append_right (Nat.le_refl _), Nat.sub_self] at hi
        simp only [List.getElem?_cons_zero, Option.some.injEq] at hi
        exact .inr ⟨rfl, hi.symm⟩
    rcases key i hi with ⟨a, b, c⟩ | ⟨a, b⟩ <;> rcases key j hj with ⟨a', b', c'⟩ | ⟨a', b'⟩
    · exact h.apart i j g' b b'
    · omega
    · omega
    · omega
/-- an own row of integers that is not nil -/
theorem own_some {w : World} {base n : Nat} {v : Value} {xs : List Value} {T : TypeId} (h : w.ownsRow base T 1 v n xs) (hv : v ≠ .slice none 0 0) :
    ∃ g cap cur, v = .slice (some ⟨g, 0, none⟩) n cap ∧ base ≤ g ∧ n ≤ cap ∧ cap ≤ maxLen ∧ w.heap[g]? = some (.cells cur T (0, 0)) ∧ cur.toList.take n = xs := by
  rcases h.2 with ⟨rfl, _⟩ | ⟨g, cap, cur, rfl, hb, hg, hle, hmx, _, ht⟩
  · exact absurd rfl hv
  · exact ⟨g, cap, cur, rfl, hb, by omega, by omega, hg, by simpa using ht⟩
end Go.Proofs.YtnbboheaheicnabGreatDoor
