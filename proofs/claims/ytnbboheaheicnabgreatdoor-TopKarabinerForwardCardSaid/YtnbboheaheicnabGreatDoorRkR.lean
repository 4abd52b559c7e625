/- Results in rows of their own: their cells. -/
import Derived.Test.YtnbboheaheicnabGreatDoorRkABMN
namespace Go.Proofs.YtnbboheaheicnabGreatDoor
open Go.RowKit Go.Lib
set_option linter.unusedSimpArgs false
set_option linter.unusedVariables false
theorem infoRes : (Tryz.prog.info? 33).map (fun i => (i.zero, i.size, i.bytes)) = some (some (.agg #[.string ⟨#[]⟩, .string ⟨#[]⟩, .slice none 0 0]), 3, 56) := by kernel_rfl
def rowC (r : RowR) : List Value := [.string r.nm, .string r.st, r.u]
def rowCs (rs : List RowR) : List Value := rs.flatMap rowC
theorem rowCs_len (rs : List RowR) : (rowCs rs).length = rs.length * 3 := by
  induction rs with
  | nil => rfl
  | cons x xs ih => simp only [rowCs, List.flatMap_cons, List.length_append, List.length_cons] at *; rw [ih]; simp [rowC]; omega
theorem rowCs_add (rs : List RowR) (r : RowR) : rowCs (rs ++ [r]) = rowCs rs ++ rowC r := by simp [rowCs]
theorem rowCs_at {rs : List RowR} {i : Nat} {x : RowR} (h : rs[i]? = some x) (j : Nat) (hj : j < 3) : (rowCs rs)[i * 3 + j]? = (rowC x)[j]? := by
  induction rs generalizing i with
  | nil => simp at h
  | cons y ys ih =>
    have e : rowCs (y :: ys) = rowC y ++ rowCs ys := rfl
    rw [e]
    cases i with
    | zero =>
      simp only [List.getElem?_cons_zero, Option.some.injEq] at h
      subst h
      rw [show 0 * 3 + j = j by omega, List.getElem?_append_left (by simp [rowC]; omega)]
    | succ i =>
      rw [List.getElem?_append_right (by simp [rowC]; omega)]
      have := ih (i := i) (by simpa using h)
      rw [← this]
      congr 1
      simp [rowC]; omega
theorem own_apart {w : World} {b1 b2 s1 s2 n1 n2 : Nat} {T1 T2 : TypeId} {v1 v2 : Value} {l1 l2 : List Value} (h1 : w.ownsRow b1 T1 s1 v1 n1 l1) (h2 : w.ownsRow b2 T2 s2 v2 n2 l2) (hne : T1 ≠ T2) : v1.ownBlock = none ∨ v1.ownBlock ≠ v2.ownBlock := by
  rcases h1.2 with ⟨rfl, _⟩ | ⟨g, cap, cur, rfl, _, hg, _⟩
  · exact .inl rfl
  · refine .inr fun e => ?_
    rcases h2.2 with ⟨rfl, _⟩ | ⟨g2, cap2, cur2, rfl, _, hg2, _⟩
    · cases e
    · simp only [Value.ownBlock, Option.some.injEq] at e
      subst e
      rw [hg] at hg2
      cases hg2
      exact hne rfl
theorem cell_apart {w : World} {b2 s2 n2 g : Nat} {T1 T2 : TypeId} {v2 : Value} {l2 : List Value} {cs : Array Value} (h1 : w.heap[g]? = some (.cells cs T1 (0, 0))) (h2 : w.ownsRow b2 T2 s2 v2 n2 l2) (hne : T1 ≠ T2) : some g ≠ v2.ownBlock := fun e => by
  rcases h2.2 with ⟨rfl, _⟩ | ⟨g2, cap2, cur2, rfl, _, hg2, _⟩
  · cases e
  · simp only [Value.ownBlock, Option.some.injEq] at e
    subst e
    rw [h1] at hg2
    cases hg2
    exact hne rfl
theorem own_gr {w w' : World} {base n s : Nat} {e : TypeId} {v : Value} {xs : List Value} (h : w.ownsRow base e s v n xs) (k : Gr w w') : w'.ownsRow base e s v n xs := by
  refine ⟨h.1, ?_⟩
  rcases h.2 with h2 | ⟨g, cap, cur, rfl, hb, hcur, r⟩
  · exact .inl h2
  · exact .inr ⟨g, cap, cur, rfl, hb, k.block hcur, r⟩
theorem below_gr {B : Nat} {a b c : World} (h : Below B a b) (k : Gr b c) (hB : B ≤ a.heap.size) : Below B a c := Below.trans h (Below.mono k (Nat.le_trans hB h.size))
theorem cell_three_new (w : World) (a b c : Value) (T : TypeId) : ∀ (j : Nat) (u : Value), [a, b, c][j]? = some u → (w.alloc (.cells #[a, b, c] T)).cell? ((⟨w.heap.size, 0, none⟩ : Addr).add j) = some u := by
  intro j u h
  have e : (⟨w.heap.size, 0, none⟩ : Addr).add j = ⟨w.heap.size, j, none⟩ := by unfold Addr.add; split <;> simp_all
  rw [e]
  rcases j with _ | _ | _ | j
  · simp at h; subst h; exact cell_new w #[a, b, c] T 0 (by simp)
  · simp at h; subst h; exact cell_new w #[a, b, c] T 1 (by simp)
  · simp at h; subst h; exact cell_new w #[a, b, c] T 2 (by simp)
  · simp at h
theorem cell_three_sz (w : World) (s : Nat) (hs : w.heap.size = s) (a b c : Value) (T : TypeId) : ∀ (j : Nat) (u : Value), [a, b, c][j]? = some u → (w.alloc (.cells #[a, b, c] T)).cell? ((⟨s, 0, none⟩ : Addr).add j) = some u := by
  subst hs; exact cell_three_new w a b c T
theorem rowCs_take {xs : List RowR} {k : Nat} {x : RowR} (h : xs[k]? = some x) : rowCs (xs.take (k + 1)) = rowCs (xs.take k) ++ rowC x := by
  rw [List.take_add_one, h]
  simp [rowCs]
/-- rows that have been made, as they read -/
theorem rows_of_owns {w : World} {base : Nat} {v : Value} {ys : List RowR} {T : TypeId} (h : w.ownsRow base T 3 v ys.length (rowCs ys)) (h0 : 0 < ys.length) (hv : ∀ (i : Nat) (x : RowR), ys[i]? = some x → IntsV w x.u x.xs ∧ x.xs.length ≤ 1000) :
    ∃ g cap, v = .slice (some ⟨g, 0, none⟩) ys.length cap ∧ base ≤ g ∧ ys.length ≤ cap ∧ cap ≤ maxLen ∧ ∀ i x, ys[i]? = some x → RowAt w g (0 + i * 3) x := by
  have hh := h
  rcases h.2 with ⟨rfl, h0'⟩ | ⟨g, cap, cur, rfl, hb, hcur, hle, hmx, h5, h6⟩
  · omega
  · refine ⟨g, cap, rfl, hb, by omega, by omega, fun i x hx => ?_⟩
    have e : ∀ t, (⟨g, 0, none⟩ : Addr).add t = ⟨g, t, none⟩ := fun t => by unfold Addr.add; split <;> simp_all
    have c : ∀ (j : Nat) (u : Value), j < 3 → (rowC x)[j]? = some u → w.cell? ⟨g, i * 3 + j, none⟩ = some u := fun j u hj hu => by
      have := hh.cells (g := g) rfl (i * 3 + j) u (by rw [rowCs_at hx j hj]; exact hu)
      rwa [e] at this
    rw [Nat.zero_add]
    exact ⟨c 0 _ (by omega) rfl, c 1 _ (by omega) rfl, c 2 _ (by omega) rfl, (hv i x hx).1, (hv i x hx).2⟩
end Go.Proofs.YtnbboheaheicnabGreatDoor
