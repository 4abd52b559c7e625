/- Rows that have been made of copies; Through, of valid results. -/
import Derived.Test.YtenhodepaoaiiaaGreatDoorGRlP
namespace Go.Proofs.YtenhodepaoaiiaaGreatDoor
open Go.RowKit Go.Lib
set_option linter.unusedSimpArgs false
set_option linter.unusedVariables false
/-- rows that have been made of copies -/
structure Made (w : World) (base : Nat) (xs zs : List RowR) : Prop where
  len : zs.length = xs.length
  cpy : ∀ (i : Nat) (x z : RowR), xs[i]? = some x → zs[i]? = some z → ∃ g, base ≤ g ∧ Cpy w g x z
theorem Cps.made {w : World} {base : Nat} {xs ys : List RowR} {gs : List Nat} (h : Cps w base xs gs ys) : Made w base xs ys :=
  ⟨h.leny, fun i x z hx hz => by
    have hg : i < gs.length := by rw [h.leng]; exact (List.getElem?_eq_some_iff.1 hx).1
    exact ⟨_, (h.rng _ (List.getElem_mem hg)).1, h.cpy i x z _ hx hz (List.getElem?_eq_getElem hg)⟩⟩
theorem Made.gr {w w' : World} {base : Nat} {xs zs : List RowR} (h : Made w base xs zs) (k : Gr w w') : Made w' base xs zs :=
  ⟨h.len, fun i x z hx hz => by
    obtain ⟨g, hb, c⟩ := h.cpy i x z hx hz
    obtain ⟨cur, h1, _⟩ := c.cells
    exact ⟨g, hb, c.gr (by rw [k.block h1, h1])⟩⟩
theorem Made.kept {w w' : World} {base b2 s2 n2 : Nat} {xs zs : List RowR} {T2 : TypeId} {v2 : Value} {l2 : List Value} (h : Made w base xs zs) (ho : w.ownsRow b2 T2 s2 v2 n2 l2) (hne : (3 : TypeId) ≠ T2) (hg : w.grownBy w' v2.ownBlock) : Made w' base xs zs :=
  ⟨h.len, fun i x z hx hz => by
    obtain ⟨g, hb, c⟩ := h.cpy i x z hx hz
    obtain ⟨cur, h1, _⟩ := c.cells
    exact ⟨g, hb, c.gr (hg.block g (Array.getElem?_eq_some_iff.1 h1).1 (cell_apart h1 ho hne))⟩⟩
theorem Made.bare {w : World} {base : Nat} {xs zs : List RowR} (h : Made w base xs zs) : zs.map bare = xs.map Go.Proofs.YtenhodepaoaiiaaGreatDoor.bare := by
  apply List.ext_getElem?
  intro i
  rw [List.getElem?_map, List.getElem?_map]
  by_cases hi : i < xs.length
  · have hz : i < zs.length := by rw [h.len]; exact hi
    obtain ⟨g, _, c⟩ := h.cpy i _ _ (List.getElem?_eq_getElem hi) (List.getElem?_eq_getElem hz)
    rw [List.getElem?_eq_getElem hi, List.getElem?_eq_getElem hz]
    simp only [Option.map_some, Go.Proofs.YtenhodepaoaiiaaGreatDoor.bare, c.nm, c.st, c.xs]
  · rw [List.getElem?_eq_none (l := xs) (by omega), List.getElem?_eq_none (l := zs) (by rw [h.len]; omega)]
theorem Made.rows {w : World} {base b1 n : Nat} {v : Value} {xs zs : List RowR} {T : TypeId} (h : Made w base xs zs) (ho : w.ownsRow b1 T 3 v n (rowCs zs)) (hn : xs.length = n) (hl : ∀ x ∈ xs, x.xs.length ≤ 1000) : RowsV w v zs := by
  have hzn : zs.length = n := by rw [h.len, hn]
  by_cases h0 : 0 < n
  · obtain ⟨g, cap, rfl, _, h1, h2, h3⟩ := rows_of_owns (ys := zs) (by rw [hzn]; exact ho) (by omega) (fun i z hz => by
      have hx : i < xs.length := by rw [← h.len]; exact (List.getElem?_eq_some_iff.1 hz).1
      obtain ⟨g, _, c⟩ := h.cpy i _ z (List.getElem?_eq_getElem hx) hz
      exact ⟨c.val, by rw [c.xs]; exact hl _ (List.getElem_mem hx)⟩)
    exact ⟨_, cap, rfl, ⟨by omega, by omega⟩, fun _ => ⟨g, 0, rfl, fun i x hx => h3 i x hx⟩⟩
  · have hz : n = 0 := by omega
    subst hz
    rcases ho.2 with ⟨rfl, _⟩ | ⟨g, cap, cur, rfl, _, hg, hle, hmx, _, _⟩
    · exact ⟨none, 0, by rw [hzn], ⟨by omega, by unfold maxLen; omega⟩, fun h => by omega⟩
    · exact ⟨_, cap, by rw [hzn], ⟨by omega, by omega⟩, fun h => by omega⟩
theorem Made.nil (w : World) (base : Nat) : Made w base [] [] := ⟨rfl, fun i x z h => by simp at h⟩
theorem Made.add {w : World} {base g : Nat} {xs zs : List RowR} {x z : RowR} (h : Made w base xs zs) (hg : base ≤ g) (hc : Cpy w g x z) : Made w base (xs ++ [x]) (zs ++ [z]) := by
  refine ⟨by simp [h.len], fun i x' z' hx hz => ?_⟩
  by_cases hi : i < xs.length
  · rw [List.getElem?_append_left hi] at hx
    rw [List.getElem?_append_left (by rw [h.len]; exact hi)] at hz
    exact h.cpy i x' z' hx hz
  · have hl := (List.getElem?_eq_some_iff.1 hx).1
    simp only [List.length_append, List.length_cons, List.length_nil] at hl
    have e : i = xs.length := by omega
    subst e
    rw [List.getElem?_append_right (Nat.le_refl _), Nat.sub_self] at hx
    rw [List.getElem?_append_right (by rw [h.len]; exact Nat.le_refl _), h.len, Nat.sub_self] at hz
    simp only [List.getElem?_cons_zero, Option.some.injEq] at hx hz
    subst hx hz
    exact ⟨g, hg, hc⟩
end Go.Proofs.YtenhodepaoaiiaaGreatDoor
