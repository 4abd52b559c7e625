/- Races: Small of both, Next of the program. -/
import Derived.Test.YthfmgficbnmmnaaGreatDoorRdK
import Derived.BigRegion
namespace Go.Proofs.YthfmgficbnmmnaaGreatDoor
open Go.RowKit Go.Lib
set_option linter.unusedSimpArgs false
set_option linter.unusedVariables false
theorem racesE_zero {l : List RaR} (h : racesE l = 0) : (l.length = 1 ∨ (∃ N, l.length = 2 * N ∧ 1 ≤ N ∧ N ≤ 16)) ∧ ∀ (i : Nat) (r : RaR), l[i]? = some r → 0 ≤ r.w ∧ r.w ≤ 3 := by
  unfold racesE at h
  split at h
  · rename_i hm
    refine ⟨?_, fun i r hr => ?_⟩
    · simp only [List.mem_cons, List.not_mem_nil, or_false] at hm
      rcases hm with h1 | h1 | h1 | h1 | h1 | h1
      · exact .inl h1
      · exact .inr ⟨1, by omega, by omega, by omega⟩
      · exact .inr ⟨2, by omega, by omega, by omega⟩
      · exact .inr ⟨4, by omega, by omega, by omega⟩
      · exact .inr ⟨8, by omega, by omega, by omega⟩
      · exact .inr ⟨16, by omega, by omega, by omega⟩
    · have hi := (List.getElem?_eq_some_iff.1 hr).1
      have h0 := errG_zero l.length 0 h (by omega) i r (by omega) (by omega) hr
      unfold raE raE0 at h0
      exact outE_zero.1 (firstE_zero h0 _ (by simp))
  · cases h
/-- the table of the lanes of those who have lost -/
structure Beat (w : World) : Prop where
  mk' ::
  out : w.cell? ⟨0, 0, none⟩ = some (.int .i64 0) ∧ w.cell? ⟨0, 1, none⟩ = some (.int .i64 2) ∧ w.cell? ⟨0, 2, none⟩ = some (.int .i64 1) ∧ w.cell? ⟨0, 3, none⟩ = some (.int .i64 0)
theorem Beat.gr {w w' : World} (h : Beat w) (k : Gr w w') : Beat w' := ⟨k.cell h.out.1, k.cell h.out.2.1, k.cell h.out.2.2.1, k.cell h.out.2.2.2⟩
theorem Beat.at {w : World} (h : Beat w) {z : Int} (h0 : 0 ≤ z) (h3 : z ≤ 3) : ∃ (j : Nat) (k : Int), z = (j : Int) ∧ j < 4 ∧ w.cell? ⟨0, j, none⟩ = some (.int .i64 k) ∧ ((j = 0 ∧ k = 0) ∨ (j = 1 ∧ k = 2) ∨ (j = 2 ∧ k = 1) ∨ (j = 3 ∧ k = 0)) := by
  obtain ⟨⟨c0, c1, c2, c3⟩⟩ := h
  obtain ⟨j, rfl⟩ : ∃ j : Nat, z = (j : Int) := ⟨z.toNat, by omega⟩
  have hj : j = 0 ∨ j = 1 ∨ j = 2 ∨ j = 3 := by omega
  rcases hj with rfl | rfl | rfl | rfl
  · exact ⟨0, 0, rfl, by omega, c0, .inl ⟨rfl, rfl⟩⟩
  · exact ⟨1, 2, rfl, by omega, c1, .inr (.inl ⟨rfl, rfl⟩)⟩
  · exact ⟨2, 1, rfl, by omega, c2, .inr (.inr (.inl ⟨rfl, rfl⟩))⟩
  · exact ⟨3, 0, rfl, by omega, c3, .inr (.inr (.inr ⟨rfl, rfl⟩))⟩
end Go.Proofs.YthfmgficbnmmnaaGreatDoor
