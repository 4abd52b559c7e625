/- Sheets (chapter 10): the law OfficeSheets. -/
import Derived.Test.YtnihclhhbegjhaaGreatDoorOfL
namespace Go.Proofs.YtnihclhhbegjhaaGreatDoor
open Go.RowKit Go.Lib
set_option linter.unusedSimpArgs false
set_option linter.unusedVariables false
structure RowsX (w : World) (p : Option Addr) (n cap : Nat) (xs : List RowR) : Prop where
  len : xs.length = n
  cap : n ≤ cap ∧ cap ≤ maxLen
  at_ : 0 < n → ∃ b off, p = some ⟨b, off, none⟩ ∧ ∀ i x, xs[i]? = some x → Row0 w b (off + i * 3) x
theorem RowsX.gr {w w' : World} {p : Option Addr} {n cap : Nat} {xs : List RowR} (h : RowsX w p n cap xs) (k : Gr w w') : RowsX w' p n cap xs := ⟨h.len, h.cap, fun h0 => by
  obtain ⟨b, off, e, hc⟩ := h.at_ h0
  exact ⟨b, off, e, fun i x hx => (hc i x hx).gr k⟩⟩
theorem RowsX.rows {w : World} {p : Option Addr} {n cap : Nat} {xs : List RowR} (h : RowsX w p n cap xs) (hl : ∀ x ∈ xs, x.xs.length ≤ 19) : RowsV w (.slice p n cap) xs := by
  refine ⟨p, cap, by rw [h.len], by rw [h.len]; exact h.cap, fun h0 => ?_⟩
  rw [h.len] at h0
  obtain ⟨b, off, e, hc⟩ := h.at_ h0
  exact ⟨b, off, e, fun i x hx => (hc i x hx).at (by have := hl x (List.mem_of_getElem? hx); omega)⟩
end Go.Proofs.YtnihclhhbegjhaaGreatDoor
