/- Sheets (chapter 10): the law OfficeSheets. -/
import Derived.Test.YtjkiidkacpffnaaGreatDoorOfL
namespace Go.Proofs.YtjkiidkacpffnaaGreatDoor
open Go.RowKit Go.Lib
set_option linter.unusedSimpArgs false
set_option linter.unusedVariables false
theorem own_sliceO {w : World} {b n : Nat} {v : Value} {zs : List Int} (h : w.ownsRow b 3 1 v n (ints zs)) : ∃ q c, v = .slice q n c ∧ IntS w q n zs := by
  rcases id h.2 with ⟨rfl, h0⟩ | ⟨g, cap, cur, rfl, _⟩
  · subst h0
    exact ⟨none, 0, rfl, IntS.of_own h⟩
  · exact ⟨_, _, rfl, IntS.of_own h⟩
theorem lens_of_zero {ro st : ByteArray} {va : Int} {xs : List RowR} (h : sheetE ro va st xs = 0) (i j : Nat) (x y : RowR) (hx : xs[i]? = some x) (hy : xs[j]? = some y) (hs : (x.st.toList == y.st.toList) = true) : x.xs.length = y.xs.length := by
  have h0 : errG (oneShE va xs) xs xs.length 0 = 0 := by
    unfold sheetE at h
    split at h
    · exact h
    · rename_i h1; exact absurd h h1
  have hfit : ∀ (j : Nat) (x : RowR), xs[j]? = some x → fitO va x = true := by
    intro j x hx
    have := errG_zero xs.length 0 h0 (by omega) j x (by omega) (by have := (List.getElem?_eq_some_iff.1 hx).1; omega) hx
    rw [oneShE_eq] at this
    cases hf : fitO va x
    · rw [hf] at this
      split at this
      · cases this
      split at this
      · cases this
      split at this
      · cases this
      · simp at this
    · rfl
  have f1 := hfit i x hx
  have f2 := hfit j y hy
  have he : x.st.toList = y.st.toList := eq_of_beq hs
  unfold fitO at f1 f2
  rw [he] at f1
  cases hz : y.st.toList.isEmpty
  · rw [hz] at f1 f2
    simp at f1 f2
    rw [f1, f2]
  · rw [hz] at f1 f2
    simp at f1 f2
    omega
/-- results, read, however many values they have -/
structure RowsX (w : World) (p : Option Addr) (n cap : Nat) (xs : List RowR) : Prop where
  len : xs.length = n
  cap : n ≤ cap ∧ cap ≤ maxLen
  at_ : 0 < n → ∃ b off, p = some ⟨b, off, none⟩ ∧ ∀ i x, xs[i]? = some x → Row0 w b (off + i * 3) x
theorem RowsX.gr {w w' : World} {p : Option Addr} {n cap : Nat} {xs : List RowR} (h : RowsX w p n cap xs) (k : Gr w w') : RowsX w' p n cap xs := ⟨h.len, h.cap, fun h0 => by
  obtain ⟨b, off, e, hc⟩ := h.at_ h0
  exact ⟨b, off, e, fun i x hx => (hc i x hx).gr k⟩⟩
theorem RowsX.rows {w : World} {p : Option Addr} {n cap : Nat} {xs : List RowR} (h : RowsX w p n cap xs) (hl : ∀ x ∈ xs, x.xs.length ≤ 19) : RowsV w (.slice p n cap) xs := by
  refine ⟨p, cap, by rw [h.len], by rw [h.len]; exact h.cap, fun h0 => ?_⟩
  rw [h.len] at h0
  obtain ⟨b, off, e, hc⟩ := h.at_ h0
  exact ⟨b, off, e, fun i x hx => (hc i x hx).at (by have := hl x (List.mem_of_getElem? hx); omega)⟩
end Go.Proofs.YtjkiidkacpffnaaGreatDoor
