/- Archives (chapter 10): a sheet that is posted at a desk, read. -/
import Derived.Test.YtnihclhhbegjhaaGreatDoorOvV
namespace Go.Proofs.YtnihclhhbegjhaaGreatDoor
open Go.ChangeShapes Go.WideShapes Go.ChangeAt Go.WideMaps Go.WideElems Go.RowKit
set_option linter.unusedSimpArgs false
set_option linter.unusedVariables false
theorem cellsPosted : Tryz.prog.cellsOf 29 = 5 := by kernel_rfl
theorem recPosted : Tryz.prog.readableRec 29 = true := by kernel_rfl
theorem rowPosted : 29 < Tryz.prog.types.size := of_decide_eq_true (by kernel_rfl)
section
variable {H : Type} {enc : TypeId × Value → H}
set_option maxRecDepth 100000 in
theorem openPosted {W : World} {b0 : Nat} {v : Value} {d : DataW H} {ps : List MemPlace} (hv : Value.okWide Tryz.prog W .any b0 29 v) (h : DataW.Trod enc Tryz.prog W 0 (fun _ => true) true 29 v d ps) :
    ∃ (de : ByteArray) (ro : ByteArray) (va : Int) (st : ByteArray) (p : Option Addr) (n cap : Nat) (xs : List RowR), v = .agg #[.string de, .string ro, .int .i64 va, .string st, .slice p n cap] ∧ RowsX W p n cap xs := by
  have hu := Tryz.underlying29
  simp only [Value.okWide, hu] at hv
  obtain ⟨cs, rfl, hsz, _⟩ := hv
  rw [cellsPosted] at hsz
  obtain ⟨l⟩ := cs
  match l, hsz with
  | [c0, c1, c2, c3, c4], _ =>
  obtain ⟨fuel, hf⟩ := h
  obtain ⟨ys, m, _, hx, _, hl, hfs⟩ := DataW.trod_struct hu hf
  match ys, hl, hx with
  | [y0, y1], _, hx =>
    have e0 := hfs 0 _ rfl
    have e1 := hfs 1 _ rfl
    simp [cells9, cellsSheet, Value.cells] at e0 e1
    obtain ⟨de, q0, _, _⟩ := DataW.trod_string Tryz.underlying9 e0
    obtain ⟨ro, va, st, p, n, cap, xs, q3, hR⟩ := sheet_of rfl e1
    simp at q0 q3
    obtain ⟨q30, q31, q32, q33⟩ := q3
    subst q0 q30 q31 q32 q33
    exact ⟨de, ro, va, st, p, n, cap, xs, rfl, hR⟩
end
end Go.Proofs.YtnihclhhbegjhaaGreatDoor
