/- Open values, read. -/
import Derived.Test.YtimbcjldejifaaaGreatDoorGNamesB
import Derived.Test.YtimbcjldejifaaaGreatDoorFcW
import Derived.Carry
import Derived.ChangeSlices
import Derived.Deep.Slices
namespace Go.Proofs.YtimbcjldejifaaaGreatDoor
open Go.ChangeShapes Go.WideShapes Go.ChangeAt Go.WideMaps Go.WideElems Go.RowKit
theorem cellsO : Tryz.prog.cellsOf 27 = 3 := by kernel_rfl
theorem recO : Tryz.prog.readableRec 22 = true := by kernel_rfl
theorem rowO : 22 < Tryz.prog.types.size := of_decide_eq_true (by kernel_rfl)
theorem laidOutO : laidOutB Tryz.prog = true := by kernel_rfl
instance : Inhabited OpR := ⟨⟨⟨#[]⟩, 0, 0⟩⟩
section
variable {H : Type} {enc : TypeId × Value → H}
set_option maxRecDepth 100000 in
/-- one climber, read -/
theorem one_of {W : World} {a : Addr} {cs : List Value} {fuel : Nat} {x : DataW H × List MemPlace} (hc : W.cells? 0 a 3 = some cs) (h : DataW.trod enc Tryz.prog W 0 (fun _ => true) true fuel 27 cs = some x) :
    ∃ y : OpR, W.cell? (a.add 0) = some (.string y.nm) ∧ W.cell? (a.add 1) = some (.int .i64 y.lo) ∧ W.cell? (a.add 2) = some (.int .i64 y.hi) := by
  obtain ⟨_, hlen, hcell⟩ := World.cells?_some hc
  match cs, hlen with
  | [c0, c1, c2], _ =>
  obtain ⟨ys, m, _, hx, _, hl, hfs⟩ := DataW.trod_struct Tryz.underlying27 h
  match ys, hl, hx with
  | [y0, y1, y2], _, hx =>
    have e0 := hfs 0 _ rfl
    have e1 := hfs 1 _ rfl
    have e2 := hfs 2 _ rfl
    simp [cells9, cells3] at e0 e1 e2
    obtain ⟨c, q0, _, _⟩ := DataW.trod_string Tryz.underlying9 e0
    obtain ⟨lo, q1, _, _⟩ := DataW.trod_int Tryz.underlying3 e1
    obtain ⟨hi, q2, _, _⟩ := DataW.trod_int Tryz.underlying3 e2
    simp at q0 q1 q2
    subst q0 q1 q2
    exact ⟨⟨c, lo, hi⟩, hcell 0 (by omega), hcell 1 (by omega), hcell 2 (by omega)⟩
set_option maxRecDepth 100000 in
/-- climbers, read -/
theorem open_opens {W : World} {b0 : Nat} {v : Value} {d : DataW H} {ps : List MemPlace} (hv : Value.okWide Tryz.prog W .any b0 22 v) (h : DataW.Trod enc Tryz.prog W 0 (fun _ => true) true 22 v d ps) :
    ∃ xs, OpsV W v xs := by
  obtain ⟨a0, l0, c0, rfl⟩ := okWide_slice Tryz.underlying22 hv
  obtain ⟨fuel, hf⟩ := h
  rcases Go.Deep.open_slice Tryz.underlying22 hf with ⟨e, _⟩ | ⟨a, len, cap, m, n, D, Pl, e, _, hle, hmx, hm, _, hel⟩
  · simp [Value.cells] at e
    obtain ⟨rfl, rfl, rfl⟩ := e
    exact ⟨[], ⟨none, 0, rfl, ⟨by simp, by unfold maxLen; omega⟩, fun h => absurd h (by simp)⟩⟩
  · simp [Value.cells] at e
    obtain ⟨rfl, rfl, rfl⟩ := e
    simp only [if_true] at hm
    rw [cellsO] at hel
    obtain ⟨V, hV⟩ := Go.Deep.choose_lt (α := OpR) (p := fun i y => W.cell? ((a.add (i * 3)).add 0) = some (.string y.nm) ∧ W.cell? ((a.add (i * 3)).add 1) = some (.int .i64 y.lo) ∧ W.cell? ((a.add (i * 3)).add 2) = some (.int .i64 y.hi)) (fun i (hi : i < m) => by
      obtain ⟨cs', h1, h2⟩ := hel i hi
      exact one_of h1 h2)
    have hlen : ((List.range l0).map V).length = l0 := by simp
    refine ⟨(List.range l0).map V, ⟨some a, c0, by rw [hlen], ⟨by rw [hlen]; exact hle, hmx⟩, fun h0 => ?_⟩⟩
    rw [hlen] at h0
    obtain ⟨b, off, spot⟩ := a
    have hspot : spot = none := by
      have := World.cell?_spot (hV 0 (by omega)).1
      simpa [Addr.add] using this
    subst hspot
    refine ⟨b, off, rfl, fun i x hx => ?_⟩
    have hi : i < l0 := by
      have := (List.getElem?_eq_some_iff.1 hx).1
      rwa [hlen] at this
    obtain rfl : V i = x := by
      rw [List.getElem?_map, List.getElem?_range hi] at hx
      simpa using hx
    obtain ⟨k0, k1, k2⟩ := hV i (by omega)
    rw [add_plain, add_plain] at k0 k1 k2
    exact ⟨k0, k1, k2⟩
end
end Go.Proofs.YtimbcjldejifaaaGreatDoor
