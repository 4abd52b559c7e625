/- Sheets (chapter 10): a sheet and an entry, read. -/
import Derived.Test.YtnihclhhbegjhaaGreatDoorOfM
import Derived.ProofKit
import Derived.OpenShut
import Derived.SizedLaws
import Derived.Carry
import Derived.ChangeSlices
import Derived.Deep.Slices
namespace Go.Proofs.YtnihclhhbegjhaaGreatDoor
open Go.ChangeShapes Go.WideShapes Go.ChangeAt Go.WideMaps Go.WideElems Go.RowKit
set_option linter.unusedSimpArgs false
set_option linter.unusedVariables false
theorem laidOutO : laidOutB Tryz.prog = true := by kernel_rfl
theorem cells3 : Tryz.prog.cellsOf 3 = 1 := by kernel_rfl
theorem cells9 : Tryz.prog.cellsOf 9 = 1 := by kernel_rfl
theorem cellsRes : Tryz.prog.cellsOf 91 = 3 := by kernel_rfl
theorem cellsInts : Tryz.prog.cellsOf 89 = 1 := by kernel_rfl
theorem cellsRs : Tryz.prog.cellsOf 25 = 1 := by kernel_rfl
theorem cellsSheet : Tryz.prog.cellsOf 27 = 4 := by kernel_rfl
theorem cellsEntry : Tryz.prog.cellsOf 77 = 7 := by kernel_rfl
instance : Inhabited RowR := ⟨⟨⟨#[]⟩, ⟨#[]⟩, .slice none 0 0, []⟩⟩
section
variable {H : Type} {enc : TypeId × Value → H}
set_option maxRecDepth 100000 in
theorem intsV_of {W : World} {cs : List Value} {fuel : Nat} {x : DataW H × List MemPlace} (h : DataW.trod enc Tryz.prog W 0 (fun _ => true) true fuel 89 cs = some x) : ∃ v xs, cs = [v] ∧ IntsV W v xs := by
  rcases open_ints Tryz.underlying89 Tryz.underlying3 cells3 h with ⟨rfl, _⟩ | ⟨a, len, cap, zs, rfl, _, hle, _, hlen, _, hcell, _⟩
  · exact ⟨_, [], rfl, ⟨none, 0, rfl, fun h => absurd h (by simp)⟩⟩
  · simp only [if_true] at hlen
    have hl : (zs.take len).length = len := by rw [List.length_take, hlen]; omega
    refine ⟨_, zs.take len, rfl, ⟨some a, cap, by rw [hl], fun h0 => ?_⟩⟩
    rw [hl] at h0
    obtain ⟨b, off, rfl, hc⟩ := ints_at hcell (by omega)
    refine ⟨b, off, rfl, fun i z hz => ?_⟩
    have hi : i < len := by
      have := (List.getElem?_eq_some_iff.1 hz).1
      omega
    rw [hc i (by omega)]
    rw [List.getElem?_take, if_pos hi] at hz
    simp [List.getD_eq_getElem?_getD, hz]
set_option maxRecDepth 100000 in
theorem row0_of {W : World} {a : Addr} {cs : List Value} {fuel : Nat} {x : DataW H × List MemPlace} (hc : W.cells? 0 a 3 = some cs) (h : DataW.trod enc Tryz.prog W 0 (fun _ => true) true fuel 91 cs = some x) :
    ∃ y : RowR, W.cell? (a.add 0) = some (.string y.nm) ∧ W.cell? (a.add 1) = some (.string y.st) ∧ W.cell? (a.add 2) = some y.u ∧ IntsV W y.u y.xs := by
  obtain ⟨_, hlen, hcell⟩ := World.cells?_some hc
  match cs, hlen with
  | [c0, c1, c2], _ =>
  obtain ⟨ys, m, _, hx, _, hl, hfs⟩ := DataW.trod_struct Tryz.underlying91 h
  match ys, hl, hx with
  | [y0, y1, y2], _, hx =>
    have e0 := hfs 0 _ rfl
    have e1 := hfs 1 _ rfl
    have e2 := hfs 2 _ rfl
    simp [cells9, cellsInts] at e0 e1 e2
    obtain ⟨c, q0, _, _⟩ := DataW.trod_string Tryz.underlying9 e0
    obtain ⟨s, q1, _, _⟩ := DataW.trod_string Tryz.underlying9 e1
    obtain ⟨u, xs, q2, hI⟩ := intsV_of e2
    simp at q0 q1 q2
    subst q0 q1 q2
    exact ⟨⟨c, s, _, xs⟩, hcell 0 (by omega), hcell 1 (by omega), hcell 2 (by omega), hI⟩
set_option maxRecDepth 100000 in
theorem rowsX_of {W : World} {cs : List Value} {fuel : Nat} {x : DataW H × List MemPlace} (hf : DataW.trod enc Tryz.prog W 0 (fun _ => true) true fuel 25 cs = some x) :
    ∃ p n cap xs, cs = [.slice p n cap] ∧ RowsX W p n cap xs := by
  rcases Go.Deep.open_slice Tryz.underlying25 hf with ⟨e, _⟩ | ⟨a, len, cap, m, n, D, Pl, e, _, hle, hmx, hm, _, hel⟩
  · exact ⟨none, 0, 0, [], e, ⟨rfl, ⟨Nat.le_refl _, by unfold maxLen; omega⟩, fun h => absurd h (by omega)⟩⟩
  · simp only [if_true] at hm
    rw [cellsRes] at hel
    obtain ⟨V, hV⟩ := Go.Deep.choose_lt (α := RowR) (p := fun i y => W.cell? ((a.add (i * 3)).add 0) = some (.string y.nm) ∧ W.cell? ((a.add (i * 3)).add 1) = some (.string y.st) ∧ W.cell? ((a.add (i * 3)).add 2) = some y.u ∧ IntsV W y.u y.xs) (fun i (hi : i < m) => by
      obtain ⟨cs', h1, h2⟩ := hel i hi
      exact row0_of h1 h2)
    have hlen : ((List.range len).map V).length = len := by simp
    refine ⟨some a, len, cap, (List.range len).map V, e, ⟨hlen, ⟨hle, hmx⟩, fun h0 => ?_⟩⟩
    obtain ⟨b, off, spot⟩ := a
    have hspot : spot = none := by
      have := World.cell?_spot (hV 0 (by omega)).1
      simpa [Addr.add] using this
    subst hspot
    refine ⟨b, off, rfl, fun i x hx => ?_⟩
    have hi : i < len := by
      have := (List.getElem?_eq_some_iff.1 hx).1
      rwa [hlen] at this
    obtain rfl : V i = x := by
      rw [List.getElem?_map, List.getElem?_range hi] at hx
      simpa using hx
    obtain ⟨k0, k1, k2, k3⟩ := hV i (by omega)
    rw [add_plain, add_plain] at k0 k1 k2
    exact ⟨k0, k1, k2, k3⟩
set_option maxRecDepth 100000 in
theorem sheet_of {W : World} {cs : List Value} {fuel : Nat} {x : DataW H × List MemPlace} (hl4 : cs.length = 4) (hf : DataW.trod enc Tryz.prog W 0 (fun _ => true) true fuel 27 cs = some x) :
    ∃ (ro : ByteArray) (va : Int) (st : ByteArray) (p : Option Addr) (n cap : Nat) (xs : List RowR), cs = [.string ro, .int .i64 va, .string st, .slice p n cap] ∧ RowsX W p n cap xs := by
  match cs, hl4 with
  | [c0, c1, c2, c3], _ =>
  obtain ⟨ys, m, _, hx, _, hl, hfs⟩ := DataW.trod_struct Tryz.underlying27 hf
  match ys, hl, hx with
  | [y0, y1, y2, y3], _, hx =>
    have e0 := hfs 0 _ rfl
    have e1 := hfs 1 _ rfl
    have e2 := hfs 2 _ rfl
    have e3 := hfs 3 _ rfl
    simp [cells3, cells9, cellsRs] at e0 e1 e2 e3
    obtain ⟨ro, q0, _, _⟩ := DataW.trod_string Tryz.underlying9 e0
    obtain ⟨va, q1, _, _⟩ := DataW.trod_int Tryz.underlying3 e1
    obtain ⟨st, q2, _, _⟩ := DataW.trod_string Tryz.underlying9 e2
    obtain ⟨p, n, cap, xs, q3, hR⟩ := rowsX_of e3
    simp at q0 q1 q2 q3
    subst q0 q1 q2 q3
    exact ⟨ro, va, st, p, n, cap, xs, rfl, hR⟩
end
end Go.Proofs.YtnihclhhbegjhaaGreatDoor
