/- Names and choices, read. -/
import Derived.Test.YthfmgficbnmmnaaGreatDoorLaid
import Derived.Test.YthfmgficbnmmnaaGreatDoorTtG
import Derived.ProofKit
import Derived.OpenShut
import Derived.SizedLaws
import Derived.Carry
import Derived.ChangeSlices
import Derived.Deep.Slices
namespace Go.Proofs.YthfmgficbnmmnaaGreatDoor
open Go.ChangeShapes Go.WideShapes Go.ChangeAt Go.WideMaps Go.WideElems Go.RowKit
set_option linter.unusedSimpArgs false
set_option linter.unusedVariables false
theorem laidOutT : laidOutB Tryz.prog = true := by kernel_rfl
theorem cellsStrT : Tryz.prog.cellsOf 9 = 1 := by kernel_rfl
theorem cellsU8T : Tryz.prog.cellsOf 5 = 1 := by kernel_rfl
theorem recStrT : Tryz.prog.readableRec 48 = true := by kernel_rfl
theorem rowStrT : 48 < Tryz.prog.types.size := of_decide_eq_true (by kernel_rfl)
theorem recU8T : Tryz.prog.readableRec 49 = true := by kernel_rfl
theorem rowU8T : 49 < Tryz.prog.types.size := of_decide_eq_true (by kernel_rfl)
section
variable {H : Type} {enc : TypeId × Value → H}
set_option maxRecDepth 100000 in
theorem oneStrT {W : World} {a : Addr} {cs : List Value} {fuel : Nat} {x : DataW H × List MemPlace} (hc : W.cells? 0 a 1 = some cs) (h : DataW.trod enc Tryz.prog W 0 (fun _ => true) true fuel 9 cs = some x) :
    ∃ y : ByteArray, W.cell? (a.add 0) = some (.string y) := by
  obtain ⟨_, hlen, hcell⟩ := World.cells?_some hc
  match cs, hlen with
  | [c0], _ =>
    obtain ⟨v0, q0, _, _⟩ := DataW.trod_string Tryz.underlying9 h
    simp at q0
    subst q0
    exact ⟨v0, hcell 0 (by omega)⟩
set_option maxRecDepth 100000 in
theorem openStrT {W : World} {b0 : Nat} {v : Value} {d : DataW H} {ps : List MemPlace} (hv : Value.okWide Tryz.prog W .any b0 48 v) (h : DataW.Trod enc Tryz.prog W 0 (fun _ => true) true 48 v d ps) :
    ∃ xs, StrAts W v xs := by
  obtain ⟨a0, l0, c0, rfl⟩ := okWide_slice Tryz.underlying48 hv
  obtain ⟨fuel, hf⟩ := h
  rcases Go.Deep.open_slice Tryz.underlying48 hf with ⟨e, _⟩ | ⟨a, len, cap, m, n, D, Pl, e, _, hle, hmx, hm, ex, hel⟩
  · simp [Value.cells] at e
    obtain ⟨rfl, rfl, rfl⟩ := e
    exact ⟨[], ⟨none, 0, rfl, ⟨by simp, by unfold maxLen; omega⟩, fun h => absurd h (by simp)⟩⟩
  · simp [Value.cells] at e
    obtain ⟨rfl, rfl, rfl⟩ := e
    simp only [if_true] at hm
    rw [cellsStrT] at hel
    obtain ⟨V, hV⟩ := Go.Deep.choose_lt (α := ByteArray) (p := fun i y => W.cell? ((a.add (i * 1)).add 0) = some (.string y)) (fun i (hi : i < m) => by
      obtain ⟨cs', h1, h2⟩ := hel i hi
      exact oneStrT h1 h2)
    have hlen : ((List.range l0).map V).length = l0 := by simp
    refine ⟨(List.range l0).map V, ⟨some a, c0, by rw [hlen], ⟨by rw [hlen]; exact hle, hmx⟩, fun h0 => ?_⟩⟩
    rw [hlen] at h0
    obtain ⟨b, off, spot⟩ := a
    have hspot : spot = none := by
      have := World.cell?_spot (hV 0 (by omega))
      simpa [Addr.add] using this
    subst hspot
    refine ⟨b, off, rfl, fun i x hx => ?_⟩
    rw [List.getElem?_map, Option.map_eq_some_iff] at hx
    obtain ⟨j, hj, rfl⟩ := hx
    obtain ⟨hj1, hj2⟩ := List.getElem?_eq_some_iff.1 hj
    simp at hj1 hj2
    subst hj2
    have hvv := hV i (by omega)
    have e : ∀ o p : Nat, (⟨b, o, none⟩ : Addr).add p = ⟨b, o + p, none⟩ := fun o p => by unfold Addr.add; split <;> simp_all
    simp only [e, Nat.add_zero, Nat.mul_one] at hvv
    exact ⟨hvv⟩
set_option maxRecDepth 100000 in
theorem oneU8T {W : World} {a : Addr} {cs : List Value} {fuel : Nat} {x : DataW H × List MemPlace} (hc : W.cells? 0 a 1 = some cs) (h : DataW.trod enc Tryz.prog W 0 (fun _ => true) true fuel 5 cs = some x) :
    ∃ y : Nat, y < 256 ∧ W.cell? (a.add 0) = some (.int .u8 (y : Int)) := by
  obtain ⟨_, hlen, hcell⟩ := World.cells?_some hc
  match cs, hlen with
  | [c0], _ =>
    obtain ⟨v0, q1, rfl, wf⟩ := DataW.trod_int Tryz.underlying5 h
    simp at q1
    subst q1
    have hb := bounds_u8 wf
    refine ⟨v0.toNat, by omega, ?_⟩
    rw [show ((v0.toNat : Nat) : Int) = v0 by omega]
    exact hcell 0 (by omega)
set_option maxRecDepth 100000 in
theorem openU8T {W : World} {b0 : Nat} {v : Value} {d : DataW H} {ps : List MemPlace} (hv : Value.okWide Tryz.prog W .any b0 49 v) (h : DataW.Trod enc Tryz.prog W 0 (fun _ => true) true 49 v d ps) :
    ∃ xs, U8S W v xs := by
  obtain ⟨a0, l0, c0, rfl⟩ := okWide_slice Tryz.underlying49 hv
  obtain ⟨fuel, hf⟩ := h
  rcases Go.Deep.open_slice Tryz.underlying49 hf with ⟨e, _⟩ | ⟨a, len, cap, m, n, D, Pl, e, _, hle, hmx, hm, ex, hel⟩
  · simp [Value.cells] at e
    obtain ⟨rfl, rfl, rfl⟩ := e
    exact ⟨[], ⟨none, 0, rfl, (fun d h => by cases h), fun h => absurd h (by simp)⟩⟩
  · simp [Value.cells] at e
    obtain ⟨rfl, rfl, rfl⟩ := e
    simp only [if_true] at hm
    rw [cellsU8T] at hel
    obtain ⟨V, hV⟩ := Go.Deep.choose_lt (α := Nat) (p := fun i y => y < 256 ∧ W.cell? ((a.add (i * 1)).add 0) = some (.int .u8 (y : Int))) (fun i (hi : i < m) => by
      obtain ⟨cs', h1, h2⟩ := hel i hi
      exact oneU8T h1 h2)
    have hlen : ((List.range l0).map V).length = l0 := by simp
    refine ⟨(List.range l0).map V, ⟨some a, c0, by rw [hlen], fun d hd => ?_, fun h0 => ?_⟩⟩
    · obtain ⟨j, hj, rfl⟩ := List.mem_map.1 hd
      exact (hV j (by simp at hj; omega)).1
    rw [hlen] at h0
    obtain ⟨b, off, spot⟩ := a
    have hspot : spot = none := by
      have := World.cell?_spot (hV 0 (by omega)).2
      simpa [Addr.add] using this
    subst hspot
    refine ⟨b, off, rfl, fun i x hx => ?_⟩
    rw [List.getElem?_map, Option.map_eq_some_iff] at hx
    obtain ⟨j, hj, rfl⟩ := hx
    obtain ⟨hj1, hj2⟩ := List.getElem?_eq_some_iff.1 hj
    simp at hj1 hj2
    subst hj2
    have hvv := (hV i (by omega)).2
    have e : ∀ o p : Nat, (⟨b, o, none⟩ : Addr).add p = ⟨b, o + p, none⟩ := fun o p => by unfold Addr.add; split <;> simp_all
    simp only [e, Nat.add_zero, Nat.mul_one] at hvv
    exact hvv
end
end Go.Proofs.YthfmgficbnmmnaaGreatDoor
