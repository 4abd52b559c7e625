/- Brackets: names and two integers, read. -/
import Derived.Test.YtjpkeolielpelaaGreatDoorLaid
import Derived.Test.YtjpkeolielpelaaGreatDoorRcN
import Derived.ProofKit
import Derived.OpenShut
import Derived.SizedLaws
import Derived.Carry
import Derived.ChangeSlices
import Derived.Deep.Slices
namespace Go.Proofs.YtjpkeolielpelaaGreatDoor
open Go.ChangeShapes Go.WideShapes Go.ChangeAt Go.WideMaps Go.WideElems Go.RowKit
set_option linter.unusedSimpArgs false
set_option linter.unusedVariables false
theorem laidOutM : laidOutB Tryz.prog = true := by kernel_rfl
theorem cellsStr : Tryz.prog.cellsOf 9 = 1 := by kernel_rfl
theorem cellsInt : Tryz.prog.cellsOf 3 = 1 := by kernel_rfl
theorem cellsA2 : Tryz.prog.cellsOf 22 = 2 := by kernel_rfl
theorem recStr : Tryz.prog.readableRec 23 = true := by kernel_rfl
theorem rowStr : 23 < Tryz.prog.types.size := of_decide_eq_true (by kernel_rfl)
section
variable {H : Type} {enc : TypeId × Value → H}
set_option maxRecDepth 100000 in
/-- two integers, read -/
theorem open_ints2 {W : World} {b0 : Nat} {v : Value} {d : DataW H} {ps : List MemPlace} (hv : Value.okWide Tryz.prog W .any b0 22 v) (h : DataW.Trod enc Tryz.prog W 0 (fun _ => true) true 22 v d ps) :
    ∃ a b : Int, v = .agg #[.int .i64 a, .int .i64 b] ∧ d = .agg [.lit (.int .i64 a), .lit (.int .i64 b)] ∧ ps = [] ∧ (Lit.int .i64 a).wf = true ∧ (Lit.int .i64 b).wf = true := by
  have hu := Tryz.underlying22
  simp only [Value.okWide, hu] at hv
  obtain ⟨cs, rfl, hsz, _⟩ := hv
  rw [cellsA2] at hsz
  obtain ⟨l⟩ := cs
  match l, hsz with
  | [c0, c1], _ =>
  obtain ⟨fuel, hf⟩ := h
  obtain ⟨xs, m, rfl, hx, _, hn, hel⟩ := DataW.trod_array hu hf
  have e0 := hel 0 (by decide)
  have e1 := hel 1 (by decide)
  match xs, hn, hx, e0, e1 with
  | [x0, x1], _, hx, e0, e1 =>
    rw [cellsInt] at e0 e1
    simp [Value.cells] at e0 e1
    obtain ⟨a, b0, rfl, wa⟩ := DataW.trod_int Tryz.underlying3 e0
    obtain ⟨b, b1, rfl, wb⟩ := DataW.trod_int Tryz.underlying3 e1
    simp at b0 b1
    subst b0 b1
    simp only [Prod.mk.injEq, List.map_cons, List.map_nil, List.flatMap_cons, List.flatMap_nil, List.append_nil] at hx
    obtain ⟨rfl, rfl⟩ := hx
    exact ⟨a, b, rfl, rfl, rfl, wa, wb⟩
theorem shut_ints2 {W : World} {a b : Int} (wa : (Lit.int .i64 a).wf = true) (wb : (Lit.int .i64 b).wf = true) (sp : Nat → Bool) : DataW.Trod enc Tryz.prog W 0 sp true 22 (.agg #[.int .i64 a, .int .i64 b]) (.agg [.lit (.int .i64 a), .lit (.int .i64 b)]) [] := ⟨2, by
  have f0 : DataW.trod enc Tryz.prog W 0 sp true 1 3 [.int .i64 a] = some (.lit (.int .i64 a), []) := by simp [DataW.trod, Tryz.underlying3, wa]
  have f1 : DataW.trod enc Tryz.prog W 0 sp true 1 3 [.int .i64 b] = some (.lit (.int .i64 b), []) := by simp [DataW.trod, Tryz.underlying3, wb]
  unfold DataW.trod
  simp [Tryz.underlying22, cellsA2, cellsInt, Value.cells, List.range, List.range.loop, f0, f1]⟩
set_option maxRecDepth 100000 in
theorem oneStr {W : World} {a : Addr} {cs : List Value} {fuel : Nat} {x : DataW H × List MemPlace} (hc : W.cells? 0 a 1 = some cs) (h : DataW.trod enc Tryz.prog W 0 (fun _ => true) true fuel 9 cs = some x) :
    ∃ y : ByteArray, W.cell? (a.add 0) = some (.string y) := by
  obtain ⟨_, hlen, hcell⟩ := World.cells?_some hc
  match cs, hlen with
  | [c0], _ =>
    obtain ⟨v0, q0, _, _⟩ := DataW.trod_string Tryz.underlying9 h
    simp at q0
    subst q0
    exact ⟨v0, hcell 0 (by omega)⟩
set_option maxRecDepth 100000 in
theorem openStr {W : World} {b0 : Nat} {v : Value} {d : DataW H} {ps : List MemPlace} (hv : Value.okWide Tryz.prog W .any b0 23 v) (h : DataW.Trod enc Tryz.prog W 0 (fun _ => true) true 23 v d ps) :
    ∃ xs, StrAts W v xs ∧ (xs.length = 0 ∨ ∃ el sp, d = .slice el sp ∧ el.length = xs.length) := by
  obtain ⟨a0, l0, c0, rfl⟩ := okWide_slice Tryz.underlying23 hv
  obtain ⟨fuel, hf⟩ := h
  rcases Go.Deep.open_slice Tryz.underlying23 hf with ⟨e, _⟩ | ⟨a, len, cap, m, n, D, Pl, e, _, hle, hmx, hm, ex, hel⟩
  · simp [Value.cells] at e
    obtain ⟨rfl, rfl, rfl⟩ := e
    exact ⟨[], ⟨none, 0, rfl, ⟨by simp, by unfold maxLen; omega⟩, fun h => absurd h (by simp)⟩, .inl rfl⟩
  · simp [Value.cells] at e
    obtain ⟨rfl, rfl, rfl⟩ := e
    simp only [if_true] at hm
    rw [cellsStr] at hel
    obtain ⟨V, hV⟩ := Go.Deep.choose_lt (α := ByteArray) (p := fun i y => W.cell? ((a.add (i * 1)).add 0) = some (.string y)) (fun i (hi : i < m) => by
      obtain ⟨cs', h1, h2⟩ := hel i hi
      exact oneStr h1 h2)
    have hlen : ((List.range l0).map V).length = l0 := by simp
    refine ⟨(List.range l0).map V, ⟨some a, c0, by rw [hlen], ⟨by rw [hlen]; exact hle, hmx⟩, fun h0 => ?_⟩, .inr ⟨_, _, congrArg Prod.fst ex, by rw [hlen]; simp⟩⟩
    rw [hlen] at h0
    obtain ⟨b, off, spot⟩ := a
    have hspot : spot = none := by
      have := World.cell?_spot (hV 0 (by omega))
      simpa [Addr.add] using this
    subst hspot
    refine ⟨b, off, rfl, fun i x hx => ?_⟩
    rw [List.getElem?_map, Option.map_eq_some_iff] at hx
    obtain ⟨j, hj, rfl⟩ := hx
    obtain ⟨hj1, hj2⟩ := List.getElem?_eq_some_iff.1 hj
    simp at hj1 hj2
    subst hj2
    have hvv := hV i (by omega)
    have e : ∀ o p : Nat, (⟨b, o, none⟩ : Addr).add p = ⟨b, o + p, none⟩ := fun o p => by unfold Addr.add; split <;> simp_all
    simp only [e, Nat.add_zero, Nat.mul_one] at hvv
    exact ⟨hvv⟩
end
end Go.Proofs.YtjpkeolielpelaaGreatDoor
