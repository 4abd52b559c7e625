/- Members: licences and two integers, read. -/
import Derived.Test.YtmlmbgifkmkmgaaGreatRows
import Derived.Test.YtmlmbgifkmkmgaaGreatAwake
import Derived.Test.YtmlmbgifkmkmgaaGreatMbV
import Derived.Test.YtmlmbgifkmkmgaaGreatMbF
import Derived.ProofKit
import Derived.ChangeMaps5
import Derived.OpenShut
import Derived.SizedLaws
import Derived.Carry
import Derived.ChangeSlices
import Derived.Deep.Slices
namespace Go.Proofs.YtmlmbgifkmkmgaaGreat
open Go.ChangeShapes Go.WideShapes Go.ChangeAt Go.WideMaps Go.WideElems Go.RowKit
set_option linter.unusedSimpArgs false
set_option linter.unusedVariables false
theorem cellsLic : Tryz.prog.cellsOf 73 = 3 := by kernel_rfl
theorem bytesLic : Tryz.prog.bytesOf 73 = 32 := by kernel_rfl
theorem recLic : Tryz.prog.readableRec 52 = true := by kernel_rfl
theorem rowLic : 52 < Tryz.prog.types.size := of_decide_eq_true (by kernel_rfl)
section
variable {H : Type} {enc : TypeId × Value → H}
set_option maxRecDepth 100000 in
theorem oneLic {W : World} {a : Addr} {cs : List Value} {fuel : Nat} {x : DataW H × List MemPlace} (hc : W.cells? 0 a 3 = some cs) (h : DataW.trod enc Tryz.prog W 0 (fun _ => true) true fuel 73 cs = some x) :
    ∃ y : CatR, W.cell? (a.add 0) = some (.string y.nm) ∧ W.cell? (a.add 1) = some (.int .i64 y.lo) ∧ W.cell? (a.add 2) = some (.int .i64 y.hi) := by
  obtain ⟨_, hlen, hcell⟩ := World.cells?_some hc
  match cs, hlen with
  | [c0, c1, c2], _ =>
  obtain ⟨ys, m, _, hx, _, hl, hfs⟩ := DataW.trod_struct Tryz.underlying73 h
  match ys, hl, hx with
  | [y0, y1, y2], _, hx =>
    have e0 := hfs 0 _ rfl
    have e1 := hfs 1 _ rfl
    have e2 := hfs 2 _ rfl
    simp [cellsStr, cellsInt] at e0 e1 e2
    obtain ⟨v0, q0, _, _⟩ := DataW.trod_string Tryz.underlying9 e0
    obtain ⟨v1, q1, _, _⟩ := DataW.trod_int Tryz.underlying3 e1
    obtain ⟨v2, q2, _, _⟩ := DataW.trod_int Tryz.underlying3 e2
    simp at q0 q1 q2
    subst q0 q1 q2
    exact ⟨⟨v0, v1, v2⟩, hcell 0 (by omega), hcell 1 (by omega), hcell 2 (by omega)⟩
set_option maxRecDepth 100000 in
theorem openLic {W : World} {b0 : Nat} {v : Value} {d : DataW H} {ps : List MemPlace} (hv : Value.okWide Tryz.prog W .any b0 52 v) (h : DataW.Trod enc Tryz.prog W 0 (fun _ => true) true 52 v d ps) :
    ∃ xs, CatAts W v xs ∧ (xs.length = 0 ∨ ∃ el sp, d = .slice el sp ∧ el.length = xs.length) := by
  obtain ⟨a0, l0, c0, rfl⟩ := okWide_slice Tryz.underlying52 hv
  obtain ⟨fuel, hf⟩ := h
  rcases Go.Deep.open_slice Tryz.underlying52 hf with ⟨e, _⟩ | ⟨a, len, cap, m, n, D, Pl, e, _, hle, hmx, hm, ex, hel⟩
  · simp [Value.cells] at e
    obtain ⟨rfl, rfl, rfl⟩ := e
    exact ⟨[], ⟨none, 0, rfl, ⟨by simp, by unfold maxLen; omega⟩, fun h => absurd h (by simp)⟩, .inl rfl⟩
  · simp [Value.cells] at e
    obtain ⟨rfl, rfl, rfl⟩ := e
    simp only [if_true] at hm
    rw [cellsLic] at hel
    obtain ⟨V, hV⟩ := Go.Deep.choose_lt (α := CatR) (p := fun i y => W.cell? ((a.add (i * 3)).add 0) = some (.string y.nm) ∧ W.cell? ((a.add (i * 3)).add 1) = some (.int .i64 y.lo) ∧ W.cell? ((a.add (i * 3)).add 2) = some (.int .i64 y.hi)) (fun i (hi : i < m) => by
      obtain ⟨cs', h1, h2⟩ := hel i hi
      exact oneLic h1 h2)
    have hlen : ((List.range l0).map V).length = l0 := by simp
    refine ⟨(List.range l0).map V, ⟨some a, c0, by rw [hlen], ⟨by rw [hlen]; exact hle, hmx⟩, fun h0 => ?_⟩, .inr ⟨_, _, congrArg Prod.fst ex, by rw [hlen]; simp⟩⟩
    rw [hlen] at h0
    obtain ⟨b, off, spot⟩ := a
    have hspot : spot = none := by
      have := World.cell?_spot (hV 0 (by omega)).1
      simpa [Addr.add] using this
    subst hspot
    refine ⟨b, off, rfl, fun i x hx => ?_⟩
    rw [List.getElem?_map, Option.map_eq_some_iff] at hx
    obtain ⟨j, hj, rfl⟩ := hx
    obtain ⟨hj1, hj2⟩ := List.getElem?_eq_some_iff.1 hj
    simp at hj1 hj2
    subst hj2
    have hvv := hV i (by omega)
    have e : ∀ o p : Nat, (⟨b, o, none⟩ : Addr).add p = ⟨b, o + p, none⟩ := fun o p => by unfold Addr.add; split <;> simp_all
    simp only [e, Nat.add_zero] at hvv
    obtain ⟨h0, h1, h2⟩ := hvv
    exact ⟨h0, h1, h2⟩
end
theorem cellsA2 : Tryz.prog.cellsOf 53 = 2 := by kernel_rfl
section
variable {H : Type} {enc : TypeId × Value → H}
set_option maxRecDepth 100000 in
/-- two integers, read -/
theorem open_ints2 {W : World} {b0 : Nat} {v : Value} {d : DataW H} {ps : List MemPlace} (hv : Value.okWide Tryz.prog W .any b0 53 v) (h : DataW.Trod enc Tryz.prog W 0 (fun _ => true) true 53 v d ps) :
    ∃ a b : Int, v = .agg #[.int .i64 a, .int .i64 b] ∧ d = .agg [.lit (.int .i64 a), .lit (.int .i64 b)] ∧ ps = [] ∧ (Lit.int .i64 a).wf = true ∧ (Lit.int .i64 b).wf = true := by
  have hu := Tryz.underlying53
  simp only [Value.okWide, hu] at hv
  obtain ⟨cs, rfl, hsz, _⟩ := hv
  rw [cellsA2] at hsz
  obtain ⟨l⟩ := cs
  match l, hsz with
  | [c0, c1], _ =>
  obtain ⟨fuel, hf⟩ := h
  obtain ⟨xs, m, rfl, hx, _, hn, hel⟩ := DataW.trod_array hu hf
  have e0 := hel 0 (by decide)
  have e1 := hel 1 (by decide)
  match xs, hn, hx, e0, e1 with
  | [x0, x1], _, hx, e0, e1 =>
    rw [cellsInt] at e0 e1
    simp [Value.cells] at e0 e1
    obtain ⟨a, b0, rfl, wa⟩ := DataW.trod_int Tryz.underlying3 e0
    obtain ⟨b, b1, rfl, wb⟩ := DataW.trod_int Tryz.underlying3 e1
    simp at b0 b1
    subst b0 b1
    simp only [Prod.mk.injEq, List.map_cons, List.map_nil, List.flatMap_cons, List.flatMap_nil, List.append_nil] at hx
    obtain ⟨rfl, rfl⟩ := hx
    exact ⟨a, b, rfl, rfl, rfl, wa, wb⟩
theorem shut_ints2 {W : World} {a b : Int} (wa : (Lit.int .i64 a).wf = true) (wb : (Lit.int .i64 b).wf = true) (sp : Nat → Bool) : DataW.Trod enc Tryz.prog W 0 sp true 53 (.agg #[.int .i64 a, .int .i64 b]) (.agg [.lit (.int .i64 a), .lit (.int .i64 b)]) [] := ⟨2, by
  have f0 : DataW.trod enc Tryz.prog W 0 sp true 1 3 [.int .i64 a] = some (.lit (.int .i64 a), []) := by simp [DataW.trod, Tryz.underlying3, wa]
  have f1 : DataW.trod enc Tryz.prog W 0 sp true 1 3 [.int .i64 b] = some (.lit (.int .i64 b), []) := by simp [DataW.trod, Tryz.underlying3, wb]
  unfold DataW.trod
  simp [Tryz.underlying53, cellsA2, cellsInt, Value.cells, List.range, List.range.loop, f0, f1]⟩
end
end Go.Proofs.YtmlmbgifkmkmgaaGreat
