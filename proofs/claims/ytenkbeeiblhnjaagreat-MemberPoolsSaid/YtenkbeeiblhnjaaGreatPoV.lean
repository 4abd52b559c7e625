/- Members: names, tests and a draw, read. -/
import Derived.Test.YtenkbeeiblhnjaaGreatMbV
import Derived.Test.YtenkbeeiblhnjaaGreatNmsA
import Derived.Test.YtenkbeeiblhnjaaGreatTsA
import Derived.ProofKit
import Derived.ChangeMaps5
import Derived.OpenShut
import Derived.SizedLaws
import Derived.Carry
import Derived.ChangeSlices
import Derived.Deep.Slices
namespace Go.Proofs.YtenkbeeiblhnjaaGreat
open Go.ChangeShapes Go.WideShapes Go.ChangeAt Go.WideMaps Go.WideElems Go.RowKit
set_option linter.unusedSimpArgs false
set_option linter.unusedVariables false
theorem bytesStr : Tryz.prog.bytesOf 9 = 16 := by kernel_rfl
theorem recStr : Tryz.prog.readableRec 22 = true := by kernel_rfl
theorem rowStr : 22 < Tryz.prog.types.size := of_decide_eq_true (by kernel_rfl)
instance : Inhabited TstR := ⟨⟨⟨#[]⟩, 0⟩⟩
theorem cellsTst : Tryz.prog.cellsOf 71 = 2 := by kernel_rfl
theorem bytesTst : Tryz.prog.bytesOf 71 = 24 := by kernel_rfl
theorem recTst : Tryz.prog.readableRec 23 = true := by kernel_rfl
theorem rowTst : 23 < Tryz.prog.types.size := of_decide_eq_true (by kernel_rfl)
section
variable {H : Type} {enc : TypeId × Value → H}
set_option maxRecDepth 100000 in
theorem oneStr {W : World} {a : Addr} {cs : List Value} {fuel : Nat} {x : DataW H × List MemPlace} (hc : W.cells? 0 a 1 = some cs) (h : DataW.trod enc Tryz.prog W 0 (fun _ => true) true fuel 9 cs = some x) :
    ∃ y : ByteArray, W.cell? (a.add 0) = some (.string y) := by
  obtain ⟨_, hlen, hcell⟩ := World.cells?_some hc
  match cs, hlen with
  | [c0], _ =>
    obtain ⟨v0, q0, _, _⟩ := DataW.trod_string Tryz.underlying9 h
    simp at q0
    subst q0
    exact ⟨v0, hcell 0 (by omega)⟩
set_option maxRecDepth 100000 in
theorem openStr {W : World} {b0 : Nat} {v : Value} {d : DataW H} {ps : List MemPlace} (hv : Value.okWide Tryz.prog W .any b0 22 v) (h : DataW.Trod enc Tryz.prog W 0 (fun _ => true) true 22 v d ps) :
    ∃ xs, StrAts W v xs ∧ (xs.length = 0 ∨ ∃ el sp, d = .slice el sp ∧ el.length = xs.length) := by
  obtain ⟨a0, l0, c0, rfl⟩ := okWide_slice Tryz.underlying22 hv
  obtain ⟨fuel, hf⟩ := h
  rcases Go.Deep.open_slice Tryz.underlying22 hf with ⟨e, _⟩ | ⟨a, len, cap, m, n, D, Pl, e, _, hle, hmx, hm, ex, hel⟩
  · simp [Value.cells] at e
    obtain ⟨rfl, rfl, rfl⟩ := e
    exact ⟨[], ⟨none, 0, rfl, ⟨by simp, by unfold maxLen; omega⟩, fun h => absurd h (by simp)⟩, .inl rfl⟩
  · simp [Value.cells] at e
    obtain ⟨rfl, rfl, rfl⟩ := e
    simp only [if_true] at hm
    rw [cellsStr] at hel
    obtain ⟨V, hV⟩ := Go.Deep.choose_lt (α := ByteArray) (p := fun i y => W.cell? ((a.add (i * 1)).add 0) = some (.string y)) (fun i (hi : i < m) => by
      obtain ⟨cs', h1, h2⟩ := hel i hi
      exact oneStr h1 h2)
    have hlen : ((List.range l0).map V).length = l0 := by simp
    refine ⟨(List.range l0).map V, ⟨some a, c0, by rw [hlen], ⟨by rw [hlen]; exact hle, hmx⟩, fun h0 => ?_⟩, .inr ⟨_, _, congrArg Prod.fst ex, by rw [hlen]; simp⟩⟩
    rw [hlen] at h0
    obtain ⟨b, off, spot⟩ := a
    have hspot : spot = none := by
      have := World.cell?_spot (hV 0 (by omega))
      simpa [Addr.add] using this
    subst hspot
    refine ⟨b, off, rfl, fun i x hx => ?_⟩
    rw [List.getElem?_map, Option.map_eq_some_iff] at hx
    obtain ⟨j, hj, rfl⟩ := hx
    obtain ⟨hj1, hj2⟩ := List.getElem?_eq_some_iff.1 hj
    simp at hj1 hj2
    subst hj2
    have hvv := hV i (by omega)
    have e : ∀ o p : Nat, (⟨b, o, none⟩ : Addr).add p = ⟨b, o + p, none⟩ := fun o p => by unfold Addr.add; split <;> simp_all
    simp only [e, Nat.add_zero, Nat.mul_one] at hvv
    exact ⟨hvv⟩
set_option maxRecDepth 100000 in
theorem oneTst {W : World} {a : Addr} {cs : List Value} {fuel : Nat} {x : DataW H × List MemPlace} (hc : W.cells? 0 a 2 = some cs) (h : DataW.trod enc Tryz.prog W 0 (fun _ => true) true fuel 71 cs = some x) :
    ∃ y : TstR, W.cell? (a.add 0) = some (.string y.nm) ∧ W.cell? (a.add 1) = some (.int .i64 y.dy) := by
  obtain ⟨_, hlen, hcell⟩ := World.cells?_some hc
  match cs, hlen with
  | [c0, c1], _ =>
  obtain ⟨ys, m, _, hx, _, hl, hfs⟩ := DataW.trod_struct Tryz.underlying71 h
  match ys, hl, hx with
  | [y0, y1], _, hx =>
    have e0 := hfs 0 _ rfl
    have e1 := hfs 1 _ rfl
    simp [cellsStr, cellsInt] at e0 e1
    obtain ⟨v0, q0, _, _⟩ := DataW.trod_string Tryz.underlying9 e0
    obtain ⟨v1, q1, _, _⟩ := DataW.trod_int Tryz.underlying3 e1
    simp at q0 q1
    subst q0 q1
    exact ⟨⟨v0, v1⟩, hcell 0 (by omega), hcell 1 (by omega)⟩
set_option maxRecDepth 100000 in
theorem openTst {W : World} {b0 : Nat} {v : Value} {d : DataW H} {ps : List MemPlace} (hv : Value.okWide Tryz.prog W .any b0 23 v) (h : DataW.Trod enc Tryz.prog W 0 (fun _ => true) true 23 v d ps) :
    ∃ xs, TstAts W v xs ∧ (xs.length = 0 ∨ ∃ el sp, d = .slice el sp ∧ el.length = xs.length) := by
  obtain ⟨a0, l0, c0, rfl⟩ := okWide_slice Tryz.underlying23 hv
  obtain ⟨fuel, hf⟩ := h
  rcases Go.Deep.open_slice Tryz.underlying23 hf with ⟨e, _⟩ | ⟨a, len, cap, m, n, D, Pl, e, _, hle, hmx, hm, ex, hel⟩
  · simp [Value.cells] at e
    obtain ⟨rfl, rfl, rfl⟩ := e
    exact ⟨[], ⟨none, 0, rfl, ⟨by simp, by unfold maxLen; omega⟩, fun h => absurd h (by simp)⟩, .inl rfl⟩
  · simp [Value.cells] at e
    obtain ⟨rfl, rfl, rfl⟩ := e
    simp only [if_true] at hm
    rw [cellsTst] at hel
    obtain ⟨V, hV⟩ := Go.Deep.choose_lt (α := TstR) (p := fun i y => W.cell? ((a.add (i * 2)).add 0) = some (.string y.nm) ∧ W.cell? ((a.add (i * 2)).add 1) = some (.int .i64 y.dy)) (fun i (hi : i < m) => by
      obtain ⟨cs', h1, h2⟩ := hel i hi
      exact oneTst h1 h2)
    have hlen : ((List.range l0).map V).length = l0 := by simp
    refine ⟨(List.range l0).map V, ⟨some a, c0, by rw [hlen], ⟨by rw [hlen]; exact hle, hmx⟩, fun h0 => ?_⟩, .inr ⟨_, _, congrArg Prod.fst ex, by rw [hlen]; simp⟩⟩
    rw [hlen] at h0
    obtain ⟨b, off, spot⟩ := a
    have hspot : spot = none := by
      have := World.cell?_spot (hV 0 (by omega)).1
      simpa [Addr.add] using this
    subst hspot
    refine ⟨b, off, rfl, fun i x hx => ?_⟩
    rw [List.getElem?_map, Option.map_eq_some_iff] at hx
    obtain ⟨j, hj, rfl⟩ := hx
    obtain ⟨hj1, hj2⟩ := List.getElem?_eq_some_iff.1 hj
    simp at hj1 hj2
    subst hj2
    have hvv := hV i (by omega)
    have e : ∀ o p : Nat, (⟨b, o, none⟩ : Addr).add p = ⟨b, o + p, none⟩ := fun o p => by unfold Addr.add; split <;> simp_all
    simp only [e, Nat.add_zero] at hvv
    obtain ⟨h0, h1⟩ := hvv
    exact ⟨h0, h1⟩
theorem cellsPick : Tryz.prog.cellsOf 25 = 3 := by kernel_rfl
theorem cellsDraw : Tryz.prog.cellsOf 27 = 5 := by kernel_rfl
theorem recDraw : Tryz.prog.readableRec 27 = true := by kernel_rfl
theorem rowDraw : 27 < Tryz.prog.types.size := of_decide_eq_true (by kernel_rfl)
set_option maxRecDepth 100000 in
/-- a draw, read -/
theorem openDraw {W : World} {b0 : Nat} {v : Value} {d : DataW H} {ps : List MemPlace} (hv : Value.okWide Tryz.prog W .any b0 27 v) (h : DataW.Trod enc Tryz.prog W 0 (fun _ => true) true 27 v d ps) :
    ∃ a b c e f : Int, v = .agg #[.int .i64 a, .int .i64 b, .int .i64 c, .int .i64 e, .int .i64 f] := by
  have hu := Tryz.underlying27
  simp only [Value.okWide, hu] at hv
  obtain ⟨cs, rfl, hsz, _⟩ := hv
  rw [cellsDraw] at hsz
  obtain ⟨l⟩ := cs
  match l, hsz with
  | [c0, c1, c2, c3, c4], _ =>
  obtain ⟨fuel, hf⟩ := h
  obtain ⟨ys, m, _, hx, _, hl, hfs⟩ := DataW.trod_struct hu hf
  match ys, hl, hx with
  | [y0, y1, y2], _, hx =>
    have e0 := hfs 0 _ rfl
    have e1 := hfs 1 _ rfl
    have e2 := hfs 2 _ rfl
    simp [cellsPick, cellsInt, Value.cells] at e0 e1 e2
    obtain ⟨v1, q1, d1, _⟩ := DataW.trod_int Tryz.underlying3 e1
    obtain ⟨v2, q2, d2, _⟩ := DataW.trod_int Tryz.underlying3 e2
    obtain ⟨zs, m2, _, hx2, _, hl2, hfs2⟩ := DataW.trod_struct Tryz.underlying25 e0
    match zs, hl2, hx2 with
    | [z0, z1, z2], _, hx2 =>
      have f0 := hfs2 0 _ rfl
      have f1 := hfs2 1 _ rfl
      have f2 := hfs2 2 _ rfl
      simp [cellsInt] at f0 f1 f2
      obtain ⟨u0, r0, _, _⟩ := DataW.trod_int Tryz.underlying3 f0
      obtain ⟨u1, r1, _, _⟩ := DataW.trod_int Tryz.underlying3 f1
      obtain ⟨u2, r2, _, _⟩ := DataW.trod_int Tryz.underlying3 f2
      simp at q1 q2 r0 r1 r2
      subst q1 q2 r0 r1 r2
      exact ⟨u0, u1, u2, v1, v2, rfl⟩
end
end Go.Proofs.YtenkbeeiblhnjaaGreat
