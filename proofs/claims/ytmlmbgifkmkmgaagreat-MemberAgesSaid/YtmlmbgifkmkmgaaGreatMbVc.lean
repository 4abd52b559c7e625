/- Members: climbers, read. -/
import Derived.Test.YtmlmbgifkmkmgaaGreatRows
import Derived.Test.YtmlmbgifkmkmgaaGreatAwake
import Derived.Test.YtmlmbgifkmkmgaaGreatMbV
import Derived.Test.YtmlmbgifkmkmgaaGreatGMbA
import Derived.ProofKit
import Derived.OpenShut
import Derived.SizedLaws
import Derived.Carry
import Derived.ChangeSlices
import Derived.Deep.Slices
namespace Go.Proofs.YtmlmbgifkmkmgaaGreat
open Go.ChangeShapes Go.WideShapes Go.ChangeAt Go.WideMaps Go.WideElems Go.RowKit
set_option linter.unusedSimpArgs false
set_option linter.unusedVariables false
instance : Inhabited CliR := ⟨⟨⟨#[]⟩, ⟨#[]⟩, 0, ⟨#[]⟩⟩⟩
theorem cellsCli : Tryz.prog.cellsOf 42 = 4 := by kernel_rfl
theorem bytesCli : Tryz.prog.bytesOf 42 = 56 := by kernel_rfl
theorem recCli : Tryz.prog.readableRec 22 = true := by kernel_rfl
theorem rowCli : 22 < Tryz.prog.types.size := of_decide_eq_true (by kernel_rfl)
section
variable {H : Type} {enc : TypeId × Value → H}
set_option maxRecDepth 100000 in
theorem oneCli {W : World} {a : Addr} {cs : List Value} {fuel : Nat} {x : DataW H × List MemPlace} (hc : W.cells? 0 a 4 = some cs) (h : DataW.trod enc Tryz.prog W 0 (fun _ => true) true fuel 42 cs = some x) :
    ∃ y : CliR, W.cell? (a.add 0) = some (.string y.nm) ∧ W.cell? (a.add 1) = some (.string y.na) ∧ W.cell? (a.add 2) = some (.int .i64 y.bn) ∧ W.cell? (a.add 3) = some (.string y.ct) := by
  obtain ⟨_, hlen, hcell⟩ := World.cells?_some hc
  match cs, hlen with
  | [c0, c1, c2, c3], _ =>
  obtain ⟨ys, m, _, hx, _, hl, hfs⟩ := DataW.trod_struct Tryz.underlying42 h
  match ys, hl, hx with
  | [y0, y1, y2, y3], _, hx =>
    have e0 := hfs 0 _ rfl
    have e1 := hfs 1 _ rfl
    have e2 := hfs 2 _ rfl
    have e3 := hfs 3 _ rfl
    simp [cellsStr, cellsInt] at e0 e1 e2 e3
    obtain ⟨v0, q0, _, _⟩ := DataW.trod_string Tryz.underlying9 e0
    obtain ⟨v1, q1, _, _⟩ := DataW.trod_string Tryz.underlying9 e1
    obtain ⟨v2, q2, _, _⟩ := DataW.trod_int Tryz.underlying3 e2
    obtain ⟨v3, q3, _, _⟩ := DataW.trod_string Tryz.underlying9 e3
    simp at q0 q1 q2 q3
    subst q0 q1 q2 q3
    exact ⟨⟨v0, v1, v2, v3⟩, hcell 0 (by omega), hcell 1 (by omega), hcell 2 (by omega), hcell 3 (by omega)⟩
set_option maxRecDepth 100000 in
theorem openCli {W : World} {b0 : Nat} {v : Value} {d : DataW H} {ps : List MemPlace} (hv : Value.okWide Tryz.prog W .any b0 22 v) (h : DataW.Trod enc Tryz.prog W 0 (fun _ => true) true 22 v d ps) :
    ∃ xs, CliAts W v xs ∧ (xs.length = 0 ∨ ∃ el sp, d = .slice el sp ∧ el.length = xs.length) := by
  obtain ⟨a0, l0, c0, rfl⟩ := okWide_slice Tryz.underlying22 hv
  obtain ⟨fuel, hf⟩ := h
  rcases Go.Deep.open_slice Tryz.underlying22 hf with ⟨e, _⟩ | ⟨a, len, cap, m, n, D, Pl, e, _, hle, hmx, hm, ex, hel⟩
  · simp [Value.cells] at e
    obtain ⟨rfl, rfl, rfl⟩ := e
    exact ⟨[], ⟨none, 0, rfl, ⟨by simp, by unfold maxLen; omega⟩, fun h => absurd h (by simp)⟩, .inl rfl⟩
  · simp [Value.cells] at e
    obtain ⟨rfl, rfl, rfl⟩ := e
    simp only [if_true] at hm
    rw [cellsCli] at hel
    obtain ⟨V, hV⟩ := Go.Deep.choose_lt (α := CliR) (p := fun i y => W.cell? ((a.add (i * 4)).add 0) = some (.string y.nm) ∧ W.cell? ((a.add (i * 4)).add 1) = some (.string y.na) ∧ W.cell? ((a.add (i * 4)).add 2) = some (.int .i64 y.bn) ∧ W.cell? ((a.add (i * 4)).add 3) = some (.string y.ct)) (fun i (hi : i < m) => by
      obtain ⟨cs', h1, h2⟩ := hel i hi
      exact oneCli h1 h2)
    have hlen : ((List.range l0).map V).length = l0 := by simp
    refine ⟨(List.range l0).map V, ⟨some a, c0, by rw [hlen], ⟨by rw [hlen]; exact hle, hmx⟩, fun h0 => ?_⟩, .inr ⟨_, _, congrArg Prod.fst ex, by rw [hlen]; simp⟩⟩
    rw [hlen] at h0
    obtain ⟨b, off, spot⟩ := a
    have hspot : spot = none := by
      have := World.cell?_spot (hV 0 (by omega)).1
      simpa [Addr.add] using this
    subst hspot
    refine ⟨b, off, rfl, fun i x hx => ?_⟩
    rw [List.getElem?_map, Option.map_eq_some_iff] at hx
    obtain ⟨j, hj, rfl⟩ := hx
    obtain ⟨hj1, hj2⟩ := List.getElem?_eq_some_iff.1 hj
    simp at hj1 hj2
    subst hj2
    have hvv := hV i (by omega)
    have e : ∀ o p : Nat, (⟨b, o, none⟩ : Addr).add p = ⟨b, o + p, none⟩ := fun o p => by unfold Addr.add; split <;> simp_all
    simp only [e, Nat.add_zero] at hvv
    obtain ⟨h0, h1, h2, h3⟩ := hvv
    exact ⟨h0, h1, h2, h3⟩
end
end Go.Proofs.YtmlmbgifkmkmgaaGreat
