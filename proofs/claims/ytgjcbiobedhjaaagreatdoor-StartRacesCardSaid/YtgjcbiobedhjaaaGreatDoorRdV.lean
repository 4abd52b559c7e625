/- Races, read. -/
import Derived.Test.YtgjcbiobedhjaaaGreatDoorLaid
import Derived.Test.YtgjcbiobedhjaaaGreatDoorRdM
import Derived.ProofKit
import Derived.OpenShut
import Derived.SizedLaws
import Derived.Carry
import Derived.ChangeSlices
import Derived.Deep.Slices
namespace Go.Proofs.YtgjcbiobedhjaaaGreatDoor
open Go.ChangeShapes Go.WideShapes Go.ChangeAt Go.WideMaps Go.WideElems Go.RowKit
set_option linter.unusedSimpArgs false
set_option linter.unusedVariables false
theorem laidOutM : laidOutB Tryz.prog = true := by kernel_rfl
theorem cellsStr : Tryz.prog.cellsOf 9 = 1 := by kernel_rfl
theorem cellsInt : Tryz.prog.cellsOf 3 = 1 := by kernel_rfl
theorem bound_of {H : Type} {d : DataW H} {n B : Nat} {e t : TypeId} {ts : List TypeId} {ds : List (DataW H)} {j : Nat} (hs : (DataW.weightsEach Tryz.prog ts ds).all (· ≤ reachBytes) = true) (ht : ts[j]? = some t) (hd : ds[j]? = some d) (hu : Tryz.prog.underlying t = some (.slice e)) (hB : Tryz.prog.bytesOf e = B) (h : n = 0 ∨ ∃ el sp, d = .slice el sp ∧ el.length = n) : n * B ≤ 140737488355328 := by
  rcases h with h | ⟨el, sp, rfl, h⟩
  · subst h; simp
  · have h1 := sized_slice hs ht hd hu
    rw [hB, h] at h1
    unfold reachBytes at h1
    have h2 : n * B ≤ (n + sp.length) * B := Nat.mul_le_mul_right _ (by omega)
    omega
instance : Inhabited RaR := ⟨⟨⟨#[]⟩, ⟨#[]⟩, 0⟩⟩
theorem cellsRace : Tryz.prog.cellsOf 33 = 3 := by kernel_rfl
theorem bytesRace : Tryz.prog.bytesOf 33 = 40 := by kernel_rfl
theorem recRace : Tryz.prog.readableRec 22 = true := by kernel_rfl
theorem rowRace : 22 < Tryz.prog.types.size := of_decide_eq_true (by kernel_rfl)
section
variable {H : Type} {enc : TypeId × Value → H}
set_option maxRecDepth 100000 in
theorem oneRace {W : World} {a : Addr} {cs : List Value} {fuel : Nat} {x : DataW H × List MemPlace} (hc : W.cells? 0 a 3 = some cs) (h : DataW.trod enc Tryz.prog W 0 (fun _ => true) true fuel 33 cs = some x) :
    ∃ y : RaR, W.cell? (a.add 0) = some (.string y.a) ∧ W.cell? (a.add 1) = some (.string y.b) ∧ W.cell? (a.add 2) = some (.int .i64 y.w) := by
  obtain ⟨_, hlen, hcell⟩ := World.cells?_some hc
  match cs, hlen with
  | [c0, c1, c2], _ =>
  obtain ⟨ys, m, _, hx, _, hl, hfs⟩ := DataW.trod_struct Tryz.underlying33 h
  match ys, hl, hx with
  | [y0, y1, y2], _, hx =>
    have e0 := hfs 0 _ rfl
    have e1 := hfs 1 _ rfl
    have e2 := hfs 2 _ rfl
    simp [cellsStr, cellsInt] at e0 e1 e2
    obtain ⟨v0, q0, _, _⟩ := DataW.trod_string Tryz.underlying9 e0
    obtain ⟨v1, q1, _, _⟩ := DataW.trod_string Tryz.underlying9 e1
    obtain ⟨v2, q2, _, _⟩ := DataW.trod_int Tryz.underlying3 e2
    simp at q0 q1 q2
    subst q0 q1 q2
    exact ⟨⟨v0, v1, v2⟩, hcell 0 (by omega), hcell 1 (by omega), hcell 2 (by omega)⟩
set_option maxRecDepth 100000 in
theorem openRace {W : World} {b0 : Nat} {v : Value} {d : DataW H} {ps : List MemPlace} (hv : Value.okWide Tryz.prog W .any b0 22 v) (h : DataW.Trod enc Tryz.prog W 0 (fun _ => true) true 22 v d ps) :
    ∃ xs, RaV W v xs ∧ (xs.length = 0 ∨ ∃ el sp, d = .slice el sp ∧ el.length = xs.length) := by
  obtain ⟨a0, l0, c0, rfl⟩ := okWide_slice Tryz.underlying22 hv
  obtain ⟨fuel, hf⟩ := h
  rcases Go.Deep.open_slice Tryz.underlying22 hf with ⟨e, _⟩ | ⟨a, len, cap, m, n, D, Pl, e, _, hle, hmx, hm, ex, hel⟩
  · simp [Value.cells] at e
    obtain ⟨rfl, rfl, rfl⟩ := e
    exact ⟨[], ⟨none, 0, rfl, ⟨by simp, by unfold maxLen; omega⟩, ⟨fun h => absurd h (by simp)⟩⟩, .inl rfl⟩
  · simp [Value.cells] at e
    obtain ⟨rfl, rfl, rfl⟩ := e
    simp only [if_true] at hm
    rw [cellsRace] at hel
    obtain ⟨V, hV⟩ := Go.Deep.choose_lt (α := RaR) (p := fun i y => W.cell? ((a.add (i * 3)).add 0) = some (.string y.a) ∧ W.cell? ((a.add (i * 3)).add 1) = some (.string y.b) ∧ W.cell? ((a.add (i * 3)).add 2) = some (.int .i64 y.w)) (fun i (hi : i < m) => by
      obtain ⟨cs', h1, h2⟩ := hel i hi
      exact oneRace h1 h2)
    have hlen : ((List.range l0).map V).length = l0 := by simp
    refine ⟨(List.range l0).map V, ⟨some a, c0, by rw [hlen], ⟨by rw [hlen]; exact hle, hmx⟩, ⟨fun h0 => ?_⟩⟩, .inr ⟨_, _, congrArg Prod.fst ex, by rw [hlen]; simp⟩⟩
    rw [hlen] at h0
    obtain ⟨b, off, spot⟩ := a
    have hspot : spot = none := by
      have := World.cell?_spot (hV 0 (by omega)).1
      simpa [Addr.add] using this
    subst hspot
    refine ⟨b, off, rfl, fun i x hx => ?_⟩
    rw [List.getElem?_map, Option.map_eq_some_iff] at hx
    obtain ⟨j, hj, rfl⟩ := hx
    obtain ⟨hj1, hj2⟩ := List.getElem?_eq_some_iff.1 hj
    simp at hj1 hj2
    subst hj2
    have hvv := hV i (by omega)
    have e : ∀ o p : Nat, (⟨b, o, none⟩ : Addr).add p = ⟨b, o + p, none⟩ := fun o p => by unfold Addr.add; split <;> simp_all
    simp only [e, Nat.add_zero] at hvv
    exact hvv
theorem beat_laid {W : World} (h : laidMetH Tryz.prog laidB W) : Beat W := by
  obtain ⟨t, fr, h⟩ := of_laid h
  exact ⟨by simp [World.cell?, h], by simp [World.cell?, h], by simp [World.cell?, h], by simp [World.cell?, h]⟩
end
end Go.Proofs.YtgjcbiobedhjaaaGreatDoor
