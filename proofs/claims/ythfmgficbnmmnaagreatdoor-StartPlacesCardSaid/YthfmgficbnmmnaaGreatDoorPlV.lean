/- Rounds and a run, read. -/
import Derived.Test.YthfmgficbnmmnaaGreatDoorPlL
import Derived.ProofKit
import Derived.OpenShut
import Derived.SizedLaws
import Derived.Carry
import Derived.ChangeSlices
import Derived.Deep.Slices
namespace Go.Proofs.YthfmgficbnmmnaaGreatDoor
open Go.ChangeShapes Go.WideShapes Go.ChangeAt Go.WideMaps Go.WideElems Go.RowKit
set_option linter.unusedSimpArgs false
set_option linter.unusedVariables false
theorem laidOutM : laidOutB Tryz.prog = true := by kernel_rfl
theorem cellsStr : Tryz.prog.cellsOf 9 = 1 := by kernel_rfl
theorem cellsInt : Tryz.prog.cellsOf 3 = 1 := by kernel_rfl
instance : Inhabited RaR := ⟨⟨⟨#[]⟩, ⟨#[]⟩, 0⟩⟩
theorem cellsRace : Tryz.prog.cellsOf 55 = 3 := by kernel_rfl
theorem cellsRaces : Tryz.prog.cellsOf 30 = 1 := by kernel_rfl
theorem cellsRun : Tryz.prog.cellsOf 24 = 2 := by kernel_rfl
theorem bytesRace : Tryz.prog.bytesOf 55 = 40 := by kernel_rfl
theorem recRounds : Tryz.prog.readableRec 22 = true := by kernel_rfl
theorem rowRounds : 22 < Tryz.prog.types.size := of_decide_eq_true (by kernel_rfl)
theorem wAll_mem {H : Type} {P : Program} {e : TypeId} : ∀ {l : List (DataW H)} {d : DataW H}, d ∈ l → ∀ n ∈ d.weights P e, n ∈ DataW.weightsAll P e l
  | [], _, h, _, _ => by cases h
  | x :: r, d, h, n, hn => by
    simp only [DataW.weightsAll, List.mem_append]
    rcases List.mem_cons.1 h with rfl | h
    · exact .inl hn
    · exact .inr (wAll_mem h n hn)
/-- the weight of a slice within a slice -/
theorem bound_deep {H : Type} {ds : List (DataW H)} {ts : List TypeId} {n B j : Nat} {t e e2 : TypeId} {d : DataW H} (hs : (DataW.weightsEach Tryz.prog ts ds).all (· ≤ reachBytes) = true) (ht : ts[j]? = some t) (hd : ds[j]? = some d) (hu : Tryz.prog.underlying t = some (.slice e)) (hu2 : Tryz.prog.underlying e = some (.slice e2)) (hB : Tryz.prog.bytesOf e2 = B) (h : n = 0 ∨ ∃ els sps el sp, d = .slice els sps ∧ DataW.slice el sp ∈ els ∧ el.length = n) : n * B ≤ 140737488355328 := by
  rcases h with h | ⟨els, sps, el, sp, rfl, hm, h⟩
  · subst h; simp
  · have h0 : (el.length + sp.length) * Tryz.prog.bytesOf e2 ∈ DataW.weightsAll Tryz.prog e els := wAll_mem hm _ (by simp [DataW.weights, hu2])
    have h1 := List.all_eq_true.1 hs _ (DataW.weights_mem_each ht hd ((el.length + sp.length) * Tryz.prog.bytesOf e2) (by simp only [DataW.weights, hu]; exact List.mem_cons_of_mem _ (List.mem_append_left _ h0)))
    have h1 := of_decide_eq_true h1
    rw [hB, h] at h1
    unfold reachBytes at h1
    have h2 : n * B ≤ (n + sp.length) * B := Nat.mul_le_mul_right _ (by omega)
    omega
section
variable {H : Type} {enc : TypeId × Value → H}
set_option maxRecDepth 100000 in
theorem oneRace {W : World} {a : Addr} {cs : List Value} {fuel : Nat} {x : DataW H × List MemPlace} (hc : W.cells? 0 a 3 = some cs) (h : DataW.trod enc Tryz.prog W 0 (fun _ => true) true fuel 55 cs = some x) :
    ∃ y : RaR, W.cell? (a.add 0) = some (.string y.a) ∧ W.cell? (a.add 1) = some (.string y.b) ∧ W.cell? (a.add 2) = some (.int .i64 y.w) := by
  obtain ⟨_, hlen, hcell⟩ := World.cells?_some hc
  match cs, hlen with
  | [c0, c1, c2], _ =>
  obtain ⟨ys, m, _, hx, _, hl, hfs⟩ := DataW.trod_struct Tryz.underlying55 h
  match ys, hl, hx with
  | [y0, y1, y2], _, hx =>
    have e0 := hfs 0 _ rfl
    have e1 := hfs 1 _ rfl
    have e2 := hfs 2 _ rfl
    simp [cellsStr, cellsInt] at e0 e1 e2
    obtain ⟨v0, q0, _, _⟩ := DataW.trod_string Tryz.underlying9 e0
    obtain ⟨v1, q1, _, _⟩ := DataW.trod_string Tryz.underlying9 e1
    obtain ⟨v2, q2, _, _⟩ := DataW.trod_int Tryz.underlying3 e2
    simp at q0 q1 q2
    subst q0 q1 q2
    exact ⟨⟨v0, v1, v2⟩, hcell 0 (by omega), hcell 1 (by omega), hcell 2 (by omega)⟩
set_option maxRecDepth 100000 in
theorem listRace {W : World} {cs : List Value} {fuel : Nat} {x : DataW H × List MemPlace} (h : DataW.trod enc Tryz.prog W 0 (fun _ => true) true fuel 30 cs = some x) :
    ∃ v xs, cs = [v] ∧ RaV W v xs ∧ (xs.length = 0 ∨ ∃ el sp, x.1 = .slice el sp ∧ el.length = xs.length) := by
  rcases Go.Deep.open_slice Tryz.underlying30 h with ⟨e, _⟩ | ⟨a, len, cap, m, n, D, Pl, e, _, hle, hmx, hm, ex, hel⟩
  · exact ⟨_, [], e, ⟨none, 0, rfl, ⟨by simp, by unfold maxLen; omega⟩, ⟨fun h => absurd h (by simp)⟩⟩, .inl rfl⟩
  · simp only [if_true] at hm
    rw [cellsRace] at hel
    obtain ⟨V, hV⟩ := Go.Deep.choose_lt (α := RaR) (p := fun i y => W.cell? ((a.add (i * 3)).add 0) = some (.string y.a) ∧ W.cell? ((a.add (i * 3)).add 1) = some (.string y.b) ∧ W.cell? ((a.add (i * 3)).add 2) = some (.int .i64 y.w)) (fun i (hi : i < m) => by
      obtain ⟨cs', h1, h2⟩ := hel i hi
      exact oneRace h1 h2)
    have hlen : ((List.range len).map V).length = len := by simp
    refine ⟨_, (List.range len).map V, e, ⟨some a, cap, by rw [hlen], ⟨by rw [hlen]; exact hle, hmx⟩, ⟨fun h0 => ?_⟩⟩, .inr ⟨_, _, congrArg Prod.fst ex, by rw [hlen]; simp⟩⟩
    rw [hlen] at h0
    obtain ⟨b, off, spot⟩ := a
    have hspot : spot = none := by
      have := World.cell?_spot (hV 0 (by omega)).1
      simpa [Addr.add] using this
    subst hspot
    refine ⟨b, off, rfl, fun i x hx => ?_⟩
    rw [List.getElem?_map, Option.map_eq_some_iff] at hx
    obtain ⟨j, hj, rfl⟩ := hx
    obtain ⟨hj1, hj2⟩ := List.getElem?_eq_some_iff.1 hj
    simp at hj1 hj2
    subst hj2
    have hvv := hV i (by omega)
    have e : ∀ o p : Nat, (⟨b, o, none⟩ : Addr).add p = ⟨b, o + p, none⟩ := fun o p => by unfold Addr.add; split <;> simp_all
    simp only [e, Nat.add_zero] at hvv
    exact hvv
set_option maxRecDepth 100000 in
theorem openRounds {W : World} {b0 : Nat} {v : Value} {d : DataW H} {ps : List MemPlace} (hv : Value.okWide Tryz.prog W .any b0 22 v) (h : DataW.Trod enc Tryz.prog W 0 (fun _ => true) true 22 v d ps) :
    ∃ xs, RdAts W v xs ∧ ∀ x ∈ xs, (x.l.length = 0 ∨ ∃ els sps el sp, d = .slice els sps ∧ DataW.slice el sp ∈ els ∧ el.length = x.l.length) := by
  obtain ⟨a0, l0, c0, rfl⟩ := okWide_slice Tryz.underlying22 hv
  obtain ⟨fuel, hf⟩ := h
  rcases Go.Deep.open_slice Tryz.underlying22 hf with ⟨e, _⟩ | ⟨a, len, cap, m, n, D, Pl, e, _, hle, hmx, hm, ex, hel⟩
  · simp [Value.cells] at e
    obtain ⟨rfl, rfl, rfl⟩ := e
    exact ⟨[], ⟨none, 0, rfl, ⟨by simp, by unfold maxLen; omega⟩, fun h => absurd h (by simp)⟩, fun x h => by cases h⟩
  · simp [Value.cells] at e
    obtain ⟨rfl, rfl, rfl⟩ := e
    simp only [if_true] at hm
    rw [cellsRaces] at hel
    obtain ⟨V, hV⟩ := Go.Deep.choose_lt (α := Rd) (p := fun i y => W.cell? ((a.add (i * 1)).add 0) = some (.slice y.p y.n y.c) ∧ RdOk W y ∧ (y.l.length = 0 ∨ ∃ el sp, D i = .slice el sp ∧ el.length = y.l.length)) (fun i (hi : i < m) => by
      obtain ⟨cs', h1, h2⟩ := hel i hi
      obtain ⟨_, hlen, hcell⟩ := World.cells?_some h1
      obtain ⟨u, xs, rfl, ⟨⟨p, cp, rfl, hcp, hra⟩⟩, hd⟩ := listRace h2
      exact ⟨⟨p, xs.length, cp, xs⟩, hcell 0 (by omega), ⟨rfl, hcp.1, hcp.2, hra⟩, hd⟩)
    have hlen : ((List.range l0).map V).length = l0 := by simp
    refine ⟨(List.range l0).map V, ⟨some a, c0, by rw [hlen], ⟨by rw [hlen]; exact hle, hmx⟩, fun h0 => ?_⟩, fun x hx => ?_⟩
    · rw [hlen] at h0
      obtain ⟨b, off, spot⟩ := a
      have hspot : spot = none := by
        have := World.cell?_spot (hV 0 (by omega)).1
        simpa [Addr.add] using this
      subst hspot
      refine ⟨b, off, rfl, fun i x hx => ?_⟩
      rw [List.getElem?_map, Option.map_eq_some_iff] at hx
      obtain ⟨j, hj, rfl⟩ := hx
      obtain ⟨hj1, hj2⟩ := List.getElem?_eq_some_iff.1 hj
      simp at hj1 hj2
      subst hj2
      have hvv := hV i (by omega)
      have e : ∀ o p : Nat, (⟨b, o, none⟩ : Addr).add p = ⟨b, o + p, none⟩ := fun o p => by unfold Addr.add; split <;> simp_all
      simp only [e, Nat.add_zero, Nat.mul_one] at hvv
      exact ⟨hvv.1, hvv.2.1⟩
    · obtain ⟨j, hj, rfl⟩ := List.mem_map.1 hx
      have hj := List.mem_range.1 hj
      rcases (hV j (by omega)).2.2 with h | ⟨el, sp, h1, h2⟩
      · exact .inl h
      · exact .inr ⟨_, _, el, sp, congrArg Prod.fst ex, by rw [← h1]; exact List.mem_map.2 ⟨j, List.mem_range.2 hj, rfl⟩, h2⟩
set_option maxRecDepth 100000 in
/-- a run, read -/
theorem openRun {W : World} {b0 : Nat} {v : Value} {d : DataW H} {ps : List MemPlace} (hv : Value.okWide Tryz.prog W .any b0 24 v) (h : DataW.Trod enc Tryz.prog W 0 (fun _ => true) true 24 v d ps) :
    ∃ a b : Int, v = .agg #[.int .i64 a, .int .i64 b] ∧ d = .agg [.lit (.int .i64 a), .lit (.int .i64 b)] ∧ ps = [] ∧ (Lit.int .i64 a).wf = true ∧ (Lit.int .i64 b).wf = true := by
  obtain ⟨cs, rfl, hsz⟩ := okWide_struct Tryz.underlying24 hv
  rw [cellsRun] at hsz
  obtain ⟨l⟩ := cs
  match l, hsz with
  | [c0, c1], _ =>
  obtain ⟨fuel, hf⟩ := h
  obtain ⟨y0, y1, m, hx, _, hy0, hy1⟩ := trod_struct2 Tryz.underlying24 hf
  obtain ⟨a, e0, rfl, wa⟩ := DataW.trod_int Tryz.underlying3 hy0
  obtain ⟨b, e1, rfl, wb⟩ := DataW.trod_int Tryz.underlying3 hy1
  simp [Value.cells, cellsInt] at e0 e1
  subst e0 e1
  simp only [Prod.mk.injEq] at hx
  obtain ⟨rfl, rfl⟩ := hx
  exact ⟨a, b, rfl, rfl, rfl, wa, wb⟩
theorem shutRun {W : World} {a b : Int} (wa : (Lit.int .i64 a).wf = true) (wb : (Lit.int .i64 b).wf = true) (sp : Nat → Bool) : DataW.Trod enc Tryz.prog W 0 sp true 24 (.agg #[.int .i64 a, .int .i64 b]) (.agg [.lit (.int .i64 a), .lit (.int .i64 b)]) [] := ⟨2, by
  have f0 : DataW.trod enc Tryz.prog W 0 sp true 1 3 [.int .i64 a] = some (.lit (.int .i64 a), []) := by simp [DataW.trod, Tryz.underlying3, wa]
  have f1 : DataW.trod enc Tryz.prog W 0 sp true 1 3 [.int .i64 b] = some (.lit (.int .i64 b), []) := by simp [DataW.trod, Tryz.underlying3, wb]
  have := trod_struct2_mk (enc := enc) (w := W) (base := 0) (spare := sp) (held := true) (n := 1) (cs := [.int .i64 a, .int .i64 b]) Tryz.underlying24 (by simp [cellsRun]) (by simpa [cellsInt] using f0) (by simpa [cellsInt] using f1)
  simpa [Value.cells] using this⟩
end
end Go.Proofs.YthfmgficbnmmnaaGreatDoor
