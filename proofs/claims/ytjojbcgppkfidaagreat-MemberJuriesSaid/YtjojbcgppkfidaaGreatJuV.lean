/- Juries, read: officials, posts and an appointment. -/
import Derived.Test.YtjojbcgppkfidaaGreatGJuG
import Derived.ProofKit
import Derived.ChangeMaps5
import Derived.OpenShut
import Derived.SizedLaws
import Derived.Carry
import Derived.ChangeSlices
import Derived.Deep.Slices
namespace Go.Proofs.YtjojbcgppkfidaaGreat
open Go.ChangeShapes Go.WideShapes Go.ChangeAt Go.WideMaps Go.WideElems Go.RowKit
set_option linter.unusedSimpArgs false
set_option linter.unusedVariables false
theorem laidOutM : laidOutB Tryz.prog = true := by kernel_rfl
theorem cellsStr : Tryz.prog.cellsOf 9 = 1 := by kernel_rfl
theorem cellsInt : Tryz.prog.cellsOf 3 = 1 := by kernel_rfl
theorem bound_in {H : Type} {ds : List (DataW H)} {ts : List TypeId} {n B : Nat} {e t : TypeId} {d : DataW H} {j : Nat} (hs : (DataW.weightsEach Tryz.prog ts ds).all (· ≤ reachBytes) = true) (ht : ts[j]? = some t) (hd : ds[j]? = some d) (hu : Tryz.prog.underlying t = some (.slice e)) (hB : Tryz.prog.bytesOf e = B) (h : n = 0 ∨ ∃ el sp, d = .slice el sp ∧ el.length = n) : n * B ≤ 140737488355328 := by
  rcases h with h | ⟨el, sp, rfl, h⟩
  · subst h; simp
  · have h1 := sized_slice hs ht hd hu
    rw [hB, h] at h1
    unfold reachBytes at h1
    have h2 : n * B ≤ (n + sp.length) * B := Nat.mul_le_mul_right _ (by omega)
    omega
theorem bytesOfi : Tryz.prog.bytesOf 50 = 64 := by kernel_rfl
theorem bytesPst : Tryz.prog.bytesOf 53 = 64 := by kernel_rfl
theorem cellsOfi : Tryz.prog.cellsOf 50 = 4 := by kernel_rfl
theorem cellsPst : Tryz.prog.cellsOf 53 = 4 := by kernel_rfl
theorem cellsStrs : Tryz.prog.cellsOf 47 = 1 := by kernel_rfl
theorem cellsOfis : Tryz.prog.cellsOf 22 = 1 := by kernel_rfl
theorem cellsPsts : Tryz.prog.cellsOf 23 = 1 := by kernel_rfl
theorem cellsJury : Tryz.prog.cellsOf 25 = 2 := by kernel_rfl
theorem cellsTwo : Tryz.prog.cellsOf 27 = 2 := by kernel_rfl
theorem recJury : Tryz.prog.readableRec 25 = true := by kernel_rfl
theorem rowJury : 25 < Tryz.prog.types.size := of_decide_eq_true (by kernel_rfl)
theorem recInts : Tryz.prog.readableRec 26 = true := by kernel_rfl
theorem rowInts : 26 < Tryz.prog.types.size := of_decide_eq_true (by kernel_rfl)
theorem recTwo : Tryz.prog.readableRec 27 = true := by kernel_rfl
theorem rowTwo : 27 < Tryz.prog.types.size := of_decide_eq_true (by kernel_rfl)
instance : Inhabited OfR := ⟨⟨⟨#[]⟩, ⟨#[]⟩, .slice none 0 0, 0, []⟩⟩
instance : Inhabited PoR := ⟨⟨⟨#[]⟩, ⟨#[]⟩, 0, .slice none 0 0, []⟩⟩
section
variable {H : Type} {enc : TypeId × Value → H}
set_option maxRecDepth 100000 in
theorem strJ_of {W : World} {cs : List Value} {fuel : Nat} {x : DataW H × List MemPlace} (h : DataW.trod enc Tryz.prog W 0 (fun _ => true) true fuel 47 cs = some x) : ∃ v xs, cs = [v] ∧ StrAts W v xs := by
  rcases Go.Deep.open_slice Tryz.underlying47 h with ⟨e, _⟩ | ⟨a, len, cap, m, n, D, Pl, e, _, hle, hmx, hm, ex, hel⟩
  · exact ⟨_, [], e, ⟨none, 0, rfl, ⟨by simp, by unfold maxLen; omega⟩, fun h => absurd h (by simp)⟩⟩
  · simp only [if_true] at hm
    rw [cellsStr] at hel
    obtain ⟨V, hV⟩ := Go.Deep.choose_lt (α := ByteArray) (p := fun i y => W.cell? ((a.add (i * 1)).add 0) = some (.string y)) (fun i (hi : i < m) => by
      obtain ⟨cs', h1, h2⟩ := hel i hi
      obtain ⟨_, hlen, hcell⟩ := World.cells?_some h1
      match cs', hlen with
      | [c0], _ =>
        obtain ⟨v0, q0, _, _⟩ := DataW.trod_string Tryz.underlying9 h2
        simp at q0
        subst q0
        exact ⟨v0, hcell 0 (by omega)⟩)
    have hlen : ((List.range len).map V).length = len := by simp
    refine ⟨_, (List.range len).map V, e, ⟨some a, cap, by rw [hlen], ⟨by rw [hlen]; exact hle, hmx⟩, fun h0 => ?_⟩⟩
    rw [hlen] at h0
    obtain ⟨b, off, spot⟩ := a
    have hspot : spot = none := by
      have := World.cell?_spot (hV 0 (by omega))
      simpa [Addr.add] using this
    subst hspot
    refine ⟨b, off, rfl, fun i x hx => ?_⟩
    rw [List.getElem?_map, Option.map_eq_some_iff] at hx
    obtain ⟨j, hj, rfl⟩ := hx
    obtain ⟨hj1, hj2⟩ := List.getElem?_eq_some_iff.1 hj
    simp at hj1 hj2
    subst hj2
    have hvv := hV i (by omega)
    have e : ∀ o p : Nat, (⟨b, o, none⟩ : Addr).add p = ⟨b, o + p, none⟩ := fun o p => by unfold Addr.add; split <;> simp_all
    simp only [e, Nat.add_zero, Nat.mul_one] at hvv
    exact ⟨hvv⟩
set_option maxRecDepth 100000 in
theorem oneOfi {W : World} {a : Addr} {cs : List Value} {fuel : Nat} {x : DataW H × List MemPlace} (hc : W.cells? 0 a 4 = some cs) (h : DataW.trod enc Tryz.prog W 0 (fun _ => true) true fuel 50 cs = some x) :
    ∃ y : OfR, W.cell? (a.add 0) = some (.string y.nm) ∧ W.cell? (a.add 1) = some (.string y.na) ∧ W.cell? (a.add 2) = some (y.u) ∧ W.cell? (a.add 3) = some (.int .i64 y.ld) ∧ StrAts W y.u y.rs := by
  obtain ⟨_, hlen, hcell⟩ := World.cells?_some hc
  match cs, hlen with
  | [c0, c1, c2, c3], _ =>
  obtain ⟨ys, m, _, hx, _, hl, hfs⟩ := DataW.trod_struct Tryz.underlying50 h
  match ys, hl, hx with
  | [y0, y1, y2, y3], _, hx =>
    have e0 := hfs 0 _ rfl
    have e1 := hfs 1 _ rfl
    have e2 := hfs 2 _ rfl
    have e3 := hfs 3 _ rfl
    simp [cellsStr, cellsInt, cellsStrs] at e0 e1 e2 e3
    obtain ⟨v0, q0, _, _⟩ := DataW.trod_string Tryz.underlying9 e0
    obtain ⟨v1, q1, _, _⟩ := DataW.trod_string Tryz.underlying9 e1
    obtain ⟨u, xs, q2, hI⟩ := strJ_of e2
    obtain ⟨v3, q3, _, _⟩ := DataW.trod_int Tryz.underlying3 e3
    simp at q0 q1 q2 q3
    subst q0 q1 q2 q3
    exact ⟨⟨v0, v1, _, v3, xs⟩, hcell 0 (by omega), hcell 1 (by omega), hcell 2 (by omega), hcell 3 (by omega), hI⟩
set_option maxRecDepth 100000 in
theorem listOfi {W : World} {cs : List Value} {fuel : Nat} {x : DataW H × List MemPlace} (h : DataW.trod enc Tryz.prog W 0 (fun _ => true) true fuel 22 cs = some x) :
    ∃ v xs, cs = [v] ∧ OfAts W v xs ∧ (xs.length = 0 ∨ ∃ el sp, x.1 = .slice el sp ∧ el.length = xs.length) := by
  rcases Go.Deep.open_slice Tryz.underlying22 h with ⟨e, _⟩ | ⟨a, len, cap, m, n, D, Pl, e, _, hle, hmx, hm, ex, hel⟩
  · exact ⟨_, [], e, ⟨none, 0, rfl, ⟨by simp, by unfold maxLen; omega⟩, fun h => absurd h (by simp)⟩, .inl rfl⟩
  · simp only [if_true] at hm
    rw [cellsOfi] at hel
    obtain ⟨V, hV⟩ := Go.Deep.choose_lt (α := OfR) (p := fun i y => W.cell? ((a.add (i * 4)).add 0) = some (.string y.nm) ∧ W.cell? ((a.add (i * 4)).add 1) = some (.string y.na) ∧ W.cell? ((a.add (i * 4)).add 2) = some (y.u) ∧ W.cell? ((a.add (i * 4)).add 3) = some (.int .i64 y.ld) ∧ StrAts W y.u y.rs) (fun i (hi : i < m) => by
      obtain ⟨cs', h1, h2⟩ := hel i hi
      exact oneOfi h1 h2)
    have hlen : ((List.range len).map V).length = len := by simp
    refine ⟨_, (List.range len).map V, e, ⟨some a, cap, by rw [hlen], ⟨by rw [hlen]; exact hle, hmx⟩, fun h0 => ?_⟩, .inr ⟨_, _, congrArg Prod.fst ex, by rw [hlen]; simp⟩⟩
    rw [hlen] at h0
    obtain ⟨b, off, spot⟩ := a
    have hspot : spot = none := by
      have := World.cell?_spot (hV 0 (by omega)).1
      simpa [Addr.add] using this
    subst hspot
    refine ⟨b, off, rfl, fun i x hx => ?_⟩
    rw [List.getElem?_map, Option.map_eq_some_iff] at hx
    obtain ⟨j, hj, rfl⟩ := hx
    obtain ⟨hj1, hj2⟩ := List.getElem?_eq_some_iff.1 hj
    simp at hj1 hj2
    subst hj2
    have hvv := hV i (by omega)
    have e : ∀ o p : Nat, (⟨b, o, none⟩ : Addr).add p = ⟨b, o + p, none⟩ := fun o p => by unfold Addr.add; split <;> simp_all
    simp only [e, Nat.add_zero] at hvv
    obtain ⟨h0, h1, h2, h3, h4⟩ := hvv
    exact ⟨h0, h1, h2, h3, h4⟩
set_option maxRecDepth 100000 in
theorem onePst {W : World} {a : Addr} {cs : List Value} {fuel : Nat} {x : DataW H × List MemPlace} (hc : W.cells? 0 a 4 = some cs) (h : DataW.trod enc Tryz.prog W 0 (fun _ => true) true fuel 53 cs = some x) :
    ∃ y : PoR, W.cell? (a.add 0) = some (.string y.nm) ∧ W.cell? (a.add 1) = some (.string y.ro) ∧ W.cell? (a.add 2) = some (.int .i64 y.hr) ∧ W.cell? (a.add 3) = some (y.u) ∧ StrAts W y.u y.ns := by
  obtain ⟨_, hlen, hcell⟩ := World.cells?_some hc
  match cs, hlen with
  | [c0, c1, c2, c3], _ =>
  obtain ⟨ys, m, _, hx, _, hl, hfs⟩ := DataW.trod_struct Tryz.underlying53 h
  match ys, hl, hx with
  | [y0, y1, y2, y3], _, hx =>
    have e0 := hfs 0 _ rfl
    have e1 := hfs 1 _ rfl
    have e2 := hfs 2 _ rfl
    have e3 := hfs 3 _ rfl
    simp [cellsStr, cellsInt, cellsStrs] at e0 e1 e2 e3
    obtain ⟨v0, q0, _, _⟩ := DataW.trod_string Tryz.underlying9 e0
    obtain ⟨v1, q1, _, _⟩ := DataW.trod_string Tryz.underlying9 e1
    obtain ⟨v2, q2, _, _⟩ := DataW.trod_int Tryz.underlying3 e2
    obtain ⟨u, xs, q3, hI⟩ := strJ_of e3
    simp at q0 q1 q2 q3
    subst q0 q1 q2 q3
    exact ⟨⟨v0, v1, v2, _, xs⟩, hcell 0 (by omega), hcell 1 (by omega), hcell 2 (by omega), hcell 3 (by omega), hI⟩
set_option maxRecDepth 100000 in
theorem listPst {W : World} {cs : List Value} {fuel : Nat} {x : DataW H × List MemPlace} (h : DataW.trod enc Tryz.prog W 0 (fun _ => true) true fuel 23 cs = some x) :
    ∃ v xs, cs = [v] ∧ PoAts W v xs ∧ (xs.length = 0 ∨ ∃ el sp, x.1 = .slice el sp ∧ el.length = xs.length) := by
  rcases Go.Deep.open_slice Tryz.underlying23 h with ⟨e, _⟩ | ⟨a, len, cap, m, n, D, Pl, e, _, hle, hmx, hm, ex, hel⟩
  · exact ⟨_, [], e, ⟨none, 0, rfl, ⟨by simp, by unfold maxLen; omega⟩, fun h => absurd h (by simp)⟩, .inl rfl⟩
  · simp only [if_true] at hm
    rw [cellsPst] at hel
    obtain ⟨V, hV⟩ := Go.Deep.choose_lt (α := PoR) (p := fun i y => W.cell? ((a.add (i * 4)).add 0) = some (.string y.nm) ∧ W.cell? ((a.add (i * 4)).add 1) = some (.string y.ro) ∧ W.cell? ((a.add (i * 4)).add 2) = some (.int .i64 y.hr) ∧ W.cell? ((a.add (i * 4)).add 3) = some (y.u) ∧ StrAts W y.u y.ns) (fun i (hi : i < m) => by
      obtain ⟨cs', h1, h2⟩ := hel i hi
      exact onePst h1 h2)
    have hlen : ((List.range len).map V).length = len := by simp
    refine ⟨_, (List.range len).map V, e, ⟨some a, cap, by rw [hlen], ⟨by rw [hlen]; exact hle, hmx⟩, fun h0 => ?_⟩, .inr ⟨_, _, congrArg Prod.fst ex, by rw [hlen]; simp⟩⟩
    rw [hlen] at h0
    obtain ⟨b, off, spot⟩ := a
    have hspot : spot = none := by
      have := World.cell?_spot (hV 0 (by omega)).1
      simpa [Addr.add] using this
    subst hspot
    refine ⟨b, off, rfl, fun i x hx => ?_⟩
    rw [List.getElem?_map, Option.map_eq_some_iff] at hx
    obtain ⟨j, hj, rfl⟩ := hx
    obtain ⟨hj1, hj2⟩ := List.getElem?_eq_some_iff.1 hj
    simp at hj1 hj2
    subst hj2
    have hvv := hV i (by omega)
    have e : ∀ o p : Nat, (⟨b, o, none⟩ : Addr).add p = ⟨b, o + p, none⟩ := fun o p => by unfold Addr.add; split <;> simp_all
    simp only [e, Nat.add_zero] at hvv
    obtain ⟨h0, h1, h2, h3, h4⟩ := hvv
    exact ⟨h0, h1, h2, h3, h4⟩
set_option maxRecDepth 100000 in
/-- a jury, read -/
theorem openJury {W : World} {b0 : Nat} {v : Value} {d : DataW H} {ps : List MemPlace} {ts : List TypeId} {ds : List (DataW H)} (hv : Value.okWide Tryz.prog W .any b0 25 v) (h : DataW.Trod enc Tryz.prog W 0 (fun _ => true) true 25 v d ps)
    (hs : (DataW.weightsEach Tryz.prog ts ds).all (· ≤ reachBytes) = true) (ht : ts[0]? = some 25) (hd : ds[0]? = some d) :
    ∃ (vo vp : Value) (os : List OfR) (xs : List PoR), v = .agg #[vo, vp] ∧ OfAts W vo os ∧ PoAts W vp xs ∧ os.length * 64 ≤ 140737488355328 ∧ xs.length * 64 ≤ 140737488355328 := by
  have hu := Tryz.underlying25
  simp only [Value.okWide, hu] at hv
  obtain ⟨cs, rfl, hsz, _⟩ := hv
  rw [cellsJury] at hsz
  obtain ⟨l⟩ := cs
  match l, hsz with
  | [c0, c1], _ =>
  obtain ⟨fuel, hf⟩ := h
  obtain ⟨ys, m, _, hx, _, hl, hfs⟩ := DataW.trod_struct hu hf
  match ys, hl, hx with
  | [y0, y1], _, hx =>
    have e0 := hfs 0 _ rfl
    have e1 := hfs 1 _ rfl
    simp [cellsOfis, cellsPsts, Value.cells] at e0 e1
    obtain ⟨vo, os, q0, ho, lo⟩ := listOfi e0
    obtain ⟨vp, xs, q1, hp, lp⟩ := listPst e1
    simp at q0 q1
    subst q0 q1
    have hde : d = .agg [y0.1, y1.1] := congrArg Prod.fst hx
    have hin : (DataW.weightsEach Tryz.prog [22, 23] [y0.1, y1.1]).all (· ≤ reachBytes) = true := by
      refine List.all_eq_true.2 fun n hn => List.all_eq_true.1 hs n (DataW.weights_mem_each ht hd n ?_)
      rw [hde]
      simp only [DataW.weights, hu]
      exact hn
    exact ⟨_, _, os, xs, rfl, ho, hp, bound_in (j := 0) hin rfl rfl Tryz.underlying22 bytesOfi lo, bound_in (j := 1) hin rfl rfl Tryz.underlying23 bytesPst lp⟩
set_option maxRecDepth 100000 in
/-- an appointment, read -/
theorem openInts {W : World} {b0 : Nat} {v : Value} {d : DataW H} {ps : List MemPlace} (hv : Value.okWide Tryz.prog W .any b0 26 v) (h : DataW.Trod enc Tryz.prog W 0 (fun _ => true) true 26 v d ps) : ∃ xs, IntsC W v xs := by
  obtain ⟨a0, l0, c0, rfl⟩ := okWide_slice Tryz.underlying26 hv
  obtain ⟨fuel, hf⟩ := h
  rcases Go.Deep.open_slice Tryz.underlying26 hf with ⟨e, _⟩ | ⟨a, len, cap, m, n, D, Pl, e, _, hle, hmx, hm, ex, hel⟩
  · simp [Value.cells] at e
    obtain ⟨rfl, rfl, rfl⟩ := e
    exact ⟨[], ⟨none, 0, rfl, ⟨by simp, by unfold maxLen; omega⟩, fun h => absurd h (by simp)⟩⟩
  · simp [Value.cells] at e
    obtain ⟨rfl, rfl, rfl⟩ := e
    simp only [if_true] at hm
    rw [cellsInt] at hel
    obtain ⟨V, hV⟩ := Go.Deep.choose_lt (α := Int) (p := fun i y => W.cell? ((a.add (i * 1)).add 0) = some (.int .i64 y)) (fun i (hi : i < m) => by
      obtain ⟨cs', h1, h2⟩ := hel i hi
      obtain ⟨_, hlen, hcell⟩ := World.cells?_some h1
      match cs', hlen with
      | [c0], _ =>
        obtain ⟨v0, q0, _, _⟩ := DataW.trod_int Tryz.underlying3 h2
        simp at q0
        subst q0
        exact ⟨v0, hcell 0 (by omega)⟩)
    have hlen : ((List.range l0).map V).length = l0 := by simp
    refine ⟨(List.range l0).map V, ⟨some a, c0, by rw [hlen], ⟨by rw [hlen]; exact hle, hmx⟩, fun h0 => ?_⟩⟩
    rw [hlen] at h0
    obtain ⟨b, off, spot⟩ := a
    have hspot : spot = none := by
      have := World.cell?_spot (hV 0 (by omega))
      simpa [Addr.add] using this
    subst hspot
    refine ⟨b, off, rfl, fun i x hx => ?_⟩
    rw [List.getElem?_map, Option.map_eq_some_iff] at hx
    obtain ⟨j, hj, rfl⟩ := hx
    obtain ⟨hj1, hj2⟩ := List.getElem?_eq_some_iff.1 hj
    simp at hj1 hj2
    subst hj2
    have hvv := hV i (by omega)
    have e : ∀ o p : Nat, (⟨b, o, none⟩ : Addr).add p = ⟨b, o + p, none⟩ := fun o p => by unfold Addr.add; split <;> simp_all
    simp only [e, Nat.add_zero, Nat.mul_one] at hvv
    exact hvv
set_option maxRecDepth 100000 in
/-- two numbers, read -/
theorem openTwo {W : World} {b0 : Nat} {v : Value} {d : DataW H} {ps : List MemPlace} (hv : Value.okWide Tryz.prog W .any b0 27 v) (h : DataW.Trod enc Tryz.prog W 0 (fun _ => true) true 27 v d ps) : ∃ a b : Int, v = .agg #[.int .i64 a, .int .i64 b] := by
  have hu := Tryz.underlying27
  simp only [Value.okWide, hu] at hv
  obtain ⟨cs, rfl, hsz, _⟩ := hv
  rw [cellsTwo] at hsz
  obtain ⟨l⟩ := cs
  match l, hsz with
  | [c0, c1], _ =>
  obtain ⟨fuel, hf⟩ := h
  obtain ⟨xs, m, rfl, hx, _, hn, hel⟩ := DataW.trod_array hu hf
  have e0 := hel 0 (by decide)
  have e1 := hel 1 (by decide)
  match xs, hn, hx, e0, e1 with
  | [x0, x1], _, hx, e0, e1 =>
    rw [cellsInt] at e0 e1
    simp [Value.cells] at e0 e1
    obtain ⟨a, b0, rfl, wa⟩ := DataW.trod_int Tryz.underlying3 e0
    obtain ⟨b, b1, rfl, wb⟩ := DataW.trod_int Tryz.underlying3 e1
    simp at b0 b1
    subst b0 b1
    exact ⟨_, _, rfl⟩
end
end Go.Proofs.YtjojbcgppkfidaaGreat
