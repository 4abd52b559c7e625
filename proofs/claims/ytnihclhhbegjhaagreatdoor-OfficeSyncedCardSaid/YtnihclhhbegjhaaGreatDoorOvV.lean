/- Archives (chapter 10): an archive and marks, read. -/
import Derived.Test.YtnihclhhbegjhaaGreatDoorOfV
import Derived.Test.YtnihclhhbegjhaaGreatDoorOvG
import Derived.Deep.Slices
namespace Go.Proofs.YtnihclhhbegjhaaGreatDoor
open Go.ChangeShapes Go.WideShapes Go.ChangeAt Go.WideMaps Go.WideElems Go.RowKit
set_option linter.unusedSimpArgs false
set_option linter.unusedVariables false
theorem bound_of {H : Type} {d : DataW H} {n B : Nat} {e t : TypeId} {ts : List TypeId} {ds : List (DataW H)} {j : Nat} (hs : (DataW.weightsEach Tryz.prog ts ds).all (· ≤ reachBytes) = true) (ht : ts[j]? = some t) (hd : ds[j]? = some d) (hu : Tryz.prog.underlying t = some (.slice e)) (hB : Tryz.prog.bytesOf e = B) (h : n = 0 ∨ ∃ el sp, d = .slice el sp ∧ el.length = n) : n * B ≤ 140737488355328 := by
  rcases h with h | ⟨el, sp, rfl, h⟩
  · subst h; simp
  · have h1 := sized_slice hs ht hd hu
    rw [hB, h] at h1
    unfold reachBytes at h1
    have h2 : n * B ≤ (n + sp.length) * B := Nat.mul_le_mul_right _ (by omega)
    omega
theorem bytesEntry : Tryz.prog.bytesOf 77 = 96 := by kernel_rfl
theorem cellsEntries : Tryz.prog.cellsOf 22 = 1 := by kernel_rfl
theorem cellsArchive : Tryz.prog.cellsOf 24 = 1 := by kernel_rfl
theorem recArchive : Tryz.prog.readableRec 24 = true := by kernel_rfl
theorem rowArchive : 24 < Tryz.prog.types.size := of_decide_eq_true (by kernel_rfl)
instance : Inhabited EnR := ⟨⟨⟨#[]⟩, 0, 0, ⟨#[]⟩, 0, ⟨#[]⟩, none, 0, 0, []⟩⟩
instance : Inhabited MkR := ⟨⟨⟨#[]⟩, 0⟩⟩
section
variable {H : Type} {enc : TypeId × Value → H}
set_option maxRecDepth 100000 in
theorem oneEntry {W : World} {a : Addr} {cs : List Value} {fuel : Nat} {x : DataW H × List MemPlace} (hc : W.cells? 0 a 7 = some cs) (h : DataW.trod enc Tryz.prog W 0 (fun _ => true) true fuel 77 cs = some x) :
    ∃ y : EnR, W.cell? (a.add 0) = some (.string y.de) ∧ W.cell? (a.add 1) = some (.int .i64 y.nu) ∧ W.cell? (a.add 2) = some (.int .i64 y.ck) ∧ W.cell? (a.add 3) = some (.string y.ro) ∧ W.cell? (a.add 4) = some (.int .i64 y.va) ∧ W.cell? (a.add 5) = some (.string y.st) ∧ W.cell? (a.add 6) = some (.slice y.p y.n y.cap) ∧ RowsX W y.p y.n y.cap y.xs := by
  obtain ⟨_, hlen, hcell⟩ := World.cells?_some hc
  match cs, hlen with
  | [c0, c1, c2, c3, c4, c5, c6], _ =>
  obtain ⟨ys, m, _, hx, _, hl, hfs⟩ := DataW.trod_struct Tryz.underlying77 h
  match ys, hl, hx with
  | [y0, y1, y2, y3], _, hx =>
    have e0 := hfs 0 _ rfl
    have e1 := hfs 1 _ rfl
    have e2 := hfs 2 _ rfl
    have e3 := hfs 3 _ rfl
    simp [cells3, cells9, cellsSheet] at e0 e1 e2 e3
    obtain ⟨de, q0, _, _⟩ := DataW.trod_string Tryz.underlying9 e0
    obtain ⟨nu, q1, _, _⟩ := DataW.trod_int Tryz.underlying3 e1
    obtain ⟨ck, q2, _, _⟩ := DataW.trod_int Tryz.underlying3 e2
    obtain ⟨ro, va, st, p, n, cap, xs, q3, hR⟩ := sheet_of rfl e3
    simp at q0 q1 q2 q3
    obtain ⟨q30, q31, q32, q33⟩ := q3
    subst q0 q1 q2 q30 q31 q32 q33
    exact ⟨⟨de, nu, ck, ro, va, st, p, n, cap, xs⟩, hcell 0 (by omega), hcell 1 (by omega), hcell 2 (by omega), hcell 3 (by omega), hcell 4 (by omega), hcell 5 (by omega), hcell 6 (by omega), hR⟩
set_option maxRecDepth 100000 in
theorem listEntry {W : World} {cs : List Value} {fuel : Nat} {x : DataW H × List MemPlace} (h : DataW.trod enc Tryz.prog W 0 (fun _ => true) true fuel 22 cs = some x) :
    ∃ (q : Option Addr) (n cap : Nat) (xs : List EnR), cs = [.slice q n cap] ∧ n = xs.length ∧ n ≤ cap ∧ cap ≤ maxLen ∧ EnS W q xs ∧ (n = 0 ∨ ∃ el sp, x.1 = .slice el sp ∧ el.length = n) := by
  rcases Go.Deep.open_slice Tryz.underlying22 h with ⟨e, _⟩ | ⟨a, len, cap, m, n, D, Pl, e, _, hle, hmx, hm, ex, hel⟩
  · exact ⟨none, 0, 0, [], e, rfl, Nat.le_refl _, by unfold maxLen; omega, ⟨fun h => absurd h (by simp)⟩, .inl rfl⟩
  · simp only [if_true] at hm
    rw [cellsEntry] at hel
    obtain ⟨V, hV⟩ := Go.Deep.choose_lt (α := EnR) (p := fun i y => W.cell? ((a.add (i * 7)).add 0) = some (.string y.de) ∧ W.cell? ((a.add (i * 7)).add 1) = some (.int .i64 y.nu) ∧ W.cell? ((a.add (i * 7)).add 2) = some (.int .i64 y.ck) ∧ W.cell? ((a.add (i * 7)).add 3) = some (.string y.ro) ∧ W.cell? ((a.add (i * 7)).add 4) = some (.int .i64 y.va) ∧ W.cell? ((a.add (i * 7)).add 5) = some (.string y.st) ∧ W.cell? ((a.add (i * 7)).add 6) = some (.slice y.p y.n y.cap) ∧ RowsX W y.p y.n y.cap y.xs) (fun i (hi : i < m) => by
      obtain ⟨cs', h1, h2⟩ := hel i hi
      exact oneEntry h1 h2)
    have hlen : ((List.range len).map V).length = len := by simp
    refine ⟨some a, len, cap, (List.range len).map V, e, hlen.symm, hle, hmx, ⟨fun h0 => ?_⟩, .inr ⟨_, _, congrArg Prod.fst ex, by simp⟩⟩
    rw [hlen] at h0
    obtain ⟨b, off, spot⟩ := a
    have hspot : spot = none := by
      have := World.cell?_spot (hV 0 (by omega)).1
      simpa [Addr.add] using this
    subst hspot
    refine ⟨b, off, rfl, fun i x hx => ?_⟩
    rw [List.getElem?_map, Option.map_eq_some_iff] at hx
    obtain ⟨j, hj, rfl⟩ := hx
    obtain ⟨hj1, hj2⟩ := List.getElem?_eq_some_iff.1 hj
    simp at hj1 hj2
    subst hj2
    have hvv := hV i (by omega)
    have e : ∀ o p : Nat, (⟨b, o, none⟩ : Addr).add p = ⟨b, o + p, none⟩ := fun o p => by unfold Addr.add; split <;> simp_all
    simp only [e, Nat.add_zero] at hvv
    obtain ⟨h0, h1, h2, h3, h4, h5, h6, h7⟩ := hvv
    exact ⟨h0, h1, h2, h3, h4, h5, h6, h7⟩
set_option maxRecDepth 100000 in
theorem openArchive {W : World} {b0 : Nat} {v : Value} {d : DataW H} {ps : List MemPlace} {ts : List TypeId} {ds : List (DataW H)} {j : Nat} (hv : Value.okWide Tryz.prog W .any b0 24 v) (h : DataW.Trod enc Tryz.prog W 0 (fun _ => true) true 24 v d ps)
    (hs : (DataW.weightsEach Tryz.prog ts ds).all (· ≤ reachBytes) = true) (ht : ts[j]? = some 24) (hd : ds[j]? = some d) :
    ∃ (q : Option Addr) (n cap : Nat) (l : List EnR), v = .agg #[.slice q n cap] ∧ n = l.length ∧ n ≤ cap ∧ cap ≤ maxLen ∧ EnS W q l ∧ n * 96 ≤ 140737488355328 := by
  have hu := Tryz.underlying24
  simp only [Value.okWide, hu] at hv
  obtain ⟨cs, rfl, hsz, _⟩ := hv
  rw [cellsArchive] at hsz
  obtain ⟨l⟩ := cs
  match l, hsz with
  | [c0], _ =>
  obtain ⟨fuel, hf⟩ := h
  obtain ⟨ys, m, _, hx, _, hl, hfs⟩ := DataW.trod_struct hu hf
  match ys, hl, hx with
  | [y0], _, hx =>
    have e0 := hfs 0 _ rfl
    simp [cellsEntries, Value.cells] at e0
    obtain ⟨q, n, cap, xs, q0, hn, hle, hmx, hE, lo⟩ := listEntry e0
    simp at q0
    subst q0
    have hde : d = .agg [y0.1] := congrArg Prod.fst hx
    have hin : (DataW.weightsEach Tryz.prog [22] [y0.1]).all (· ≤ reachBytes) = true := by
      refine List.all_eq_true.2 fun n hn => List.all_eq_true.1 hs n (DataW.weights_mem_each ht hd n ?_)
      rw [hde]
      simp only [DataW.weights, hu]
      exact hn
    exact ⟨q, n, cap, xs, rfl, hn, hle, hmx, hE, bound_of (j := 0) hin rfl rfl Tryz.underlying22 bytesEntry lo⟩
end
end Go.Proofs.YtnihclhhbegjhaaGreatDoor
