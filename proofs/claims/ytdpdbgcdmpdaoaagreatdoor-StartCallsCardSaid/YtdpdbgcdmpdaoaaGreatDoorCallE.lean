/- Calls, the program's. -/
import Derived.Test.YtdpdbgcdmpdaoaaGreatDoorCallD
namespace Go.Proofs.YtdpdbgcdmpdaoaaGreatDoor
open Go.RowKit Go.Lib
theorem Below.setRow {B : Nat} {w w' : World} (h : Below B w w') (g : Nat) (cs : Array Value) (hg : B ≤ g) : Below B w (w'.setRow g cs) :=
  ⟨h.os, h.tape, h.output, by rw [size_setRow]; exact h.size, fun k hk => by rw [setRow_other w' g k cs (by omega)]; exact h.block k hk⟩
/-- the k-th pair stored -/
def pairAt (cur : Array Value) (k : Nat) (a b : Int) : Array Value := (cur.setIfInBounds (k * 2) (.int .i64 a)).setIfInBounds (k * 2 + 1) (.int .i64 b)
structure Stored (w : World) (g k : Nat) (cur : Array Value) : Prop where
  c0 : ∃ u, w.cell? ⟨g, k * 2, none⟩ = some u
  z0 : w.frozen? ⟨g, k * 2, none⟩ = false
  c1 : ∀ v, ∃ u, (w.setCell ⟨g, k * 2, none⟩ v).cell? ⟨g, k * 2 + 1, none⟩ = some u
  z1 : ∀ v, (w.setCell ⟨g, k * 2, none⟩ v).frozen? ⟨g, k * 2 + 1, none⟩ = false
  heap : ∀ a b : Int, ((w.setCell ⟨g, k * 2, none⟩ (.int .i64 a)).setCell ⟨g, k * 2 + 1, none⟩ (.int .i64 b)).heap[g]? = some (.cells (pairAt cur k a b) 37 (0, 0))
theorem frozen_row (w : World) (g j : Nat) (cur : Array Value) (T : TypeId) (h : w.heap[g]? = some (.cells cur T (0, 0))) : w.frozen? ⟨g, j, none⟩ = false := by
  simp [World.frozen?, h]
theorem stored_pair (w : World) (g k : Nat) (cur : Array Value) (hg : w.heap[g]? = some (.cells cur 37 (0, 0))) (hk : k * 2 + 2 ≤ cur.size) : Stored w g k cur := by
  have h1 : ∀ v, (w.setCell ⟨g, k * 2, none⟩ v).heap[g]? = some (.cells (cur.setIfInBounds (k * 2) v) 37 (0, 0)) := fun v => by
    rw [setCell_eq_setRow w g (k * 2) cur 37 (0, 0) v hg]
    exact setRow_heap w g cur _ 37 _ hg
  refine ⟨⟨cur[k * 2]'(by omega), ?_⟩, frozen_row w g _ cur 37 hg, fun v => ⟨(cur.setIfInBounds (k * 2) v)[k * 2 + 1]'(by simp; omega), ?_⟩, fun v => frozen_row _ g _ _ 37 (h1 v), fun a b => ?_⟩
  · rw [cell_of_row w g _ cur 37 (0, 0) hg, Array.getElem?_eq_getElem (by omega)]
  · rw [cell_of_row _ g _ _ 37 (0, 0) (h1 v), Array.getElem?_eq_getElem (by simp; omega)]
  · rw [setCell_eq_setRow _ g (k * 2 + 1) _ 37 (0, 0) _ (h1 _)]
    exact setRow_heap _ g _ _ 37 _ (h1 _)
theorem below_set {B : Nat} {w w' : World} (h : Below B w w') (g o : Nat) (v : Value) (hg : B ≤ g) : Below B w (w'.setCell ⟨g, o, none⟩ v) :=
  ⟨h.os, h.tape, h.output, by simp only [World.setCell, Array.size_modify]; exact h.size, fun k hk => by rw [heap_setCell_other w' ⟨g, o, none⟩ k v (by show k ≠ g; omega)]; exact h.block k hk⟩
theorem pairAt_size {cur : Array Value} {k : Nat} {a b : Int} : (pairAt cur k a b).size = cur.size := by simp [pairAt]
theorem pairAt_take {cur : Array Value} {k : Nat} {a b : Int} (hk : k * 2 + 2 ≤ cur.size) : (pairAt cur k a b).toList.take ((k + 1) * 2) = cur.toList.take (k * 2) ++ [.int .i64 a, .int .i64 b] := by
  apply List.ext_getElem?
  intro i
  simp only [pairAt, List.getElem?_take, Array.getElem?_toList, Array.getElem?_setIfInBounds, Array.size_setIfInBounds, List.getElem?_append, List.length_take, Array.length_toList]
  by_cases h1 : i < k * 2
  · simp only [show i < (k + 1) * 2 by omega, if_true, show ¬ (k * 2 + 1 = i) by omega, show ¬ (k * 2 = i) by omega, if_false, show i < min (k * 2) cur.size by omega]
    simp [h1]
  · simp only [show ¬ i < min (k * 2) cur.size by omega, if_false]
    by_cases h2 : i = k * 2
    · subst h2
      have e : k * 2 - min (k * 2) cur.size = 0 := by omega
      simp [e, show k * 2 < cur.size by omega, show k * 2 < (k + 1) * 2 by omega]
    · by_cases h3 : i = k * 2 + 1
      · subst h3
        have e : k * 2 + 1 - min (k * 2) cur.size = 1 := by omega
        simp [e, show k * 2 + 1 < cur.size by omega, show k * 2 + 1 < (k + 1) * 2 by omega]
      · have e : ∃ m, i - min (k * 2) cur.size = m + 2 := ⟨i - k * 2 - 2, by omega⟩
        obtain ⟨q, e⟩ := e
        simp [e, show ¬ i < (k + 1) * 2 by omega]
/-- the error of Calls -/
def calE (n f e m : Int) : Int := fullE n f e (outE m 0 86399999)
theorem box1 (w : World) (a0 : Value) (T : Nat) : ∃ W, w.alloc (.cells #[a0] T) = W ∧ Gr w W ∧ W.cell? ⟨w.heap.size, 0, none⟩ = some a0 :=
  ⟨_, rfl, (Gr.refl w).alloc _, cell_new w #[a0] T 0 (by simp)⟩
set_option maxHeartbeats 1000000 in
set_option maxRecDepth 100000 in
theorem cal_err (n f e m : Int) (h : calE n f e m ≠ 0) (w : World) :
    Calls Tryz.prog 6 #[.int .i64 n, .int .i64 f, .int .i64 e, .int .i64 m] w fun x w' => x = .returned (.tuple #[.slice none 0 0, .int .i64 (calE n f e m)]) ∧ Gr w w' := by
  obtain ⟨W, hW, g, a0⟩ := box1 w (.int .i64 m) 3
  have HC : Calls Tryz.prog 35 #[.int .i64 n, .int .i64 f, .int .i64 e, .slice (some ⟨w.heap.size, 0, none⟩) 1 1] W fun x w' => x = .returned (.int .i64 (calE n f e m)) ∧ Gr W w' := checkStarts_c n f e _ _ W (each1_c m _ _ W a0)
  have h1 : (calE n f e m == 0) = false := by simpa using h
  have h2 : (calE n f e m != 0) = true := by simpa [bne] using h1
  generalize calE n f e m = err at *
  have HH := Lib.hid HC
  have HW := Lib.hid hW
  clear HC hW h
  go_enter Tryz.func6, Tryz.ntmps6
  go_wp2_with fail
  rw [HW.out]
  refine HH.out.mono ?_
  rintro x w4 ⟨rfl, hg⟩
  go_wp2_with fail
  exact bodyPost_ret (v := .tuple #[.slice none 0 0, .int .i64 err]) (by simp [results, Tryz.results6, go_sem]) rfl ⟨rfl, g.trans hg⟩
set_option maxHeartbeats 1000000 in
set_option maxRecDepth 100000 in
theorem cal_ok (n f e m : Int) (N : Nat) (hN : n = N) (h : calE n f e m = 0) (w : World) :
    Calls Tryz.prog 6 #[.int .i64 n, .int .i64 f, .int .i64 e, .int .i64 m] w fun x w' => ∃ v, x = .returned (.tuple #[v, .int .i64 0]) ∧ w'.ownsRow w.heap.size 37 2 v N (callsK f e m N) ∧ Gr w w' := by
  obtain ⟨i0, hi, hz0, hz1, hz2⟩ := info_parts info37
  obtain ⟨W, hW, g, a0⟩ := box1 w (.int .i64 m) 3
  have HC : Calls Tryz.prog 35 #[.int .i64 n, .int .i64 f, .int .i64 e, .slice (some ⟨w.heap.size, 0, none⟩) 1 1] W fun x w' => x = .returned (.int .i64 (calE n f e m)) ∧ Gr W w' := checkStarts_c n f e _ _ W (each1_c m _ _ W a0)
  obtain ⟨hT, hx, _⟩ := (show Times n f e ∧ _ ∧ _ from fullE_ok h)
  have hmm := outE_zero.1 hx
  rw [h] at HC
  subst hN
  have hn := hT.n
  have hf := hT.f
  have HH := Lib.hid HC
  have HW := Lib.hid hW
  clear HC hW h hx
  go_enter Tryz.func6, Tryz.ntmps6
  go_wp2_with fail
  rw [HW.out]
  refine HH.out.mono ?_
  rintro x w4 ⟨rfl, hg⟩
  have hG : Below w.heap.size w w4 := g.trans hg
  clear hg
  have hmk : (Instr.makeSlice 25 (.int .i64 (N : Int)) (.int .i64 (N : Int))).run Tryz.prog w4 = .ok (.slice (some ⟨w4.heap.size, 0, none⟩) N N) (w4.alloc (.cells (madeCells (#[.int .i64 0, .int .i64 0] : Array Value) (N * 2)) 37)) := by
    have := run_make (P := Tryz.prog) w4 25 37 i0 (.agg #[.int .i64 0, .int .i64 0]) Tryz.underlying25 hi hz0 .i64 .i64 N N (by omega) (by omega) (by rw [hz2]; omega) (by omega)
    rw [hz1] at this
    simpa [Value.cells] using this
  have hmz : (madeCells (#[.int .i64 0, .int .i64 0] : Array Value) (N * 2)).size = N * 2 := size_madeCells _ _
  generalize madeCells (#[.int .i64 0, .int .i64 0] : Array Value) (N * 2) = cur0 at *
  go_wp2_with fail
  go_loopw [27] (fun i wr => ∃ (k : Nat) (cur : Array Value), k ≤ N ∧ i = .int .i64 k ∧ wr.heap[w4.heap.size]? = some (.cells cur 37 (0, 0)) ∧ cur.size = N * 2 ∧ cur.toList.take (k * 2) = callsK f e m k ∧ Below w.heap.size w wr) (fun i _ => N - (intOf i).toNat)
  case atStart => exact ⟨0, cur0, Nat.zero_le _, rfl, heap_alloc_new _ _, hmz, by simp [callsK], hG.alloc hG.size _⟩
  case round =>
    obtain ⟨k, cur, hk, rfl, hgc, hcs, hct, hnx⟩ := hrel
    have hsz4 := hG.size
    clear hG hmk hmz
    have hm := hT.mul (k := (k : Int)) (by omega) (by omega)
    have hw2 : IntKind.i64.wrap ((k : Int) * e) = k * e := by rw [IntKind.wrap_i64]; omega
    have hw3 : IntKind.i64.wrap (f + (k : Int) * e) = f + k * e := by rw [IntKind.wrap_i64]; omega
    have hw4 : IntKind.i64.wrap (f + (k : Int) * e - m) = f + k * e - m := by rw [IntKind.wrap_i64]; omega
    by_cases hkN : (k : Int) < N
    · have hq : callsK f e m (k + 1) = callsK f e m k ++ [.int .i64 (callA f e m k), .int .i64 (callB f e k)] := rfl
      have hB : callB f e k = f + k * e := rfl
      rw [hB] at hq
      have hks : k * 2 + 2 ≤ cur.size := by omega
      obtain ⟨⟨u0, k0⟩, z0, hk1, z1, hh⟩ := stored_pair wr w4.heap.size k cur hgc hks
      obtain ⟨u1, k1⟩ : ∃ u1 : Value → Value, ∀ v, (wr.setCell ⟨w4.heap.size, k * 2, none⟩ v).cell? ⟨w4.heap.size, k * 2 + 1, none⟩ = some (u1 v) := ⟨fun v => (hk1 v).choose, fun v => (hk1 v).choose_spec⟩
      have HH2 := Lib.hid hh
      clear hk1 hh
      have HT := Lib.hid hct
      by_cases hx : 0 < f + (k : Int) * e - m
      · have hA : callA f e m k = f + k * e - m := by unfold callA; omega
        rw [hA] at hq
        have HQ := Lib.hid hq
        clear hq hA hB hgc hct
        go_wp2_with fail
        go_roundw
        case rel =>
          exact ⟨k + 1, _, by omega, by go_num, HH2.out _ _, by rw [pairAt_size]; exact hcs, by rw [pairAt_take hks, HT.out, HQ.out], below_set (below_set hnx _ _ _ hsz4) _ _ _ hsz4⟩
        case measure => simp [intOf]; omega
      · have hA : callA f e m k = 0 := by unfold callA; omega
        rw [hA] at hq
        have HQ := Lib.hid hq
        clear hq hA hB hgc hct
        go_wp2_with fail
        go_roundw
        case rel =>
          exact ⟨k + 1, _, by omega, by go_num, HH2.out _ _, by rw [pairAt_size]; exact hcs, by rw [pairAt_take hks, HT.out, HQ.out], below_set (below_set hnx _ _ _ hsz4) _ _ _ hsz4⟩
        case measure => simp [intOf]; omega
    · have hkk : k = N := by omega
      subst hkk
      go_wp2_with fail
      exact bodyPost_ret (v := .tuple #[.slice (some ⟨w4.heap.size, 0, none⟩) k k, .int .i64 0]) (by simp [results, Tryz.results6, go_sem]) rfl
        ⟨_, rfl, ⟨callsK_len f e m k, .inr ⟨w4.heap.size, k, cur, rfl, hsz4, hgc, Nat.le_refl _, by unfold maxLen; omega, hcs, hct⟩⟩, hnx⟩
end Go.Proofs.YtdpdbgcdmpdaoaaGreatDoor
