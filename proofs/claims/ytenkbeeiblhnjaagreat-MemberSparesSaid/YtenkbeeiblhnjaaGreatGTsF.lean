/- Members: what the map of the last tests holds. -/
import Derived.Test.YtenkbeeiblhnjaaGreatGTsD
import Derived.Test.YtenkbeeiblhnjaaGreatGChecks
import Derived.BigRegion
import Derived.BigQuiet
import Derived.Laws.Rows
namespace Go.Proofs.YtenkbeeiblhnjaaGreat
open Go.RowKit Go.Lib
set_option linter.unusedSimpArgs false
set_option linter.unusedVariables false
theorem lookM_congr {m : List (ByteArray × Int)} {a b : ByteArray} (h : a.toList = b.toList) : lookM m a = lookM m b := by
  unfold lookM; rw [h]
theorem lookM_put (k : ByteArray) (u : Int) (s : ByteArray) : ∀ m : List (ByteArray × Int), lookM (putM m k u) s = if (k.toList == s.toList) = true then some u else lookM m s
  | [] => by
    unfold putM lookM
    cases h : (k.toList == s.toList) <;> simp [List.find?_cons, h]
  | p :: r => by
    have ih := lookM_put k u s r
    unfold putM
    by_cases hp : (p.1.toList == k.toList) = true
    · rw [if_pos hp]
      have hpk : p.1.toList = k.toList := by simpa using hp
      unfold lookM
      rw [List.find?_cons, List.find?_cons]
      simp only
      rw [hpk]
      cases h : (k.toList == s.toList) <;> simp
    · rw [if_neg hp]
      have hl : ∀ r', lookM (p :: r') s = if (p.1.toList == s.toList) = true then some p.2 else lookM r' s := fun r' => by
        unfold lookM
        cases h : (p.1.toList == s.toList) <;> simp [List.find?_cons, h]
      rw [hl, hl, ih]
      cases h1 : (p.1.toList == s.toList) <;> cases h2 : (k.toList == s.toList) <;> simp
      rw [beq_iff_eq] at h1 h2
      exact absurd (by simp [h1, h2]) hp
theorem lookM0_gen (s : ByteArray) : ∀ (cs : List ByteArray) (m : List (ByteArray × Int)), lookM (cs.foldl (fun m s => putM m s (-1)) m) s = if (cs.any fun t => t.toList == s.toList) = true then some (-1) else lookM m s
  | [], m => by simp
  | t :: cs, m => by
    rw [List.foldl_cons, lookM0_gen s cs, lookM_put, List.any_cons]
    cases h1 : (t.toList == s.toList) <;> cases h2 : (cs.any fun t => t.toList == s.toList) <;> simp
def lastD (d : Int) (s : ByteArray) (x : TstR) : Bool := (x.nm.toList == s.toList) && decide (x.dy ≤ d)
theorem look_fold (d : Int) (s : ByteArray) : ∀ (xs : List TstR) (m : List (ByteArray × Int)) (v : Int), lookM m s = some v → lookM (xs.foldl (stepM d) m) s = some (lastZ (lastD d s) xs v)
  | [], m, v, h => h
  | x :: xs, m, v, h => by
    rw [List.foldl_cons]
    show _ = some (lastZ (lastD d s) xs (if lastD d s x then max v x.dy else v))
    refine look_fold d s xs _ _ ?_
    unfold stepM lastD
    by_cases hx : x.nm.toList = s.toList
    · rw [lookM_congr hx, h]
      by_cases hd : x.dy ≤ d
      · simp only [hd, if_true, hx, beq_self_eq_true, decide_true, Bool.and_self]
        rw [lookM_put, hx]
        simp
      · simp [hd, hx, h]
    · have hb : (x.nm.toList == s.toList) = false := beq_eq_false_iff_ne.2 hx
      simp only [hb, Bool.false_and, Bool.false_eq_true, if_false]
      cases hl : lookM m x.nm with
      | none => exact h
      | some u =>
        simp only []
        split
        · rw [lookM_put, hb]; simpa using h
        · exact h
theorem look_last {cs : List ByteArray} {xs : List TstR} {d : Int} {s : ByteArray} (hs : s ∈ cs) : lookM (lastM cs xs d) s = some (lastZ (lastD d s) xs (-1)) := by
  refine look_fold d s xs _ _ ?_
  unfold lastM0
  rw [lookM0_gen, if_pos (List.any_eq_true.2 ⟨s, hs, by simp⟩)]
/-- the last test up to a day, and the last one in a span up to it -/
theorem last_span (s : ByteArray) (a d : Int) : ∀ (xs : List TstR) (u v : Int), (∀ x ∈ xs, 0 ≤ x.dy) → ((v < 0 ∧ (u < 0 ∨ u < a)) ∨ (v = u ∧ 0 ≤ v ∧ a ≤ v)) →
    (lastZ (lastQ s a d) xs v < 0 ∧ (lastZ (lastD d s) xs u < 0 ∨ lastZ (lastD d s) xs u < a)) ∨ (lastZ (lastQ s a d) xs v = lastZ (lastD d s) xs u ∧ 0 ≤ lastZ (lastQ s a d) xs v ∧ a ≤ lastZ (lastQ s a d) xs v)
  | [], u, v, _, h => h
  | x :: xs, u, v, h0, h => by
    refine last_span s a d xs _ _ (fun y hy => h0 y (List.mem_cons_of_mem _ hy)) ?_
    have hx := h0 x (List.mem_cons_self ..)
    unfold lastQ lastD
    cases e0 : (x.nm.toList == s.toList) <;> by_cases e1 : a ≤ x.dy <;> by_cases e2 : x.dy ≤ d <;> simp only [e1, e2, decide_true, decide_false, Bool.true_and, Bool.false_and, Bool.and_true, Bool.and_false, Bool.false_eq_true, if_true, if_false] <;> omega
end Go.Proofs.YtenkbeeiblhnjaaGreat
namespace Go.Proofs.YtenkbeeiblhnjaaGreat
open Go.RowKit Go.Lib
set_option linter.unusedSimpArgs false
set_option linter.unusedVariables false
/-- the next number of a draw; a swap; the order after k steps -/
def lcgN (x : Nat) : Nat := 48271 * x % 2147483647
def swapN (l : Array Nat) (i j : Nat) : Array Nat := (l.setIfInBounds i (l.getD j 0)).setIfInBounds j (l.getD i 0)
def drawA (n : Nat) : Nat → Nat → Nat → Array Nat → Array Nat
  | 0, _, _, l => l
  | k + 1, i, x, l => drawA n k (i + 1) (lcgN x) (swapN l i (i + lcgN x % (n - i)))
def drawN (key n : Nat) : Array Nat := drawA n (n - 1) 0 key (Array.range n)
theorem swapN_size (l : Array Nat) (i j : Nat) : (swapN l i j).size = l.size := by simp [swapN]
/-- a block that is just these numbers -/
def intsA (l : Array Nat) : Array Value := l.map fun x : Nat => Value.int .i64 (x : Int)
theorem intsA_at {l : Array Nat} {i : Nat} (h : i < l.size) : (intsA l)[i]? = some (.int .i64 ((l.getD i 0 : Nat) : Int)) := by
  simp [intsA, h, Array.getD]
theorem intsA_set (l : Array Nat) (i x : Nat) : (intsA l).setIfInBounds i (.int .i64 (x : Int)) = intsA (l.setIfInBounds i x) := by
  unfold intsA
  rw [Array.map_setIfInBounds]
/-- the block g holds just these numbers -/
def RowA (w : World) (g : Nat) (l : Array Nat) : Prop := w.heap[g]? = some (.cells (intsA l) 3 (0, 0))
theorem RowA.cell {w : World} {g : Nat} {l : Array Nat} (h : RowA w g l) {i : Nat} (hi : i < l.size) : w.cell? ⟨g, i, none⟩ = some (.int .i64 ((l.getD i 0 : Nat) : Int)) := by
  rw [cell_of_row w g i _ 3 (0, 0) h]
  exact intsA_at hi
theorem RowA.frozen {w : World} {g : Nat} {l : Array Nat} (h : RowA w g l) (i : Nat) : w.frozen? ⟨g, i, none⟩ = false := frozen_of_row w g i _ 3 h
theorem RowA.set {w : World} {g : Nat} {l : Array Nat} (h : RowA w g l) (i x : Nat) : RowA (w.setCell ⟨g, i, none⟩ (.int .i64 (x : Int))) g (l.setIfInBounds i x) := by
  unfold RowA
  rw [← intsA_set]
  exact heap_setCell_same w g i _ 3 _ h
theorem RowA.drewN {w : World} {g : Nat} {l : Array Nat} (h : RowA w g l) (n : Nat) : RowA (w.drewN n) g l := h
theorem RowA.drew {w : World} {g : Nat} {l : Array Nat} (h : RowA w g l) : RowA w.drew g l := h
def fillA (n k : Nat) : Array Nat := Array.ofFn (n := n) fun j => if j.val < k then j.val else 0
theorem fillA_size (n k : Nat) : (fillA n k).size = n := by simp [fillA]
theorem fillA_zero (n : Nat) : intsA (fillA n 0) = Array.replicate n (.int .i64 0) := by
  unfold intsA fillA
  apply Array.ext
  · simp
  · intro i h1 h2
    simp
theorem fillA_set {n k : Nat} (h : k < n) : (fillA n k).setIfInBounds k k = fillA n (k + 1) := by
  unfold fillA
  apply Array.ext
  · simp
  · intro i h1 h2
    simp at h1
    rw [Array.getElem_setIfInBounds (by simpa using h1)]
    simp only [Array.getElem_ofFn]
    by_cases e : k = i
    · simp [e]
    · rw [if_neg e]
      have : (i < k) ↔ (i < k + 1) := by omega
      simp [this]
theorem fillA_all (n : Nat) : fillA n n = Array.range n := by
  unfold fillA
  apply Array.ext
  · simp
  · intro i h1 h2
    simp at h1
    simp [h1]
theorem infoI : (Tryz.prog.info? 3).map (fun i => (i.zero, i.size, i.bytes)) = some (some (.int .i64 0), 1, 8) := by kernel_rfl
theorem make_ints (n : Nat) (hn : n ≤ 256) (w : World) : (Instr.makeSlice 51 (.int .i64 (n : Int)) (.int .i64 (n : Int))).run Tryz.prog w = .ok (.slice (some ⟨w.heap.size, 0, none⟩) n n) (w.alloc (.cells (intsA (fillA n 0)) 3)) := by
  obtain ⟨i0, hi, hz0, hz1, hz2⟩ := info_parts infoI
  have := run_make (P := Tryz.prog) w 51 3 i0 (.int .i64 0) Tryz.underlying51 hi hz0 .i64 .i64 (n : Int) (n : Int) (by omega) (by omega) (by rw [hz2]; omega) (by omega)
  rw [hz1] at this
  have e : madeCells (#[.int .i64 0] : Array Value) n = Array.replicate n (.int .i64 0) := Array.ext' (by rw [toList_madeCells_one]; simp)
  rw [fillA_zero]
  simpa [Value.cells, e] using this
/-- the error of a draw -/
def drawE (key n : Int) : Int := if decide (key < 1) || decide (2147483647 ≤ key) || decide (n < 0) || decide (256 < n) then 3 else 0
theorem drawE_zero {key n : Int} (h : drawE key n = 0) : 1 ≤ key ∧ key < 2147483647 ∧ 0 ≤ n ∧ n ≤ 256 := by
  unfold drawE at h
  split at h
  · cases h
  · rename_i h1
    simp only [Bool.or_eq_true, decide_eq_true_eq] at h1
    omega
theorem lcgN_le (x : Nat) : lcgN x ≤ 2147483646 := by
  have := Nat.mod_lt (48271 * x) (show 0 < 2147483647 by omega)
  unfold lcgN
  omega
theorem lcg_tmod {x : Nat} : Int.tmod (48271 * (x : Int)) 2147483647 = ((lcgN x : Nat) : Int) := by
  unfold lcgN
  have h0 : (0 : Int) ≤ 48271 * (x : Int) := by omega
  rw [Int.tmod_eq_emod_of_nonneg h0]
  omega
end Go.Proofs.YtenkbeeiblhnjaaGreat
