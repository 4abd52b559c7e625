/- The places of the seeds: what holds for all of up to 64. -/
import Derived.Test.YtekpcmgkpbfcjaaGreatDoorMeet
namespace Go.Proofs.YtekpcmgkpbfcjaaGreatDoor
open Go.RowKit Go.Lib
/-- where x stands -/
def posOf (x : Int) : List Int → Nat
  | [] => 0
  | s :: l => if s = x then 0 else posOf x l + 1
theorem posOf_get {x : Int} : ∀ {l : List Int}, x ∈ l → l[posOf x l]? = some x ∧ ∀ j y, j < posOf x l → l[j]? = some y → y ≠ x
  | [], h => by cases h
  | s :: l, h => by
    unfold posOf
    split
    · rename_i hs
      subst hs
      exact ⟨by simp, fun j y hj => by omega⟩
    · rename_i hs
      have hl : x ∈ l := by
        cases h with
        | head => exact absurd rfl hs
        | tail _ h => exact h
      obtain ⟨h1, h2⟩ := posOf_get hl
      refine ⟨by simpa using h1, fun j y hj hy => ?_⟩
      cases j with
      | zero => simp at hy; subst hy; exact hs
      | succ j => exact h2 j y (by omega) (by simpa using hy)
theorem zK_get (n : Int) : ∀ (l : List Int) (j : Nat), (zK n l)[j]? = (l[j]?).map fun s => if n < s then 0 else s
  | [], j => by simp [zK]
  | s :: l, 0 => by simp [zK]
  | s :: l, j + 1 => by simpa [zK] using zK_get n l j
/-- the round in which two seeds meet -/
def mtK (l : List Int) (x y : Int) : Int := bl (bits BinOp.xor .i64 (posOf x l) (posOf y l))
/-- what the law says of two seeds -/
structure Pair (k : Nat) (x y : Int) : Prop where
  low : 0 ≤ bits BinOp.xor .i64 (posOf x (growB k)) (posOf y (growB k))
  high : bits BinOp.xor .i64 (posOf x (growB k)) (posOf y (growB k)) ≤ 63
  same : mtK (growB k) x y = mtK (growB k) y x
  pos : 1 ≤ mtK (growB k) x y
  most : mtK (growB k) x y ≤ k
  best : ∀ last, 1 ≤ last → last ≤ k → x ≤ 2 ^ last → y ≤ 2 ^ last → k - (last : Int) < mtK (growB k) x y
def pairB (l : List Int) (k : Nat) (x y : Int) : Bool :=
  decide (0 ≤ bits BinOp.xor .i64 (posOf x l) (posOf y l)) && decide (bits BinOp.xor .i64 (posOf x l) (posOf y l) ≤ 63) && decide (mtK l x y = mtK l y x) && decide (1 ≤ mtK l x y) && decide (mtK l x y ≤ k) &&
    (List.range 7).all fun last => decide (last < 1) || decide (k < last) || decide (2 ^ last < x) || decide (2 ^ last < y) || decide (k - (last : Int) < mtK l x y)
def allB (l : List Int) (k : Nat) : Bool := (List.range (2 ^ k)).all fun i => l.contains ((i : Int) + 1) && (List.range (2 ^ k)).all fun j => Nat.beq i j || pairB l k (i + 1) (j + 1)
theorem grow1 : growB 1 = [1, 2] := by decide +kernel
theorem all1 : allB [1, 2] 1 = true := by decide +kernel
theorem grow2 : growB 2 = [1, 4, 2, 3] := by decide +kernel
theorem all2 : allB [1, 4, 2, 3] 2 = true := by decide +kernel
theorem grow3 : growB 3 = [1, 8, 4, 5, 2, 7, 3, 6] := by decide +kernel
theorem all3 : allB [1, 8, 4, 5, 2, 7, 3, 6] 3 = true := by decide +kernel
theorem grow4 : growB 4 = [1, 16, 8, 9, 4, 13, 5, 12, 2, 15, 7, 10, 3, 14, 6, 11] := by decide +kernel
theorem all4 : allB [1, 16, 8, 9, 4, 13, 5, 12, 2, 15, 7, 10, 3, 14, 6, 11] 4 = true := by decide +kernel
theorem grow5 : growB 5 = [1, 32, 16, 17, 8, 25, 9, 24, 4, 29, 13, 20, 5, 28, 12, 21, 2, 31, 15, 18, 7, 26, 10, 23, 3, 30, 14, 19, 6, 27, 11, 22] := by decide +kernel
theorem all5 : allB [1, 32, 16, 17, 8, 25, 9, 24, 4, 29, 13, 20, 5, 28, 12, 21, 2, 31, 15, 18, 7, 26, 10, 23, 3, 30, 14, 19, 6, 27, 11, 22] 5 = true := by decide +kernel
theorem grow6 : growB 6 = [1, 64, 32, 33, 16, 49, 17, 48, 8, 57, 25, 40, 9, 56, 24, 41, 4, 61, 29, 36, 13, 52, 20, 45, 5, 60, 28, 37, 12, 53, 21, 44, 2, 63, 31, 34, 15, 50, 18, 47, 7, 58, 26, 39, 10, 55, 23, 42, 3, 62, 30, 35, 14, 51, 19, 46, 6, 59, 27, 38, 11, 54, 22, 43] := by decide +kernel
theorem all6 : allB [1, 64, 32, 33, 16, 49, 17, 48, 8, 57, 25, 40, 9, 56, 24, 41, 4, 61, 29, 36, 13, 52, 20, 45, 5, 60, 28, 37, 12, 53, 21, 44, 2, 63, 31, 34, 15, 50, 18, 47, 7, 58, 26, 39, 10, 55, 23, 42, 3, 62, 30, 35, 14, 51, 19, 46, 6, 59, 27, 38, 11, 54, 22, 43] 6 = true := by decide +kernel
theorem allB_all {k : Nat} (h1 : 1 ≤ k) (h6 : k ≤ 6) : allB (growB k) k = true := by
  have : k = 1 ∨ k = 2 ∨ k = 3 ∨ k = 4 ∨ k = 5 ∨ k = 6 := by omega
  rcases this with rfl | rfl | rfl | rfl | rfl | rfl
  · rw [grow1]; exact all1
  · rw [grow2]; exact all2
  · rw [grow3]; exact all3
  · rw [grow4]; exact all4
  · rw [grow5]; exact all5
  · rw [grow6]; exact all6
theorem pair_all {k : Nat} (h1 : 1 ≤ k) (h6 : k ≤ 6) {x y : Int} (hx : 1 ≤ x ∧ x ≤ 2 ^ k) (hy : 1 ≤ y ∧ y ≤ 2 ^ k) : x ∈ growB k ∧ (x ≠ y → Pair k x y) := by
  have h := allB_all h1 h6
  have hp : ((2 ^ k : Nat) : Int) = 2 ^ k := by simp
  unfold allB at h
  rw [List.all_eq_true] at h
  have hi := h (x - 1).toNat (by rw [List.mem_range]; omega)
  simp only [Bool.and_eq_true, List.all_eq_true] at hi
  obtain ⟨hi1, hi2⟩ := hi
  have ex : (((x - 1).toNat : Nat) : Int) + 1 = x := by omega
  rw [ex] at hi1 hi2
  refine ⟨by simpa using hi1, fun hne => ?_⟩
  have hj := hi2 (y - 1).toNat (by rw [List.mem_range]; omega)
  have ey : (((y - 1).toNat : Nat) : Int) + 1 = y := by omega
  rw [ey] at hj
  have hb : Nat.beq (x - 1).toNat (y - 1).toNat = false := by
    cases hb : Nat.beq (x - 1).toNat (y - 1).toNat
    · rfl
    · exact absurd (Nat.eq_of_beq_eq_true hb) (by omega)
  rw [hb, Bool.false_or] at hj
  unfold pairB at hj
  simp only [Bool.and_eq_true, decide_eq_true_eq, List.all_eq_true, Bool.or_eq_true, List.mem_range] at hj
  obtain ⟨⟨⟨⟨⟨a, b⟩, c⟩, d⟩, e⟩, f⟩ := hj
  refine ⟨a, b, c, d, e, fun last l1 l2 l3 l4 => ?_⟩
  have := f last (by omega)
  omega
end Go.Proofs.YtekpcmgkpbfcjaaGreatDoor
