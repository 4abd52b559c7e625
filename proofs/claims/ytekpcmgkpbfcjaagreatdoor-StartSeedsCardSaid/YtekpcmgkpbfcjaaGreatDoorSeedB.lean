/- start.Meet. -/
import Derived.Test.YtekpcmgkpbfcjaaGreatDoorPairs
namespace Go.Proofs.YtekpcmgkpbfcjaaGreatDoor
open Go.RowKit Go.Lib
theorem pow_one {n : Int} {k j : Nat} (h1 : n ≤ ((2 ^ k : Nat) : Int)) (h2 : ((2 ^ k : Nat) : Int) < 2 * n) (h3 : n ≤ ((2 ^ j : Nat) : Int)) (h4 : ((2 ^ j : Nat) : Int) < 2 * n) : k = j := by
  rcases Nat.lt_trichotomy k j with h | h | h
  · have := Nat.pow_le_pow_right (show 0 < 2 by decide) (show k + 1 ≤ j from h)
    rw [Nat.pow_succ] at this
    omega
  · exact h
  · have := Nat.pow_le_pow_right (show 0 < 2 by decide) (show j + 1 ≤ k from h)
    rw [Nat.pow_succ] at this
    omega
theorem box3 (w : World) (a0 a1 a2 : Value) (T : Nat) : ∃ W, w.alloc (.cells #[a0, a1, a2] T) = W ∧ Gr w W ∧ W.cell? ⟨w.heap.size, 0, none⟩ = some a0 ∧ W.cell? ⟨w.heap.size, 1, none⟩ = some a1 ∧ W.cell? ⟨w.heap.size, 2, none⟩ = some a2 :=
  ⟨_, rfl, (Gr.refl w).alloc _, cell_new w #[a0, a1, a2] T 0 (by simp), cell_new w #[a0, a1, a2] T 1 (by simp), cell_new w #[a0, a1, a2] T 2 (by simp)⟩
theorem first_three0 (b cap : Nat) (w : World) (hx : w.cell? ⟨b, 0, none⟩ = some (.int .i64 0)) (hy : w.cell? ⟨b, 1, none⟩ = some (.int .i64 0)) (hz : w.cell? ⟨b, 2, none⟩ = some (.int .i64 0)) :
    Calls Tryz.prog 39 #[.slice (some ⟨b, 0, none⟩) 3 cap] w fun e w' => e = .returned (.int .i64 0) ∧ w = w' :=
  first_c0 b 3 cap [0, 0, 0] w rfl (fun i v h => by
    rcases i with _ | _ | _ | i <;> simp at h <;> subst h <;> assumption) (by omega)
/-- k is a number of rounds for n -/
structure Rnd (n : Int) (k : Nat) : Prop where
  n2 : 2 ≤ n
  n64 : n ≤ 64
  low : n ≤ ((2 ^ k : Nat) : Int)
  high : ((2 ^ k : Nat) : Int) < 2 * n
theorem Rnd.k {n : Int} {k : Nat} (h : Rnd n k) : 1 ≤ k ∧ k ≤ 6 := by
  obtain ⟨h1, h2, h3, h4⟩ := h
  constructor
  · rcases k with _ | k
    · simp at h3; omega
    · omega
  · apply Nat.le_of_not_lt
    intro h
    have := Nat.pow_le_pow_right (show 0 < 2 by decide) (show 7 ≤ k from h)
    omega
/-- what the two places are -/
structure Two (n x y : Int) (k : Nat) : Prop where
  r : Rnd n k
  x1 : 1 ≤ x
  xn : x ≤ n
  y1 : 1 ≤ y
  yn : y ≤ n
  ne : x ≠ y
theorem Two.at {n x y : Int} {k : Nat} (h : Two n x y k) : (∀ z, z = x ∨ z = y → (zK n (growB k))[posOf z (growB k)]? = some z ∧ posOf z (growB k) < 2 ^ k ∧ ∀ j u, j < posOf z (growB k) → (zK n (growB k))[j]? = some u → (z == u) = false) ∧ Pair k x y := by
  have hk := h.r.k
  have h3 := h.r.low
  have hp : ((2 ^ k : Nat) : Int) = 2 ^ k := by simp
  have hx := h.x1
  have hxn := h.xn
  have hy := h.y1
  have hyn := h.yn
  refine ⟨fun z hz => ?_, (pair_all hk.1 hk.2 (by omega) (by omega)).2 h.ne⟩
  have hz1 : 1 ≤ z ∧ z ≤ n := by rcases hz with rfl | rfl <;> constructor <;> assumption
  have hm := (pair_all (x := z) (y := z) hk.1 hk.2 (by omega) (by omega)).1
  obtain ⟨q1, q2⟩ := posOf_get hm
  refine ⟨by rw [zK_get, q1]; simp; omega, ?_, fun j u hj hu => ?_⟩
  · obtain ⟨hh, _⟩ := List.getElem?_eq_some_iff.1 q1
    rwa [growB_len] at hh
  · rw [zK_get] at hu
    cases he : (growB k)[j]? with
    | none => rw [he] at hu; cases hu
    | some s =>
      rw [he] at hu
      have := q2 j s hj he
      simp at hu ⊢
      split at hu <;> omega
set_option maxHeartbeats 2000000 in
set_option maxRecDepth 100000 in
theorem Meet_c (n x y : Int) (k : Nat) (h : Two n x y k) (w : World) :
    Calls Tryz.prog 7 #[.int .i64 n, .int .i64 x, .int .i64 y] w fun e w' => e = .returned (.tuple #[.int .i64 (mtK (growB k) x y), .int .i64 0]) ∧ Gr w w' := by
  have HR : ∀ W, _ := fun W => range_c n 1 64 W
  have hr1 := h.r.n2
  have hr2 := h.r.n64
  rw [outE_zero.2 ⟨by omega, by omega⟩] at HR
  replace HR := Lib.hid HR
  have HI := Lib.hid (fun b m W => if_c b m W)
  have HF := Lib.hid first_three0
  have HB := Lib.hid (bracket_c n ⟨by omega, by omega⟩)
  obtain ⟨W, hW, g, a0, a1, a2⟩ := box3 w (.int .i64 0) (.int .i64 0) (.int .i64 0) 26
  have HW := Lib.hid hW
  obtain ⟨ha, hp⟩ := h.at
  have hX := ha x (.inl rfl)
  have hY := ha y (.inr rfl)
  have hlo := hp.low
  have hhi := hp.high
  have hL := fun W => len_c _ ⟨hlo, hhi⟩ W
  have hx1 : decide (x < 1) = false := by have := h.x1; simp; omega
  have hxn : decide (n < x) = false := by have := h.xn; simp; omega
  have hy1 : decide (y < 1) = false := by have := h.y1; simp; omega
  have hyn : decide (n < y) = false := by have := h.yn; simp; omega
  have hne : (x == y) = false := by have := h.ne; simpa using this
  have hu : IntKind.u64.wrap (bits BinOp.xor .i64 (posOf x (growB k)) (posOf y (growB k))) = bits BinOp.xor .i64 (posOf x (growB k)) (posOf y (growB k)) := by
    generalize bits BinOp.xor .i64 (posOf x (growB k)) (posOf y (growB k)) = d at *
    rw [IntKind.wrap_u64]
    omega
  have hpl : posOf x (growB k) < 1000 ∧ posOf y (growB k) < 1000 := by
    have := hX.2.1
    have := hY.2.1
    have := h.r.high
    omega
  have HM : Hid (mtK (growB k) x y = bl (bits BinOp.xor .i64 (posOf x (growB k)) (posOf y (growB k)))) := rfl
  have h2k := h.r.high
  have HRN := Lib.hid h.r
  clear ha hp hlo hhi h
  generalize mtK (growB k) x y = mt at *
  generalize posOf x (growB k) = px at *
  generalize posOf y (growB k) = py at *
  obtain ⟨d, hd⟩ : ∃ d, d = bits BinOp.xor .i64 px py := ⟨_, rfl⟩
  rw [← hd] at hL HM hu
  have HL := Lib.hid hL
  have HX := Lib.hid hX
  have HY := Lib.hid hY
  clear hX hY hL hW
  go_enter Tryz.func7, Tryz.ntmps7
  go_wp2_with fail
  refine (HR.out _).mono ?_
  rintro e w4 ⟨rfl, rfl⟩
  go_wp2_with fail
  refine (HI.out _ _ _).mono ?_
  rintro e w4 ⟨rfl, rfl⟩
  go_wp2_with fail
  refine (HI.out _ _ _).mono ?_
  rintro e w4 ⟨rfl, rfl⟩
  go_wp2_with fail
  rw [HW.out]
  refine (HF.out _ _ W a0 a1 a2).mono ?_
  rintro e w4 ⟨rfl, rfl⟩
  go_wp2_with fail
  refine (HB.out _).mono ?_
  rintro e w4 ⟨v, j, rfl, h1, h2, h3, hg⟩
  have hkj := pow_one h1 h2 HRN.out.low HRN.out.high
  subst hkj
  obtain ⟨g1, cap, rfl, hbg, hgw, hcell⟩ := reads_pos h3 (Nat.two_pow_pos _)
  have HC := Lib.hid hcell
  have HZ : Hid ((zK n (growB j)).length = 2 ^ j) := by unfold Hid; rw [zK_len, growB_len]
  clear h1 h2 h3 hcell
  have hL1 : 2 ^ j ≤ 1000 := by omega
  generalize 2 ^ j = L at *
  generalize zK n (growB j) = xs at *
  go_wp2_with fail
  refine (index_c xs g1 cap L px x HZ.out hL1 (HX.out).1 (HX.out).2.2 _ HC.out).mono ?_
  rintro e w5 ⟨rfl, hg1⟩
  have HC1 := Lib.hid fun i y hy => hg1.cell (HC.out i y hy)
  go_wp2_with fail
  refine (index_c xs g1 cap L py y HZ.out hL1 (HY.out).1 (HY.out).2.2 _ HC1.out).mono ?_
  rintro e w6 ⟨rfl, hg2⟩
  go_wp2_with fail
  rw [← hd, hu]
  refine (HL.out _).mono ?_
  rintro e w7 ⟨rfl, rfl⟩
  go_wp2_with fail
  exact bodyPost_ret (v := .tuple #[.int .i64 (bl d), .int .i64 0]) (by simp [results, Tryz.results7, go_sem]; rw [hd]) rfl ⟨by rw [HM.out], ((g.trans hg).trans hg1).trans hg2⟩
end Go.Proofs.YtekpcmgkpbfcjaaGreatDoor
