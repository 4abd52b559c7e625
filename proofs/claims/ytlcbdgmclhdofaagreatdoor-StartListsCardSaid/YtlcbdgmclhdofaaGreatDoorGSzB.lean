/- The library's stable sort: exchanging two parts of a row of names, turning a part round. -/
import Derived.Test.YtlcbdgmclhdofaaGreatDoorGLsE
import Derived.Test.YtlcbdgmclhdofaaGreatDoorGLsD
import Derived.Shelf.SlSortCmp.Insertion1
namespace Go.Proofs.YtlcbdgmclhdofaaGreatDoor
open Go.RowKit Go.Lib
set_option linter.unusedSimpArgs false
set_option linter.unusedVariables false
variable {Mx : Nat}
theorem drop_get {α : Type} {X r : List α} {x : α} {i : Nat} (h : X.drop i = x :: r) : X[i]? = some x := by
  have := congrArg (fun l => l[0]?) h
  simpa using this
section
open Go.Sort Go.Shelf
theorem arr_one {α : Type} [Inhabited α] (P Q : List α) (x : α) : (P ++ x :: Q).toArray[P.length]! = x := by
  rw [getElem!_pos _ _ (by simp)]
  simp
theorem arr_two {α : Type} [Inhabited α] (P M Q : List α) (x y : α) : (P ++ x :: (M ++ y :: Q)).toArray[P.length + 1 + M.length]! = y := by
  have := arr_one (P ++ x :: M) Q y
  rw [show (P ++ x :: M).length = P.length + 1 + M.length by simp; omega] at this
  simpa using this
structure Swp2 {α : Type} [Inhabited α] (enc : α → Value) (w0 : World) (blk off i j : Nat) (x y : α) (d : Array α) (W : World) : Prop where
  c1 : W.cell? ⟨blk, off + i, none⟩ = some (enc x)
  c2 : W.cell? ⟨blk, off + j, none⟩ = some (enc y)
  f1 : W.frozen? ⟨blk, off + i, none⟩ = false
  f2 : W.frozen? ⟨blk, off + j, none⟩ = false
  c3 : ∃ u, (W.setCell ⟨blk, off + i, none⟩ (enc y)).cell? ⟨blk, off + j, none⟩ = some u
  c4 : ∃ u, (W.setCell ⟨blk, off + j, none⟩ (enc x)).cell? ⟨blk, off + i, none⟩ = some u
  s1 : SW enc w0 blk off d ((W.setCell ⟨blk, off + i, none⟩ (enc y)).setCell ⟨blk, off + j, none⟩ (enc x)).drew
  s2 : SW enc w0 blk off d ((W.setCell ⟨blk, off + j, none⟩ (enc x)).setCell ⟨blk, off + i, none⟩ (enc y)).drew
theorem row_swap {α : Type} [Inhabited α] {enc : α → Value} {w0 W : World} {blk off : Nat} {d0 : Array α} {P M Q : List α} {x y : α} (S : SW enc w0 blk off (P ++ x :: (M ++ y :: Q)).toArray W) (R : Row1 enc w0 blk off d0) (hs : d0.size = (P ++ x :: (M ++ y :: Q)).length) {i j : Nat} (hi : i = P.length) (hj : j = P.length + 1 + M.length) :
    Swp2 enc w0 blk off i j x y (P ++ y :: (M ++ x :: Q)).toArray W := by
  have hsz : (P ++ x :: (M ++ y :: Q)).toArray.size = d0.size := by rw [hs]; simp
  have hl : (P ++ x :: (M ++ y :: Q)).length = P.length + 1 + M.length + 1 + Q.length := by simp; omega
  have i1 : i < (P ++ x :: (M ++ y :: Q)).toArray.size := by rw [hsz, hs, hl]; omega
  have j1 : j < (P ++ x :: (M ++ y :: Q)).toArray.size := by rw [hsz, hs, hl]; omega
  have ex : (P ++ x :: (M ++ y :: Q)).toArray[i]! = x := by rw [hi]; exact arr_one P _ x
  have ey : (P ++ x :: (M ++ y :: Q)).toArray[j]! = y := by rw [hj]; exact arr_two P M Q x y
  have a1 := S.c1 R hsz i i1
  have a2 := S.c1 R hsz j j1
  have a3 := S.swapped R i j i1 j1
  have a4 := S.swapped R j i j1 i1
  have a5 := S.c2 R hsz i j i1 j1 (enc y)
  have a6 := S.c2 R hsz j i j1 i1 (enc x)
  rw [swp_comm' _ i j i1 j1] at a4
  rw [ex, ey, swp_list P M Q x y i j hi hj] at a3 a4
  rw [ex] at a1
  rw [ey] at a2
  exact ⟨a1, a2, S.f1 R hsz i i1, S.f1 R hsz j j1, a5, a6, a3, a4⟩
end
open Go.Sort Go.Shelf in
set_option maxHeartbeats 4000000 in
set_option maxRecDepth 100000 in
theorem swapR_c {w0 : World} {blk off : Nat} {d0 : Array (Fin (Mx + 1))} (R : Row1 encN w0 blk off d0) (L X M Y Q : List (Fin (Mx + 1))) (n a b cap N : Nat) (f : Value) (w : World) (hX : X.length = n) (hY : Y.length = n) (ha : a = L.length) (hb : b = L.length + n + M.length)
    (hN : d0.size = N) (hs : N = L.length + n + M.length + n + Q.length) (hsz : N < 4611686018427387904) (S : SW encN w0 blk off (L ++ (X ++ (M ++ (Y ++ Q)))).toArray w) :
    Calls Tryz.prog 164 #[.slice (some ⟨blk, off, none⟩) N cap, .int .i64 (a : Int), .int .i64 (b : Int), .int .i64 (n : Int), f] w fun e w' => e = .returned (.tuple #[]) ∧ SW encN w0 blk off (L ++ (Y ++ (M ++ (X ++ Q)))).toArray w' := by
  have hcl0 := R.hO.cells
  simp only [Value.cells] at hcl0
  have hst := R.hO.store Tryz.prog
  have S0 := Lib.hid S
  have HX := Lib.hid hX
  have HY := Lib.hid hY
  have HS := Lib.hid hs
  have HA := Lib.hid ha
  have HB := Lib.hid hb
  have hbn : b + n ≤ N := by omega
  have han : a + n ≤ b := by omega
  clear S hX hY hs hb ha
  go_enter Tryz.func164, Tryz.ntmps164
  go_wp2_with fail
  go_loopg [10] n (fun gk s10 wr => ∃ i : Nat, s10 = .int .i64 i ∧ gk + i = n ∧ Hid (SW encN w0 blk off (L ++ (Y.take i ++ (X.drop i ++ (M ++ (X.take i ++ (Y.drop i ++ Q)))))).toArray wr))
  case atStart => exact ⟨0, rfl, by omega, by simpa [Hid] using S0.out⟩
  case round =>
    clear S0
    obtain ⟨i, rfl, hi, HSW⟩ := hrel
    by_cases hlt : i < n
    · have hi2 : (i : Int) < n := by omega
      obtain ⟨x, hx⟩ : ∃ x, X.drop i = x :: X.drop (i + 1) := ⟨X[i]'(by have := HX.out; omega), List.drop_eq_getElem_cons (by have := HX.out; omega)⟩
      obtain ⟨y, hy⟩ : ∃ y, Y.drop i = y :: Y.drop (i + 1) := ⟨Y[i]'(by have := HY.out; omega), List.drop_eq_getElem_cons (by have := HY.out; omega)⟩
      have hxt : X.take (i + 1) = X.take i ++ [x] := by
        rw [List.take_add_one]
        rw [drop_get hx]; rfl
      have hyt : Y.take (i + 1) = Y.take i ++ [y] := by
        rw [List.take_add_one]
        rw [drop_get hy]; rfl
      have hS := HSW.out
      rw [hx, hy, show L ++ (Y.take i ++ (x :: X.drop (i + 1) ++ (M ++ (X.take i ++ (y :: Y.drop (i + 1) ++ Q))))) = (L ++ Y.take i) ++ x :: ((X.drop (i + 1) ++ (M ++ X.take i)) ++ y :: (Y.drop (i + 1) ++ Q)) by simp] at hS
      have hsw := row_swap hS R (by rw [hN]; have := HX.out; have := HY.out; have := HS.out; simp; omega) (i := a + i) (j := b + i) (by have := HY.out; have := HA.out; simp; omega) (by have := HX.out; have := HY.out; have := HB.out; simp; omega)
      rw [show (L ++ Y.take i) ++ y :: ((X.drop (i + 1) ++ (M ++ X.take i)) ++ x :: (Y.drop (i + 1) ++ Q)) = L ++ (Y.take (i + 1) ++ (X.drop (i + 1) ++ (M ++ (X.take (i + 1) ++ (Y.drop (i + 1) ++ Q))))) by rw [hxt, hyt]; simp] at hsw
      obtain ⟨q1, q2, q3, q4, ⟨u, q5⟩, _, q6, _⟩ := hsw
      obtain ⟨p, hp⟩ : ∃ p, p = a + i := ⟨_, rfl⟩
      obtain ⟨q, hq⟩ : ∃ q, q = b + i := ⟨_, rfl⟩
      rw [← hp] at q1 q3 q5 q6
      rw [← hq] at q2 q4 q5 q6
      have w1 : IntKind.i64.wrap ((a : Int) + i) = (a : Int) + i := by rw [IntKind.wrap_i64]; omega
      have w2 : IntKind.i64.wrap ((b : Int) + i) = (b : Int) + i := by rw [IntKind.wrap_i64]; omega
      have t1 : ((a : Int) + i).toNat = p := by omega
      have t2 : ((b : Int) + i).toNat = q := by omega
      have r1 : (0 : Int) ≤ (a : Int) + i := by omega
      have r2 : (0 : Int) ≤ (b : Int) + i := by omega
      have r3 : (a : Int) + i < N := by omega
      have r4 : (b : Int) + i < N := by omega
      have H6 := Lib.hid q6
      clear hx hy hxt hyt hS q6 HSW hp hq
      have mixed : Tryz.prog.follows .mixedOrders = true := by kernel_rfl
      go_wp2_with fail
      go_big_region_o
      go_wp2_with fail

      go_roundg (gk - 1)
      case measure => omega
      case rel => exact ⟨i + 1, by go_num, by omega, H6⟩
    · have hin : i = n := by omega
      have hnl : ¬ (i : Int) < n := by omega
      have hS := HSW.out
      have x1 : X.take n = X := List.take_of_length_le (by have := HX.out; omega)
      have x2 : Y.take n = Y := List.take_of_length_le (by have := HY.out; omega)
      have x3 : X.drop n = [] := List.drop_eq_nil_of_le (by have := HX.out; omega)
      have x4 : Y.drop n = [] := List.drop_eq_nil_of_le (by have := HY.out; omega)
      rw [hin, x1, x2, x3, x4, List.nil_append, List.nil_append] at hS
      have H7 := Lib.hid hS
      clear hS HSW hin
      go_wp2_with fail
      go_end0
      exact ⟨rfl, H7.out⟩
end Go.Proofs.YtlcbdgmclhdofaaGreatDoor
namespace Go.Proofs.YtlcbdgmclhdofaaGreatDoor
open Go.RowKit Go.Lib
set_option linter.unusedSimpArgs false
set_option linter.unusedVariables false
variable {Mx : Nat}
open Go.Sort Go.Shelf in
set_option maxHeartbeats 4000000 in
set_option maxRecDepth 100000 in
theorem rotate_c {w0 : World} {blk off : Nat} {d0 : Array (Fin (Mx + 1))} (R : Row1 encN w0 blk off d0) (L A B Q : List (Fin (Mx + 1))) (a m b cap N : Nat) (f : Value) (w : World) (ha : a = L.length) (hm : m = L.length + A.length) (hb : b = L.length + A.length + B.length) (hA : 0 < A.length) (hB : 0 < B.length)
    (hN : d0.size = N) (hs : N = L.length + A.length + B.length + Q.length) (hsz : N < 4611686018427387904) (S : SW encN w0 blk off (L ++ (A ++ (B ++ Q))).toArray w) :
    Calls Tryz.prog 161 #[.slice (some ⟨blk, off, none⟩) N cap, .int .i64 (a : Int), .int .i64 (m : Int), .int .i64 (b : Int), f] w fun e w' => e = .returned (.tuple #[]) ∧ SW encN w0 blk off (L ++ (B ++ (A ++ Q))).toArray w' := by
  have HSR := Lib.hid (fun L X M Y Q n a b w hX hY ha hb hs S => swapR_c R L X M Y Q n a b cap N f w hX hY ha hb hN hs hsz S)
  have S0 := Lib.hid S
  obtain ⟨i0, hi0⟩ : ∃ i, i = A.length := ⟨_, rfl⟩
  obtain ⟨j0, hj0⟩ : ∃ j, j = B.length := ⟨_, rfl⟩
  have w1 : IntKind.i64.wrap ((m : Int) - a) = (i0 : Int) := by rw [IntKind.wrap_i64]; omega
  have w2 : IntKind.i64.wrap ((b : Int) - m) = (j0 : Int) := by rw [IntKind.wrap_i64]; omega
  have z1 : (m : Int) - a = (i0 : Int) := by omega
  have z2 : (b : Int) - m = (j0 : Int) := by omega
  have HI0 : Hid (∃ L' X Y Q', X.length = i0 ∧ Y.length = j0 ∧ 0 < i0 ∧ 0 < j0 ∧ m = L'.length + i0 ∧ N = L'.length + i0 + j0 + Q'.length ∧ L' ++ (Y ++ (X ++ Q')) = L ++ (B ++ (A ++ Q)) ∧ SW encN w0 blk off (L' ++ (X ++ (Y ++ Q'))).toArray w) := ⟨L, A, B, Q, hi0.symm, hj0.symm, by omega, by omega, by omega, by omega, rfl, S⟩
  have hbN : b ≤ N := by omega
  have hij : i0 + j0 ≤ N := by omega
  have hmN : m ≤ N := by omega
  clear S S0 ha hm hb hA hB hs hi0 hj0
  go_enter Tryz.func161, Tryz.ntmps161
  go_wp2_with fail
  go_loopg [10, 11] (i0 + j0) (fun gk s10 s11 wr => ∃ i j : Nat, s10 = .int .i64 i ∧ s11 = .int .i64 j ∧ i + j ≤ gk ∧ Hid (∃ L' X Y Q', X.length = i ∧ Y.length = j ∧ 0 < i ∧ 0 < j ∧ m = L'.length + i ∧ N = L'.length + i + j + Q'.length ∧ L' ++ (Y ++ (X ++ Q')) = L ++ (B ++ (A ++ Q)) ∧ SW encN w0 blk off (L' ++ (X ++ (Y ++ Q'))).toArray wr))
  case atStart => exact ⟨i0, j0, by first | rfl | (congr 1; omega), by first | rfl | (congr 1; omega), by omega, HI0⟩
  case round =>
    clear HI0
    obtain ⟨i, j, rfl, rfl, hgk, HI⟩ := hrel
    obtain ⟨L', X, Y, Q', hX, hY, h0, h1, hm, hs, hT, hS⟩ := HI.out
    have HX := Lib.hid hX
    have HY := Lib.hid hY
    have HM := Lib.hid hm
    have HS := Lib.hid hs
    have HT := Lib.hid hT
    have HSS := Lib.hid hS
    have hmi : i ≤ m := by omega
    have hmj : m + j ≤ N := by omega
    clear hX hY hm hs hT hS HI
    rcases Nat.lt_trichotomy i j with hlt | heq | hgt
    · have c1 : ((i : Int) == (j : Int)) = false := beq_eq_false_iff_ne.2 (by omega)
      have c1' : ((i : Int) != (j : Int)) = true := by rw [bne, c1]; rfl
      have c2 : ¬ (j : Int) < i := by omega
      have c3 : decide ((j : Int) < i) = false := decide_eq_false c2
      obtain ⟨a1, ha1⟩ : ∃ q, q = m - i := ⟨_, rfl⟩
      obtain ⟨b1, hb1⟩ : ∃ q, q = m + j - i := ⟨_, rfl⟩
      obtain ⟨j1, hj1⟩ : ∃ q, q = j - i := ⟨_, rfl⟩
      have x1 : (m : Int) - i = a1 := by omega
      have x2 : (m : Int) + j - i = b1 := by omega
      have x3 : (j : Int) - i = j1 := by omega
      have v0 : IntKind.i64.wrap ((m : Int) + j) = (m : Int) + j := by rw [IntKind.wrap_i64]; omega
      have v1 : IntKind.i64.wrap ((m : Int) - i) = a1 := by rw [IntKind.wrap_i64]; omega
      have v2 : IntKind.i64.wrap ((m : Int) + j - i) = b1 := by rw [IntKind.wrap_i64]; omega
      have v3 : IntKind.i64.wrap ((j : Int) - i) = j1 := by rw [IntKind.wrap_i64]; omega
      have HC := Lib.hid (HSR.out L' X (Y.take j1) (Y.drop j1) Q' i a1 b1 wr HX.out (by rw [List.length_drop, HY.out]; omega) (by have := HM.out; omega) (by rw [List.length_take, HY.out]; have := HM.out; omega) (by rw [List.length_take, HY.out]; have := HS.out; omega) (by
        have := HSS.out
        rw [show X ++ (Y.take j1 ++ (Y.drop j1 ++ Q')) = X ++ (Y ++ Q') by rw [← List.append_assoc (Y.take j1), List.take_append_drop]]
        exact this))
      have HNI := Lib.hid (fun W (hW : SW encN w0 blk off (L' ++ (Y.drop j1 ++ (Y.take j1 ++ (X ++ Q')))).toArray W) => (show ∃ L' X Y Q', X.length = i ∧ Y.length = j1 ∧ 0 < i ∧ 0 < j1 ∧ m = L'.length + i ∧ N = L'.length + i + j1 + Q'.length ∧ L' ++ (Y ++ (X ++ Q')) = L ++ (B ++ (A ++ Q)) ∧ SW encN w0 blk off (L' ++ (X ++ (Y ++ Q'))).toArray W from ⟨L', Y.drop j1, Y.take j1, X ++ Q', by rw [List.length_drop, HY.out]; omega, by rw [List.length_take, HY.out]; omega, h0, by omega, HM.out, by rw [List.length_append, HX.out]; have := HS.out; omega, by rw [← HT.out, ← List.append_assoc (Y.take j1), List.take_append_drop], hW⟩))
      have hgk2 : i + j1 ≤ gk - 1 := by omega
      clear ha1 hb1 hj1
      go_wp2_with fail
      refine HC.out.mono ?_
      rintro e W4 ⟨rfl, hW4⟩
      go_wp2_with fail
      go_roundg (gk - 1)
      case measure => omega
      case rel => exact ⟨i, j1, by first | rfl | go_num, by first | rfl | go_num, hgk2, HNI.out _ hW4⟩
    · have c1 : ((i : Int) == (j : Int)) = true := by rw [beq_iff_eq]; omega
      have c1' : ((i : Int) != (j : Int)) = false := by rw [bne, c1]; rfl
      obtain ⟨a1, ha1⟩ : ∃ q, q = m - i := ⟨_, rfl⟩
      have x1 : (m : Int) - i = a1 := by omega
      have v1 : IntKind.i64.wrap ((m : Int) - i) = a1 := by rw [IntKind.wrap_i64]; omega
      have HC := Lib.hid (HSR.out L' X [] Y Q' i a1 m wr HX.out (by have := HY.out; omega) (by have := HM.out; omega) (by have := HM.out; simp; omega) (by have := HS.out; simp; omega) HSS.out)
      clear ha1
      clear heq
      go_wp2_with fail
      refine HC.out.mono ?_
      rintro e W4 ⟨rfl, hW4⟩
      simp only [List.nil_append] at hW4
      rw [HT.out] at hW4
      go_wp2_with fail
      go_end0
      exact ⟨rfl, hW4⟩
    · have c1 : ((i : Int) == (j : Int)) = false := beq_eq_false_iff_ne.2 (by omega)
      have c1' : ((i : Int) != (j : Int)) = true := by rw [bne, c1]; rfl
      have c2 : (j : Int) < i := by omega
      have c3 : decide ((j : Int) < i) = true := decide_eq_true c2
      obtain ⟨a1, ha1⟩ : ∃ q, q = m - i := ⟨_, rfl⟩
      obtain ⟨i1, hi1⟩ : ∃ q, q = i - j := ⟨_, rfl⟩
      have x1 : (m : Int) - i = a1 := by omega
      have x3 : (i : Int) - j = i1 := by omega
      have v1 : IntKind.i64.wrap ((m : Int) - i) = a1 := by rw [IntKind.wrap_i64]; omega
      have v3 : IntKind.i64.wrap ((i : Int) - j) = i1 := by rw [IntKind.wrap_i64]; omega
      have HC := Lib.hid (HSR.out L' (X.take j) (X.drop j) Y Q' j a1 m wr (by rw [List.length_take, HX.out]; omega) HY.out (by have := HM.out; omega) (by rw [List.length_drop, HX.out]; have := HM.out; omega) (by rw [List.length_drop, HX.out]; have := HS.out; omega) (by
        have := HSS.out
        rw [show X.take j ++ (X.drop j ++ (Y ++ Q')) = X ++ (Y ++ Q') by rw [← List.append_assoc (X.take j), List.take_append_drop]]
        exact this))
      have HNI := Lib.hid (fun W (hW : SW encN w0 blk off (L' ++ (Y ++ (X.drop j ++ (X.take j ++ Q')))).toArray W) => (show ∃ L' X Y Q', X.length = i1 ∧ Y.length = j ∧ 0 < i1 ∧ 0 < j ∧ m = L'.length + i1 ∧ N = L'.length + i1 + j + Q'.length ∧ L' ++ (Y ++ (X ++ Q')) = L ++ (B ++ (A ++ Q)) ∧ SW encN w0 blk off (L' ++ (X ++ (Y ++ Q'))).toArray W from ⟨L' ++ Y, X.drop j, X.take j, Q', by rw [List.length_drop, HX.out]; omega, by rw [List.length_take, HX.out]; omega, by omega, h1, by rw [List.length_append, HY.out]; have := HM.out; omega, by rw [List.length_append, HY.out]; have := HS.out; omega, by rw [← HT.out, List.append_assoc, ← List.append_assoc (X.take j), List.take_append_drop], by rw [List.append_assoc]; exact hW⟩))
      have hgk2 : i1 + j ≤ gk - 1 := by omega
      clear ha1 hi1
      go_wp2_with fail
      refine HC.out.mono ?_
      rintro e W4 ⟨rfl, hW4⟩
      go_wp2_with fail
      go_roundg (gk - 1)
      case measure => omega
      case rel => exact ⟨i1, j, by first | rfl | go_num, by first | rfl | go_num, hgk2, HNI.out _ hW4⟩
end Go.Proofs.YtlcbdgmclhdofaaGreatDoor
