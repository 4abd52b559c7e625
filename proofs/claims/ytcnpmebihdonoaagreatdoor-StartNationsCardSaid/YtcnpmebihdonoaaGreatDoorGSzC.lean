/- The library's stable sort: turning a part of a row of names round. -/
import Derived.Test.YtcnpmebihdonoaaGreatDoorGCmp
namespace Go.Proofs.YtcnpmebihdonoaaGreatDoor
open Go.RowKit Go.Lib
set_option linter.unusedSimpArgs false
set_option linter.unusedVariables false
variable {Mx : Nat}
open Go.Sort Go.Shelf in
set_option maxHeartbeats 4000000 in
set_option maxRecDepth 100000 in
theorem rotate_c {w0 : World} {blk off : Nat} {d0 : Array (Fin (Mx + 1))} (R : Row1 encN w0 blk off d0) (L A B Q : List (Fin (Mx + 1))) (a m b cap N : Nat) (f : Value) (w : World) (ha : a = L.length) (hm : m = L.length + A.length) (hb : b = L.length + A.length + B.length) (hA : 0 < A.length) (hB : 0 < B.length)
    (hN : d0.size = N) (hs : N = L.length + A.length + B.length + Q.length) (hsz : N < 4611686018427387904) (S : SW encN w0 blk off (L ++ (A ++ (B ++ Q))).toArray w) :
    Calls Tryz.prog 154 #[.slice (some ⟨blk, off, none⟩) N cap, .int .i64 (a : Int), .int .i64 (m : Int), .int .i64 (b : Int), f] w fun e w' => e = .returned (.tuple #[]) ∧ SW encN w0 blk off (L ++ (B ++ (A ++ Q))).toArray w' := by
  have HSR := Lib.hid (fun L X M Y Q n a b w hX hY ha hb hs S => swapR_c R L X M Y Q n a b cap N f w hX hY ha hb hN hs hsz S)
  have S0 := Lib.hid S
  obtain ⟨i0, hi0⟩ : ∃ i, i = A.length := ⟨_, rfl⟩
  obtain ⟨j0, hj0⟩ : ∃ j, j = B.length := ⟨_, rfl⟩
  have w1 : IntKind.i64.wrap ((m : Int) - a) = (i0 : Int) := by rw [IntKind.wrap_i64]; omega
  have w2 : IntKind.i64.wrap ((b : Int) - m) = (j0 : Int) := by rw [IntKind.wrap_i64]; omega
  have z1 : (m : Int) - a = (i0 : Int) := by omega
  have z2 : (b : Int) - m = (j0 : Int) := by omega
  have HI0 : Hid (∃ L' X Y Q', X.length = i0 ∧ Y.length = j0 ∧ 0 < i0 ∧ 0 < j0 ∧ m = L'.length + i0 ∧ N = L'.length + i0 + j0 + Q'.length ∧ L' ++ (Y ++ (X ++ Q')) = L ++ (B ++ (A ++ Q)) ∧ SW encN w0 blk off (L' ++ (X ++ (Y ++ Q'))).toArray w) := ⟨L, A, B, Q, hi0.symm, hj0.symm, by omega, by omega, by omega, by omega, rfl, S⟩
  have hbN : b ≤ N := by omega
  have hij : i0 + j0 ≤ N := by omega
  have hmN : m ≤ N := by omega
  clear S S0 ha hm hb hA hB hs hi0 hj0
  go_enter Tryz.func154, Tryz.ntmps154
  go_wp2_with fail
  go_loopg [10, 11] (i0 + j0) (fun gk s10 s11 wr => ∃ i j : Nat, s10 = .int .i64 i ∧ s11 = .int .i64 j ∧ i + j ≤ gk ∧ Hid (∃ L' X Y Q', X.length = i ∧ Y.length = j ∧ 0 < i ∧ 0 < j ∧ m = L'.length + i ∧ N = L'.length + i + j + Q'.length ∧ L' ++ (Y ++ (X ++ Q')) = L ++ (B ++ (A ++ Q)) ∧ SW encN w0 blk off (L' ++ (X ++ (Y ++ Q'))).toArray wr))
  case atStart => exact ⟨i0, j0, by first | rfl | (congr 1; omega), by first | rfl | (congr 1; omega), by omega, HI0⟩
  case round =>
    clear HI0
    obtain ⟨i, j, rfl, rfl, hgk, HI⟩ := hrel
    obtain ⟨L', X, Y, Q', hX, hY, h0, h1, hm, hs, hT, hS⟩ := HI.out
    have HX := Lib.hid hX
    have HY := Lib.hid hY
    have HM := Lib.hid hm
    have HS := Lib.hid hs
    have HT := Lib.hid hT
    have HSS := Lib.hid hS
    have hmi : i ≤ m := by omega
    have hmj : m + j ≤ N := by omega
    clear hX hY hm hs hT hS HI
    rcases Nat.lt_trichotomy i j with hlt | heq | hgt
    · have c1 : ((i : Int) == (j : Int)) = false := beq_eq_false_iff_ne.2 (by omega)
      have c1' : ((i : Int) != (j : Int)) = true := by rw [bne, c1]; rfl
      have c2 : ¬ (j : Int) < i := by omega
      have c3 : decide ((j : Int) < i) = false := decide_eq_false c2
      obtain ⟨a1, ha1⟩ : ∃ q, q = m - i := ⟨_, rfl⟩
      obtain ⟨b1, hb1⟩ : ∃ q, q = m + j - i := ⟨_, rfl⟩
      obtain ⟨j1, hj1⟩ : ∃ q, q = j - i := ⟨_, rfl⟩
      have x1 : (m : Int) - i = a1 := by omega
      have x2 : (m : Int) + j - i = b1 := by omega
      have x3 : (j : Int) - i = j1 := by omega
      have v0 : IntKind.i64.wrap ((m : Int) + j) = (m : Int) + j := by rw [IntKind.wrap_i64]; omega
      have v1 : IntKind.i64.wrap ((m : Int) - i) = a1 := by rw [IntKind.wrap_i64]; omega
      have v2 : IntKind.i64.wrap ((m : Int) + j - i) = b1 := by rw [IntKind.wrap_i64]; omega
      have v3 : IntKind.i64.wrap ((j : Int) - i) = j1 := by rw [IntKind.wrap_i64]; omega
      have HC := Lib.hid (HSR.out L' X (Y.take j1) (Y.drop j1) Q' i a1 b1 wr HX.out (by rw [List.length_drop, HY.out]; omega) (by have := HM.out; omega) (by rw [List.length_take, HY.out]; have := HM.out; omega) (by rw [List.length_take, HY.out]; have := HS.out; omega) (by
        have := HSS.out
        rw [show X ++ (Y.take j1 ++ (Y.drop j1 ++ Q')) = X ++ (Y ++ Q') by rw [← List.append_assoc (Y.take j1), List.take_append_drop]]
        exact this))
      have HNI := Lib.hid (fun W (hW : SW encN w0 blk off (L' ++ (Y.drop j1 ++ (Y.take j1 ++ (X ++ Q')))).toArray W) => (show ∃ L' X Y Q', X.length = i ∧ Y.length = j1 ∧ 0 < i ∧ 0 < j1 ∧ m = L'.length + i ∧ N = L'.length + i + j1 + Q'.length ∧ L' ++ (Y ++ (X ++ Q')) = L ++ (B ++ (A ++ Q)) ∧ SW encN w0 blk off (L' ++ (X ++ (Y ++ Q'))).toArray W from ⟨L', Y.drop j1, Y.take j1, X ++ Q', by rw [List.length_drop, HY.out]; omega, by rw [List.length_take, HY.out]; omega, h0, by omega, HM.out, by rw [List.length_append, HX.out]; have := HS.out; omega, by rw [← HT.out, ← List.append_assoc (Y.take j1), List.take_append_drop], hW⟩))
      have hgk2 : i + j1 ≤ gk - 1 := by omega
      clear ha1 hb1 hj1
      go_wp2_with fail
      refine HC.out.mono ?_
      rintro e W4 ⟨rfl, hW4⟩
      go_wp2_with fail
      go_roundg (gk - 1)
      case measure => omega
      case rel => exact ⟨i, j1, by first | rfl | go_num, by first | rfl | go_num, hgk2, HNI.out _ hW4⟩
    · have c1 : ((i : Int) == (j : Int)) = true := by rw [beq_iff_eq]; omega
      have c1' : ((i : Int) != (j : Int)) = false := by rw [bne, c1]; rfl
      obtain ⟨a1, ha1⟩ : ∃ q, q = m - i := ⟨_, rfl⟩
      have x1 : (m : Int) - i = a1 := by omega
      have v1 : IntKind.i64.wrap ((m : Int) - i) = a1 := by rw [IntKind.wrap_i64]; omega
      have HC := Lib.hid (HSR.out L' X [] Y Q' i a1 m wr HX.out (by have := HY.out; omega) (by have := HM.out; omega) (by have := HM.out; simp; omega) (by have := HS.out; simp; omega) HSS.out)
      clear ha1
      clear heq
      go_wp2_with fail
      refine HC.out.mono ?_
      rintro e W4 ⟨rfl, hW4⟩
      simp only [List.nil_append] at hW4
      rw [HT.out] at hW4
      go_wp2_with fail
      go_end0
      exact ⟨rfl, hW4⟩
    · have c1 : ((i : Int) == (j : Int)) = false := beq_eq_false_iff_ne.2 (by omega)
      have c1' : ((i : Int) != (j : Int)) = true := by rw [bne, c1]; rfl
      have c2 : (j : Int) < i := by omega
      have c3 : decide ((j : Int) < i) = true := decide_eq_true c2
      obtain ⟨a1, ha1⟩ : ∃ q, q = m - i := ⟨_, rfl⟩
      obtain ⟨i1, hi1⟩ : ∃ q, q = i - j := ⟨_, rfl⟩
      have x1 : (m : Int) - i = a1 := by omega
      have x3 : (i : Int) - j = i1 := by omega
      have v1 : IntKind.i64.wrap ((m : Int) - i) = a1 := by rw [IntKind.wrap_i64]; omega
      have v3 : IntKind.i64.wrap ((i : Int) - j) = i1 := by rw [IntKind.wrap_i64]; omega
      have HC := Lib.hid (HSR.out L' (X.take j) (X.drop j) Y Q' j a1 m wr (by rw [List.length_take, HX.out]; omega) HY.out (by have := HM.out; omega) (by rw [List.length_drop, HX.out]; have := HM.out; omega) (by rw [List.length_drop, HX.out]; have := HS.out; omega) (by
        have := HSS.out
        rw [show X.take j ++ (X.drop j ++ (Y ++ Q')) = X ++ (Y ++ Q') by rw [← List.append_assoc (X.take j), List.take_append_drop]]
        exact this))
      have HNI := Lib.hid (fun W (hW : SW encN w0 blk off (L' ++ (Y ++ (X.drop j ++ (X.take j ++ Q')))).toArray W) => (show ∃ L' X Y Q', X.length = i1 ∧ Y.length = j ∧ 0 < i1 ∧ 0 < j ∧ m = L'.length + i1 ∧ N = L'.length + i1 + j + Q'.length ∧ L' ++ (Y ++ (X ++ Q')) = L ++ (B ++ (A ++ Q)) ∧ SW encN w0 blk off (L' ++ (X ++ (Y ++ Q'))).toArray W from ⟨L' ++ Y, X.drop j, X.take j, Q', by rw [List.length_drop, HX.out]; omega, by rw [List.length_take, HX.out]; omega, by omega, h1, by rw [List.length_append, HY.out]; have := HM.out; omega, by rw [List.length_append, HY.out]; have := HS.out; omega, by rw [← HT.out, List.append_assoc, ← List.append_assoc (X.take j), List.take_append_drop], by rw [List.append_assoc]; exact hW⟩))
      have hgk2 : i1 + j ≤ gk - 1 := by omega
      clear ha1 hi1
      go_wp2_with fail
      refine HC.out.mono ?_
      rintro e W4 ⟨rfl, hW4⟩
      go_wp2_with fail
      go_roundg (gk - 1)
      case measure => omega
      case rel => exact ⟨i1, j, by first | rfl | go_num, by first | rfl | go_num, hgk2, HNI.out _ hW4⟩
end Go.Proofs.YtcnpmebihdonoaaGreatDoor
namespace Go.Proofs.YtcnpmebihdonoaaGreatDoor
open Go.RowKit Go.Lib
set_option linter.unusedSimpArgs false
set_option linter.unusedVariables false
variable {Mx : Nat}
section
open Go.Sort Go.Shelf
theorem arr_get {α : Type} [Inhabited α] {D : List α} {i : Nat} {x : α} (h : D[i]? = some x) : D.toArray[i]! = x := by
  obtain ⟨hi, e⟩ := List.getElem?_eq_some_iff.1 h
  rw [getElem!_pos _ _ (by simpa using hi)]
  simpa using e
theorem row_cell {w0 W : World} {blk off : Nat} {d0 : Array (Fin (Mx + 1))} {D : List (Fin (Mx + 1))} (S : SW encN w0 blk off D.toArray W) (R : Row1 encN w0 blk off d0) (hs : D.length = d0.size) {i : Nat} {x : Fin (Mx + 1)} (hi : D[i]? = some x) (n : Nat) (os : Array Obj) : (grow (W.drewN n) os).cell? ⟨blk, off + i, none⟩ = some (encN x) := by
  have := S.cl R (by simpa using hs) i (by simpa using (List.getElem?_eq_some_iff.1 hi).1) n os
  rwa [arr_get hi] at this
theorem get_A {α : Type} {L A T : List α} {a : Nat} (ha : a = L.length) {t : Nat} {y : α} (h : A[t]? = some y) : (L ++ (A ++ T))[a + t]? = some y := by
  subst ha
  have hl := (List.getElem?_eq_some_iff.1 h).1
  rw [List.getElem?_append_right (by omega), show L.length + t - L.length = t by omega, List.getElem?_append_left hl]
  exact h
theorem get_B {α : Type} {L A B T : List α} {m : Nat} (hm : m = L.length + A.length) {t : Nat} {y : α} (h : B[t]? = some y) : (L ++ (A ++ (B ++ T)))[m + t]? = some y := by
  subst hm
  rw [← List.append_assoc]
  exact get_A (by simp) h
end
theorem cmp_lt {m : Fin (Mx + 1) → Int} {x y : Fin (Mx + 1)} (h : ltK (m) x y = true) : decide (cmpK m x y < 0) = true := decide_eq_true ((cmpY_lt _ _).2 (of_decide_eq_true h))
theorem cmp_ge {m : Fin (Mx + 1) → Int} {x y : Fin (Mx + 1)} (h : ltK (m) x y = false) : decide (cmpK m x y < 0) = false := decide_eq_false (fun q => of_decide_eq_false h ((cmpY_lt _ _).1 q))
theorem asc_at {key : Fin (Mx + 1) → Int} {l : List (Fin (Mx + 1))} (h : Asc (ltK key) l) {i j : Nat} {x y : Fin (Mx + 1)} (hij : i ≤ j) (hi : l[i]? = some x) (hj : l[j]? = some y) : key x ≤ key y := by
  rcases Nat.lt_or_ge i j with hlt | hge
  · obtain ⟨h1, rfl⟩ := List.getElem?_eq_some_iff.1 hi
    obtain ⟨h2, rfl⟩ := List.getElem?_eq_some_iff.1 hj
    have := (List.pairwise_iff_getElem.1 h) i j h1 h2 hlt
    have := of_decide_eq_false this
    omega
  · obtain rfl : i = j := by omega
    rw [hi] at hj
    cases hj
    exact Int.le_refl _
theorem low_step {key : Fin (Mx + 1) → Int} {l : List (Fin (Mx + 1))} (h : Asc (ltK key) l) {t : Nat} {y : Fin (Mx + 1)} (ht : l[t]? = some y) : (∀ z ∈ l.take (t + 1), key z ≤ key y) ∧ ∀ z ∈ l.drop t, key y ≤ key z := by
  refine ⟨fun z hz => ?_, fun z hz => ?_⟩
  · obtain ⟨i, hi, rfl⟩ := List.mem_iff_getElem.1 hz
    rw [List.length_take] at hi
    exact asc_at h (i := i) (j := t) (by omega) (by rw [List.getElem_take]; exact List.getElem?_eq_getElem (by omega)) ht
  · obtain ⟨i, hi, rfl⟩ := List.mem_iff_getElem.1 hz
    rw [List.length_drop] at hi
    exact asc_at h (i := t) (j := t + i) (by omega) ht (by rw [List.getElem_drop]; exact List.getElem?_eq_getElem (by omega))
open Go.Sort Go.Shelf in
set_option maxHeartbeats 4000000 in
set_option maxRecDepth 100000 in
theorem symOneL_c (mm : Fin (Mx + 1) → Int) (cb : Array Value) {w0 : World} {blk off : Nat} {d0 : Array (Fin (Mx + 1))} (R : Row1 encN w0 blk off d0) (N : Nat) (hN : d0.size = N) (hsz : N < 4611686018427387904) (hC : CmpLays1 Tryz.prog 88 cb encN (cmpK mm) blk off N w0)
    (L B Q : List (Fin (Mx + 1))) (x : Fin (Mx + 1)) (a m b cap : Nat) (w : World) (ha : a = L.length) (hm : m = L.length + 1) (hb : b = L.length + 1 + B.length) (hB : 0 < B.length) (hs : N = L.length + 1 + B.length + Q.length) (sB : Asc (ltK mm) B)
    (S : SW encN w0 blk off (L ++ ([x] ++ (B ++ Q))).toArray w) :
    Calls Tryz.prog 146 #[.slice (some ⟨blk, off, none⟩) N cap, .int .i64 (a : Int), .int .i64 (m : Int), .int .i64 (b : Int), .func (.func 88) #[] cb] w fun e w' => e = .returned (.tuple #[]) ∧ SW encN w0 blk off (L ++ (mrg (ltK mm) [x] B ++ Q)).toArray w' := by
  have mixed : Tryz.prog.follows .mixedOrders = true := by kernel_rfl
  have eg : ∀ (args : Array Value) (w : World), (callFunc 88 args).run Tryz.prog w = .ok (.enter 88 args) w := enters_of Tryz.func88 (by kernel_rfl) rfl
  have hcl0 := R.hO.cells
  simp only [Value.cells] at hcl0
  have hst := R.hO.store Tryz.prog
  have HSW0 := Lib.hid S
  have HGB := Lib.hid (fun t y (h : B[t]? = some y) => get_B (L := L) (A := [x]) (B := B) (T := Q) (m := m) (by simpa using hm) h)
  have HGA := Lib.hid (get_A (L := L) (A := [x]) (T := B ++ Q) (a := a) ha (t := 0) (y := x) rfl)
  have HLS := Lib.hid (fun t y (h : B[t]? = some y) => low_step sB h)
  have HL := Lib.hid (show (L ++ ([x] ++ (B ++ Q))).length = N by simp; omega)
  have HA := Lib.hid ha
  have HM := Lib.hid hm
  have HB := Lib.hid hb
  have HS := Lib.hid hs
  have HN := Lib.hid hN
  have HC := Lib.hid hC
  have w1 : IntKind.i64.wrap ((m : Int) - a) = 1 := by rw [IntKind.wrap_i64]; omega
  have z1 : (m : Int) - a = 1 := by omega
  have hma : a + 1 ≤ m := by omega
  have hmb : m ≤ b := by omega
  have hbN : b ≤ N := by omega
  clear S ha hm hb hs hN hC sB hB
  go_enter Tryz.func146, Tryz.ntmps146
  go_wp2_with fail
  go_loopg [10, 11, 12] (b - m) (fun gk s10 s11 s12 wr => ∃ i j : Nat, s10 = .int .i64 i ∧ s11 = .int .i64 j ∧ m ≤ i ∧ i ≤ j ∧ j ≤ b ∧ j - i ≤ gk ∧ Hid (SW encN w0 blk off (L ++ ([x] ++ (B ++ Q))).toArray wr) ∧ Hid (∀ z ∈ B.take (i - m), ltK mm z x = true) ∧ Hid (∀ z ∈ B.drop (j - m), ltK mm z x = false))
  case atStart => exact ⟨m, b, rfl, rfl, Nat.le_refl _, hmb, Nat.le_refl _, by omega, HSW0, by simp [Hid], by rw [Hid, List.drop_eq_nil_of_le (by have := HM.out; have := HB.out; omega)]; simp⟩
  case round =>
    clear HSW0
    obtain ⟨i, j, rfl, rfl, him, hij, hjb, hgk, HSW, HLO, HHI⟩ := hrel
    by_cases hlt : i < j
    · obtain ⟨h, hh⟩ : ∃ h, h = (i + j) / 2 := ⟨_, rfl⟩
      obtain ⟨y, hy⟩ : ∃ y, B[h - m]? = some y := ⟨B[h - m]'(by have := HM.out; have := HB.out; omega), List.getElem?_eq_getElem _⟩
      have eh : (((i : Int) + (j : Int)) / 2).toNat = h := by omega
      have ph : (0 : Int) ≤ ((i : Int) + (j : Int)) / 2 := by omega
      have bh : ((i : Int) + (j : Int)) / 2 < (N : Int) := by omega
      have hi2 : (i : Int) < j := by omega
      have pa : (0 : Int) ≤ (a : Int) := by omega
      have baN : (a : Int) < N := by omega
      have hgb := HGB.out _ y hy
      rw [show m + (h - m) = h by omega] at hgb
      have q1 := row_cell HSW.out R (by rw [HL.out, HN.out]) hgb
      have q2 := row_cell HSW.out R (by rw [HL.out, HN.out]) HGA.out
      rw [Nat.add_zero] at q2
      have hcq := HSW.out.cmp HC.out (by have := HL.out; simpa using this) y x
      have hls := HLS.out _ y hy
      have HH := Lib.hid hh
      have HLS2 := Lib.hid hls
      have hhi : i ≤ h := by omega
      have hhj : h < j := by omega
      clear hy hgb hh hls
      cases hlv : ltK mm y x with
      | true =>
        have hd := cmp_lt hlv
        have HNX : Hid (∀ z ∈ B.take (h + 1 - m), ltK mm z x = true) := fun z hz => by
          rw [show h + 1 - m = h - m + 1 by omega] at hz
          have e1 := HLS2.out.1 z hz
          have e2 := of_decide_eq_true hlv
          exact decide_eq_true (by omega)
        clear hlv
        go_wp2_with fail
        go_quiet_grown (first | (go_at_fn 88; refine Calls.grown_of (hcq _ _)))
        have S2 := Lib.hid (HSW.out.grown nq osq)
        clear q1 q2 hcq HSW
        generalize grow (wr.drewN nq) osq = w2 at S2 ⊢
        clear nq osq
        go_wp2_with fail
        go_roundg (gk - 1)
        case measure => omega
        case rel => exact ⟨h + 1, j, by first | rfl | (rw [show ((i : Int) + (j : Int)) / 2 + 1 = ((h + 1 : Nat) : Int) by have := HH.out; omega]), rfl, by omega, by omega, hjb, by omega, S2, HNX, HHI⟩
      | false =>
        have hd := cmp_ge hlv
        have HNX : Hid (∀ z ∈ B.drop (h - m), ltK mm z x = false) := fun z hz => by
          have e1 := HLS2.out.2 z hz
          have e2 := of_decide_eq_false hlv
          exact decide_eq_false (by omega)
        clear hlv
        go_wp2_with fail
        go_quiet_grown (first | (go_at_fn 88; refine Calls.grown_of (hcq _ _)))
        have S2 := Lib.hid (HSW.out.grown nq osq)
        clear q1 q2 hcq HSW
        generalize grow (wr.drewN nq) osq = w2 at S2 ⊢
        clear nq osq
        go_wp2_with fail
        go_roundg (gk - 1)
        case measure => omega
        case rel => exact ⟨i, h, rfl, by first | rfl | (rw [show ((i : Int) + (j : Int)) / 2 = (h : Int) by have := HH.out; omega]), him, by omega, by omega, by omega, S2, HLO, HNX⟩
    · obtain hji : j = i := by omega
      have hnl : ¬ (i : Int) < j := by omega
      rw [hji] at HHI
      obtain ⟨q, hq⟩ : ∃ q, q = i - m := ⟨_, rfl⟩
      have hBq : B.take q ++ B.drop q = B := List.take_append_drop q B
      have hlq : (B.take q).length = q := by rw [List.length_take]; have := HM.out; have := HB.out; omega
      have hmg : mrg (ltK mm) [x] B = B.take q ++ x :: B.drop q := by
        conv => lhs; rw [← hBq]
        exact mrg_one_left _ x _ _ (by rw [hq]; exact HLO.out) (by rw [hq]; exact HHI.out)
      have hS := HSW.out
      rw [show L ++ ([x] ++ (B ++ Q)) = L ++ ((B.take q).take 0 ++ (x :: ((B.take q).drop 0 ++ (B.drop q ++ Q)))) by rw [List.take_zero, List.drop_zero, ← List.append_assoc (B.take q), hBq]; rfl] at hS
      have HMG : Hid (L ++ (mrg (ltK mm) [x] B ++ Q) = L ++ (B.take q ++ (x :: (B.drop q ++ Q)))) := by rw [Hid, hmg]; simp
      have HSS := Lib.hid hS
      have HQ := Lib.hid hq
      have hqb : a + q + 1 ≤ N := by have := HM.out; have := HA.out; omega
      have hiq : (i : Int) - 1 = (a : Int) + q := by have := HM.out; have := HA.out; omega
      have wi : IntKind.i64.wrap ((i : Int) - 1) = (a : Int) + q := by rw [IntKind.wrap_i64]; omega
      have HLN := Lib.hid (show L.length + q + 1 + (B.drop q ++ Q).length = N by rw [List.length_append, List.length_drop]; have := HS.out; have := HB.out; have := HM.out; omega)
      generalize B.take q = U at *
      generalize B.drop q ++ Q = V at *
      have HU := Lib.hid hlq
      clear hS hq hmg hBq hlq HHI HLO HSW hji
      go_wp2_with fail
      go_loopg [13] q (fun gk s13 wr => ∃ t : Nat, s13 = .int .i64 ((a : Int) + t) ∧ gk + t = q ∧ Hid (SW encN w0 blk off (L ++ (U.take t ++ (x :: (U.drop t ++ V)))).toArray wr))
      case atStart => exact ⟨0, by simp, by omega, HSS⟩
      case round =>
        clear HSS
        obtain ⟨t, rfl, ht, HSW⟩ := hrel
        by_cases htq : t < q
        · obtain ⟨y, hy⟩ : ∃ y, U.drop t = y :: U.drop (t + 1) := ⟨U[t]'(by have := HU.out; omega), List.drop_eq_getElem_cons (by have := HU.out; omega)⟩
          have hyt : U.take (t + 1) = U.take t ++ [y] := by rw [List.take_add_one, drop_get hy]; rfl
          have hS := HSW.out
          rw [hy, show L ++ (U.take t ++ (x :: (y :: U.drop (t + 1) ++ V))) = (L ++ U.take t) ++ x :: ([] ++ y :: (U.drop (t + 1) ++ V)) by simp] at hS
          have hsw := row_swap hS R (by rw [HN.out]; have := HU.out; have := HLN.out; simp; omega) (i := a + t) (j := a + t + 1) (by have := HU.out; have := HA.out; simp; omega) (by have := HU.out; have := HA.out; simp; omega)
          rw [show (L ++ U.take t) ++ y :: ([] ++ x :: (U.drop (t + 1) ++ V)) = L ++ (U.take (t + 1) ++ (x :: (U.drop (t + 1) ++ V))) by rw [hyt]; simp] at hsw
          obtain ⟨q1, q2, q3, q4, ⟨u, q5⟩, _, q6, _⟩ := hsw
          obtain ⟨p1, hp1⟩ : ∃ p, p = a + t := ⟨_, rfl⟩
          obtain ⟨p2, hp2⟩ : ∃ p, p = a + t + 1 := ⟨_, rfl⟩
          rw [← hp2] at q2 q4 q5 q6
          rw [← hp1] at q1 q3 q5 q6
          have v1 : IntKind.i64.wrap ((a : Int) + t + 1) = (a : Int) + t + 1 := by rw [IntKind.wrap_i64]; omega
          have t1 : ((a : Int) + t).toNat = p1 := by omega
          have t2 : ((a : Int) + t + 1).toNat = p2 := by omega
          have r1 : (0 : Int) ≤ (a : Int) + t := by omega
          have r2 : (0 : Int) ≤ (a : Int) + t + 1 := by omega
          have r3 : (a : Int) + t < N := by omega
          have r4 : (a : Int) + t + 1 < N := by omega
          have r5 : (a : Int) + t < (a : Int) + q := by omega
          have r6 : decide ((a : Int) + t < (a : Int) + q) = true := decide_eq_true r5
          have r7 : (t : Int) < q := by omega
          have r8 : decide ((t : Int) < q) = true := decide_eq_true r7
          have H6 := Lib.hid q6
          clear hy hyt hS q6 HSW hp1 hp2
          go_wp2_with fail
          go_big_region_o
          go_wp2_with fail
          go_roundg (gk - 1)
          case measure => omega
          case rel => exact ⟨t + 1, by first | rfl | (congr 1; omega), by omega, H6⟩
        · have htq2 : t = q := by omega
          have r5 : ¬ (a : Int) + t < (a : Int) + q := by omega
          have r6 : decide ((a : Int) + t < (a : Int) + q) = false := decide_eq_false r5
          have r7 : ¬ (t : Int) < q := by omega
          have r8 : decide ((t : Int) < q) = false := decide_eq_false r7
          have hS := HSW.out
          have x1 : U.take q = U := List.take_of_length_le (by have := HU.out; omega)
          have x2 : U.drop q = [] := List.drop_eq_nil_of_le (by have := HU.out; omega)
          rw [htq2, x1, x2, List.nil_append] at hS
          have H7 := Lib.hid hS
          clear hS htq2 HSW
          go_wp2_with fail
          exact bodyPost_ret (v := .tuple #[]) (by simp [results, Tryz.results146, go_sem]) rfl ⟨rfl, by rw [HMG.out]; exact H7.out⟩
end Go.Proofs.YtcnpmebihdonoaaGreatDoor
namespace Go.Proofs.YtcnpmebihdonoaaGreatDoor
open Go.RowKit Go.Lib
set_option linter.unusedSimpArgs false
set_option linter.unusedVariables false
variable {Mx : Nat}
open Go.Sort Go.Shelf in
set_option maxHeartbeats 4000000 in
set_option maxRecDepth 100000 in
theorem symOneR_c (mm : Fin (Mx + 1) → Int) (cb : Array Value) {w0 : World} {blk off : Nat} {d0 : Array (Fin (Mx + 1))} (R : Row1 encN w0 blk off d0) (N : Nat) (hN : d0.size = N) (hsz : N < 4611686018427387904) (hC : CmpLays1 Tryz.prog 88 cb encN (cmpK mm) blk off N w0)
    (L A Q : List (Fin (Mx + 1))) (y : Fin (Mx + 1)) (a m b cap : Nat) (w : World) (ha : a = L.length) (hm : m = L.length + A.length) (hb : b = L.length + A.length + 1) (hA2 : 1 < A.length) (hs : N = L.length + A.length + 1 + Q.length) (sA : Asc (ltK mm) A)
    (S : SW encN w0 blk off (L ++ (A ++ ([y] ++ Q))).toArray w) :
    Calls Tryz.prog 146 #[.slice (some ⟨blk, off, none⟩) N cap, .int .i64 (a : Int), .int .i64 (m : Int), .int .i64 (b : Int), .func (.func 88) #[] cb] w fun e w' => e = .returned (.tuple #[]) ∧ SW encN w0 blk off (L ++ (mrg (ltK mm) A [y] ++ Q)).toArray w' := by
  have mixed : Tryz.prog.follows .mixedOrders = true := by kernel_rfl
  have eg : ∀ (args : Array Value) (w : World), (callFunc 88 args).run Tryz.prog w = .ok (.enter 88 args) w := enters_of Tryz.func88 (by kernel_rfl) rfl
  have hcl0 := R.hO.cells
  simp only [Value.cells] at hcl0
  have hst := R.hO.store Tryz.prog
  have HSW0 := Lib.hid S
  have HGB := Lib.hid (fun t z (h : A[t]? = some z) => get_A (L := L) (A := A) (T := [y] ++ Q) (a := a) ha h)
  have HGA := Lib.hid (get_B (L := L) (A := A) (B := [y]) (T := Q) (m := m) hm (t := 0) (y := y) rfl)
  have HLS := Lib.hid (fun t z (h : A[t]? = some z) => low_step sA h)
  have HL := Lib.hid (show (L ++ (A ++ ([y] ++ Q))).length = N by simp; omega)
  have HA := Lib.hid ha
  have HM := Lib.hid hm
  have HB := Lib.hid hb
  have HS := Lib.hid hs
  have HN := Lib.hid hN
  have HC := Lib.hid hC
  obtain ⟨la, hla⟩ : ∃ q, q = A.length := ⟨_, rfl⟩
  have w0' : IntKind.i64.wrap ((m : Int) - a) = (la : Int) := by rw [IntKind.wrap_i64]; omega
  have z0 : (m : Int) - a = (la : Int) := by omega
  have z0b : ((la : Int) == 1) = false := beq_eq_false_iff_ne.2 (by omega)
  have w1 : IntKind.i64.wrap ((b : Int) - m) = 1 := by rw [IntKind.wrap_i64]; omega
  have z1 : (b : Int) - m = 1 := by omega
  have ham : a ≤ m := by omega
  have hmb : m + 1 ≤ b := by omega
  have hbN : b ≤ N := by omega
  clear S ha hm hb hs hN hC sA hA2 hla
  go_enter Tryz.func146, Tryz.ntmps146
  go_wp2_with fail
  go_loopg [14, 15, 16] (m - a) (fun gk s10 s11 s12 wr => ∃ i j : Nat, s10 = .int .i64 i ∧ s11 = .int .i64 j ∧ a ≤ i ∧ i ≤ j ∧ j ≤ m ∧ j - i ≤ gk ∧ Hid (SW encN w0 blk off (L ++ (A ++ ([y] ++ Q))).toArray wr) ∧ Hid (∀ z ∈ A.take (i - a), ltK mm y z = false) ∧ Hid (∀ z ∈ A.drop (j - a), ltK mm y z = true))
  case atStart => exact ⟨a, m, rfl, rfl, Nat.le_refl _, ham, Nat.le_refl _, by omega, HSW0, by simp [Hid], by rw [Hid, List.drop_eq_nil_of_le (by have := HM.out; have := HA.out; omega)]; simp⟩
  case round =>
    clear HSW0
    obtain ⟨i, j, rfl, rfl, him, hij, hjb, hgk, HSW, HLO, HHI⟩ := hrel
    by_cases hlt : i < j
    · obtain ⟨h, hh⟩ : ∃ h, h = (i + j) / 2 := ⟨_, rfl⟩
      obtain ⟨z, hz⟩ : ∃ z, A[h - a]? = some z := ⟨A[h - a]'(by have := HM.out; have := HA.out; omega), List.getElem?_eq_getElem _⟩
      have eh : (((i : Int) + (j : Int)) / 2).toNat = h := by omega
      have ph : (0 : Int) ≤ ((i : Int) + (j : Int)) / 2 := by omega
      have bh : ((i : Int) + (j : Int)) / 2 < (N : Int) := by omega
      have hi2 : (i : Int) < j := by omega
      have pa : (0 : Int) ≤ (m : Int) := by omega
      have baN : (m : Int) < N := by omega
      have hgb := HGB.out _ z hz
      rw [show a + (h - a) = h by omega] at hgb
      have q1 := row_cell HSW.out R (by rw [HL.out, HN.out]) hgb
      have q2 := row_cell HSW.out R (by rw [HL.out, HN.out]) HGA.out
      rw [Nat.add_zero] at q2
      have hcq := HSW.out.cmp HC.out (by have := HL.out; simpa using this) y z
      have hls := HLS.out _ z hz
      have HH := Lib.hid hh
      have HLS2 := Lib.hid hls
      have hhi : i ≤ h := by omega
      have hhj : h < j := by omega
      clear hz hgb hh hls
      cases hlv : ltK mm y z with
      | true =>
        have hd := cmp_lt hlv
        have HNX : Hid (∀ x ∈ A.drop (h - a), ltK mm y x = true) := fun x hx => by
          have e1 := HLS2.out.2 x hx
          have e2 := of_decide_eq_true hlv
          exact decide_eq_true (by omega)
        clear hlv
        go_wp2_with fail
        go_quiet_grown (first | (go_at_fn 88; refine Calls.grown_of (hcq _ _)))
        have S2 := Lib.hid (HSW.out.grown nq osq)
        clear q1 q2 hcq HSW
        generalize grow (wr.drewN nq) osq = w2 at S2 ⊢
        clear nq osq
        go_wp2_with fail
        go_roundg (gk - 1)
        case measure => omega
        case rel => exact ⟨i, h, rfl, by first | rfl | (rw [show ((i : Int) + (j : Int)) / 2 = (h : Int) by have := HH.out; omega]), him, by omega, by omega, by omega, S2, HLO, HNX⟩
      | false =>
        have hd := cmp_ge hlv
        have HNX : Hid (∀ x ∈ A.take (h + 1 - a), ltK mm y x = false) := fun x hx => by
          rw [show h + 1 - a = h - a + 1 by omega] at hx
          have e1 := HLS2.out.1 x hx
          have e2 := of_decide_eq_false hlv
          exact decide_eq_false (by omega)
        clear hlv
        go_wp2_with fail
        go_quiet_grown (first | (go_at_fn 88; refine Calls.grown_of (hcq _ _)))
        have S2 := Lib.hid (HSW.out.grown nq osq)
        clear q1 q2 hcq HSW
        generalize grow (wr.drewN nq) osq = w2 at S2 ⊢
        clear nq osq
        go_wp2_with fail
        go_roundg (gk - 1)
        case measure => omega
        case rel => exact ⟨h + 1, j, by first | rfl | (rw [show ((i : Int) + (j : Int)) / 2 + 1 = ((h + 1 : Nat) : Int) by have := HH.out; omega]), rfl, by omega, by omega, hjb, by omega, S2, HNX, HHI⟩
    · obtain hji : j = i := by omega
      have hnl : ¬ (i : Int) < j := by omega
      rw [hji] at HHI
      obtain ⟨q, hq⟩ : ∃ q, q = i - a := ⟨_, rfl⟩
      obtain ⟨r, hr⟩ : ∃ r, r = m - i := ⟨_, rfl⟩
      have hAq : A.take q ++ A.drop q = A := List.take_append_drop q A
      have hlq : (A.take q).length = q := by rw [List.length_take]; have := HM.out; have := HA.out; omega
      have hlr : (A.drop q).length = r := by rw [List.length_drop]; have := HM.out; have := HA.out; omega
      have hmg : mrg (ltK mm) A [y] = A.take q ++ y :: A.drop q := by
        conv => lhs; rw [← hAq]
        exact mrg_one_right _ y _ _ (by rw [hq]; exact HLO.out) (by rw [hq]; exact HHI.out)
      have hS := HSW.out
      rw [show L ++ (A ++ ([y] ++ Q)) = L ++ (A.take q ++ ((A.drop q).take r ++ (y :: ((A.drop q).drop r ++ Q)))) by rw [← hlr, List.take_length, List.drop_length, List.nil_append, ← List.append_assoc (A.take q), hAq]; rfl] at hS
      have HMG : Hid (L ++ (mrg (ltK mm) A [y] ++ Q) = L ++ (A.take q ++ (y :: (A.drop q ++ Q)))) := by rw [Hid, hmg]; simp
      have HSS := Lib.hid hS
      have hqb : a + q + r + 1 ≤ N := by have := HM.out; have := HA.out; have := HS.out; omega
      have hiq : (i : Int) = (a : Int) + q := by omega
      have hmr : (m : Int) = (i : Int) + r := by omega
      have HLN := Lib.hid (show L.length + q + r + 1 + Q.length = N by have := HA.out; have := HS.out; have := HB.out; have := HM.out; omega)
      have HIA := Lib.hid (show i = L.length + q by have := HA.out; omega)
      have hir : i + r ≤ N := by omega
      have hir2 : i + r < N := by omega
      generalize A.take q = U at *
      generalize A.drop q = V at *
      have HU := Lib.hid hlq
      have HV := Lib.hid hlr
      have HMR := Lib.hid hmr
      clear hS hq hmg hAq hlq hlr HHI HLO HSW hji hiq hr hqb hmr
      go_wp2_with fail
      go_loopg [17] r (fun gk s13 wr => ∃ t : Nat, s13 = .int .i64 ((i : Int) + t) ∧ t ≤ gk ∧ t ≤ r ∧ Hid (SW encN w0 blk off (L ++ (U ++ (V.take t ++ (y :: (V.drop t ++ Q))))).toArray wr))
      case atStart => exact ⟨r, by rw [HMR.out], Nat.le_refl _, Nat.le_refl _, HSS⟩
      case round =>
        clear HSS
        obtain ⟨t, rfl, ht, htr, HSW⟩ := hrel
        by_cases htq : 0 < t
        · obtain ⟨t1, ht1⟩ : ∃ q, q + 1 = t := ⟨t - 1, by omega⟩
          obtain ⟨z, hz⟩ : ∃ z, V[t1]? = some z := ⟨V[t1]'(by have := HV.out; omega), List.getElem?_eq_getElem _⟩
          have hzt : V.take t = V.take t1 ++ [z] := by rw [← ht1, List.take_add_one, hz]; rfl
          have hzd : V.drop t1 = z :: V.drop t := by
            rw [← ht1]
            obtain ⟨h1, rfl⟩ := List.getElem?_eq_some_iff.1 hz
            exact List.drop_eq_getElem_cons h1
          have hS := HSW.out
          rw [hzt, show L ++ (U ++ (V.take t1 ++ [z] ++ (y :: (V.drop t ++ Q)))) = (L ++ (U ++ V.take t1)) ++ z :: ([] ++ y :: (V.drop t ++ Q)) by simp] at hS
          have hsw := row_swap hS R (by rw [HN.out]; have := HU.out; have := HV.out; have := HLN.out; simp; omega) (i := i + t1) (j := i + t) (by have := HU.out; have := HV.out; have := HIA.out; simp; omega) (by have := HU.out; have := HV.out; have := HIA.out; simp; omega)
          rw [show (L ++ (U ++ V.take t1)) ++ y :: ([] ++ z :: (V.drop t ++ Q)) = L ++ (U ++ (V.take t1 ++ (y :: (V.drop t1 ++ Q)))) by rw [hzd]; simp] at hsw
          obtain ⟨q1, q2, q3, q4, _, ⟨u, q5⟩, _, q6⟩ := hsw
          obtain ⟨p1, hp1⟩ : ∃ p, p = i + t1 := ⟨_, rfl⟩
          obtain ⟨p2, hp2⟩ : ∃ p, p = i + t := ⟨_, rfl⟩
          rw [← hp1] at q1 q3 q5 q6
          rw [← hp2] at q2 q4 q5 q6
          have v1 : IntKind.i64.wrap ((i : Int) + t - 1) = (i : Int) + t - 1 := by rw [IntKind.wrap_i64]; omega
          have t1' : ((i : Int) + t - 1).toNat = p1 := by omega
          have t2 : ((i : Int) + t).toNat = p2 := by omega
          have r1 : (0 : Int) ≤ (i : Int) + t := by omega
          have r2 : (0 : Int) ≤ (i : Int) + t - 1 := by omega
          have r3 : (i : Int) + t < N := by omega
          have r4 : (i : Int) + t - 1 < N := by omega
          have r5 : (i : Int) < (i : Int) + t := by omega
          have r6 : decide ((i : Int) < (i : Int) + t) = true := decide_eq_true r5
          have r7 : (0 : Int) < t := by omega
          have r8 : decide ((0 : Int) < t) = true := decide_eq_true r7
          have H6 := Lib.hid q6
          have HT1 := Lib.hid ht1
          clear hz hzt hzd hS q6 HSW hp1 hp2 ht1
          go_wp2_with fail
          go_big_region_o
          go_wp2_with fail
          go_roundg t1
          case measure => have := HT1.out; omega
          case rel => exact ⟨t1, by first | rfl | (congr 1; have := HT1.out; omega), Nat.le_refl _, by have := HT1.out; omega, H6⟩
        · have htq2 : t = 0 := by omega
          have r5 : ¬ (i : Int) < (i : Int) + t := by omega
          have r6 : decide ((i : Int) < (i : Int) + t) = false := decide_eq_false r5
          have r7 : ¬ (0 : Int) < t := by omega
          have r8 : decide ((0 : Int) < t) = false := decide_eq_false r7
          have hS := HSW.out
          rw [htq2, List.take_zero, List.drop_zero, List.nil_append] at hS
          have H7 := Lib.hid hS
          clear hS htq2 HSW
          go_wp2_with fail
          exact bodyPost_ret (v := .tuple #[]) (by simp [results, Tryz.results146, go_sem]) rfl ⟨rfl, by rw [HMG.out]; exact H7.out⟩
end Go.Proofs.YtcnpmebihdonoaaGreatDoor
