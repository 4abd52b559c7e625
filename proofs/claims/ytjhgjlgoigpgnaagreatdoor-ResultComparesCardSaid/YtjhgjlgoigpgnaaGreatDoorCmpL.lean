/- The law ResultCompares, walked. -/
import Derived.Test.YtjhgjlgoigpgnaaGreatDoorCmpE
namespace Go.Proofs.YtjhgjlgoigpgnaaGreatDoor
open Go.RowKit Go.Lib
set_option linter.unusedSimpArgs false
theorem box6 (w : World) (a0 a1 a2 b0 b1 b2 : Value) (T : Nat) : ∃ W, w.alloc (.cells #[a0, a1, a2, b0, b1, b2] T) = W ∧ Gr w W ∧ W.cell? ⟨w.heap.size, 0, none⟩ = some a0 ∧ W.cell? ⟨w.heap.size, 1, none⟩ = some a1 ∧ W.cell? ⟨w.heap.size, 2, none⟩ = some a2 ∧
    W.cell? ⟨w.heap.size, 3, none⟩ = some b0 ∧ W.cell? ⟨w.heap.size, 4, none⟩ = some b1 ∧ W.cell? ⟨w.heap.size, 5, none⟩ = some b2 :=
  ⟨_, rfl, (Gr.refl w).alloc _, cell_new w _ T 0 (by simp), cell_new w _ T 1 (by simp), cell_new w _ T 2 (by simp), cell_new w _ T 3 (by simp), cell_new w _ T 4 (by simp), cell_new w _ T 5 (by simp)⟩
theorem box333 (w : World) (a0 a1 a2 b0 b1 b2 : Value) (T : Nat) : ∃ W, ((w.alloc (.cells #[a0, a1, a2] T)).alloc (.cells #[b0, b1, b2] T)).alloc (.cells #[a0, a1, a2, b0, b1, b2] T) = W ∧ Gr w W ∧
    (W.cell? ⟨w.heap.size, 0, none⟩ = some a0 ∧ W.cell? ⟨w.heap.size, 1, none⟩ = some a1 ∧ W.cell? ⟨w.heap.size, 2, none⟩ = some a2) ∧
    (W.cell? ⟨w.heap.size + 1, 0, none⟩ = some b0 ∧ W.cell? ⟨w.heap.size + 1, 1, none⟩ = some b1 ∧ W.cell? ⟨w.heap.size + 1, 2, none⟩ = some b2) ∧
    (W.cell? ⟨w.heap.size + 1 + 1, 0, none⟩ = some a0 ∧ W.cell? ⟨w.heap.size + 1 + 1, 1, none⟩ = some a1 ∧ W.cell? ⟨w.heap.size + 1 + 1, 2, none⟩ = some a2 ∧ W.cell? ⟨w.heap.size + 1 + 1, 3, none⟩ = some b0 ∧ W.cell? ⟨w.heap.size + 1 + 1, 4, none⟩ = some b1 ∧ W.cell? ⟨w.heap.size + 1 + 1, 5, none⟩ = some b2) := by
  obtain ⟨W2, h2, g2, p, q⟩ := box33 w a0 a1 a2 b0 b1 b2 T
  obtain ⟨W3, h3, g3, r0, r1, r2, r3, r4, r5⟩ := box6 W2 a0 a1 a2 b0 b1 b2 T
  have hs : W2.heap.size = w.heap.size + 1 + 1 := by rw [← h2, World.size_alloc, World.size_alloc]
  rw [hs] at r0 r1 r2 r3 r4 r5
  exact ⟨W3, by rw [h2, h3], g2.trans g3, ⟨g3.cell p.1, g3.cell p.2.1, g3.cell p.2.2⟩, ⟨g3.cell q.1, g3.cell q.2.1, g3.cell q.2.2⟩, r0, r1, r2, r3, r4, r5⟩
set_option maxHeartbeats 1000000 in
set_option maxRecDepth 100000 in
theorem law_long (c s c2 s2 : ByteArray) (p p2 : Option Addr) (n n2 cap cap2 : Nat) (w : World) (x y : Bool) (hx : ShortR c s n x) (hy : ShortR c2 s2 n2 y) (hxy : (x && y) = false)
    (hA : ∀ W1, Gr w W1 → Calls Tryz.prog 7 #[] W1 fun e w' => e = .returned (.bool true) ∧ Gr W1 w') :
    Calls Tryz.prog 3 #[resV c s (.slice p n cap), resV c2 s2 (.slice p2 n2 cap2)] w fun e w' => e = .returned (.bool true) ∧ Gr w w' := by
  unfold resV
  obtain ⟨W, hW, g, _, _, a0, a1, a2, b0, b1, b2⟩ := box333 w (.string c) (.string s) (.slice p n cap) (.string c2) (.string s2) (.slice p2 n2 cap2) 24
  have hS := short_c c s c2 s2 p p2 n n2 cap cap2 (w.heap.size + 1 + 1) 2 W x y hx hy a0 a1 a2 b0 b1 b2
  rw [hxy] at hS
  have HS := Lib.hid hS
  have HA := Lib.hid hA
  have HW := Lib.hid hW
  clear hS hA hW hx hy hxy a0 a1 a2 b0 b1 b2
  go_enter Tryz.func3, Tryz.ntmps3
  go_wp2_with fail
  rw [HW.out]
  refine HS.out.mono ?_
  rintro e W1 ⟨rfl, hg⟩
  replace g := g.trans hg
  go_wp2_with fail
  refine (HA.out _ g).mono ?_
  rintro e W2 ⟨rfl, hg2⟩
  go_wp2_with fail
  go_ret
  exact ⟨rfl, g.trans hg2⟩
set_option maxHeartbeats 1000000 in
set_option maxRecDepth 100000 in
theorem law_one (c s c2 s2 : ByteArray) (v v2 : Value) (xs ys : List Int) (w : World) (hS0 : StatesIn w) (h : IntsV w v xs) (h2 : IntsV w v2 ys) (k1 : ShortR c s xs.length true) (k2 : ShortR c2 s2 ys.length true) (hs : xs.length ≤ 1000) (hs2 : ys.length ≤ 1000)
    (hx : ¬ resE c s xs = 0)
    (hA : ∀ W1, Gr w W1 → Calls Tryz.prog 7 #[] W1 fun e w' => e = .returned (.bool true) ∧ Gr W1 w') :
    Calls Tryz.prog 3 #[resV c s v, resV c2 s2 v2] w fun e w' => e = .returned (.bool true) ∧ Gr w w' := by
  have hP := fun v v2 W hS h h2 => resCompare_c c s c2 s2 v v2 xs ys W hS h h2 hs hs2
  have hK1 := fun v W h => refCheck_c c s v xs W h
  have hK2 := fun v W h => refCheck_c c2 s2 v ys W h
  have hT : twoE c s c2 s2 xs ys = firstE [resE c s xs, resE c2 s2 ys, if !fitB s s2 xs ys then 2 else 0] := rfl
  unfold resV at *
  have hE : twoE c s c2 s2 xs ys = resE c s xs := by rw [hT]; unfold firstE; rw [if_neg hx]
  rw [hE, if_neg hx] at hP
  generalize resE c s xs = r1 at *
  have e1 : (r1 == 0) = false := by simpa using hx
  have e2 : (r1 != 0) = true := by simpa [bne] using e1
  clear hT hE
  obtain ⟨p, cap, rfl, _⟩ := id h.out
  obtain ⟨p2, cap2, rfl, _⟩ := id h2.out
  obtain ⟨W, hW, g, ⟨p0, p1, p3⟩, ⟨q0, q1, q3⟩, a0, a1, a2, b0, b1, b2⟩ := box333 w (.string c) (.string s) (.slice p xs.length cap) (.string c2) (.string s2) (.slice p2 ys.length cap2) 24
  have hSh := short_c c s c2 s2 p p2 xs.length ys.length cap cap2 (w.heap.size + 1 + 1) 2 W true true k1 k2 a0 a1 a2 b0 b1 b2
  have hS1 := hS0.gr g
  have hI1 := h.gr g
  have hI2 := h2.gr g
  have HS := Lib.hid hSh
  have HA := Lib.hid hA
  have HW := Lib.hid hW
  have HP := Lib.hid hP
  have HK1 := Lib.hid hK1
  have HK2 := Lib.hid hK2
  clear hSh hA hW hP hK1 hK2 k1 k2 a0 a1 a2 b0 b1 b2 hS0 h h2
  go_enter Tryz.func3, Tryz.ntmps3
  go_wp2_with fail
  rw [HW.out]
  generalize w.heap.size = B at *
  clear HW
  refine HS.out.mono ?_
  rintro e W1 ⟨rfl, hg⟩
  replace g := g.trans hg; replace p0 := hg.cell p0; replace p1 := hg.cell p1; replace p3 := hg.cell p3; replace q0 := hg.cell q0; replace q1 := hg.cell q1; replace q3 := hg.cell q3; replace hS1 := hS1.gr hg; replace hI1 := hI1.gr hg; replace hI2 := hI2.gr hg; clear hg; go_wp2_with fail
  refine (HP.out _ _ _ hS1 hI1 hI2).mono ?_
  rintro e W2 ⟨rfl, hg⟩
  replace g := g.trans hg; replace p0 := hg.cell p0; replace p1 := hg.cell p1; replace p3 := hg.cell p3; replace q0 := hg.cell q0; replace q1 := hg.cell q1; replace q3 := hg.cell q3; replace hS1 := hS1.gr hg; replace hI1 := hI1.gr hg; replace hI2 := hI2.gr hg; clear hg; go_wp2_with fail
  repeat (first
    | (with_reducible refine (HK1.out _ _ hI1).mono ?_; rintro e W3 ⟨rfl, hg⟩; replace g := g.trans hg; replace p0 := hg.cell p0; replace p1 := hg.cell p1; replace p3 := hg.cell p3; replace q0 := hg.cell q0; replace q1 := hg.cell q1; replace q3 := hg.cell q3; replace hS1 := hS1.gr hg; replace hI1 := hI1.gr hg; replace hI2 := hI2.gr hg; clear hg; go_wp2_with fail)
    | (with_reducible refine (HK2.out _ _ hI2).mono ?_; rintro e W3 ⟨rfl, hg⟩; replace g := g.trans hg; replace p0 := hg.cell p0; replace p1 := hg.cell p1; replace p3 := hg.cell p3; replace q0 := hg.cell q0; replace q1 := hg.cell q1; replace q3 := hg.cell q3; replace hS1 := hS1.gr hg; replace hI1 := hI1.gr hg; replace hI2 := hI2.gr hg; clear hg; go_wp2_with fail)
    | (with_reducible refine (HA.out _ g).mono ?_; rintro e W3 ⟨rfl, hg⟩; replace g := g.trans hg; replace p0 := hg.cell p0; replace p1 := hg.cell p1; replace p3 := hg.cell p3; replace q0 := hg.cell q0; replace q1 := hg.cell q1; replace q3 := hg.cell q3; replace hS1 := hS1.gr hg; replace hI1 := hI1.gr hg; replace hI2 := hI2.gr hg; clear hg; go_wp2_with fail))
  go_ret
  exact ⟨rfl, g⟩
set_option maxHeartbeats 1000000 in
set_option maxRecDepth 100000 in
theorem law_two (c s c2 s2 : ByteArray) (v v2 : Value) (xs ys : List Int) (w : World) (hS0 : StatesIn w) (h : IntsV w v xs) (h2 : IntsV w v2 ys) (k1 : ShortR c s xs.length true) (k2 : ShortR c2 s2 ys.length true) (hs : xs.length ≤ 1000) (hs2 : ys.length ≤ 1000)
    (hx : resE c s xs = 0) (hy : ¬ resE c2 s2 ys = 0)
    (hA : ∀ W1, Gr w W1 → Calls Tryz.prog 7 #[] W1 fun e w' => e = .returned (.bool true) ∧ Gr W1 w') :
    Calls Tryz.prog 3 #[resV c s v, resV c2 s2 v2] w fun e w' => e = .returned (.bool true) ∧ Gr w w' := by
  have hP := fun v v2 W hS h h2 => resCompare_c c s c2 s2 v v2 xs ys W hS h h2 hs hs2
  have hK1 := fun v W h => refCheck_c c s v xs W h
  have hK2 := fun v W h => refCheck_c c2 s2 v ys W h
  have hT : twoE c s c2 s2 xs ys = firstE [resE c s xs, resE c2 s2 ys, if !fitB s s2 xs ys then 2 else 0] := rfl
  unfold resV at *
  have hE : twoE c s c2 s2 xs ys = resE c2 s2 ys := by rw [hT]; unfold firstE firstE; rw [if_pos hx, if_neg hy]
  rw [hE, if_neg hy] at hP
  rw [hx] at hK1
  generalize resE c2 s2 ys = r2 at *
  have e1 : (r2 == 0) = false := by simpa using hy
  have e2 : (r2 != 0) = true := by simpa [bne] using e1
  clear hT hE hx
  obtain ⟨p, cap, rfl, _⟩ := id h.out
  obtain ⟨p2, cap2, rfl, _⟩ := id h2.out
  obtain ⟨W, hW, g, ⟨p0, p1, p3⟩, ⟨q0, q1, q3⟩, a0, a1, a2, b0, b1, b2⟩ := box333 w (.string c) (.string s) (.slice p xs.length cap) (.string c2) (.string s2) (.slice p2 ys.length cap2) 24
  have hSh := short_c c s c2 s2 p p2 xs.length ys.length cap cap2 (w.heap.size + 1 + 1) 2 W true true k1 k2 a0 a1 a2 b0 b1 b2
  have hS1 := hS0.gr g
  have hI1 := h.gr g
  have hI2 := h2.gr g
  have HS := Lib.hid hSh
  have HA := Lib.hid hA
  have HW := Lib.hid hW
  have HP := Lib.hid hP
  have HK1 := Lib.hid hK1
  have HK2 := Lib.hid hK2
  clear hSh hA hW hP hK1 hK2 k1 k2 a0 a1 a2 b0 b1 b2 hS0 h h2
  go_enter Tryz.func3, Tryz.ntmps3
  go_wp2_with fail
  rw [HW.out]
  generalize w.heap.size = B at *
  clear HW
  refine HS.out.mono ?_
  rintro e W1 ⟨rfl, hg⟩
  replace g := g.trans hg; replace p0 := hg.cell p0; replace p1 := hg.cell p1; replace p3 := hg.cell p3; replace q0 := hg.cell q0; replace q1 := hg.cell q1; replace q3 := hg.cell q3; replace hS1 := hS1.gr hg; replace hI1 := hI1.gr hg; replace hI2 := hI2.gr hg; clear hg; go_wp2_with fail
  refine (HP.out _ _ _ hS1 hI1 hI2).mono ?_
  rintro e W2 ⟨rfl, hg⟩
  replace g := g.trans hg; replace p0 := hg.cell p0; replace p1 := hg.cell p1; replace p3 := hg.cell p3; replace q0 := hg.cell q0; replace q1 := hg.cell q1; replace q3 := hg.cell q3; replace hS1 := hS1.gr hg; replace hI1 := hI1.gr hg; replace hI2 := hI2.gr hg; clear hg; go_wp2_with fail
  repeat (first
    | (with_reducible refine (HK1.out _ _ hI1).mono ?_; rintro e W3 ⟨rfl, hg⟩; replace g := g.trans hg; replace p0 := hg.cell p0; replace p1 := hg.cell p1; replace p3 := hg.cell p3; replace q0 := hg.cell q0; replace q1 := hg.cell q1; replace q3 := hg.cell q3; replace hS1 := hS1.gr hg; replace hI1 := hI1.gr hg; replace hI2 := hI2.gr hg; clear hg; go_wp2_with fail)
    | (with_reducible refine (HK2.out _ _ hI2).mono ?_; rintro e W3 ⟨rfl, hg⟩; replace g := g.trans hg; replace p0 := hg.cell p0; replace p1 := hg.cell p1; replace p3 := hg.cell p3; replace q0 := hg.cell q0; replace q1 := hg.cell q1; replace q3 := hg.cell q3; replace hS1 := hS1.gr hg; replace hI1 := hI1.gr hg; replace hI2 := hI2.gr hg; clear hg; go_wp2_with fail)
    | (with_reducible refine (HA.out _ g).mono ?_; rintro e W3 ⟨rfl, hg⟩; replace g := g.trans hg; replace p0 := hg.cell p0; replace p1 := hg.cell p1; replace p3 := hg.cell p3; replace q0 := hg.cell q0; replace q1 := hg.cell q1; replace q3 := hg.cell q3; replace hS1 := hS1.gr hg; replace hI1 := hI1.gr hg; replace hI2 := hI2.gr hg; clear hg; go_wp2_with fail))
  go_ret
  exact ⟨rfl, g⟩
set_option maxHeartbeats 1000000 in
set_option maxRecDepth 100000 in
theorem law_shape (c s c2 s2 : ByteArray) (v v2 : Value) (xs ys : List Int) (w : World) (hS0 : StatesIn w) (h : IntsV w v xs) (h2 : IntsV w v2 ys) (k1 : ShortR c s xs.length true) (k2 : ShortR c2 s2 ys.length true) (hs : xs.length ≤ 1000) (hs2 : ys.length ≤ 1000)
    (hx : resE c s xs = 0) (hy : resE c2 s2 ys = 0) (hf : fitB s s2 xs ys = false)
    (hA : ∀ W1, Gr w W1 → Calls Tryz.prog 7 #[] W1 fun e w' => e = .returned (.bool true) ∧ Gr W1 w') :
    Calls Tryz.prog 3 #[resV c s v, resV c2 s2 v2] w fun e w' => e = .returned (.bool true) ∧ Gr w w' := by
  have hP := fun v v2 W hS h h2 => resCompare_c c s c2 s2 v v2 xs ys W hS h h2 hs hs2
  have hK1 := fun v W h => refCheck_c c s v xs W h
  have hK2 := fun v W h => refCheck_c c2 s2 v ys W h
  have hT : twoE c s c2 s2 xs ys = firstE [resE c s xs, resE c2 s2 ys, if !fitB s s2 xs ys then 2 else 0] := rfl
  unfold resV at *
  have hE : twoE c s c2 s2 xs ys = 2 := by rw [hT, hx, hy, hf]; rfl
  rw [hE, if_neg (by decide)] at hP
  rw [hx] at hK1
  rw [hy] at hK2
  have hq : s.toList = [] ∧ s2.toList = [] ∧ ¬ xs.length = ys.length := by
    unfold fitB at hf
    simp at hf
    exact ⟨hf.1, hf.2.1, by have := hf.2.2; omega⟩
  obtain ⟨u1, u2, u3⟩ := hq
  have u4 : ((xs.length : Int) == ys.length) = false := by simp; omega
  have u5 : ((xs.length : Int) != ys.length) = true := by simp [bne]; omega
  clear hT hE hx hy hf
  obtain ⟨p, cap, rfl, _⟩ := id h.out
  obtain ⟨p2, cap2, rfl, _⟩ := id h2.out
  obtain ⟨W, hW, g, ⟨p0, p1, p3⟩, ⟨q0, q1, q3⟩, a0, a1, a2, b0, b1, b2⟩ := box333 w (.string c) (.string s) (.slice p xs.length cap) (.string c2) (.string s2) (.slice p2 ys.length cap2) 24
  have hSh := short_c c s c2 s2 p p2 xs.length ys.length cap cap2 (w.heap.size + 1 + 1) 2 W true true k1 k2 a0 a1 a2 b0 b1 b2
  have hS1 := hS0.gr g
  have hI1 := h.gr g
  have hI2 := h2.gr g
  have HS := Lib.hid hSh
  have HA := Lib.hid hA
  have HW := Lib.hid hW
  have HP := Lib.hid hP
  have HK1 := Lib.hid hK1
  have HK2 := Lib.hid hK2
  clear hSh hA hW hP hK1 hK2 k1 k2 a0 a1 a2 b0 b1 b2 hS0 h h2
  go_enter Tryz.func3, Tryz.ntmps3
  go_wp2_with fail
  rw [HW.out]
  generalize w.heap.size = B at *
  clear HW
  refine HS.out.mono ?_
  rintro e W1 ⟨rfl, hg⟩
  replace g := g.trans hg; replace p0 := hg.cell p0; replace p1 := hg.cell p1; replace p3 := hg.cell p3; replace q0 := hg.cell q0; replace q1 := hg.cell q1; replace q3 := hg.cell q3; replace hS1 := hS1.gr hg; replace hI1 := hI1.gr hg; replace hI2 := hI2.gr hg; clear hg; go_wp2_with fail
  refine (HP.out _ _ _ hS1 hI1 hI2).mono ?_
  rintro e W2 ⟨rfl, hg⟩
  replace g := g.trans hg; replace p0 := hg.cell p0; replace p1 := hg.cell p1; replace p3 := hg.cell p3; replace q0 := hg.cell q0; replace q1 := hg.cell q1; replace q3 := hg.cell q3; replace hS1 := hS1.gr hg; replace hI1 := hI1.gr hg; replace hI2 := hI2.gr hg; clear hg; go_wp2_with fail
  repeat (first
    | (with_reducible refine (HK1.out _ _ hI1).mono ?_; rintro e W3 ⟨rfl, hg⟩; replace g := g.trans hg; replace p0 := hg.cell p0; replace p1 := hg.cell p1; replace p3 := hg.cell p3; replace q0 := hg.cell q0; replace q1 := hg.cell q1; replace q3 := hg.cell q3; replace hS1 := hS1.gr hg; replace hI1 := hI1.gr hg; replace hI2 := hI2.gr hg; clear hg; go_wp2_with fail)
    | (with_reducible refine (HK2.out _ _ hI2).mono ?_; rintro e W3 ⟨rfl, hg⟩; replace g := g.trans hg; replace p0 := hg.cell p0; replace p1 := hg.cell p1; replace p3 := hg.cell p3; replace q0 := hg.cell q0; replace q1 := hg.cell q1; replace q3 := hg.cell q3; replace hS1 := hS1.gr hg; replace hI1 := hI1.gr hg; replace hI2 := hI2.gr hg; clear hg; go_wp2_with fail)
    | (with_reducible refine (HA.out _ g).mono ?_; rintro e W3 ⟨rfl, hg⟩; replace g := g.trans hg; replace p0 := hg.cell p0; replace p1 := hg.cell p1; replace p3 := hg.cell p3; replace q0 := hg.cell q0; replace q1 := hg.cell q1; replace q3 := hg.cell q3; replace hS1 := hS1.gr hg; replace hI1 := hI1.gr hg; replace hI2 := hI2.gr hg; clear hg; go_wp2_with fail))
  go_ret
  exact ⟨rfl, g⟩
set_option maxHeartbeats 1000000 in
set_option maxRecDepth 100000 in
theorem law_fine1 (c s c2 s2 : ByteArray) (v v2 : Value) (xs ys : List Int) (w : World) (hS0 : StatesIn w) (h : IntsV w v xs) (h2 : IntsV w v2 ys) (k1 : ShortR c s xs.length true) (k2 : ShortR c2 s2 ys.length true) (hs : xs.length ≤ 1000) (hs2 : ys.length ≤ 1000)
    (hx : resE c s xs = 0) (hy : resE c2 s2 ys = 0) (hf : fitB s s2 xs ys = true) (e1 : s.toList.isEmpty = false)
    (hA : ∀ W1, Gr w W1 → Calls Tryz.prog 7 #[] W1 fun e w' => e = .returned (.bool true) ∧ Gr W1 w') :
    Calls Tryz.prog 3 #[resV c s v, resV c2 s2 v2] w fun e w' => e = .returned (.bool true) ∧ Gr w w' := by
  have hP := fun v v2 W hS h h2 => resCompare_c c s c2 s2 v v2 xs ys W hS h h2 hs hs2
  have hK1 := fun v W h => refCheck_c c s v xs W h
  have hK2 := fun v W h => refCheck_c c2 s2 v ys W h
  have hC := fun v v2 W h h2 => refCompare_c c s c2 s2 v v2 xs ys W h h2 hs hx hy hf
  have hT : twoE c s c2 s2 xs ys = firstE [resE c s xs, resE c2 s2 ys, if !fitB s s2 xs ys then 2 else 0] := rfl
  unfold resV at *
  have e2 : ¬ s.toList = [] := by intro e; rw [e] at e1; cases e1
  have hE : twoE c s c2 s2 xs ys = 0 := by rw [hT, hx, hy, hf]; rfl
  rw [hE, if_pos rfl] at hP
  rw [hx] at hK1
  rw [hy] at hK2
  generalize ordZ s s2 xs ys = z at *
  clear hT hE hx hy hf
  obtain ⟨p, cap, rfl, _⟩ := id h.out
  obtain ⟨p2, cap2, rfl, _⟩ := id h2.out
  obtain ⟨W, hW, g, ⟨p0, p1, p3⟩, ⟨q0, q1, q3⟩, a0, a1, a2, b0, b1, b2⟩ := box333 w (.string c) (.string s) (.slice p xs.length cap) (.string c2) (.string s2) (.slice p2 ys.length cap2) 24
  have hSh := short_c c s c2 s2 p p2 xs.length ys.length cap cap2 (w.heap.size + 1 + 1) 2 W true true k1 k2 a0 a1 a2 b0 b1 b2
  have hS1 := hS0.gr g
  have hI1 := h.gr g
  have hI2 := h2.gr g
  have HS := Lib.hid hSh
  have HA := Lib.hid hA
  have HW := Lib.hid hW
  have HP := Lib.hid hP
  have HK1 := Lib.hid hK1
  have HK2 := Lib.hid hK2
  have HC := Lib.hid hC
  clear hSh hA hW hP hK1 hK2 k1 k2 a0 a1 a2 b0 b1 b2 hS0 h h2 hC
  go_enter Tryz.func3, Tryz.ntmps3
  go_wp2_with fail
  rw [HW.out]
  generalize w.heap.size = B at *
  clear HW
  refine HS.out.mono ?_
  rintro e W1 ⟨rfl, hg⟩
  replace g := g.trans hg; replace p0 := hg.cell p0; replace p1 := hg.cell p1; replace p3 := hg.cell p3; replace q0 := hg.cell q0; replace q1 := hg.cell q1; replace q3 := hg.cell q3; replace hS1 := hS1.gr hg; replace hI1 := hI1.gr hg; replace hI2 := hI2.gr hg; clear hg; go_wp2_with fail
  refine (HP.out _ _ _ hS1 hI1 hI2).mono ?_
  rintro e W2 ⟨rfl, hg⟩
  replace g := g.trans hg; replace p0 := hg.cell p0; replace p1 := hg.cell p1; replace p3 := hg.cell p3; replace q0 := hg.cell q0; replace q1 := hg.cell q1; replace q3 := hg.cell q3; replace hS1 := hS1.gr hg; replace hI1 := hI1.gr hg; replace hI2 := hI2.gr hg; clear hg; go_wp2_with fail
  repeat (first
    | (with_reducible refine (HK1.out _ _ hI1).mono ?_; rintro e W3 ⟨rfl, hg⟩; replace g := g.trans hg; replace p0 := hg.cell p0; replace p1 := hg.cell p1; replace p3 := hg.cell p3; replace q0 := hg.cell q0; replace q1 := hg.cell q1; replace q3 := hg.cell q3; replace hS1 := hS1.gr hg; replace hI1 := hI1.gr hg; replace hI2 := hI2.gr hg; clear hg; go_wp2_with fail)
    | (with_reducible refine (HK2.out _ _ hI2).mono ?_; rintro e W3 ⟨rfl, hg⟩; replace g := g.trans hg; replace p0 := hg.cell p0; replace p1 := hg.cell p1; replace p3 := hg.cell p3; replace q0 := hg.cell q0; replace q1 := hg.cell q1; replace q3 := hg.cell q3; replace hS1 := hS1.gr hg; replace hI1 := hI1.gr hg; replace hI2 := hI2.gr hg; clear hg; go_wp2_with fail)
    | (with_reducible refine (HC.out _ _ _ hI1 hI2).mono ?_; rintro e W3 ⟨rfl, hg⟩; replace g := g.trans hg; replace p0 := hg.cell p0; replace p1 := hg.cell p1; replace p3 := hg.cell p3; replace q0 := hg.cell q0; replace q1 := hg.cell q1; replace q3 := hg.cell q3; replace hS1 := hS1.gr hg; replace hI1 := hI1.gr hg; replace hI2 := hI2.gr hg; clear hg; go_wp2_with fail)
    | (with_reducible refine (HA.out _ g).mono ?_; rintro e W3 ⟨rfl, hg⟩; replace g := g.trans hg; replace p0 := hg.cell p0; replace p1 := hg.cell p1; replace p3 := hg.cell p3; replace q0 := hg.cell q0; replace q1 := hg.cell q1; replace q3 := hg.cell q3; replace hS1 := hS1.gr hg; replace hI1 := hI1.gr hg; replace hI2 := hI2.gr hg; clear hg; go_wp2_with fail))
  go_ret
  exact ⟨rfl, g⟩
set_option maxHeartbeats 1000000 in
set_option maxRecDepth 100000 in
theorem law_fine2 (c s c2 s2 : ByteArray) (v v2 : Value) (xs ys : List Int) (w : World) (hS0 : StatesIn w) (h : IntsV w v xs) (h2 : IntsV w v2 ys) (k1 : ShortR c s xs.length true) (k2 : ShortR c2 s2 ys.length true) (hs : xs.length ≤ 1000) (hs2 : ys.length ≤ 1000)
    (hx : resE c s xs = 0) (hy : resE c2 s2 ys = 0) (hf : fitB s s2 xs ys = true) (e1 : s.toList = []) (e3 : s2.toList.isEmpty = false)
    (hA : ∀ W1, Gr w W1 → Calls Tryz.prog 7 #[] W1 fun e w' => e = .returned (.bool true) ∧ Gr W1 w') :
    Calls Tryz.prog 3 #[resV c s v, resV c2 s2 v2] w fun e w' => e = .returned (.bool true) ∧ Gr w w' := by
  have hP := fun v v2 W hS h h2 => resCompare_c c s c2 s2 v v2 xs ys W hS h h2 hs hs2
  have hK1 := fun v W h => refCheck_c c s v xs W h
  have hK2 := fun v W h => refCheck_c c2 s2 v ys W h
  have hC := fun v v2 W h h2 => refCompare_c c s c2 s2 v v2 xs ys W h h2 hs hx hy hf
  have hT : twoE c s c2 s2 xs ys = firstE [resE c s xs, resE c2 s2 ys, if !fitB s s2 xs ys then 2 else 0] := rfl
  unfold resV at *
  have e2 : ¬ s2.toList = [] := by intro e; rw [e] at e3; cases e3
  have hE : twoE c s c2 s2 xs ys = 0 := by rw [hT, hx, hy, hf]; rfl
  rw [hE, if_pos rfl] at hP
  rw [hx] at hK1
  rw [hy] at hK2
  generalize ordZ s s2 xs ys = z at *
  clear hT hE hx hy hf
  obtain ⟨p, cap, rfl, _⟩ := id h.out
  obtain ⟨p2, cap2, rfl, _⟩ := id h2.out
  obtain ⟨W, hW, g, ⟨p0, p1, p3⟩, ⟨q0, q1, q3⟩, a0, a1, a2, b0, b1, b2⟩ := box333 w (.string c) (.string s) (.slice p xs.length cap) (.string c2) (.string s2) (.slice p2 ys.length cap2) 24
  have hSh := short_c c s c2 s2 p p2 xs.length ys.length cap cap2 (w.heap.size + 1 + 1) 2 W true true k1 k2 a0 a1 a2 b0 b1 b2
  have hS1 := hS0.gr g
  have hI1 := h.gr g
  have hI2 := h2.gr g
  have HS := Lib.hid hSh
  have HA := Lib.hid hA
  have HW := Lib.hid hW
  have HP := Lib.hid hP
  have HK1 := Lib.hid hK1
  have HK2 := Lib.hid hK2
  have HC := Lib.hid hC
  clear hSh hA hW hP hK1 hK2 k1 k2 a0 a1 a2 b0 b1 b2 hS0 h h2 hC
  go_enter Tryz.func3, Tryz.ntmps3
  go_wp2_with fail
  rw [HW.out]
  generalize w.heap.size = B at *
  clear HW
  refine HS.out.mono ?_
  rintro e W1 ⟨rfl, hg⟩
  replace g := g.trans hg; replace p0 := hg.cell p0; replace p1 := hg.cell p1; replace p3 := hg.cell p3; replace q0 := hg.cell q0; replace q1 := hg.cell q1; replace q3 := hg.cell q3; replace hS1 := hS1.gr hg; replace hI1 := hI1.gr hg; replace hI2 := hI2.gr hg; clear hg; go_wp2_with fail
  refine (HP.out _ _ _ hS1 hI1 hI2).mono ?_
  rintro e W2 ⟨rfl, hg⟩
  replace g := g.trans hg; replace p0 := hg.cell p0; replace p1 := hg.cell p1; replace p3 := hg.cell p3; replace q0 := hg.cell q0; replace q1 := hg.cell q1; replace q3 := hg.cell q3; replace hS1 := hS1.gr hg; replace hI1 := hI1.gr hg; replace hI2 := hI2.gr hg; clear hg; go_wp2_with fail
  repeat (first
    | (with_reducible refine (HK1.out _ _ hI1).mono ?_; rintro e W3 ⟨rfl, hg⟩; replace g := g.trans hg; replace p0 := hg.cell p0; replace p1 := hg.cell p1; replace p3 := hg.cell p3; replace q0 := hg.cell q0; replace q1 := hg.cell q1; replace q3 := hg.cell q3; replace hS1 := hS1.gr hg; replace hI1 := hI1.gr hg; replace hI2 := hI2.gr hg; clear hg; go_wp2_with fail)
    | (with_reducible refine (HK2.out _ _ hI2).mono ?_; rintro e W3 ⟨rfl, hg⟩; replace g := g.trans hg; replace p0 := hg.cell p0; replace p1 := hg.cell p1; replace p3 := hg.cell p3; replace q0 := hg.cell q0; replace q1 := hg.cell q1; replace q3 := hg.cell q3; replace hS1 := hS1.gr hg; replace hI1 := hI1.gr hg; replace hI2 := hI2.gr hg; clear hg; go_wp2_with fail)
    | (with_reducible refine (HC.out _ _ _ hI1 hI2).mono ?_; rintro e W3 ⟨rfl, hg⟩; replace g := g.trans hg; replace p0 := hg.cell p0; replace p1 := hg.cell p1; replace p3 := hg.cell p3; replace q0 := hg.cell q0; replace q1 := hg.cell q1; replace q3 := hg.cell q3; replace hS1 := hS1.gr hg; replace hI1 := hI1.gr hg; replace hI2 := hI2.gr hg; clear hg; go_wp2_with fail)
    | (with_reducible refine (HA.out _ g).mono ?_; rintro e W3 ⟨rfl, hg⟩; replace g := g.trans hg; replace p0 := hg.cell p0; replace p1 := hg.cell p1; replace p3 := hg.cell p3; replace q0 := hg.cell q0; replace q1 := hg.cell q1; replace q3 := hg.cell q3; replace hS1 := hS1.gr hg; replace hI1 := hI1.gr hg; replace hI2 := hI2.gr hg; clear hg; go_wp2_with fail))
  go_ret
  exact ⟨rfl, g⟩
set_option maxHeartbeats 1000000 in
set_option maxRecDepth 100000 in
theorem law_fine3 (c s c2 s2 : ByteArray) (v v2 : Value) (xs ys : List Int) (w : World) (hS0 : StatesIn w) (h : IntsV w v xs) (h2 : IntsV w v2 ys) (k1 : ShortR c s xs.length true) (k2 : ShortR c2 s2 ys.length true) (hs : xs.length ≤ 1000) (hs2 : ys.length ≤ 1000)
    (hx : resE c s xs = 0) (hy : resE c2 s2 ys = 0) (hf : fitB s s2 xs ys = true) (e1 : s.toList = []) (e3 : s2.toList = []) (e4 : xs.length = ys.length)
    (hA : ∀ W1, Gr w W1 → Calls Tryz.prog 7 #[] W1 fun e w' => e = .returned (.bool true) ∧ Gr W1 w') :
    Calls Tryz.prog 3 #[resV c s v, resV c2 s2 v2] w fun e w' => e = .returned (.bool true) ∧ Gr w w' := by
  have hP := fun v v2 W hS h h2 => resCompare_c c s c2 s2 v v2 xs ys W hS h h2 hs hs2
  have hK1 := fun v W h => refCheck_c c s v xs W h
  have hK2 := fun v W h => refCheck_c c2 s2 v ys W h
  have hC := fun v v2 W h h2 => refCompare_c c s c2 s2 v v2 xs ys W h h2 hs hx hy hf
  have hT : twoE c s c2 s2 xs ys = firstE [resE c s xs, resE c2 s2 ys, if !fitB s s2 xs ys then 2 else 0] := rfl
  unfold resV at *
  have e5 : ((xs.length : Int) == ys.length) = true := by simp; omega
  have e6 : ((xs.length : Int) != ys.length) = false := by simp [bne]; omega
  clear e4
  have hE : twoE c s c2 s2 xs ys = 0 := by rw [hT, hx, hy, hf]; rfl
  rw [hE, if_pos rfl] at hP
  rw [hx] at hK1
  rw [hy] at hK2
  generalize ordZ s s2 xs ys = z at *
  clear hT hE hx hy hf
  obtain ⟨p, cap, rfl, _⟩ := id h.out
  obtain ⟨p2, cap2, rfl, _⟩ := id h2.out
  obtain ⟨W, hW, g, ⟨p0, p1, p3⟩, ⟨q0, q1, q3⟩, a0, a1, a2, b0, b1, b2⟩ := box333 w (.string c) (.string s) (.slice p xs.length cap) (.string c2) (.string s2) (.slice p2 ys.length cap2) 24
  have hSh := short_c c s c2 s2 p p2 xs.length ys.length cap cap2 (w.heap.size + 1 + 1) 2 W true true k1 k2 a0 a1 a2 b0 b1 b2
  have hS1 := hS0.gr g
  have hI1 := h.gr g
  have hI2 := h2.gr g
  have HS := Lib.hid hSh
  have HA := Lib.hid hA
  have HW := Lib.hid hW
  have HP := Lib.hid hP
  have HK1 := Lib.hid hK1
  have HK2 := Lib.hid hK2
  have HC := Lib.hid hC
  clear hSh hA hW hP hK1 hK2 k1 k2 a0 a1 a2 b0 b1 b2 hS0 h h2 hC
  go_enter Tryz.func3, Tryz.ntmps3
  go_wp2_with fail
  rw [HW.out]
  generalize w.heap.size = B at *
  clear HW
  refine HS.out.mono ?_
  rintro e W1 ⟨rfl, hg⟩
  replace g := g.trans hg; replace p0 := hg.cell p0; replace p1 := hg.cell p1; replace p3 := hg.cell p3; replace q0 := hg.cell q0; replace q1 := hg.cell q1; replace q3 := hg.cell q3; replace hS1 := hS1.gr hg; replace hI1 := hI1.gr hg; replace hI2 := hI2.gr hg; clear hg; go_wp2_with fail
  refine (HP.out _ _ _ hS1 hI1 hI2).mono ?_
  rintro e W2 ⟨rfl, hg⟩
  replace g := g.trans hg; replace p0 := hg.cell p0; replace p1 := hg.cell p1; replace p3 := hg.cell p3; replace q0 := hg.cell q0; replace q1 := hg.cell q1; replace q3 := hg.cell q3; replace hS1 := hS1.gr hg; replace hI1 := hI1.gr hg; replace hI2 := hI2.gr hg; clear hg; go_wp2_with fail
  repeat (first
    | (with_reducible refine (HK1.out _ _ hI1).mono ?_; rintro e W3 ⟨rfl, hg⟩; replace g := g.trans hg; replace p0 := hg.cell p0; replace p1 := hg.cell p1; replace p3 := hg.cell p3; replace q0 := hg.cell q0; replace q1 := hg.cell q1; replace q3 := hg.cell q3; replace hS1 := hS1.gr hg; replace hI1 := hI1.gr hg; replace hI2 := hI2.gr hg; clear hg; go_wp2_with fail)
    | (with_reducible refine (HK2.out _ _ hI2).mono ?_; rintro e W3 ⟨rfl, hg⟩; replace g := g.trans hg; replace p0 := hg.cell p0; replace p1 := hg.cell p1; replace p3 := hg.cell p3; replace q0 := hg.cell q0; replace q1 := hg.cell q1; replace q3 := hg.cell q3; replace hS1 := hS1.gr hg; replace hI1 := hI1.gr hg; replace hI2 := hI2.gr hg; clear hg; go_wp2_with fail)
    | (with_reducible refine (HC.out _ _ _ hI1 hI2).mono ?_; rintro e W3 ⟨rfl, hg⟩; replace g := g.trans hg; replace p0 := hg.cell p0; replace p1 := hg.cell p1; replace p3 := hg.cell p3; replace q0 := hg.cell q0; replace q1 := hg.cell q1; replace q3 := hg.cell q3; replace hS1 := hS1.gr hg; replace hI1 := hI1.gr hg; replace hI2 := hI2.gr hg; clear hg; go_wp2_with fail)
    | (with_reducible refine (HA.out _ g).mono ?_; rintro e W3 ⟨rfl, hg⟩; replace g := g.trans hg; replace p0 := hg.cell p0; replace p1 := hg.cell p1; replace p3 := hg.cell p3; replace q0 := hg.cell q0; replace q1 := hg.cell q1; replace q3 := hg.cell q3; replace hS1 := hS1.gr hg; replace hI1 := hI1.gr hg; replace hI2 := hI2.gr hg; clear hg; go_wp2_with fail))
  go_ret
  exact ⟨rfl, g⟩
theorem isEmpty_nil {l : List UInt8} (h : l.isEmpty = true) : l = [] := by
  cases l with
  | nil => rfl
  | cons _ _ => cases h
/-- ResultCompares returns true -/
theorem lawCompares_c (c s c2 s2 : ByteArray) (v v2 : Value) (xs ys : List Int) (w : World) (hS : StatesIn w) (h : IntsV w v xs) (h2 : IntsV w v2 ys)
    (hA : ∀ W1, Gr w W1 → Calls Tryz.prog 7 #[] W1 fun e w' => e = .returned (.bool true) ∧ Gr W1 w') :
    Calls Tryz.prog 3 #[resV c s v, resV c2 s2 v2] w fun e w' => e = .returned (.bool true) ∧ Gr w w' := by
  obtain ⟨x, hx⟩ := shortR c s xs.length
  obtain ⟨y, hy⟩ := shortR c2 s2 ys.length
  cases hxy : x && y
  · obtain ⟨p, cap, rfl, _⟩ := h.out
    obtain ⟨p2, cap2, rfl, _⟩ := h2.out
    exact law_long c s c2 s2 p p2 _ _ cap cap2 w x y hx hy hxy hA
  · simp only [Bool.and_eq_true] at hxy
    obtain ⟨rfl, rfl⟩ := hxy
    have l1 : xs.length ≤ 1000 := by cases hx with | yes _ _ h3 => omega
    have l2 : ys.length ≤ 1000 := by cases hy with | yes _ _ h3 => omega
    by_cases k1 : resE c s xs = 0
    · by_cases k2 : resE c2 s2 ys = 0
      · cases kf : fitB s s2 xs ys
        · exact law_shape c s c2 s2 v v2 xs ys w hS h h2 hx hy l1 l2 k1 k2 kf hA
        · cases e1 : s.toList.isEmpty
          · exact law_fine1 c s c2 s2 v v2 xs ys w hS h h2 hx hy l1 l2 k1 k2 kf e1 hA
          · cases e2 : s2.toList.isEmpty
            · exact law_fine2 c s c2 s2 v v2 xs ys w hS h h2 hx hy l1 l2 k1 k2 kf (isEmpty_nil e1) e2 hA
            · refine law_fine3 c s c2 s2 v v2 xs ys w hS h h2 hx hy l1 l2 k1 k2 kf (isEmpty_nil e1) (isEmpty_nil e2) ?_ hA
              unfold fitB at kf
              rw [e1, e2] at kf
              simp at kf
              omega
      · exact law_two c s c2 s2 v v2 xs ys w hS h h2 hx hy l1 l2 k1 k2 hA
    · exact law_one c s c2 s2 v v2 xs ys w hS h h2 hx hy l1 l2 k1 hA
end Go.Proofs.YtjhgjlgoigpgnaaGreatDoor
