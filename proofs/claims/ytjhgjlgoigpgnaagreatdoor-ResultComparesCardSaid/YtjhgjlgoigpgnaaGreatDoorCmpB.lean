/- result.compare, fit, Compare. -/
import Derived.Test.YtjhgjlgoigpgnaaGreatDoorCmpA
namespace Go.Proofs.YtjhgjlgoigpgnaaGreatDoor
open Go.RowKit Go.Lib
set_option linter.unusedSimpArgs false
theorem box33 (w : World) (a0 a1 a2 b0 b1 b2 : Value) (T : Nat) : ∃ W, (w.alloc (.cells #[a0, a1, a2] T)).alloc (.cells #[b0, b1, b2] T) = W ∧ Gr w W ∧
    (W.cell? ⟨w.heap.size, 0, none⟩ = some a0 ∧ W.cell? ⟨w.heap.size, 1, none⟩ = some a1 ∧ W.cell? ⟨w.heap.size, 2, none⟩ = some a2) ∧
    (W.cell? ⟨w.heap.size + 1, 0, none⟩ = some b0 ∧ W.cell? ⟨w.heap.size + 1, 1, none⟩ = some b1 ∧ W.cell? ⟨w.heap.size + 1, 2, none⟩ = some b2) := by
  obtain ⟨W1, h1, g1, p0, p1, p2⟩ := box3 w a0 a1 a2 T
  obtain ⟨W2, h2, g2, q0, q1, q2⟩ := box3 W1 b0 b1 b2 T
  have hs : W1.heap.size = w.heap.size + 1 := by rw [← h1, World.size_alloc]
  rw [hs] at q0 q1 q2
  exact ⟨W2, by rw [h1, h2], g1.trans g2, ⟨g2.cell p0, g2.cell p1, g2.cell p2⟩, q0, q1, q2⟩
/-- the comparison of two results that fit -/
def ordZ (s s2 : ByteArray) (xs ys : List Int) : Int := firstE [cmpZ (gradeZ s.toList) (gradeZ s2.toList), cmpL ys xs]
set_option maxHeartbeats 1000000 in
set_option maxRecDepth 100000 in
theorem compare_c (c s c2 s2 : ByteArray) (v v2 : Value) (xs ys : List Int) (w : World) (hS : StatesIn w) (h : IntsV w v xs) (h2 : IntsV w v2 ys) (hs : xs.length ≤ 1000) (hs2 : ys.length ≤ 1000) :
    Calls Tryz.prog 40 #[resV c s v, resV c2 s2 v2] w fun e w' => e = .returned (.int .i64 (ordZ s s2 xs ys)) ∧ Gr w w' := by
  unfold resV
  have hB := fun W h => badness_c s W h
  have hB2 := fun W h => badness_c s2 W h
  have hR : ordZ s s2 xs ys = firstE [cmpZ (gradeZ s.toList) (gradeZ s2.toList), cmpL ys xs] := rfl
  have hL := fun v v2 W h h2 => lists_c (v := v) (v2 := v2) (xs := ys) (ys := xs) (w := W) h h2 hs2 hs
  generalize gradeZ s.toList = z at *
  generalize gradeZ s2.toList = z2 at *
  have hC := fun W => cmpInt_c z z2 W
  generalize cmpZ z z2 = x at *
  generalize cmpL ys xs = y at *
  have HO := Lib.hid (or_c x y)
  have HB := Lib.hid hB
  have HB2 := Lib.hid hB2
  have HC := Lib.hid hC
  have HL := Lib.hid hL
  have HR := Lib.hid hR
  clear hB hB2 hR hL hC
  obtain ⟨p, cap, rfl, _⟩ := id h.out
  obtain ⟨p2, cap2, rfl, _⟩ := id h2.out
  obtain ⟨W, hW, g, ⟨a0, a1, a2⟩, b0, b1, b2⟩ := box33 w (.string c) (.string s) (.slice p xs.length cap) (.string c2) (.string s2) (.slice p2 ys.length cap2) 24
  have hS1 := hS.gr g
  have hI1 := h.gr g
  have hI2 := h2.gr g
  have HW := Lib.hid hW
  clear hW hS h h2
  go_enter Tryz.func40, Tryz.ntmps40
  go_wp2_with fail
  rw [HW.out]
  generalize w.heap.size = B at *
  clear HW
  have gd := (Gr.refl W).drew
  replace a0 := gd.cell a0
  replace a1 := gd.cell a1
  replace a2 := gd.cell a2
  replace b0 := gd.cell b0
  replace b1 := gd.cell b1
  replace b2 := gd.cell b2
  replace hS1 := hS1.gr gd
  replace hI1 := hI1.gr gd
  replace hI2 := hI2.gr gd
  replace g := g.trans gd
  clear gd
  refine wp_region_held_drew (S := (fun w' => w'.cell? ⟨B, 0, none⟩ = some (.string c) ∧ w'.cell? ⟨B, 1, none⟩ = some (.string s) ∧ w'.cell? ⟨B, 2, none⟩ = some (.slice p xs.length cap) ∧ w'.cell? ⟨B + 1, 0, none⟩ = some (.string c2) ∧ w'.cell? ⟨B + 1, 1, none⟩ = some (.string s2) ∧ w'.cell? ⟨B + 1, 2, none⟩ = some (.slice p2 ys.length cap2))) (by kernel_rfl) ⟨a0, a1, a2, b0, b1, b2⟩ (fun hHeld => ?_)
  generalize W.drew = V at *
  refine wpAnyH_take (i := 0) (v := (.pointer (some ⟨B, 1, none⟩))) (op_at rfl) (by kernel_rfl) (by kernel_rfl) (by kernel_rfl) (fun _ _ _ h => h) (Or.inl ⟨rfl, fun w hSw => ?_⟩) (by assumption) ?_
  · (try dsimp only at hSw); go_simp; try with_reducible rfl
  (try simp only [Act.put, List.setIfInBounds_toArray, List.set_cons_zero, List.set_cons_succ])
  refine wpAnyH_take (i := 1) (v := (.string s)) (op_at rfl) (by kernel_rfl) (by kernel_rfl) (by kernel_rfl) (fun _ _ _ h => h) (Or.inl ⟨rfl, fun w hSw => ?_⟩) (by assumption) ?_
  · (try dsimp only at hSw); go_simp; try with_reducible rfl
  (try simp only [Act.put, List.setIfInBounds_toArray, List.set_cons_zero, List.set_cons_succ])
  refine wpAnyH_take (i := 3) (v := (.pointer (some ⟨B + 1, 1, none⟩))) (op_at rfl) (by kernel_rfl) (by kernel_rfl) (by kernel_rfl) (fun _ _ _ h => h) (Or.inl ⟨rfl, fun w hSw => ?_⟩) (by assumption) ?_
  · (try dsimp only at hSw); go_simp; try with_reducible rfl
  (try simp only [Act.put, List.setIfInBounds_toArray, List.set_cons_zero, List.set_cons_succ])
  refine wpAnyH_take (i := 4) (v := (.string s2)) (op_at rfl) (by kernel_rfl) (by kernel_rfl) (by kernel_rfl) (fun _ _ _ h => h) (Or.inl ⟨rfl, fun w hSw => ?_⟩) (by assumption) ?_
  · (try dsimp only at hSw); go_simp; try with_reducible rfl
  (try simp only [Act.put, List.setIfInBounds_toArray, List.set_cons_zero, List.set_cons_succ])
  refine wpAnyH_take (i := 7) (v := (.pointer (some ⟨B + 1, 2, none⟩))) (op_at rfl) (by kernel_rfl) (by kernel_rfl) (by kernel_rfl) (fun _ _ _ h => h) (Or.inl ⟨rfl, fun w hSw => ?_⟩) (by assumption) ?_
  · (try dsimp only at hSw); go_simp; try with_reducible rfl
  (try simp only [Act.put, List.setIfInBounds_toArray, List.set_cons_zero, List.set_cons_succ])
  refine wpAnyH_take (i := 8) (v := (.slice p2 ys.length cap2)) (op_at rfl) (by kernel_rfl) (by kernel_rfl) (by kernel_rfl) (fun _ _ _ h => h) (Or.inl ⟨rfl, fun w hSw => ?_⟩) (by assumption) ?_
  · (try dsimp only at hSw); go_simp; try with_reducible rfl
  (try simp only [Act.put, List.setIfInBounds_toArray, List.set_cons_zero, List.set_cons_succ])
  refine wpAnyH_take (i := 9) (v := (.pointer (some ⟨B, 2, none⟩))) (op_at rfl) (by kernel_rfl) (by kernel_rfl) (by kernel_rfl) (fun _ _ _ h => h) (Or.inl ⟨rfl, fun w hSw => ?_⟩) (by assumption) ?_
  · (try dsimp only at hSw); go_simp; try with_reducible rfl
  (try simp only [Act.put, List.setIfInBounds_toArray, List.set_cons_zero, List.set_cons_succ])
  refine wpAnyH_take (i := 10) (v := (.slice p xs.length cap)) (op_at rfl) (by kernel_rfl) (by kernel_rfl) (by kernel_rfl) (fun _ _ _ h => h) (Or.inl ⟨rfl, fun w hSw => ?_⟩) (by assumption) ?_
  · (try dsimp only at hSw); go_simp; try with_reducible rfl
  (try simp only [Act.put, List.setIfInBounds_toArray, List.set_cons_zero, List.set_cons_succ])
  refine wpAnyH_ready (rs := [2]) (by kernel_rfl) (by simp) (AllReadyH.cons (op_at rfl) (fun K hK => ?_) AllReadyH.nil)
  go_simp
  (refine (HB.out _ hS1).mono ?_; rintro e w' ⟨rfl, rfl⟩)
  go_wp2_with fail
  refine hK.out _ _ ⟨a0, a1, a2, b0, b1, b2⟩ (fun hHeld => ?_)
  clear hK K
  (try simp only [Act.put, List.setIfInBounds_toArray, List.set_cons_zero, List.set_cons_succ])
  refine wpAnyH_ready (rs := [5]) (by kernel_rfl) (by simp) (AllReadyH.cons (op_at rfl) (fun K hK => ?_) AllReadyH.nil)
  go_simp
  (refine (HB2.out _ hS1).mono ?_; rintro e w' ⟨rfl, rfl⟩)
  go_wp2_with fail
  refine hK.out _ _ ⟨a0, a1, a2, b0, b1, b2⟩ (fun hHeld => ?_)
  clear hK K
  (try simp only [Act.put, List.setIfInBounds_toArray, List.set_cons_zero, List.set_cons_succ])
  refine wpAnyH_ready (rs := [6]) (by kernel_rfl) (by simp) (AllReadyH.cons (op_at rfl) (fun K hK => ?_) AllReadyH.nil)
  go_simp
  (refine (HC.out _).mono ?_; rintro e w' ⟨rfl, rfl⟩)
  go_wp2_with fail
  refine hK.out _ _ ⟨a0, a1, a2, b0, b1, b2⟩ (fun hHeld => ?_)
  clear hK K
  (try simp only [Act.put, List.setIfInBounds_toArray, List.set_cons_zero, List.set_cons_succ])
  refine wpAnyH_ready (rs := [11]) (by kernel_rfl) (by simp) (AllReadyH.cons (op_at rfl) (fun K hK => ?_) AllReadyH.nil)
  go_simp
  (refine (HL.out _ _ _ hI2 hI1).mono ?_; rintro e W2 ⟨rfl, hg⟩; replace a0 := hg.cell a0; replace a1 := hg.cell a1; replace a2 := hg.cell a2; replace b0 := hg.cell b0; replace b1 := hg.cell b1; replace b2 := hg.cell b2; replace hS1 := hS1.gr hg; replace hI1 := hI1.gr hg; replace hI2 := hI2.gr hg; replace g := g.trans hg; clear hg)
  go_wp2_with fail
  refine hK.out _ _ ⟨a0, a1, a2, b0, b1, b2⟩ (fun hHeld => ?_)
  clear hK K
  (try simp only [Act.put, List.setIfInBounds_toArray, List.set_cons_zero, List.set_cons_succ])
  refine wpAnyH_ready (rs := [12]) (by kernel_rfl) (by simp) (AllReadyH.cons (op_at rfl) (fun K hK => ?_) AllReadyH.nil)
  go_simp
  obtain ⟨W3, hW3, g3, q0, q1⟩ := box2 W2 (.int .i64 x) (.int .i64 y) 3
  rw [hW3]
  clear hW3
  replace a0 := g3.cell a0
  replace a1 := g3.cell a1
  replace a2 := g3.cell a2
  replace b0 := g3.cell b0
  replace b1 := g3.cell b1
  replace b2 := g3.cell b2
  replace hS1 := hS1.gr g3
  replace hI1 := hI1.gr g3
  replace hI2 := hI2.gr g3
  replace g := g.trans g3
  refine hK.out _ _ ⟨a0, a1, a2, b0, b1, b2⟩ (fun hHeld => ?_)
  clear hK K
  (try simp only [Act.put, List.setIfInBounds_toArray, List.set_cons_zero, List.set_cons_succ])
  refine wpAnyH_ready (rs := [13]) (by kernel_rfl) (by simp) (AllReadyH.cons (op_at rfl) (fun K hK => ?_) AllReadyH.nil)
  go_simp
  (refine (HO.out _ _ W3 q0 q1).mono ?_; rintro e W4 ⟨rfl, hg⟩; replace a0 := hg.cell a0; replace a1 := hg.cell a1; replace a2 := hg.cell a2; replace b0 := hg.cell b0; replace b1 := hg.cell b1; replace b2 := hg.cell b2; replace hS1 := hS1.gr hg; replace hI1 := hI1.gr hg; replace hI2 := hI2.gr hg; replace g := g.trans hg; clear hg)
  go_wp2_with fail
  refine hK.out _ _ ⟨a0, a1, a2, b0, b1, b2⟩ (fun hHeld => ?_)
  clear hK K
  (try simp only [Act.put, List.setIfInBounds_toArray, List.set_cons_zero, List.set_cons_succ])
  refine wpAnyH_take (i := 14) (v := (.int .i64 (firstE [x, y]))) (op_at rfl) (by kernel_rfl) (by kernel_rfl) (by kernel_rfl) (fun _ _ _ h => h) (Or.inl ⟨rfl, fun w hSw => ?_⟩) (by assumption) ?_
  · (try dsimp only at hSw); go_simp; try with_reducible rfl
  (try simp only [Act.put, List.setIfInBounds_toArray, List.set_cons_zero, List.set_cons_succ])
  refine wpAnyH_done (by kernel_rfl) ?_ _
  go_wp2_with fail
  go_ret
  exact ⟨by rw [HR.out]; rfl, g⟩
/-- whether two results fit -/
def fitB (s s2 : ByteArray) (xs ys : List Int) : Bool := !s.toList.isEmpty || (!s2.toList.isEmpty || ((xs.length : Int) == ys.length))
set_option maxHeartbeats 1000000 in
set_option maxRecDepth 100000 in
theorem fit_c (c s c2 s2 : ByteArray) (v v2 : Value) (xs ys : List Int) (w : World) (hS : StatesIn w) (h : IntsV w v xs) (h2 : IntsV w v2 ys) :
    Calls Tryz.prog 39 #[resV c s v, resV c2 s2 v2] w fun e w' => e = .returned (.bool (fitB s s2 xs ys)) ∧ Gr w w' := by
  unfold resV
  have hR : fitB s s2 xs ys = (!s.toList.isEmpty || (!s2.toList.isEmpty || ((xs.length : Int) == ys.length))) := rfl
  have hV := fun v hv W => hasValues_c c s v hv W
  have hV2 := fun v hv W => hasValues_c c2 s2 v hv W
  obtain ⟨p, cap, rfl, _⟩ := id h.out
  obtain ⟨p2, cap2, rfl, _⟩ := id h2.out
  obtain ⟨W, hW, g, ⟨a0, a1, a2⟩, b0, b1, b2⟩ := box33 w (.string c) (.string s) (.slice p xs.length cap) (.string c2) (.string s2) (.slice p2 ys.length cap2) 24
  have hS1 := hS.gr g
  have hI1 := h.gr g
  have hI2 := h2.gr g
  have HW := Lib.hid hW
  clear hW hS h h2
  cases h1 : s.toList.isEmpty <;> cases h3 : s2.toList.isEmpty <;> cases h5 : ((xs.length : Int) == ys.length)
  all_goals
    rw [h1, h3, h5] at hR
    rw [h1] at hV
    rw [h3] at hV2
    have HR := Lib.hid hR
    have HV := Lib.hid hV
    have HV2 := Lib.hid hV2
    clear hR hV hV2 h1 h3
    go_enter Tryz.func39, Tryz.ntmps39
    go_wp2_with fail
    rw [HW.out]
    repeat (first
      | (with_reducible refine (HV.out _ ⟨_, _, _, rfl⟩ _).mono ?_; rintro e W1 ⟨rfl, hg⟩; replace a0 := hg.cell a0; replace a1 := hg.cell a1; replace a2 := hg.cell a2; replace b0 := hg.cell b0; replace b1 := hg.cell b1; replace b2 := hg.cell b2; replace hS1 := hS1.gr hg; replace hI1 := hI1.gr hg; replace hI2 := hI2.gr hg; replace g := g.trans hg; clear hg; go_wp2_with fail)
      | (with_reducible refine (HV2.out _ ⟨_, _, _, rfl⟩ _).mono ?_; rintro e W1 ⟨rfl, hg⟩; replace a0 := hg.cell a0; replace a1 := hg.cell a1; replace a2 := hg.cell a2; replace b0 := hg.cell b0; replace b1 := hg.cell b1; replace b2 := hg.cell b2; replace hS1 := hS1.gr hg; replace hI1 := hI1.gr hg; replace hI2 := hI2.gr hg; replace g := g.trans hg; clear hg; go_wp2_with fail))
    go_ret
    exact ⟨by rw [HR.out]; rfl, g⟩
end Go.Proofs.YtjhgjlgoigpgnaaGreatDoor
