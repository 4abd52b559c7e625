/- result.Compare. -/
import Derived.Test.YtnbboheaheicnaaGreatDoorCmpG
import Derived.Test.YtnbboheaheicnaaGreatDoorGrB
import Derived.BigQuiet
namespace Go.Proofs.YtnbboheaheicnaaGreatDoor
open Go.RowKit Go.Lib
set_option linter.unusedSimpArgs false
set_option linter.unusedVariables false
/-- the error of two results that are compared -/
def twoE (c s c2 s2 : ByteArray) (xs ys : List Int) : Int := firstE [resE c s xs, resE c2 s2 ys, if !fitB s s2 xs ys then 2 else 0]
set_option maxHeartbeats 1000000 in
set_option maxRecDepth 100000 in
theorem resCompare_c (c s c2 s2 : ByteArray) (v v2 : Value) (xs ys : List Int) (w : World) (hS : StatesIn w) (h : IntsV w v xs) (h2 : IntsV w v2 ys) (hs : xs.length ≤ 1000) (hs2 : ys.length ≤ 1000) :
    Calls Tryz.prog 16 #[resV c s v, resV c2 s2 v2] w fun e w' => e = .returned (.tuple #[.int .i64 (if twoE c s c2 s2 xs ys = 0 then ordZ s s2 xs ys else 0), .int .i64 (twoE c s c2 s2 xs ys)]) ∧ Gr w w' := by
  have hR : twoE c s c2 s2 xs ys = firstE [resE c s xs, resE c2 s2 ys, if !fitB s s2 xs ys then 2 else 0] := rfl
  have hK1 := fun v W hS h => checkResult_c c s v xs W hS h hs
  have hK2 := fun v W hS h => checkResult_c c2 s2 v ys W hS h hs2
  have hF := fun v v2 W hS h h2 => fit_c c s c2 s2 v v2 xs ys W hS h h2
  have hC := fun v v2 W hS h h2 => compare_c c s c2 s2 v v2 xs ys W hS h h2 hs hs2
  unfold resV at *
  generalize resE c s xs = r1 at *
  generalize resE c2 s2 ys = r2 at *
  generalize fitB s s2 xs ys = f at *
  generalize ordZ s s2 xs ys = z at *
  obtain ⟨r3, h3, H3⟩ := if_e (!f) 2
  rw [← h3] at hR
  generalize twoE c s c2 s2 xs ys = err at *
  have hO := first_three r1 r2 r3
  rw [← hR] at hO
  have HO := Lib.hid hO
  have HK1 := Lib.hid hK1
  have HK2 := Lib.hid hK2
  have HF := Lib.hid hF
  have HC := Lib.hid hC
  replace H3 := Lib.hid H3
  clear hK1 hK2 hF hC hR hO h3
  obtain ⟨p, cap, rfl, _⟩ := id h.out
  obtain ⟨p2, cap2, rfl, _⟩ := id h2.out
  obtain ⟨W, hW, g, ⟨a0, a1, a2⟩, b0, b1, b2⟩ := box33 w (.string c) (.string s) (.slice p xs.length cap) (.string c2) (.string s2) (.slice p2 ys.length cap2) 40
  have hS1 := hS.gr g
  have hI1 := h.gr g
  have hI2 := h2.gr g
  have HW := Lib.hid hW
  clear hW hS h h2
  go_enter Tryz.func16, Tryz.ntmps16
  go_wp2_with fail
  rw [HW.out]
  generalize w.heap.size = B at *
  clear HW
  have gd := (Gr.refl W).drew
  replace a0 := gd.cell a0
  replace a1 := gd.cell a1
  replace a2 := gd.cell a2
  replace b0 := gd.cell b0
  replace b1 := gd.cell b1
  replace b2 := gd.cell b2
  replace hS1 := hS1.gr gd
  replace hI1 := hI1.gr gd
  replace hI2 := hI2.gr gd
  replace g := g.trans gd
  clear gd
  refine wp_region_held_drew (S := (fun w' => w'.cell? ⟨B, 0, none⟩ = some (.string c) ∧ w'.cell? ⟨B, 1, none⟩ = some (.string s) ∧ w'.cell? ⟨B, 2, none⟩ = some (.slice p xs.length cap) ∧ w'.cell? ⟨B + 1, 0, none⟩ = some (.string c2) ∧ w'.cell? ⟨B + 1, 1, none⟩ = some (.string s2) ∧ w'.cell? ⟨B + 1, 2, none⟩ = some (.slice p2 ys.length cap2))) (by kernel_rfl) ⟨a0, a1, a2, b0, b1, b2⟩ (fun hHeld => ?_)
  generalize W.drew = V at *
  refine wpAnyH_take (i := 0) (v := (.agg #[.string c, .string s, .slice p xs.length cap])) (op_at rfl) (by kernel_rfl) (by kernel_rfl) (by kernel_rfl) (fun _ _ _ h => h) (Or.inl ⟨rfl, fun w hSw => ?_⟩) (by assumption) ?_
  · (try dsimp only at hSw); go_simp; try with_reducible rfl
  (try simp only [Act.put, List.setIfInBounds_toArray, List.set_cons_zero, List.set_cons_succ])
  refine wpAnyH_take (i := 2) (v := (.agg #[.string c2, .string s2, .slice p2 ys.length cap2])) (op_at rfl) (by kernel_rfl) (by kernel_rfl) (by kernel_rfl) (fun _ _ _ h => h) (Or.inl ⟨rfl, fun w hSw => ?_⟩) (by assumption) ?_
  · (try dsimp only at hSw); go_simp; try with_reducible rfl
  (try simp only [Act.put, List.setIfInBounds_toArray, List.set_cons_zero, List.set_cons_succ])
  refine wpAnyH_take (i := 4) (v := (.agg #[.string c, .string s, .slice p xs.length cap])) (op_at rfl) (by kernel_rfl) (by kernel_rfl) (by kernel_rfl) (fun _ _ _ h => h) (Or.inl ⟨rfl, fun w hSw => ?_⟩) (by assumption) ?_
  · (try dsimp only at hSw); go_simp; try with_reducible rfl
  (try simp only [Act.put, List.setIfInBounds_toArray, List.set_cons_zero, List.set_cons_succ])
  refine wpAnyH_take (i := 5) (v := (.agg #[.string c2, .string s2, .slice p2 ys.length cap2])) (op_at rfl) (by kernel_rfl) (by kernel_rfl) (by kernel_rfl) (fun _ _ _ h => h) (Or.inl ⟨rfl, fun w hSw => ?_⟩) (by assumption) ?_
  · (try dsimp only at hSw); go_simp; try with_reducible rfl
  (try simp only [Act.put, List.setIfInBounds_toArray, List.set_cons_zero, List.set_cons_succ])
  refine wpAnyH_ready (rs := [1]) (by kernel_rfl) (by simp) (AllReadyH.cons (op_at rfl) (fun K hK => ?_) AllReadyH.nil)
  go_simp
  (refine (HK1.out _ _ hS1 hI1).mono ?_; rintro e W1 ⟨rfl, hg⟩; replace a0 := hg.cell a0; replace a1 := hg.cell a1; replace a2 := hg.cell a2; replace b0 := hg.cell b0; replace b1 := hg.cell b1; replace b2 := hg.cell b2; replace hS1 := hS1.gr hg; replace hI1 := hI1.gr hg; replace hI2 := hI2.gr hg; replace g := g.trans hg; clear hg)
  go_wp2_with fail
  refine hK.out _ _ ⟨a0, a1, a2, b0, b1, b2⟩ (fun hHeld => ?_)
  clear hK K
  (try simp only [Act.put, List.setIfInBounds_toArray, List.set_cons_zero, List.set_cons_succ])
  refine wpAnyH_ready (rs := [3]) (by kernel_rfl) (by simp) (AllReadyH.cons (op_at rfl) (fun K hK => ?_) AllReadyH.nil)
  go_simp
  (refine (HK2.out _ _ hS1 hI2).mono ?_; rintro e W2 ⟨rfl, hg⟩; replace a0 := hg.cell a0; replace a1 := hg.cell a1; replace a2 := hg.cell a2; replace b0 := hg.cell b0; replace b1 := hg.cell b1; replace b2 := hg.cell b2; replace hS1 := hS1.gr hg; replace hI1 := hI1.gr hg; replace hI2 := hI2.gr hg; replace g := g.trans hg; clear hg)
  go_wp2_with fail
  refine hK.out _ _ ⟨a0, a1, a2, b0, b1, b2⟩ (fun hHeld => ?_)
  clear hK K
  (try simp only [Act.put, List.setIfInBounds_toArray, List.set_cons_zero, List.set_cons_succ])
  refine wpAnyH_ready (rs := [6]) (by kernel_rfl) (by simp) (AllReadyH.cons (op_at rfl) (fun K hK => ?_) AllReadyH.nil)
  go_simp
  (refine (HF.out _ _ _ hS1 hI1 hI2).mono ?_; rintro e W4 ⟨rfl, hg⟩; replace a0 := hg.cell a0; replace a1 := hg.cell a1; replace a2 := hg.cell a2; replace b0 := hg.cell b0; replace b1 := hg.cell b1; replace b2 := hg.cell b2; replace hS1 := hS1.gr hg; replace hI1 := hI1.gr hg; replace hI2 := hI2.gr hg; replace g := g.trans hg; clear hg)
  go_wp2_with fail
  refine hK.out _ _ ⟨a0, a1, a2, b0, b1, b2⟩ (fun hHeld => ?_)
  clear hK K
  (try simp only [Act.put, List.setIfInBounds_toArray, List.set_cons_zero, List.set_cons_succ])
  refine wpAnyH_take (i := 7) (v := (.bool (!f))) (op_at rfl) (by kernel_rfl) (by kernel_rfl) (by kernel_rfl) (fun _ _ _ h => h) (Or.inl ⟨rfl, fun w hSw => ?_⟩) (by assumption) ?_
  · (try dsimp only at hSw); go_simp; try with_reducible rfl
  (try simp only [Act.put, List.setIfInBounds_toArray, List.set_cons_zero, List.set_cons_succ])
  refine wpAnyH_ready (rs := [8]) (by kernel_rfl) (by simp) (AllReadyH.cons (op_at rfl) (fun K hK => ?_) AllReadyH.nil)
  go_simp
  (refine (H3.out _).mono ?_; rintro e w' ⟨rfl, rfl⟩)
  go_wp2_with fail
  refine hK.out _ _ ⟨a0, a1, a2, b0, b1, b2⟩ (fun hHeld => ?_)
  clear hK K
  (try simp only [Act.put, List.setIfInBounds_toArray, List.set_cons_zero, List.set_cons_succ])
  refine wpAnyH_ready (rs := [9]) (by kernel_rfl) (by simp) (AllReadyH.cons (op_at rfl) (fun K hK => ?_) AllReadyH.nil)
  go_simp
  obtain ⟨W3, hW3, g3, q0, q1, q2⟩ := box3 W4 (.int .i64 r1) (.int .i64 r2) (.int .i64 r3) 26
  rw [hW3]
  clear hW3
  replace a0 := g3.cell a0
  replace a1 := g3.cell a1
  replace a2 := g3.cell a2
  replace b0 := g3.cell b0
  replace b1 := g3.cell b1
  replace b2 := g3.cell b2
  replace hS1 := hS1.gr g3
  replace hI1 := hI1.gr g3
  replace hI2 := hI2.gr g3
  replace g := g.trans g3
  refine hK.out _ _ ⟨a0, a1, a2, b0, b1, b2⟩ (fun hHeld => ?_)
  clear hK K
  (try simp only [Act.put, List.setIfInBounds_toArray, List.set_cons_zero, List.set_cons_succ])
  refine wpAnyH_ready (rs := [10]) (by kernel_rfl) (by simp) (AllReadyH.cons (op_at rfl) (fun K hK => ?_) AllReadyH.nil)
  go_simp
  (refine (HO.out _ _ W3 q0 q1 q2).mono ?_; rintro e w8 ⟨rfl, rfl⟩)
  go_wp2_with fail
  refine hK.out _ _ ⟨a0, a1, a2, b0, b1, b2⟩ (fun hHeld => ?_)
  clear hK K
  (try simp only [Act.put, List.setIfInBounds_toArray, List.set_cons_zero, List.set_cons_succ])
  refine wpAnyH_take (i := 11) (v := (.int .i64 err)) (op_at rfl) (by kernel_rfl) (by kernel_rfl) (by kernel_rfl) (fun _ _ _ h => h) (Or.inl ⟨rfl, fun w hSw => ?_⟩) (by assumption) ?_
  · (try dsimp only at hSw); go_simp; try with_reducible rfl
  (try simp only [Act.put, List.setIfInBounds_toArray, List.set_cons_zero, List.set_cons_succ])
  refine wpAnyH_done (by kernel_rfl) ?_ _
  by_cases h0 : err = 0
  · subst h0
    clear HO H3 HF HK1 HK2
    go_wp2_with fail
    refine (HC.out _ _ _ hS1 hI1 hI2).mono ?_
    rintro e W5 ⟨rfl, hg⟩
    replace g := g.trans hg
    go_wp2_with fail
    exact bodyPost_ret (v := .tuple #[.int .i64 z, .int .i64 0]) (by simp [results, Tryz.results16, go_sem]) rfl ⟨rfl, g⟩
  · have h1 : (err == 0) = false := by simpa using h0
    have h2 : (err != 0) = true := by simpa [bne] using h1
    have HQ := Lib.hid (show (if err = 0 then z else 0) = 0 from if_neg h0)
    clear HO H3 HF HK1 HK2
    go_wp2_with fail
    exact bodyPost_ret (v := .tuple #[.int .i64 0, .int .i64 err]) (by simp [results, Tryz.results16, go_sem]) rfl ⟨by first | rfl | rw [HQ.out], g⟩
end Go.Proofs.YtnbboheaheicnaaGreatDoor
namespace Go.Proofs.YtnbboheaheicnaaGreatDoor
open Go.RowKit Go.Lib
set_option linter.unusedSimpArgs false
set_option linter.unusedVariables false
theorem order_c (x y : Int) (w : World) :
    Calls Tryz.prog 101 #[.int .i64 x, .int .i64 y] w fun e w' => e = .returned (.int .i64 (cmpZ x y)) ∧ w = w' := by
  have HE : Hid (cmpZ x y = if decide (x < y) then -1 else if decide (y < x) then 1 else 0) := rfl
  cases h1 : decide (x < y) <;> cases h2 : decide (y < x)
  all_goals
    rw [h1, h2] at HE
    go_enter Tryz.func101, Tryz.ntmps101
    go_wp2_with fail
    go_ret
    exact ⟨by rw [HE.out]; rfl, rfl⟩
end Go.Proofs.YtnbboheaheicnaaGreatDoor
namespace Go.Proofs.YtnbboheaheicnaaGreatDoor
open Go.RowKit Go.Lib
set_option linter.unusedSimpArgs false
set_option linter.unusedVariables false
set_option maxHeartbeats 1000000 in
set_option maxRecDepth 100000 in
theorem refCompare_one (c s c2 s2 : ByteArray) (p p2 : Option Addr) (n n2 cap cap2 : Nat) (w : World) (h1 : s.toList.isEmpty = false) :
    Calls Tryz.prog 46 #[resV c s (.slice p n cap), resV c2 s2 (.slice p2 n2 cap2)] w fun e w' => e = .returned (.int .i64 (cmpZ (gradeZ s.toList) (gradeZ s2.toList))) ∧ Gr w w' := by
  unfold resV
  have hG := fun W => grade_c s W
  have hG2 := fun W => grade_c s2 W
  generalize gradeZ s.toList = z at *
  generalize gradeZ s2.toList = z2 at *
  have hC := fun W => order_c z z2 W
  generalize cmpZ z z2 = x at *
  have HG := Lib.hid hG
  have HG2 := Lib.hid hG2
  have HC := Lib.hid hC
  clear hG hG2 hC
  obtain ⟨W, hW, g, ⟨a0, a1, a2⟩, b0, b1, b2⟩ := box33 w (.string c) (.string s) (.slice p n cap) (.string c2) (.string s2) (.slice p2 n2 cap2) 40
  have HW := Lib.hid hW
  clear hW
  go_enter Tryz.func46, Tryz.ntmps46
  go_wp2_with fail
  rw [HW.out]
  generalize w.heap.size = B at *
  clear HW
  have gd := (Gr.refl W).drew
  replace a0 := gd.cell a0
  replace a1 := gd.cell a1
  replace a2 := gd.cell a2
  replace b0 := gd.cell b0
  replace b1 := gd.cell b1
  replace b2 := gd.cell b2
  replace g := g.trans gd
  clear gd
  refine wp_region_held_drew (S := (fun w' => w'.cell? ⟨B, 0, none⟩ = some (.string c) ∧ w'.cell? ⟨B, 1, none⟩ = some (.string s) ∧ w'.cell? ⟨B, 2, none⟩ = some (.slice p n cap) ∧ w'.cell? ⟨B + 1, 0, none⟩ = some (.string c2) ∧ w'.cell? ⟨B + 1, 1, none⟩ = some (.string s2) ∧ w'.cell? ⟨B + 1, 2, none⟩ = some (.slice p2 n2 cap2))) (by kernel_rfl) ⟨a0, a1, a2, b0, b1, b2⟩ (fun hHeld => ?_)
  generalize W.drew = V at *
  refine wpAnyH_take (i := 0) (v := (.pointer (some ⟨B, 1, none⟩))) (op_at rfl) (by kernel_rfl) (by kernel_rfl) (by kernel_rfl) (fun _ _ _ h => h) (Or.inl ⟨rfl, fun w hSw => ?_⟩) (by assumption) ?_
  · (try dsimp only at hSw); go_simp; try with_reducible rfl
  (try simp only [Act.put, List.setIfInBounds_toArray, List.set_cons_zero, List.set_cons_succ])
  refine wpAnyH_take (i := 1) (v := (.string s)) (op_at rfl) (by kernel_rfl) (by kernel_rfl) (by kernel_rfl) (fun _ _ _ h => h) (Or.inl ⟨rfl, fun w hSw => ?_⟩) (by assumption) ?_
  · (try dsimp only at hSw); go_simp; try with_reducible rfl
  (try simp only [Act.put, List.setIfInBounds_toArray, List.set_cons_zero, List.set_cons_succ])
  refine wpAnyH_take (i := 3) (v := (.pointer (some ⟨B + 1, 1, none⟩))) (op_at rfl) (by kernel_rfl) (by kernel_rfl) (by kernel_rfl) (fun _ _ _ h => h) (Or.inl ⟨rfl, fun w hSw => ?_⟩) (by assumption) ?_
  · (try dsimp only at hSw); go_simp; try with_reducible rfl
  (try simp only [Act.put, List.setIfInBounds_toArray, List.set_cons_zero, List.set_cons_succ])
  refine wpAnyH_take (i := 4) (v := (.string s2)) (op_at rfl) (by kernel_rfl) (by kernel_rfl) (by kernel_rfl) (fun _ _ _ h => h) (Or.inl ⟨rfl, fun w hSw => ?_⟩) (by assumption) ?_
  · (try dsimp only at hSw); go_simp; try with_reducible rfl
  (try simp only [Act.put, List.setIfInBounds_toArray, List.set_cons_zero, List.set_cons_succ])
  refine wpAnyH_ready (rs := [2]) (by kernel_rfl) (by simp) (AllReadyH.cons (op_at rfl) (fun K hK => ?_) AllReadyH.nil)
  go_simp
  (refine (HG.out _).mono ?_; rintro e w' ⟨rfl, rfl⟩)
  go_wp2_with fail
  refine hK.out _ _ ⟨a0, a1, a2, b0, b1, b2⟩ (fun hHeld => ?_)
  clear hK K
  (try simp only [Act.put, List.setIfInBounds_toArray, List.set_cons_zero, List.set_cons_succ])
  refine wpAnyH_ready (rs := [5]) (by kernel_rfl) (by simp) (AllReadyH.cons (op_at rfl) (fun K hK => ?_) AllReadyH.nil)
  go_simp
  (refine (HG2.out _).mono ?_; rintro e w' ⟨rfl, rfl⟩)
  go_wp2_with fail
  refine hK.out _ _ ⟨a0, a1, a2, b0, b1, b2⟩ (fun hHeld => ?_)
  clear hK K
  (try simp only [Act.put, List.setIfInBounds_toArray, List.set_cons_zero, List.set_cons_succ])
  refine wpAnyH_ready (rs := [6]) (by kernel_rfl) (by simp) (AllReadyH.cons (op_at rfl) (fun K hK => ?_) AllReadyH.nil)
  go_simp
  (refine (HC.out _).mono ?_; rintro e w' ⟨rfl, rfl⟩)
  go_wp2_with fail
  refine hK.out _ _ ⟨a0, a1, a2, b0, b1, b2⟩ (fun hHeld => ?_)
  clear hK K
  (try simp only [Act.put, List.setIfInBounds_toArray, List.set_cons_zero, List.set_cons_succ])
  refine wpAnyH_take (i := 7) (v := (.int .i64 x)) (op_at rfl) (by kernel_rfl) (by kernel_rfl) (by kernel_rfl) (fun _ _ _ h => h) (Or.inl ⟨rfl, fun w hSw => ?_⟩) (by assumption) ?_
  · (try dsimp only at hSw); go_simp; try with_reducible rfl
  (try simp only [Act.put, List.setIfInBounds_toArray, List.set_cons_zero, List.set_cons_succ])
  refine wpAnyH_done (by kernel_rfl) ?_ _
  go_wp2_with fail
  go_ret
  exact ⟨rfl, g⟩
set_option maxHeartbeats 1000000 in
set_option maxRecDepth 100000 in
theorem refCompare_two (c s c2 s2 : ByteArray) (p p2 : Option Addr) (n n2 cap cap2 : Nat) (w : World) (h1 : s.toList.isEmpty = true) (h3 : s2.toList.isEmpty = false) :
    Calls Tryz.prog 46 #[resV c s (.slice p n cap), resV c2 s2 (.slice p2 n2 cap2)] w fun e w' => e = .returned (.int .i64 (cmpZ (gradeZ s.toList) (gradeZ s2.toList))) ∧ Gr w w' := by
  unfold resV
  have hG := fun W => grade_c s W
  have hG2 := fun W => grade_c s2 W
  generalize gradeZ s.toList = z at *
  generalize gradeZ s2.toList = z2 at *
  have hC := fun W => order_c z z2 W
  generalize cmpZ z z2 = x at *
  have HG := Lib.hid hG
  have HG2 := Lib.hid hG2
  have HC := Lib.hid hC
  clear hG hG2 hC
  obtain ⟨W, hW, g, ⟨a0, a1, a2⟩, b0, b1, b2⟩ := box33 w (.string c) (.string s) (.slice p n cap) (.string c2) (.string s2) (.slice p2 n2 cap2) 40
  have HW := Lib.hid hW
  clear hW
  go_enter Tryz.func46, Tryz.ntmps46
  go_wp2_with fail
  rw [HW.out]
  generalize w.heap.size = B at *
  clear HW
  have gd := (Gr.refl W).drew
  replace a0 := gd.cell a0
  replace a1 := gd.cell a1
  replace a2 := gd.cell a2
  replace b0 := gd.cell b0
  replace b1 := gd.cell b1
  replace b2 := gd.cell b2
  replace g := g.trans gd
  clear gd
  refine wp_region_held_drew (S := (fun w' => w'.cell? ⟨B, 0, none⟩ = some (.string c) ∧ w'.cell? ⟨B, 1, none⟩ = some (.string s) ∧ w'.cell? ⟨B, 2, none⟩ = some (.slice p n cap) ∧ w'.cell? ⟨B + 1, 0, none⟩ = some (.string c2) ∧ w'.cell? ⟨B + 1, 1, none⟩ = some (.string s2) ∧ w'.cell? ⟨B + 1, 2, none⟩ = some (.slice p2 n2 cap2))) (by kernel_rfl) ⟨a0, a1, a2, b0, b1, b2⟩ (fun hHeld => ?_)
  generalize W.drew = V at *
  refine wpAnyH_take (i := 0) (v := (.pointer (some ⟨B, 1, none⟩))) (op_at rfl) (by kernel_rfl) (by kernel_rfl) (by kernel_rfl) (fun _ _ _ h => h) (Or.inl ⟨rfl, fun w hSw => ?_⟩) (by assumption) ?_
  · (try dsimp only at hSw); go_simp; try with_reducible rfl
  (try simp only [Act.put, List.setIfInBounds_toArray, List.set_cons_zero, List.set_cons_succ])
  refine wpAnyH_take (i := 1) (v := (.string s)) (op_at rfl) (by kernel_rfl) (by kernel_rfl) (by kernel_rfl) (fun _ _ _ h => h) (Or.inl ⟨rfl, fun w hSw => ?_⟩) (by assumption) ?_
  · (try dsimp only at hSw); go_simp; try with_reducible rfl
  (try simp only [Act.put, List.setIfInBounds_toArray, List.set_cons_zero, List.set_cons_succ])
  refine wpAnyH_take (i := 3) (v := (.pointer (some ⟨B + 1, 1, none⟩))) (op_at rfl) (by kernel_rfl) (by kernel_rfl) (by kernel_rfl) (fun _ _ _ h => h) (Or.inl ⟨rfl, fun w hSw => ?_⟩) (by assumption) ?_
  · (try dsimp only at hSw); go_simp; try with_reducible rfl
  (try simp only [Act.put, List.setIfInBounds_toArray, List.set_cons_zero, List.set_cons_succ])
  refine wpAnyH_take (i := 4) (v := (.string s2)) (op_at rfl) (by kernel_rfl) (by kernel_rfl) (by kernel_rfl) (fun _ _ _ h => h) (Or.inl ⟨rfl, fun w hSw => ?_⟩) (by assumption) ?_
  · (try dsimp only at hSw); go_simp; try with_reducible rfl
  (try simp only [Act.put, List.setIfInBounds_toArray, List.set_cons_zero, List.set_cons_succ])
  refine wpAnyH_ready (rs := [2]) (by kernel_rfl) (by simp) (AllReadyH.cons (op_at rfl) (fun K hK => ?_) AllReadyH.nil)
  go_simp
  (refine (HG.out _).mono ?_; rintro e w' ⟨rfl, rfl⟩)
  go_wp2_with fail
  refine hK.out _ _ ⟨a0, a1, a2, b0, b1, b2⟩ (fun hHeld => ?_)
  clear hK K
  (try simp only [Act.put, List.setIfInBounds_toArray, List.set_cons_zero, List.set_cons_succ])
  refine wpAnyH_ready (rs := [5]) (by kernel_rfl) (by simp) (AllReadyH.cons (op_at rfl) (fun K hK => ?_) AllReadyH.nil)
  go_simp
  (refine (HG2.out _).mono ?_; rintro e w' ⟨rfl, rfl⟩)
  go_wp2_with fail
  refine hK.out _ _ ⟨a0, a1, a2, b0, b1, b2⟩ (fun hHeld => ?_)
  clear hK K
  (try simp only [Act.put, List.setIfInBounds_toArray, List.set_cons_zero, List.set_cons_succ])
  refine wpAnyH_ready (rs := [6]) (by kernel_rfl) (by simp) (AllReadyH.cons (op_at rfl) (fun K hK => ?_) AllReadyH.nil)
  go_simp
  (refine (HC.out _).mono ?_; rintro e w' ⟨rfl, rfl⟩)
  go_wp2_with fail
  refine hK.out _ _ ⟨a0, a1, a2, b0, b1, b2⟩ (fun hHeld => ?_)
  clear hK K
  (try simp only [Act.put, List.setIfInBounds_toArray, List.set_cons_zero, List.set_cons_succ])
  refine wpAnyH_take (i := 7) (v := (.int .i64 x)) (op_at rfl) (by kernel_rfl) (by kernel_rfl) (by kernel_rfl) (fun _ _ _ h => h) (Or.inl ⟨rfl, fun w hSw => ?_⟩) (by assumption) ?_
  · (try dsimp only at hSw); go_simp; try with_reducible rfl
  (try simp only [Act.put, List.setIfInBounds_toArray, List.set_cons_zero, List.set_cons_succ])
  refine wpAnyH_done (by kernel_rfl) ?_ _
  go_wp2_with fail
  go_ret
  exact ⟨rfl, g⟩
theorem cmp_ne {x y : Int} (h : ¬ x = y) : ¬ cmpZ y x = 0 := fun e => h (cmpZ_zero e).symm
set_option maxHeartbeats 1000000 in
set_option maxRecDepth 100000 in
theorem refCompare_pos (c s c2 s2 : ByteArray) (b off b2 off2 n cap cap2 : Nat) (xs ys : List Int) (w : World) (h1 : s.toList.isEmpty = true) (h3 : s2.toList.isEmpty = true) (hn : xs.length = n) (hm : ys.length = n)
    (hc : ∀ i x, xs[i]? = some x → w.cell? ⟨b, off + i, none⟩ = some (.int .i64 x)) (hd : ∀ i x, ys[i]? = some x → w.cell? ⟨b2, off2 + i, none⟩ = some (.int .i64 x)) (hs : n ≤ 1000) :
    Calls Tryz.prog 46 #[resV c s (.slice (some ⟨b, off, none⟩) n cap), resV c2 s2 (.slice (some ⟨b2, off2, none⟩) n cap2)] w fun e w' => e = .returned (.int .i64 (cmpL ys xs)) ∧ Gr w w' := by
  unfold resV
  obtain ⟨W, hW, g, ⟨a0, a1, a2⟩, b0, b1, b3⟩ := box33 w (.string c) (.string s) (.slice (some ⟨b, off, none⟩) n cap) (.string c2) (.string s2) (.slice (some ⟨b2, off2, none⟩) n cap2) 40
  have HN := Lib.hid hn
  have HM := Lib.hid hm
  have HCC := Lib.hid (fun i x hx => g.cell (hc i x hx))
  have HDD := Lib.hid (fun i x hx => g.cell (hd i x hx))
  have HW := Lib.hid hW
  clear hn hm hc hd hW
  go_enter Tryz.func46, Tryz.ntmps46
  go_wp2_with fail
  rw [HW.out]
  generalize w.heap.size = B at *
  clear HW
  go_loopg [5] n (fun gk s5 wr => ∃ k : Nat, s5 = .int .i64 k ∧ gk + k = n ∧ Gr W wr ∧ Hid (cmpL (ys.drop k) (xs.drop k) = cmpL ys xs))
  case atStart => exact ⟨0, rfl, by omega, Gr.refl _, by simp [Hid]⟩
  case round =>
    obtain ⟨k, rfl, hk, hg, HF⟩ := hrel
    replace a2 := hg.cell a2
    replace b3 := hg.cell b3
    by_cases hlt : k < n
    · obtain ⟨x, hx⟩ : ∃ x, xs[k]? = some x := ⟨xs[k]'(by have := HN.out; omega), List.getElem?_eq_getElem _⟩
      obtain ⟨y, hy⟩ : ∃ y, ys[k]? = some y := ⟨ys[k]'(by have := HM.out; omega), List.getElem?_eq_getElem _⟩
      have hx1 := hg.cell (HCC.out k x hx)
      have hy1 := hg.cell (HDD.out k y hy)
      have hf := cmpL_drop hy hx
      have HO := Lib.hid (fun W => order_c y x W)
      have hi : (k : Int) < n := by omega
      clear hx hy
      by_cases h0 : x = y
      · subst h0
        rw [if_pos (cmpZ_self x)] at hf
        have HF2 := Lib.hid hf
        clear hf
        go_wp2_with fail
        go_big_quiet (fail)
        go_wp2_with fail
        go_roundg (gk - 1)
        case measure => omega
        case rel => exact ⟨k + 1, by go_num, by omega, hg.drewN _, by unfold Hid; rw [← HF2.out, HF.out]⟩
      · rw [if_neg (cmp_ne h0)] at hf
        have HF2 := Lib.hid hf
        have q1 : (x == y) = false := by simpa using h0
        have q2 : (x != y) = true := by simpa [bne] using q1
        clear hf
        generalize cmpZ y x = z at *
        go_wp2_with fail
        go_big_quiet (fail)
        go_wp2_with fail
        have gq := (Gr.refl wr).drewN nq
        replace hg := hg.trans gq
        replace a2 := gq.cell a2
        replace b3 := gq.cell b3
        replace hx1 := gq.cell hx1
        replace hy1 := gq.cell hy1
        clear gq
        generalize wr.drewN nq = wq at *
        go_quiet ((go_at_call 101; with_reducible exact quietE (HO.out _)))
        go_wp2_with fail
        go_ret
        exact ⟨by rw [← HF.out, HF2.out]; rfl, g.trans (hg.drewN _)⟩
    · have hf := cmpL_end (xs := ys) (ys := xs) (k := k) (by have := HM.out; omega)
      rw [decide_eq_false (by have := HN.out; omega)] at hf
      have HF2 := Lib.hid hf
      have hi : (n : Int) ≤ k := by omega
      clear hf
      go_wp2_with fail
      go_ret
      exact ⟨by rw [← HF.out, HF2.out]; rfl, g.trans hg⟩
set_option maxRecDepth 100000 in
theorem refCompare_nil (c s c2 s2 : ByteArray) (p p2 : Option Addr) (cap cap2 : Nat) (w : World) (h1 : s.toList.isEmpty = true) (h3 : s2.toList.isEmpty = true) :
    Calls Tryz.prog 46 #[resV c s (.slice p 0 cap), resV c2 s2 (.slice p2 0 cap2)] w fun e w' => e = .returned (.int .i64 0) ∧ Gr w w' := by
  unfold resV
  obtain ⟨W, hW, g, ⟨a0, a1, a2⟩, b0, b1, b3⟩ := box33 w (.string c) (.string s) (.slice p 0 cap) (.string c2) (.string s2) (.slice p2 0 cap2) 40
  have HW := Lib.hid hW
  clear hW
  go_enter Tryz.func46, Tryz.ntmps46
  go_wp2_with fail
  rw [HW.out]
  generalize w.heap.size = B at *
  clear HW
  refine wp_loop_rounds 1 ?_
  rw [rounds_succ]
  go_wp2_with fail
  go_ret
  exact ⟨rfl, g⟩
theorem gradeZ_pos {l : List UInt8} (h : l.isEmpty = false) (h1 : (gradeZ l == -1) = false) : 0 < gradeZ l := by
  unfold gradeZ at *
  split
  · rename_i e; rw [e] at h; cases h
  split
  · decide
  split
  · decide
  split
  · decide
  · rename_i h2 h3 h4 h5
    rw [if_neg h2, if_neg h3, if_neg h4, if_neg h5] at h1
    cases h1
/-- a result without an error -/
theorem resE_zero {c s : ByteArray} {xs : List Int} (h : resE c s xs = 0) : (gradeZ s.toList == -1) = false ∧ (s.toList.isEmpty = false → xs = []) := by
  rw [resE_eq] at h
  split at h
  · cases h
  split at h
  · cases h
  split at h
  · cases h
  rename_i h1 h2
  refine ⟨by simpa using h1, fun he => ?_⟩
  rw [he] at h2
  simp at h2
  exact h2
theorem gradeZ_nil {l : List UInt8} (h : l.isEmpty = true) : gradeZ l = 0 := by
  cases l with
  | nil => rfl
  | cons _ _ => cases h
theorem cmpZ_pos {a b : Int} (h : a ≠ b) : cmpZ a b ≠ 0 := fun e => h (cmpZ_zero e)
theorem refCompare_c (c s c2 s2 : ByteArray) (v v2 : Value) (xs ys : List Int) (w : World) (h : IntsV w v xs) (h2 : IntsV w v2 ys) (hs : xs.length ≤ 1000)
    (hx : resE c s xs = 0) (hy : resE c2 s2 ys = 0) (hf : fitB s s2 xs ys = true) :
    Calls Tryz.prog 46 #[resV c s v, resV c2 s2 v2] w fun e w' => e = .returned (.int .i64 (ordZ s s2 xs ys)) ∧ Gr w w' := by
  obtain ⟨x1, x2⟩ := resE_zero hx
  obtain ⟨y1, y2⟩ := resE_zero hy
  obtain ⟨p, cap, rfl, hh⟩ := h.out
  obtain ⟨p2, cap2, rfl, hh2⟩ := h2.out
  have hO : ordZ s s2 xs ys = if cmpZ (gradeZ s.toList) (gradeZ s2.toList) = 0 then (if cmpL ys xs = 0 then 0 else cmpL ys xs) else cmpZ (gradeZ s.toList) (gradeZ s2.toList) := rfl
  cases e1 : s.toList.isEmpty
  · have hz : ordZ s s2 xs ys = cmpZ (gradeZ s.toList) (gradeZ s2.toList) := by
      rw [hO]
      split
      · rename_i h0
        have hg := cmpZ_zero h0
        have hp := gradeZ_pos e1 x1
        have e2 : s2.toList.isEmpty = false := by
          cases e2 : s2.toList.isEmpty
          · rfl
          · have := gradeZ_nil e2; omega
        rw [x2 e1, y2 e2, h0]; rfl
      · rfl
    rw [hz]
    exact refCompare_one c s c2 s2 p p2 _ _ cap cap2 w e1
  · cases e2 : s2.toList.isEmpty
    · have hz : ordZ s s2 xs ys = cmpZ (gradeZ s.toList) (gradeZ s2.toList) := by
        rw [hO, if_neg (cmpZ_pos (by have := gradeZ_pos e2 y1; have := gradeZ_nil e1; omega))]
      rw [hz]
      exact refCompare_two c s c2 s2 p p2 _ _ cap cap2 w e1 e2
    · have hl : ys.length = xs.length := by
        unfold fitB at hf
        rw [e1, e2] at hf
        simp at hf
        omega
      have hz : ordZ s s2 xs ys = cmpL ys xs := by
        rw [hO, gradeZ_nil e1, gradeZ_nil e2, if_pos (cmpZ_self 0)]
        split
        · rename_i h0; exact h0.symm
        · rfl
      rw [hz, hl]
      by_cases h0 : 0 < xs.length
      · obtain ⟨b, off, rfl, hc⟩ := hh h0
        obtain ⟨b2, off2, rfl, hd⟩ := hh2 (by omega)
        exact refCompare_pos c s c2 s2 b off b2 off2 _ cap cap2 xs ys w e1 e2 rfl hl hc hd hs
      · have hx0 : xs = [] := List.eq_nil_of_length_eq_zero (by omega)
        have hy0 : ys = [] := List.eq_nil_of_length_eq_zero (by omega)
        subst hx0 hy0
        exact refCompare_nil c s c2 s2 p p2 cap cap2 w e1 e2
end Go.Proofs.YtnbboheaheicnaaGreatDoor
namespace Go.Proofs.YtnbboheaheicnaaGreatDoor
open Go.RowKit Go.Lib
set_option linter.unusedSimpArgs false
set_option linter.unusedVariables false
/-- a short result -/
inductive ShortR (c s : ByteArray) (n : Nat) : Bool → Prop where
  | name (h : 40 < c.size) : ShortR c s n false
  | state (h : c.size ≤ 40) (h2 : 40 < s.size) : ShortR c s n false
  | values (h : c.size ≤ 40) (h2 : s.size ≤ 40) (h3 : 10 < n) : ShortR c s n false
  | yes (h : c.size ≤ 40) (h2 : s.size ≤ 40) (h3 : n ≤ 10) : ShortR c s n true
theorem shortR (c s : ByteArray) (n : Nat) : ∃ b, ShortR c s n b := by
  rcases Nat.lt_or_ge 40 c.size with h | h
  · exact ⟨_, .name h⟩
  rcases Nat.lt_or_ge 40 s.size with h2 | h2
  · exact ⟨_, .state h h2⟩
  rcases Nat.lt_or_ge 10 n with h3 | h3
  · exact ⟨_, .values h h2 h3⟩
  · exact ⟨_, .yes h h2 h3⟩
set_option maxHeartbeats 1000000 in
set_option maxRecDepth 100000 in
theorem short_c (c s c2 s2 : ByteArray) (p p2 : Option Addr) (n n2 cap cap2 b cap3 : Nat) (w : World) (x y : Bool) (hx : ShortR c s n x) (hy : ShortR c2 s2 n2 y)
    (a0 : w.cell? ⟨b, 0, none⟩ = some (.string c)) (a1 : w.cell? ⟨b, 1, none⟩ = some (.string s)) (a2 : w.cell? ⟨b, 2, none⟩ = some (.slice p n cap))
    (b0 : w.cell? ⟨b, 3, none⟩ = some (.string c2)) (b1 : w.cell? ⟨b, 4, none⟩ = some (.string s2)) (b2 : w.cell? ⟨b, 5, none⟩ = some (.slice p2 n2 cap2)) :
    Calls Tryz.prog 5 #[.slice (some ⟨b, 0, none⟩) 2 cap3, .int .i64 2] w fun e w' => e = .returned (.bool (x && y)) ∧ Gr w w' := by
  go_enter Tryz.func5, Tryz.ntmps5
  go_wp2_with fail
  refine wp_loop_rounds 3 ?_
  rw [rounds_succ]
  cases hx with
  | name h =>
    go_wp2_with fail
    go_ret
    exact ⟨rfl, Gr.refl _⟩
  | state h h2 =>
    go_wp2_with fail
    go_ret
    exact ⟨rfl, Gr.refl _⟩
  | values h h2 h3 =>
    go_wp2_with fail
    go_ret
    exact ⟨rfl, Gr.refl _⟩
  | yes h h2 h3 =>
    go_wp2_with fail
    rw [rounds_succ]
    cases hy with
    | name k =>
      go_wp2_with fail
      go_ret
      exact ⟨rfl, Gr.refl _⟩
    | state k k2 =>
      go_wp2_with fail
      go_ret
      exact ⟨rfl, Gr.refl _⟩
    | values k k2 k3 =>
      go_wp2_with fail
      go_ret
      exact ⟨rfl, Gr.refl _⟩
    | yes k k2 k3 =>
      go_wp2_with fail
      rw [rounds_succ]
      go_wp2_with fail
      go_ret
      exact ⟨rfl, Gr.refl _⟩
end Go.Proofs.YtnbboheaheicnaaGreatDoor
