/- Archives (chapter 10): checkVector and the reference's CheckVector. -/
import Derived.Test.YtbpgifihlppedaaGreatDoorOvI
namespace Go.Proofs.YtbpgifihlppedaaGreatDoor
open Go.RowKit Go.Lib
set_option linter.unusedSimpArgs false
set_option linter.unusedVariables false
theorem less_tri : ∀ a b : List UInt8, Op.bytesLess a b = !(Op.bytesLess b a || (b == a))
  | [], [] => by simp [Op.bytesLess]
  | [], y :: b => by simp [Op.bytesLess]
  | x :: a, [] => by simp [Op.bytesLess]
  | x :: a, y :: b => by
    unfold Op.bytesLess
    rw [less_tri a b]
    by_cases h : x = y
    · subst h
      simp
    · have h2 : ¬ y = x := fun e => h e.symm
      have hn : ¬ x.toNat = y.toNat := fun e => h (UInt8.toNat_inj.1 e)
      by_cases hl : x < y
      · have hl2 : ¬ y < x := by rw [UInt8.lt_iff_toNat_lt] at *; omega
        simp [h, h2, hl, hl2]
      · have hl2 : y < x := by rw [UInt8.lt_iff_toNat_lt] at *; omega
        simp [h, h2, hl, hl2]
theorem ltS_tri (a b : ByteArray) : (!(ltS a b)) = (ltS b a || (b.toList == a.toList)) := by
  unfold ltS
  rw [less_tri a.toList b.toList, Bool.not_not]
/-- a mark is out of order behind another one -/
def lateB (a m : MkR) : Bool := !(ltS a.de m.de)
def lateE (v : List MkR) (i : Nat) (m : MkR) : Bool := match i with
  | 0 => false
  | j + 1 => match v[j]? with
    | some a => lateB a m
    | none => false
def mkE (v : List MkR) (i : Nat) (m : MkR) : Int := firstE [nmE m.de, outE m.nu 0 1000, if lateE v i m then 11 else 0]
/-- the error of a vector that is not too long -/
def vecE (v : List MkR) : Int := errG (mkE v) v v.length 0
theorem first_threeO (x y z : Int) (b cap : Nat) (w : World) (hx : w.cell? ⟨b, 0, none⟩ = some (.int .i64 x)) (hy : w.cell? ⟨b, 1, none⟩ = some (.int .i64 y)) (hz : w.cell? ⟨b, 2, none⟩ = some (.int .i64 z)) :
    Calls Tryz.prog 55 #[.slice (some ⟨b, 0, none⟩) 3 cap] w fun e w' => e = .returned (.int .i64 (firstE [x, y, z])) ∧ w = w' :=
  first_c0 b 3 cap [x, y, z] w rfl (fun i v h => by
    rcases i with _ | _ | _ | i <;> simp at h <;> subst h <;> assumption) (by omega)
set_option maxHeartbeats 4000000 in
set_option maxRecDepth 100000 in
theorem oneMk0_c {W : World} {v : List MkR} {x : MkR} {L : Nat} :
    Calls Tryz.prog 125 #[.int .i64 0, .agg #[.string x.de, .int .i64 x.nu], .pointer (some ⟨L, 0, none⟩)] W fun e w' => e = .returned (.int .i64 (mkE v 0 x)) ∧ Gr W w' := by
  obtain ⟨z1, hz1, HNM0⟩ := oname_e x.de
  have HNM := Lib.hid HNM0
  obtain ⟨z2, hz2, HRG0⟩ := range_e x.nu 0 1000
  have HRG := Lib.hid HRG0
  obtain ⟨z3, hz3, HIF0⟩ := if_e false 11
  have HIF := Lib.hid HIF0
  have HFI := Lib.hid (fun b cap w => first_threeO z1 z2 z3 b cap w)
  obtain ⟨zo, hzo⟩ : ∃ z, z = mkE v 0 x := ⟨_, rfl⟩
  have hf : firstE [z1, z2, z3] = zo := by rw [hzo, hz1, hz2, hz3]; rfl
  rw [hf] at HFI
  rw [← hzo]
  clear HIF0 HNM0 HRG0 hf hzo hz1 hz2 hz3
  obtain ⟨W1, hW1, gW1, x0, x1⟩ := box2v W (.string x.de) (.int .i64 x.nu) 96
  have HW := Lib.hid hW1
  have g := gW1
  clear hW1 gW1
  go_enter Tryz.func125, Tryz.ntmps125
  go_wp2_with fail
  rw [HW.out]
  clear HW
  generalize W.heap.size = Bx at *
  have gd := (Gr.refl W1).drew
  replace x0 := gd.cell x0
  replace x1 := gd.cell x1
  replace g := g.trans gd
  clear gd
  refine wp_region_held_drew (S := (fun w' => w'.cell? ⟨Bx, 0, none⟩ = some (.string x.de) ∧ w'.cell? ⟨Bx, 1, none⟩ = some (.int .i64 x.nu))) (by kernel_rfl) ⟨x0, x1⟩ (fun hHeld => ?_)
  generalize W1.drew = V at *
  refine wpAnyH_take (i := 0) (v := (.pointer (some ⟨Bx, 0, none⟩))) (op_at rfl) (by kernel_rfl) (by kernel_rfl) (by kernel_rfl) (fun _ _ _ h => h) (Or.inl ⟨rfl, fun w hSw => ?_⟩) (by assumption) ?_
  · (try dsimp only at hSw); go_simp; try with_reducible rfl
  (try simp only [Act.put, List.setIfInBounds_toArray, List.set_cons_zero, List.set_cons_succ])
  refine wpAnyH_take (i := 1) (v := (.string x.de)) (op_at rfl) (by kernel_rfl) (by kernel_rfl) (by kernel_rfl) (fun _ _ _ h => h) (Or.inl ⟨rfl, fun w hSw => ?_⟩) (by assumption) ?_
  · (try dsimp only at hSw); go_simp; try with_reducible rfl
  (try simp only [Act.put, List.setIfInBounds_toArray, List.set_cons_zero, List.set_cons_succ])
  refine wpAnyH_take (i := 3) (v := (.pointer (some ⟨Bx, 1, none⟩))) (op_at rfl) (by kernel_rfl) (by kernel_rfl) (by kernel_rfl) (fun _ _ _ h => h) (Or.inl ⟨rfl, fun w hSw => ?_⟩) (by assumption) ?_
  · (try dsimp only at hSw); go_simp; try with_reducible rfl
  (try simp only [Act.put, List.setIfInBounds_toArray, List.set_cons_zero, List.set_cons_succ])
  refine wpAnyH_take (i := 4) (v := (.int .i64 x.nu)) (op_at rfl) (by kernel_rfl) (by kernel_rfl) (by kernel_rfl) (fun _ _ _ h => h) (Or.inl ⟨rfl, fun w hSw => ?_⟩) (by assumption) ?_
  · (try dsimp only at hSw); go_simp; try with_reducible rfl
  (try simp only [Act.put, List.setIfInBounds_toArray, List.set_cons_zero, List.set_cons_succ])
  refine wpAnyH_take (i := 6) (v := (.int .i64 0)) (op_at rfl) (by kernel_rfl) (by kernel_rfl) (by kernel_rfl) (fun _ _ _ h => h) (Or.inl ⟨rfl, fun w hSw => ?_⟩) (by assumption) ?_
  · (try dsimp only at hSw); go_simp; try with_reducible rfl
  (try simp only [Act.put, List.setIfInBounds_toArray, List.set_cons_zero, List.set_cons_succ])
  refine wpAnyH_take (i := 7) (v := (.bool false)) (op_at rfl) (by kernel_rfl) (by kernel_rfl) (by kernel_rfl) (fun _ _ _ h => h) (Or.inl ⟨rfl, fun w hSw => ?_⟩) (by assumption) ?_
  · (try dsimp only at hSw); go_simp; try with_reducible rfl
  (try simp only [Act.put, List.setIfInBounds_toArray, List.set_cons_zero, List.set_cons_succ])
  refine wpAnyH_ready (rs := [2]) (by kernel_rfl) (by simp) (AllReadyH.cons (op_at rfl) (fun K hK => ?_) AllReadyH.nil)
  go_simp
  (refine (HNM.out _).mono ?_; rintro e W3 ⟨rfl, hg⟩; replace x0 := hg.cell x0; replace x1 := hg.cell x1; replace g := g.trans hg; clear hg)
  go_wp2_with fail
  refine hK.out _ _ ⟨x0, x1⟩ (fun hHeld => ?_)
  clear hK K
  (try simp only [Act.put, List.setIfInBounds_toArray, List.set_cons_zero, List.set_cons_succ])
  refine wpAnyH_ready (rs := [5]) (by kernel_rfl) (by simp) (AllReadyH.cons (op_at rfl) (fun K hK => ?_) AllReadyH.nil)
  go_simp
  (refine (HRG.out _).mono ?_; rintro e w' ⟨rfl, rfl⟩)
  go_wp2_with fail
  refine hK.out _ _ ⟨x0, x1⟩ (fun hHeld => ?_)
  clear hK K
  (try simp only [Act.put, List.setIfInBounds_toArray, List.set_cons_zero, List.set_cons_succ])
  refine wpAnyH_take (i := 8) (v := (.bool false)) (op_at rfl) (by kernel_rfl) (by kernel_rfl) (by kernel_rfl) (fun _ _ _ h => h) (Or.inl ⟨rfl, fun w hSw => ?_⟩) (by assumption) ?_
  · (try dsimp only at hSw); go_simp; try with_reducible rfl
  (try simp only [Act.put, List.setIfInBounds_toArray, List.set_cons_zero, List.set_cons_succ])
  refine wpAnyH_take (i := 9) (v := undef) (op_at rfl) (by kernel_rfl) (by kernel_rfl) (by kernel_rfl) (fun _ _ _ h => h) (Or.inr ⟨rfl, rfl⟩) (by assumption) ?_
  (try simp only [Act.put, List.setIfInBounds_toArray, List.set_cons_zero, List.set_cons_succ])
  refine wpAnyH_take (i := 10) (v := undef) (op_at rfl) (by kernel_rfl) (by kernel_rfl) (by kernel_rfl) (fun _ _ _ h => h) (Or.inr ⟨rfl, rfl⟩) (by assumption) ?_
  (try simp only [Act.put, List.setIfInBounds_toArray, List.set_cons_zero, List.set_cons_succ])
  refine wpAnyH_take (i := 11) (v := undef) (op_at rfl) (by kernel_rfl) (by kernel_rfl) (by kernel_rfl) (fun _ _ _ h => h) (Or.inr ⟨rfl, rfl⟩) (by assumption) ?_
  (try simp only [Act.put, List.setIfInBounds_toArray, List.set_cons_zero, List.set_cons_succ])
  refine wpAnyH_take (i := 12) (v := undef) (op_at rfl) (by kernel_rfl) (by kernel_rfl) (by kernel_rfl) (fun _ _ _ h => h) (Or.inr ⟨rfl, rfl⟩) (by assumption) ?_
  (try simp only [Act.put, List.setIfInBounds_toArray, List.set_cons_zero, List.set_cons_succ])
  refine wpAnyH_take (i := 13) (v := undef) (op_at rfl) (by kernel_rfl) (by kernel_rfl) (by kernel_rfl) (fun _ _ _ h => h) (Or.inr ⟨rfl, rfl⟩) (by assumption) ?_
  (try simp only [Act.put, List.setIfInBounds_toArray, List.set_cons_zero, List.set_cons_succ])
  refine wpAnyH_take (i := 14) (v := undef) (op_at rfl) (by kernel_rfl) (by kernel_rfl) (by kernel_rfl) (fun _ _ _ h => h) (Or.inr ⟨rfl, rfl⟩) (by assumption) ?_
  (try simp only [Act.put, List.setIfInBounds_toArray, List.set_cons_zero, List.set_cons_succ])
  refine wpAnyH_take (i := 15) (v := undef) (op_at rfl) (by kernel_rfl) (by kernel_rfl) (by kernel_rfl) (fun _ _ _ h => h) (Or.inr ⟨rfl, rfl⟩) (by assumption) ?_
  (try simp only [Act.put, List.setIfInBounds_toArray, List.set_cons_zero, List.set_cons_succ])
  refine wpAnyH_take (i := 16) (v := undef) (op_at rfl) (by kernel_rfl) (by kernel_rfl) (by kernel_rfl) (fun _ _ _ h => h) (Or.inr ⟨rfl, rfl⟩) (by assumption) ?_
  (try simp only [Act.put, List.setIfInBounds_toArray, List.set_cons_zero, List.set_cons_succ])
  refine wpAnyH_take (i := 17) (v := undef) (op_at rfl) (by kernel_rfl) (by kernel_rfl) (by kernel_rfl) (fun _ _ _ h => h) (Or.inr ⟨rfl, rfl⟩) (by assumption) ?_
  (try simp only [Act.put, List.setIfInBounds_toArray, List.set_cons_zero, List.set_cons_succ])
  refine wpAnyH_take (i := 18) (v := (.bool false)) (op_at rfl) (by kernel_rfl) (by kernel_rfl) (by kernel_rfl) (fun _ _ _ h => h) (Or.inl ⟨rfl, fun w hSw => ?_⟩) (by assumption) ?_
  · (try dsimp only at hSw); go_simp; try with_reducible rfl
  (try simp only [Act.put, List.setIfInBounds_toArray, List.set_cons_zero, List.set_cons_succ])
  refine wpAnyH_ready (rs := [19]) (by kernel_rfl) (by simp) (AllReadyH.cons (op_at rfl) (fun K hK => ?_) AllReadyH.nil)
  go_simp
  (refine (HIF.out _).mono ?_; rintro e w' ⟨rfl, rfl⟩)
  go_wp2_with fail
  refine hK.out _ _ ⟨x0, x1⟩ (fun hHeld => ?_)
  clear hK K
  (try simp only [Act.put, List.setIfInBounds_toArray, List.set_cons_zero, List.set_cons_succ])
  refine wpAnyH_ready (rs := [20]) (by kernel_rfl) (by simp) (AllReadyH.cons (op_at rfl) (fun K hK => ?_) AllReadyH.nil)
  go_simp
  obtain ⟨WW, hWW, gWW, q0, q1, q2⟩ := box3 W3 (.int .i64 z1) (.int .i64 z2) (.int .i64 z3) 37
  rw [hWW]
  clear hWW
  replace x0 := gWW.cell x0
  replace x1 := gWW.cell x1
  replace g := g.trans gWW
  refine hK.out _ _ ⟨x0, x1⟩ (fun hHeld => ?_)
  clear hK K
  (try simp only [Act.put, List.setIfInBounds_toArray, List.set_cons_zero, List.set_cons_succ])
  refine wpAnyH_ready (rs := [21]) (by kernel_rfl) (by simp) (AllReadyH.cons (op_at rfl) (fun K hK => ?_) AllReadyH.nil)
  go_simp
  (refine (HFI.out _ _ WW q0 q1 q2).mono ?_; rintro e w8 ⟨rfl, rfl⟩)
  go_wp2_with fail
  refine hK.out _ _ ⟨x0, x1⟩ (fun hHeld => ?_)
  clear hK K
  (try simp only [Act.put, List.setIfInBounds_toArray, List.set_cons_zero, List.set_cons_succ])
  refine wpAnyH_take (i := 22) (v := (.int .i64 zo)) (op_at rfl) (by kernel_rfl) (by kernel_rfl) (by kernel_rfl) (fun _ _ _ h => h) (Or.inl ⟨rfl, fun w hSw => ?_⟩) (by assumption) ?_
  · (try dsimp only at hSw); go_simp; try with_reducible rfl
  (try simp only [Act.put, List.setIfInBounds_toArray, List.set_cons_zero, List.set_cons_succ])
  refine wpAnyH_done (by kernel_rfl) ?_ _
  go_wp2_with fail
  go_ret
  exact ⟨rfl, g⟩
set_option maxHeartbeats 4000000 in
set_option maxRecDepth 100000 in
theorem oneMkS_c {W : World} {v : List MkR} {x a : MkR} {i j n b off cap L : Nat} (hi : i = j + 1) (hin : i < n) (h1 : n ≤ 1000) (ha : v[j]? = some a) (hat : W.cell? ⟨b, off + j * 2, none⟩ = some (.string a.de)) (hL : W.cell? ⟨L, 0, none⟩ = some (.slice (some ⟨b, off, none⟩) n cap)) :
    Calls Tryz.prog 125 #[.int .i64 (i : Int), .agg #[.string x.de, .int .i64 x.nu], .pointer (some ⟨L, 0, none⟩)] W fun e w' => e = .returned (.int .i64 (mkE v i x)) ∧ Gr W w' := by
  obtain ⟨z1, hz1, HNM0⟩ := oname_e x.de
  have HNM := Lib.hid HNM0
  obtain ⟨z2, hz2, HRG0⟩ := range_e x.nu 0 1000
  have HRG := Lib.hid HRG0
  have hge := fun w => runS_geq a.de x.de w
  obtain ⟨gb, hgb⟩ : ∃ g, g = !(ltS a.de x.de) := ⟨_, rfl⟩
  simp only [← hgb] at hge
  obtain ⟨z3, hz3, HIF0⟩ := if_e gb 11
  have HIF := Lib.hid HIF0
  have HFI := Lib.hid (fun b cap w => first_threeO z1 z2 z3 b cap w)
  obtain ⟨zo, hzo⟩ : ∃ z, z = mkE v i x := ⟨_, rfl⟩
  have hf : firstE [z1, z2, z3] = zo := by
    rw [hzo, hz1, hz2, hz3, hgb, hi]
    simp only [mkE, lateE, ha, lateB]
  rw [hf] at HFI
  rw [← hzo]
  have hw1 : IntKind.i64.wrap ((i : Int) - 1) = (j : Int) := by rw [IntKind.wrap_i64]; omega
  have d1 : decide ((0 : Int) < (i : Int)) = true := decide_eq_true (by omega)
  have hjn : j < n := by omega
  have hi0 : 0 < i := by omega
  have y0 := hat
  have l0 := hL
  clear HIF0 HNM0 HRG0 hf hzo hz1 hz2 hz3 hat hL hi ha hgb
  obtain ⟨W1, hW1, gW1, x0, x1⟩ := box2v W (.string x.de) (.int .i64 x.nu) 96
  have HW := Lib.hid hW1
  have g := gW1
  clear hW1 gW1
  replace l0 := g.cell l0
  replace y0 := g.cell y0
  go_enter Tryz.func125, Tryz.ntmps125
  go_wp2_with fail
  rw [HW.out]
  clear HW
  generalize W.heap.size = Bx at *
  have gd := (Gr.refl W1).drew
  replace x0 := gd.cell x0
  replace x1 := gd.cell x1
  replace l0 := gd.cell l0
  replace y0 := gd.cell y0
  replace g := g.trans gd
  clear gd
  refine wp_region_held_drew (S := (fun w' => w'.cell? ⟨Bx, 0, none⟩ = some (.string x.de) ∧ w'.cell? ⟨Bx, 1, none⟩ = some (.int .i64 x.nu) ∧ w'.cell? ⟨L, 0, none⟩ = some (.slice (some ⟨b, off, none⟩) n cap) ∧ w'.cell? ⟨b, off + j * 2, none⟩ = some (.string a.de))) (by kernel_rfl) ⟨x0, x1, l0, y0⟩ (fun hHeld => ?_)
  generalize W1.drew = V at *
  refine wpAnyH_take (i := 0) (v := (.pointer (some ⟨Bx, 0, none⟩))) (op_at rfl) (by kernel_rfl) (by kernel_rfl) (by kernel_rfl) (fun _ _ _ h => h) (Or.inl ⟨rfl, fun w hSw => ?_⟩) (by assumption) ?_
  · (try dsimp only at hSw); go_simp; try with_reducible rfl
  (try simp only [Act.put, List.setIfInBounds_toArray, List.set_cons_zero, List.set_cons_succ])
  refine wpAnyH_take (i := 1) (v := (.string x.de)) (op_at rfl) (by kernel_rfl) (by kernel_rfl) (by kernel_rfl) (fun _ _ _ h => h) (Or.inl ⟨rfl, fun w hSw => ?_⟩) (by assumption) ?_
  · (try dsimp only at hSw); go_simp; try with_reducible rfl
  (try simp only [Act.put, List.setIfInBounds_toArray, List.set_cons_zero, List.set_cons_succ])
  refine wpAnyH_take (i := 3) (v := (.pointer (some ⟨Bx, 1, none⟩))) (op_at rfl) (by kernel_rfl) (by kernel_rfl) (by kernel_rfl) (fun _ _ _ h => h) (Or.inl ⟨rfl, fun w hSw => ?_⟩) (by assumption) ?_
  · (try dsimp only at hSw); go_simp; try with_reducible rfl
  (try simp only [Act.put, List.setIfInBounds_toArray, List.set_cons_zero, List.set_cons_succ])
  refine wpAnyH_take (i := 4) (v := (.int .i64 x.nu)) (op_at rfl) (by kernel_rfl) (by kernel_rfl) (by kernel_rfl) (fun _ _ _ h => h) (Or.inl ⟨rfl, fun w hSw => ?_⟩) (by assumption) ?_
  · (try dsimp only at hSw); go_simp; try with_reducible rfl
  (try simp only [Act.put, List.setIfInBounds_toArray, List.set_cons_zero, List.set_cons_succ])
  refine wpAnyH_take (i := 6) (v := (.int .i64 (i : Int))) (op_at rfl) (by kernel_rfl) (by kernel_rfl) (by kernel_rfl) (fun _ _ _ h => h) (Or.inl ⟨rfl, fun w hSw => ?_⟩) (by assumption) ?_
  · (try dsimp only at hSw); go_simp; try with_reducible rfl
  (try simp only [Act.put, List.setIfInBounds_toArray, List.set_cons_zero, List.set_cons_succ])
  refine wpAnyH_take (i := 7) (v := (.bool true)) (op_at rfl) (by kernel_rfl) (by kernel_rfl) (by kernel_rfl) (fun _ _ _ h => h) (Or.inl ⟨rfl, fun w hSw => ?_⟩) (by assumption) ?_
  · (try dsimp only at hSw); go_simp; try with_reducible rfl
  (try simp only [Act.put, List.setIfInBounds_toArray, List.set_cons_zero, List.set_cons_succ])
  refine wpAnyH_ready (rs := [2]) (by kernel_rfl) (by simp) (AllReadyH.cons (op_at rfl) (fun K hK => ?_) AllReadyH.nil)
  go_simp
  (refine (HNM.out _).mono ?_; rintro e W3 ⟨rfl, hg⟩; replace x0 := hg.cell x0; replace x1 := hg.cell x1; replace l0 := hg.cell l0; replace y0 := hg.cell y0; replace g := g.trans hg; clear hg)
  go_wp2_with fail
  refine hK.out _ _ ⟨x0, x1, l0, y0⟩ (fun hHeld => ?_)
  clear hK K
  (try simp only [Act.put, List.setIfInBounds_toArray, List.set_cons_zero, List.set_cons_succ])
  refine wpAnyH_ready (rs := [5]) (by kernel_rfl) (by simp) (AllReadyH.cons (op_at rfl) (fun K hK => ?_) AllReadyH.nil)
  go_simp
  (refine (HRG.out _).mono ?_; rintro e w' ⟨rfl, rfl⟩)
  go_wp2_with fail
  refine hK.out _ _ ⟨x0, x1, l0, y0⟩ (fun hHeld => ?_)
  clear hK K
  (try simp only [Act.put, List.setIfInBounds_toArray, List.set_cons_zero, List.set_cons_succ])
  refine wpAnyH_take (i := 8) (v := (.bool true)) (op_at rfl) (by kernel_rfl) (by kernel_rfl) (by kernel_rfl) (fun _ _ _ h => h) (Or.inl ⟨rfl, fun w hSw => ?_⟩) (by assumption) ?_
  · (try dsimp only at hSw); go_simp; try with_reducible rfl
  (try simp only [Act.put, List.setIfInBounds_toArray, List.set_cons_zero, List.set_cons_succ])
  refine wpAnyH_take (i := 9) (v := (.slice (some ⟨b, off, none⟩) n cap)) (op_at rfl) (by kernel_rfl) (by kernel_rfl) (by kernel_rfl) (fun _ _ _ h => h) (Or.inl ⟨rfl, fun w hSw => ?_⟩) (by assumption) ?_
  · (try dsimp only at hSw); go_simp; try with_reducible rfl
  (try simp only [Act.put, List.setIfInBounds_toArray, List.set_cons_zero, List.set_cons_succ])
  refine wpAnyH_take (i := 10) (v := (.int .i64 (i : Int))) (op_at rfl) (by kernel_rfl) (by kernel_rfl) (by kernel_rfl) (fun _ _ _ h => h) (Or.inl ⟨rfl, fun w hSw => ?_⟩) (by assumption) ?_
  · (try dsimp only at hSw); go_simp; try with_reducible rfl
  (try simp only [Act.put, List.setIfInBounds_toArray, List.set_cons_zero, List.set_cons_succ])
  refine wpAnyH_take (i := 11) (v := (.int .i64 (j : Int))) (op_at rfl) (by kernel_rfl) (by kernel_rfl) (by kernel_rfl) (fun _ _ _ h => h) (Or.inl ⟨rfl, fun w hSw => ?_⟩) (by assumption) ?_
  · (try dsimp only at hSw); go_simp; try with_reducible rfl
  (try simp only [Act.put, List.setIfInBounds_toArray, List.set_cons_zero, List.set_cons_succ])
  refine wpAnyH_take (i := 12) (v := (.pointer (some ⟨b, off + j * 2, none⟩))) (op_at rfl) (by kernel_rfl) (by kernel_rfl) (by kernel_rfl) (fun _ _ _ h => h) (Or.inl ⟨rfl, fun w hSw => ?_⟩) (by assumption) ?_
  · (try dsimp only at hSw); go_simp; try with_reducible rfl
  (try simp only [Act.put, List.setIfInBounds_toArray, List.set_cons_zero, List.set_cons_succ])
  refine wpAnyH_take (i := 13) (v := (.pointer (some ⟨b, off + j * 2, none⟩))) (op_at rfl) (by kernel_rfl) (by kernel_rfl) (by kernel_rfl) (fun _ _ _ h => h) (Or.inl ⟨rfl, fun w hSw => ?_⟩) (by assumption) ?_
  · (try dsimp only at hSw); go_simp; try with_reducible rfl
  (try simp only [Act.put, List.setIfInBounds_toArray, List.set_cons_zero, List.set_cons_succ])
  refine wpAnyH_take (i := 14) (v := (.string a.de)) (op_at rfl) (by kernel_rfl) (by kernel_rfl) (by kernel_rfl) (fun _ _ _ h => h) (Or.inl ⟨rfl, fun w hSw => ?_⟩) (by assumption) ?_
  · (try dsimp only at hSw); go_simp; try with_reducible rfl
  (try simp only [Act.put, List.setIfInBounds_toArray, List.set_cons_zero, List.set_cons_succ])
  refine wpAnyH_take (i := 15) (v := (.pointer (some ⟨Bx, 0, none⟩))) (op_at rfl) (by kernel_rfl) (by kernel_rfl) (by kernel_rfl) (fun _ _ _ h => h) (Or.inl ⟨rfl, fun w hSw => ?_⟩) (by assumption) ?_
  · (try dsimp only at hSw); go_simp; try with_reducible rfl
  (try simp only [Act.put, List.setIfInBounds_toArray, List.set_cons_zero, List.set_cons_succ])
  refine wpAnyH_take (i := 16) (v := (.string x.de)) (op_at rfl) (by kernel_rfl) (by kernel_rfl) (by kernel_rfl) (fun _ _ _ h => h) (Or.inl ⟨rfl, fun w hSw => ?_⟩) (by assumption) ?_
  · (try dsimp only at hSw); go_simp; try with_reducible rfl
  (try simp only [Act.put, List.setIfInBounds_toArray, List.set_cons_zero, List.set_cons_succ])
  refine wpAnyH_take (i := 17) (v := (.bool gb)) (op_at rfl) (by kernel_rfl) (by kernel_rfl) (by kernel_rfl) (fun _ _ _ h => h) (Or.inl ⟨rfl, fun w hSw => ?_⟩) (by assumption) ?_
  · (try dsimp only at hSw); go_simp; try with_reducible rfl
  (try simp only [Act.put, List.setIfInBounds_toArray, List.set_cons_zero, List.set_cons_succ])
  refine wpAnyH_take (i := 18) (v := (.bool gb)) (op_at rfl) (by kernel_rfl) (by kernel_rfl) (by kernel_rfl) (fun _ _ _ h => h) (Or.inl ⟨rfl, fun w hSw => ?_⟩) (by assumption) ?_
  · (try dsimp only at hSw); go_simp; try with_reducible rfl
  (try simp only [Act.put, List.setIfInBounds_toArray, List.set_cons_zero, List.set_cons_succ])
  refine wpAnyH_ready (rs := [19]) (by kernel_rfl) (by simp) (AllReadyH.cons (op_at rfl) (fun K hK => ?_) AllReadyH.nil)
  go_simp
  (refine (HIF.out _).mono ?_; rintro e w' ⟨rfl, rfl⟩)
  go_wp2_with fail
  refine hK.out _ _ ⟨x0, x1, l0, y0⟩ (fun hHeld => ?_)
  clear hK K
  (try simp only [Act.put, List.setIfInBounds_toArray, List.set_cons_zero, List.set_cons_succ])
  refine wpAnyH_ready (rs := [20]) (by kernel_rfl) (by simp) (AllReadyH.cons (op_at rfl) (fun K hK => ?_) AllReadyH.nil)
  go_simp
  obtain ⟨WW, hWW, gWW, q0, q1, q2⟩ := box3 W3 (.int .i64 z1) (.int .i64 z2) (.int .i64 z3) 37
  rw [hWW]
  clear hWW
  replace x0 := gWW.cell x0
  replace x1 := gWW.cell x1
  replace l0 := gWW.cell l0
  replace y0 := gWW.cell y0
  replace g := g.trans gWW
  refine hK.out _ _ ⟨x0, x1, l0, y0⟩ (fun hHeld => ?_)
  clear hK K
  (try simp only [Act.put, List.setIfInBounds_toArray, List.set_cons_zero, List.set_cons_succ])
  refine wpAnyH_ready (rs := [21]) (by kernel_rfl) (by simp) (AllReadyH.cons (op_at rfl) (fun K hK => ?_) AllReadyH.nil)
  go_simp
  (refine (HFI.out _ _ WW q0 q1 q2).mono ?_; rintro e w8 ⟨rfl, rfl⟩)
  go_wp2_with fail
  refine hK.out _ _ ⟨x0, x1, l0, y0⟩ (fun hHeld => ?_)
  clear hK K
  (try simp only [Act.put, List.setIfInBounds_toArray, List.set_cons_zero, List.set_cons_succ])
  refine wpAnyH_take (i := 22) (v := (.int .i64 zo)) (op_at rfl) (by kernel_rfl) (by kernel_rfl) (by kernel_rfl) (fun _ _ _ h => h) (Or.inl ⟨rfl, fun w hSw => ?_⟩) (by assumption) ?_
  · (try dsimp only at hSw); go_simp; try with_reducible rfl
  (try simp only [Act.put, List.setIfInBounds_toArray, List.set_cons_zero, List.set_cons_succ])
  refine wpAnyH_done (by kernel_rfl) ?_ _
  go_wp2_with fail
  go_ret
  exact ⟨rfl, g⟩
set_option maxHeartbeats 4000000 in
set_option maxRecDepth 100000 in
theorem findMk_c {w : World} {l : List MkR} {n b off cap L : Nat} (hn : l.length = n) (h1 : n ≤ 1000) (hc : ∀ (i : Nat) (r : MkR), l[i]? = some r → w.cell? ⟨b, off + i * 2, none⟩ = some (.string r.de) ∧ w.cell? ⟨b, off + i * 2 + 1, none⟩ = some (.int .i64 r.nu)) (hL : w.cell? ⟨L, 0, none⟩ = some (.slice (some ⟨b, off, none⟩) n cap)) :
    Calls Tryz.prog 185 #[.slice (some ⟨b, off, none⟩) n cap, .func (.func 125) #[] #[.pointer (some ⟨L, 0, none⟩)]] w fun e w' => (∃ i : Int, e = .returned (.tuple #[.int .i64 i, .int .i64 (errG (mkE l) l n 0)])) ∧ Gr w w' := by
  have HX := Lib.hid (fun k (h : k < n) => (show ∃ x, l[k]? = some x from ⟨l[k]'(by omega), List.getElem?_eq_getElem _⟩))
  have HC := Lib.hid hc
  have HS := Lib.hid (fun i x (hi : i < n) (h : l[i]? = some x) => errG_step (E := mkE l) hi h)
  have HE : Hid (errG (mkE l) l 0 n = 0) := rfl
  have HO : Hid (∀ (i : Nat) (x : MkR), l[i]? = some x → ∀ W, Gr w W → Calls Tryz.prog 125 #[.int .i64 (i : Int), .agg #[.string x.de, .int .i64 x.nu], .pointer (some ⟨L, 0, none⟩)] W fun e w' => e = .returned (.int .i64 (mkE l i x)) ∧ Gr W w') := fun i x hx W G => by
    rcases i with _ | j
    · exact oneMk0_c
    · obtain ⟨a, ha⟩ : ∃ a, l[j]? = some a := ⟨l[j]'(by have := (List.getElem?_eq_some_iff.1 hx).1; omega), List.getElem?_eq_getElem _⟩
      exact oneMkS_c rfl (by have := (List.getElem?_eq_some_iff.1 hx).1; omega) h1 ha (G.cell (hc j a ha).1) (G.cell hL)
  generalize errG (mkE l) l = R at *
  clear hc hn hL
  go_enter Tryz.func185, Tryz.ntmps185
  go_wp2_with fail
  go_loopg [11] n (fun gk s11 wr => ∃ i : Nat, s11 = .int .i64 i ∧ gk + i = n ∧ Hid (Gr w wr) ∧ Hid (R (n - i) i = R n 0))
  case atStart => exact ⟨0, rfl, by omega, Gr.refl _, by simp [Hid]⟩
  case round =>
    obtain ⟨i, rfl, hi, HG, HF⟩ := hrel
    by_cases hlt : i < n
    · obtain ⟨x, hx⟩ := HX.out i hlt
      obtain ⟨c0, c1⟩ := HC.out i x hx
      replace c0 := HG.out.cell c0
      replace c1 := HG.out.cell c1
      have hi2 : (i : Int) < n := by omega
      have hst := HS.out i x hlt hx
      have g1 := (Gr.refl wr).alloc (.cells #[.string x.de, .int .i64 x.nu] 96)
      have HT := Lib.hid (HO.out i x hx _ (HG.out.trans g1))
      have HGG := Lib.hid (HG.out.trans g1)
      clear hx g1
      by_cases h0 : mkE l i x = 0
      · rw [h0] at HT
        rw [if_pos h0] at hst
        have HF2 := Lib.hid hst
        clear hst h0
        go_wp2_with (refine HT.out.mono ?_; rintro e w4 ⟨rfl, hA⟩)
        go_roundg (gk - 1)
        case measure => omega
        case rel => exact ⟨i + 1, by go_num, by omega, HGG.out.trans hA, by unfold Hid; rw [← HF2.out, HF.out]⟩
      · rw [if_neg h0] at hst
        generalize mkE l i x = z at *
        have q2 : (z != 0) = true := bne_iff_ne.2 h0
        have HQ : Hid (R n 0 = z) := by unfold Hid; rw [← HF.out, hst]
        clear hst h0
        go_wp2_with (refine HT.out.mono ?_; rintro e w4 ⟨rfl, hA⟩)
        exact bodyPost_ret (v := .tuple #[.int .i64 i, .int .i64 z]) (by simp [results, Tryz.results185, go_sem]) rfl ⟨⟨i, by rw [HQ.out]⟩, HGG.out.trans hA⟩
    · have hin : i = n := by omega
      have hi2 : ¬ (i : Int) < n := by omega
      have HQ : Hid (R n 0 = 0) := by unfold Hid; rw [← HF.out, hin, Nat.sub_self]; exact HE.out
      go_wp2_with fail
      exact bodyPost_ret (v := .tuple #[.int .i64 0, .int .i64 0]) (by simp [results, Tryz.results185, go_sem]) rfl ⟨⟨0, by rw [HQ.out]⟩, HG.out⟩
theorem findMk_nil (p : Option Addr) (cap : Nat) (fn : Value) (w : World) :
    Calls Tryz.prog 185 #[.slice p 0 cap, fn] w fun e w' => (∃ i : Int, e = .returned (.tuple #[.int .i64 i, .int .i64 0])) ∧ w = w' := by
  go_enter Tryz.func185, Tryz.ntmps185
  go_wp2_with fail
  refine wp_loop_rounds 1 ?_
  rw [rounds_succ]
  go_wp2_with fail
  exact bodyPost_ret (v := .tuple #[.int .i64 0, .int .i64 0]) (by simp [results, Tryz.results185, go_sem]) rfl ⟨⟨0, rfl⟩, rfl⟩
theorem eachMk_c {w : World} {q : Option Addr} {l : List MkR} {n cap L : Nat} (hn : n = l.length) (h1 : n ≤ 1000) (hr : MkS w q l) (hL : w.cell? ⟨L, 0, none⟩ = some (.slice q n cap)) :
    Calls Tryz.prog 124 #[.slice q n cap, .func (.func 125) #[] #[.pointer (some ⟨L, 0, none⟩)]] w fun e w' => e = .returned (.int .i64 (vecE l)) ∧ Gr w w' := by
  have H : Hid (Calls Tryz.prog 185 #[.slice q n cap, .func (.func 125) #[] #[.pointer (some ⟨L, 0, none⟩)]] w fun e w' => (∃ i : Int, e = .returned (.tuple #[.int .i64 i, .int .i64 (vecE l)])) ∧ Gr w w') := by
    by_cases h0 : 0 < n
    · obtain ⟨b, off, rfl, hc⟩ := hr.out (by omega)
      have := findMk_c hn.symm h1 hc hL
      unfold vecE
      rw [← hn]
      exact this
    · obtain rfl : n = 0 := by omega
      refine (findMk_nil q cap _ w).mono fun e w' ⟨he, hw⟩ => ⟨?_, hw ▸ Gr.refl _⟩
      have : vecE l = 0 := by unfold vecE; rw [← hn]; rfl
      rw [this]; exact he
  generalize vecE l = z at *
  clear hr hL hn
  go_enter Tryz.func124, Tryz.ntmps124
  go_wp2_with (refine H.out.mono ?_; rintro e w4 ⟨⟨i, rfl⟩, hg⟩)
  go_ret
  exact ⟨rfl, hg⟩
theorem checkVec_c {w : World} {q : Option Addr} {l : List MkR} {n cap : Nat} (hn : n = l.length) (h1 : n ≤ 1000) (hr : MkS w q l) :
    Calls Tryz.prog 79 #[.slice q n cap] w fun e w' => e = .returned (.int .i64 (vecE l)) ∧ Gr w w' := by
  have H := Lib.hid (fun W L (g : Gr w W) (hL : W.cell? ⟨L, 0, none⟩ = some (.slice q n cap)) => eachMk_c (L := L) hn h1 (hr.gr g) hL)
  have g1 := (Gr.refl w).alloc (.cells #[.slice q n cap] 55)
  have c0 := cell_new w #[.slice q n cap] 55 0 (by simp)
  have h2 : ¬ (1000 : Int) < (n : Int) := by omega
  generalize vecE l = z at *
  clear hr hn
  go_enter Tryz.func79, Tryz.ntmps79
  go_wp2_with fail
  refine (H.out _ _ g1 c0).mono ?_
  rintro e w4 ⟨rfl, hg⟩
  go_wp2_with fail
  go_ret
  exact ⟨rfl, g1.trans hg⟩
end Go.Proofs.YtbpgifihlppedaaGreatDoor
namespace Go.Proofs.YtbpgifihlppedaaGreatDoor
open Go.RowKit Go.Lib
set_option linter.unusedSimpArgs false
set_option linter.unusedVariables false
set_option maxHeartbeats 4000000 in
set_option maxRecDepth 100000 in
theorem refVec_c {w : World} {q : Option Addr} {l : List MkR} {n cap : Nat} (hn : n = l.length) (h1 : n ≤ 1000) (hr : MkS w q l) :
    Calls Tryz.prog 35 #[.slice q n cap] w fun e w' => e = .returned (.int .i64 (vecE l)) ∧ Gr w w' := by
  have HX := Lib.hid (fun k (h : k < n) => (show ∃ x, l[k]? = some x from ⟨l[k]'(by omega), List.getElem?_eq_getElem _⟩))
  have HR := Lib.hid hr.out
  have HN := Lib.hid hn
  have HS := Lib.hid (fun i x (hi : i < n) (h : l[i]? = some x) => errG_step (E := mkE l) hi h)
  have HE : Hid (errG (mkE l) l 0 n = 0) := rfl
  have HEN : Hid (∀ i x, mkE l i x = if decide (Nm x.de) = true then (if outB x.nu 0 1000 = true then 3 else if lateE l i x = true then 11 else 0) else 8) := fun i x => by
    unfold mkE nmE outE
    have hh : ∀ a b c : Int, firstE [a, b, c] = if a = 0 then (if b = 0 then (if c = 0 then 0 else c) else b) else a := fun _ _ _ => rfl
    rw [hh]
    by_cases hnm : Nm x.de <;> cases outB x.nu 0 1000 <;> cases lateE l i x <;> simp [hnm]
  have HOR : Hid (∀ i j x a, i = j + 1 → l[j]? = some a → lateE l i x = !(ltS a.de x.de)) := fun i j x a e h => by
    subst e
    simp only [lateE, h, lateB]
  have HO0 : Hid (∀ x, lateE l 0 x = false) := fun x => rfl
  have hA : vecE l = errG (mkE l) l n 0 := by rw [hn]; rfl
  rw [hA]
  generalize errG (mkE l) l = R at *
  have h2 : ¬ (1000 : Int) < (n : Int) := by omega
  clear hr hn hA
  go_enter Tryz.func35, Tryz.ntmps35
  go_wp2_with fail
  go_loopg [3] n (fun gk s3 wr => ∃ i : Nat, s3 = .int .i64 (i : Int) ∧ gk + i = n ∧ Hid (Gr w wr) ∧ Hid (R (n - i) i = R n 0))
  case atStart => exact ⟨0, rfl, by omega, Gr.refl _, by simp [Hid]⟩
  case round =>
    obtain ⟨i, rfl, hgk, HG, HF⟩ := hrel
    by_cases hlt : i < n
    · obtain ⟨x, hx⟩ := HX.out i hlt
      obtain ⟨b, off, rfl, hc⟩ := HR.out (by have := HN.out; omega)
      obtain ⟨x0, x1⟩ := hc i x hx
      replace x0 := HG.out.cell x0
      replace x1 := HG.out.cell x1
      have hlt2 : (i : Int) < (n : Int) := by omega
      have hst := HS.out i x hlt hx
      have HEQ := HEN.out i x
      have HNM := Lib.hid (fun V => refIsName_c x.de V)
      have HOU := Lib.hid (fun V => refOut10_c x.nu 0 1000 V)
      cases hN : decide (Nm x.de)
      · rw [hN] at HEQ HNM
        have hE : mkE l i x = 8 := HEQ
        rw [hE] at hst
        have HQ : Hid (R n 0 = 8) := by unfold Hid; rw [← HF.out, hst]; rfl
        clear hst HEQ hE hx hc hN
        go_wp2_with fail
        refine (HNM.out _).mono ?_
        rintro e V ⟨rfl, rfl⟩
        go_wp2_with fail
        go_ret
        exact ⟨by rw [HQ.out]; try rfl, HG.out⟩
      · rw [hN] at HEQ HNM
        rw [if_pos rfl] at HEQ
        cases hO : outB x.nu 0 1000
        · rw [hO] at HEQ HOU
          rcases Nat.eq_zero_or_pos i with hi0 | hi0
          · subst hi0
            simp only [Nat.zero_mul, Nat.add_zero] at x0 x1
            rw [HO0.out x] at HEQ
            have hE : mkE l 0 x = 0 := HEQ
            rw [if_pos hE] at hst
            have HF2 := Lib.hid hst
            clear hst HEQ hx hc hE hN hO
            go_wp2_with fail
            refine (HNM.out _).mono ?_
            rintro e V ⟨rfl, rfl⟩
            have HGV := HG
            go_wp2_with fail
            refine (HOU.out _).mono ?_
            rintro e V2 ⟨rfl, rfl⟩
            go_wp2_with fail
            go_big_quiet (fail)
            go_wp2_with fail
            go_roundg (gk - 1)
            case measure => omega
            case rel => exact ⟨0 + 1, by go_num, by omega, HGV.out.drewN _, by unfold Hid; rw [← HF2.out, HF.out]⟩
          · obtain ⟨j, hij⟩ : ∃ j, i = j + 1 := ⟨i - 1, by omega⟩
            obtain ⟨a, ha⟩ := HX.out j (by omega)
            rw [HOR.out i j x a hij ha] at HEQ
            have y0 := HG.out.cell (hc j a ha).1
            have hw1 : IntKind.i64.wrap ((i : Int) - 1) = (j : Int) := by rw [IntKind.wrap_i64]; omega
            have d1 : decide ((0 : Int) < (i : Int)) = true := decide_eq_true (by omega)
            have hjn : j < n := by omega
            have hi1 : 0 < i := hi0
            have hle := fun w => runS_leq x.de a.de w
            rw [ltS_tri] at HEQ
            obtain ⟨gb, hgb⟩ : ∃ g, g = (ltS x.de a.de || (x.de.toList == a.de.toList)) := ⟨_, rfl⟩
            simp only [← hgb] at hle HEQ
            clear hij hi0 hx hc ha hgb hN hO
            cases gb
            · have hE : mkE l i x = 0 := HEQ
              rw [if_pos hE] at hst
              have HF2 := Lib.hid hst
              clear hst HEQ hE
              go_wp2_with fail
              refine (HNM.out _).mono ?_
              rintro e V ⟨rfl, rfl⟩
              have HGV := HG
              go_wp2_with fail
              refine (HOU.out _).mono ?_
              rintro e V2 ⟨rfl, rfl⟩
              go_wp2_with fail
              go_big_quiet (fail)
              go_wp2_with fail
              go_roundg (gk - 1)
              case measure => omega
              case rel => exact ⟨i + 1, by go_num, by omega, HGV.out.drewN _, by unfold Hid; rw [← HF2.out, HF.out]⟩
            · have hE : mkE l i x = 11 := HEQ
              rw [hE] at hst
              have HQ : Hid (R n 0 = 11) := by unfold Hid; rw [← HF.out, hst]; rfl
              clear hst HEQ hE
              go_wp2_with fail
              refine (HNM.out _).mono ?_
              rintro e V ⟨rfl, rfl⟩
              have HGV := HG
              go_wp2_with fail
              refine (HOU.out _).mono ?_
              rintro e V2 ⟨rfl, rfl⟩
              go_wp2_with fail
              go_big_quiet (fail)
              go_wp2_with fail
              go_ret
              exact ⟨by rw [HQ.out]; try rfl, HGV.out.drewN _⟩
        · rw [hO] at HEQ HOU
          have hE : mkE l i x = 3 := HEQ
          rw [hE] at hst
          have HQ : Hid (R n 0 = 3) := by unfold Hid; rw [← HF.out, hst]; rfl
          clear hst HEQ hE hx hc hN hO
          go_wp2_with fail
          refine (HNM.out _).mono ?_
          rintro e V ⟨rfl, rfl⟩
          have HGV := HG
          go_wp2_with fail
          refine (HOU.out _).mono ?_
          rintro e V2 ⟨rfl, rfl⟩
          go_wp2_with fail
          go_ret
          exact ⟨by rw [HQ.out]; try rfl, HGV.out⟩
    · have hin : i = n := by omega
      have hi2 : ¬ (i : Int) < n := by omega
      have HQ : Hid (R n 0 = 0) := by unfold Hid; rw [← HF.out, hin, Nat.sub_self]; exact HE.out
      go_wp2_with fail
      go_ret
      exact ⟨by rw [HQ.out]; try rfl, HG.out⟩
end Go.Proofs.YtbpgifihlppedaaGreatDoor
