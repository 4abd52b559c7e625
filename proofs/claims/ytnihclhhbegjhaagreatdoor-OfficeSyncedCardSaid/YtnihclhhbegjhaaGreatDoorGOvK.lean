/- Archives (chapter 10): checkVector and the reference's CheckVector. -/
import Derived.Test.YtnihclhhbegjhaaGreatDoorGOvH
import Derived.Deep.CutRange
namespace Go.Proofs.YtnihclhhbegjhaaGreatDoor
open Go.RowKit Go.Lib
set_option linter.unusedSimpArgs false
set_option linter.unusedVariables false
theorem less_tri : ∀ a b : List UInt8, Op.bytesLess a b = !(Op.bytesLess b a || (b == a))
  | [], [] => by simp [Op.bytesLess]
  | [], y :: b => by simp [Op.bytesLess]
  | x :: a, [] => by simp [Op.bytesLess]
  | x :: a, y :: b => by
    unfold Op.bytesLess
    rw [less_tri a b]
    by_cases h : x = y
    · subst h
      simp
    · have h2 : ¬ y = x := fun e => h e.symm
      have hn : ¬ x.toNat = y.toNat := fun e => h (UInt8.toNat_inj.1 e)
      by_cases hl : x < y
      · have hl2 : ¬ y < x := by rw [UInt8.lt_iff_toNat_lt] at *; omega
        simp [h, h2, hl, hl2]
      · have hl2 : y < x := by rw [UInt8.lt_iff_toNat_lt] at *; omega
        simp [h, h2, hl, hl2]
theorem ltS_tri (a b : ByteArray) : (!(ltS a b)) = (ltS b a || (b.toList == a.toList)) := by
  unfold ltS
  rw [less_tri a.toList b.toList, Bool.not_not]
def lateB (a m : MkR) : Bool := !(ltS a.de m.de)
def lateE (v : List MkR) (i : Nat) (m : MkR) : Bool := match i with
  | 0 => false
  | j + 1 => match v[j]? with
    | some a => lateB a m
    | none => false
def mkE (v : List MkR) (i : Nat) (m : MkR) : Int := firstE [nmE m.de, outE m.nu 0 1000, if lateE v i m then 11 else 0]
def vecE (v : List MkR) : Int := errG (mkE v) v v.length 0
theorem first_threeO (x y z : Int) (b cap : Nat) (w : World) (hx : w.cell? ⟨b, 0, none⟩ = some (.int .i64 x)) (hy : w.cell? ⟨b, 1, none⟩ = some (.int .i64 y)) (hz : w.cell? ⟨b, 2, none⟩ = some (.int .i64 z)) :
    Calls Tryz.prog 53 #[.slice (some ⟨b, 0, none⟩) 3 cap] w fun e w' => e = .returned (.int .i64 (firstE [x, y, z])) ∧ w = w' :=
  first_c0 b 3 cap [x, y, z] w rfl (fun i v h => by
    rcases i with _ | _ | _ | i <;> simp at h <;> subst h <;> assumption) (by omega)
set_option maxHeartbeats 4000000 in
set_option maxRecDepth 100000 in
theorem oneMk0_c {W : World} {v : List MkR} {x : MkR} {L : Nat} :
    Calls Tryz.prog 122 #[.int .i64 0, .agg #[.string x.de, .int .i64 x.nu], .pointer (some ⟨L, 0, none⟩)] W fun e w' => e = .returned (.int .i64 (mkE v 0 x)) ∧ Gr W w' := by
  obtain ⟨z1, hz1, HNM0⟩ := oname_e x.de
  have HNM := Lib.hid HNM0
  obtain ⟨z2, hz2, HRG0⟩ := range_e x.nu 0 1000
  have HRG := Lib.hid HRG0
  obtain ⟨z3, hz3, HIF0⟩ := if_e false 11
  have HIF := Lib.hid HIF0
  have HFI := Lib.hid (fun b cap w => first_threeO z1 z2 z3 b cap w)
  obtain ⟨zo, hzo⟩ : ∃ z, z = mkE v 0 x := ⟨_, rfl⟩
  have hf : firstE [z1, z2, z3] = zo := by rw [hzo, hz1, hz2, hz3]; rfl
  rw [hf] at HFI
  rw [← hzo]
  clear HIF0 HNM0 HRG0 hf hzo hz1 hz2 hz3
  obtain ⟨W1, hW1, gW1, x0, x1⟩ := box2v W (.string x.de) (.int .i64 x.nu) 84
  have HW := Lib.hid hW1
  have g := gW1
  clear hW1 gW1
  go_enter Tryz.func122, Tryz.ntmps122
  go_wp2_with fail
  rw [HW.out]
  clear HW
  generalize W.heap.size = Bx at *
  have gd := (Gr.refl W1).drew
  replace x0 := gd.cell x0
  replace x1 := gd.cell x1
  replace g := g.trans gd
  clear gd
  refine wp_region_held_drew (S := (fun w' => w'.cell? ⟨Bx, 0, none⟩ = some (.string x.de) ∧ w'.cell? ⟨Bx, 1, none⟩ = some (.int .i64 x.nu))) (by kernel_rfl) ⟨x0, x1⟩ (fun hHeld => ?_)
  generalize W1.drew = V at *
  refine wpAnyH_take (i := 0) (v := (.pointer (some ⟨Bx, 0, none⟩))) (op_at rfl) (by kernel_rfl) (by kernel_rfl) (by kernel_rfl) (fun _ _ _ h => h) (Or.inl ⟨rfl, fun w hSw => ?_⟩) (by assumption) ?_
  · (try dsimp only at hSw); go_simp; try with_reducible rfl
  (try simp only [Act.put, tz0, tz1, tz2])
  refine wpAnyH_take (i := 1) (v := (.string x.de)) (op_at rfl) (by kernel_rfl) (by kernel_rfl) (by kernel_rfl) (fun _ _ _ h => h) (Or.inl ⟨rfl, fun w hSw => ?_⟩) (by assumption) ?_
  · (try dsimp only at hSw); go_simp; try with_reducible rfl
  (try simp only [Act.put, tz0, tz1, tz2])
  refine wpAnyH_take (i := 3) (v := (.pointer (some ⟨Bx, 1, none⟩))) (op_at rfl) (by kernel_rfl) (by kernel_rfl) (by kernel_rfl) (fun _ _ _ h => h) (Or.inl ⟨rfl, fun w hSw => ?_⟩) (by assumption) ?_
  · (try dsimp only at hSw); go_simp; try with_reducible rfl
  (try simp only [Act.put, tz0, tz1, tz2])
  refine wpAnyH_take (i := 4) (v := (.int .i64 x.nu)) (op_at rfl) (by kernel_rfl) (by kernel_rfl) (by kernel_rfl) (fun _ _ _ h => h) (Or.inl ⟨rfl, fun w hSw => ?_⟩) (by assumption) ?_
  · (try dsimp only at hSw); go_simp; try with_reducible rfl
  (try simp only [Act.put, tz0, tz1, tz2])
  refine wpAnyH_take (i := 6) (v := (.int .i64 0)) (op_at rfl) (by kernel_rfl) (by kernel_rfl) (by kernel_rfl) (fun _ _ _ h => h) (Or.inl ⟨rfl, fun w hSw => ?_⟩) (by assumption) ?_
  · (try dsimp only at hSw); go_simp; try with_reducible rfl
  (try simp only [Act.put, tz0, tz1, tz2])
  refine wpAnyH_take (i := 7) (v := (.bool false)) (op_at rfl) (by kernel_rfl) (by kernel_rfl) (by kernel_rfl) (fun _ _ _ h => h) (Or.inl ⟨rfl, fun w hSw => ?_⟩) (by assumption) ?_
  · (try dsimp only at hSw); go_simp; try with_reducible rfl
  (try simp only [Act.put, tz0, tz1, tz2])
  refine wpAnyH_ready (rs := [2]) (by kernel_rfl) (by simp) (AllReadyH.cons (op_at rfl) (fun K hK => ?_) AllReadyH.nil)
  go_simp
  (refine (HNM.out _).mono ?_; rintro e W3 ⟨rfl, hg⟩; replace x0 := hg.cell x0; replace x1 := hg.cell x1; replace g := g.trans hg; clear hg)
  go_wp2_with fail
  refine hK.out _ _ ⟨x0, x1⟩ (fun hHeld => ?_)
  clear hK K
  (try simp only [Act.put, tz0, tz1, tz2])
  refine wpAnyH_ready (rs := [5]) (by kernel_rfl) (by simp) (AllReadyH.cons (op_at rfl) (fun K hK => ?_) AllReadyH.nil)
  go_simp
  (refine (HRG.out _).mono ?_; rintro e w' ⟨rfl, rfl⟩)
  go_wp2_with fail
  refine hK.out _ _ ⟨x0, x1⟩ (fun hHeld => ?_)
  clear hK K
  (try simp only [Act.put, tz0, tz1, tz2])
  refine wpAnyH_take (i := 8) (v := (.bool false)) (op_at rfl) (by kernel_rfl) (by kernel_rfl) (by kernel_rfl) (fun _ _ _ h => h) (Or.inl ⟨rfl, fun w hSw => ?_⟩) (by assumption) ?_
  · (try dsimp only at hSw); go_simp; try with_reducible rfl
  (try simp only [Act.put, tz0, tz1, tz2])
  refine wpAnyH_take (i := 9) (v := undef) (op_at rfl) (by kernel_rfl) (by kernel_rfl) (by kernel_rfl) (fun _ _ _ h => h) (Or.inr ⟨rfl, rfl⟩) (by assumption) ?_
  (try simp only [Act.put, tz0, tz1, tz2])
  refine wpAnyH_take (i := 10) (v := undef) (op_at rfl) (by kernel_rfl) (by kernel_rfl) (by kernel_rfl) (fun _ _ _ h => h) (Or.inr ⟨rfl, rfl⟩) (by assumption) ?_
  (try simp only [Act.put, tz0, tz1, tz2])
  refine wpAnyH_take (i := 11) (v := undef) (op_at rfl) (by kernel_rfl) (by kernel_rfl) (by kernel_rfl) (fun _ _ _ h => h) (Or.inr ⟨rfl, rfl⟩) (by assumption) ?_
  (try simp only [Act.put, tz0, tz1, tz2])
  refine wpAnyH_take (i := 12) (v := undef) (op_at rfl) (by kernel_rfl) (by kernel_rfl) (by kernel_rfl) (fun _ _ _ h => h) (Or.inr ⟨rfl, rfl⟩) (by assumption) ?_
  (try simp only [Act.put, tz0, tz1, tz2])
  refine wpAnyH_take (i := 13) (v := undef) (op_at rfl) (by kernel_rfl) (by kernel_rfl) (by kernel_rfl) (fun _ _ _ h => h) (Or.inr ⟨rfl, rfl⟩) (by assumption) ?_
  (try simp only [Act.put, tz0, tz1, tz2])
  refine wpAnyH_take (i := 14) (v := undef) (op_at rfl) (by kernel_rfl) (by kernel_rfl) (by kernel_rfl) (fun _ _ _ h => h) (Or.inr ⟨rfl, rfl⟩) (by assumption) ?_
  (try simp only [Act.put, tz0, tz1, tz2])
  refine wpAnyH_take (i := 15) (v := undef) (op_at rfl) (by kernel_rfl) (by kernel_rfl) (by kernel_rfl) (fun _ _ _ h => h) (Or.inr ⟨rfl, rfl⟩) (by assumption) ?_
  (try simp only [Act.put, tz0, tz1, tz2])
  refine wpAnyH_take (i := 16) (v := undef) (op_at rfl) (by kernel_rfl) (by kernel_rfl) (by kernel_rfl) (fun _ _ _ h => h) (Or.inr ⟨rfl, rfl⟩) (by assumption) ?_
  (try simp only [Act.put, tz0, tz1, tz2])
  refine wpAnyH_take (i := 17) (v := undef) (op_at rfl) (by kernel_rfl) (by kernel_rfl) (by kernel_rfl) (fun _ _ _ h => h) (Or.inr ⟨rfl, rfl⟩) (by assumption) ?_
  (try simp only [Act.put, tz0, tz1, tz2])
  refine wpAnyH_take (i := 18) (v := (.bool false)) (op_at rfl) (by kernel_rfl) (by kernel_rfl) (by kernel_rfl) (fun _ _ _ h => h) (Or.inl ⟨rfl, fun w hSw => ?_⟩) (by assumption) ?_
  · (try dsimp only at hSw); go_simp; try with_reducible rfl
  (try simp only [Act.put, tz0, tz1, tz2])
  refine wpAnyH_ready (rs := [19]) (by kernel_rfl) (by simp) (AllReadyH.cons (op_at rfl) (fun K hK => ?_) AllReadyH.nil)
  go_simp
  (refine (HIF.out _).mono ?_; rintro e w' ⟨rfl, rfl⟩)
  go_wp2_with fail
  refine hK.out _ _ ⟨x0, x1⟩ (fun hHeld => ?_)
  clear hK K
  (try simp only [Act.put, tz0, tz1, tz2])
  refine wpAnyH_ready (rs := [20]) (by kernel_rfl) (by simp) (AllReadyH.cons (op_at rfl) (fun K hK => ?_) AllReadyH.nil)
  go_simp
  obtain ⟨WW, hWW, gWW, q0, q1, q2⟩ := box3 W3 (.int .i64 z1) (.int .i64 z2) (.int .i64 z3) 37
  rw [hWW]
  clear hWW
  replace x0 := gWW.cell x0
  replace x1 := gWW.cell x1
  replace g := g.trans gWW
  refine hK.out _ _ ⟨x0, x1⟩ (fun hHeld => ?_)
  clear hK K
  (try simp only [Act.put, tz0, tz1, tz2])
  refine wpAnyH_ready (rs := [21]) (by kernel_rfl) (by simp) (AllReadyH.cons (op_at rfl) (fun K hK => ?_) AllReadyH.nil)
  go_simp
  (refine (HFI.out _ _ WW q0 q1 q2).mono ?_; rintro e w8 ⟨rfl, rfl⟩)
  go_wp2_with fail
  refine hK.out _ _ ⟨x0, x1⟩ (fun hHeld => ?_)
  clear hK K
  (try simp only [Act.put, tz0, tz1, tz2])
  refine wpAnyH_take (i := 22) (v := (.int .i64 zo)) (op_at rfl) (by kernel_rfl) (by kernel_rfl) (by kernel_rfl) (fun _ _ _ h => h) (Or.inl ⟨rfl, fun w hSw => ?_⟩) (by assumption) ?_
  · (try dsimp only at hSw); go_simp; try with_reducible rfl
  (try simp only [Act.put, tz0, tz1, tz2])
  refine wpAnyH_done (by kernel_rfl) ?_ _
  go_wp2_with fail
  go_ret
  exact ⟨rfl, g⟩
set_option maxHeartbeats 4000000 in
set_option maxRecDepth 100000 in
theorem oneMkS_c {W : World} {v : List MkR} {x a : MkR} {i j n b off cap L : Nat} (hi : i = j + 1) (hin : i < n) (h1 : n ≤ 1000) (ha : v[j]? = some a) (hat : W.cell? ⟨b, off + j * 2, none⟩ = some (.string a.de)) (hL : W.cell? ⟨L, 0, none⟩ = some (.slice (some ⟨b, off, none⟩) n cap)) :
    Calls Tryz.prog 122 #[.int .i64 (i : Int), .agg #[.string x.de, .int .i64 x.nu], .pointer (some ⟨L, 0, none⟩)] W fun e w' => e = .returned (.int .i64 (mkE v i x)) ∧ Gr W w' := by
  obtain ⟨z1, hz1, HNM0⟩ := oname_e x.de
  have HNM := Lib.hid HNM0
  obtain ⟨z2, hz2, HRG0⟩ := range_e x.nu 0 1000
  have HRG := Lib.hid HRG0
  have hge := fun w => runS_geq a.de x.de w
  obtain ⟨gb, hgb⟩ : ∃ g, g = !(ltS a.de x.de) := ⟨_, rfl⟩
  simp only [← hgb] at hge
  obtain ⟨z3, hz3, HIF0⟩ := if_e gb 11
  have HIF := Lib.hid HIF0
  have HFI := Lib.hid (fun b cap w => first_threeO z1 z2 z3 b cap w)
  obtain ⟨zo, hzo⟩ : ∃ z, z = mkE v i x := ⟨_, rfl⟩
  have hf : firstE [z1, z2, z3] = zo := by
    rw [hzo, hz1, hz2, hz3, hgb, hi]
    simp only [mkE, lateE, ha, lateB]
  rw [hf] at HFI
  rw [← hzo]
  have hw1 : IntKind.i64.wrap ((i : Int) - 1) = (j : Int) := by rw [IntKind.wrap_i64]; omega
  have d1 : decide ((0 : Int) < (i : Int)) = true := decide_eq_true (by omega)
  have hjn : j < n := by omega
  have hi0 : 0 < i := by omega
  have y0 := hat
  have l0 := hL
  clear HIF0 HNM0 HRG0 hf hzo hz1 hz2 hz3 hat hL hi ha hgb
  obtain ⟨W1, hW1, gW1, x0, x1⟩ := box2v W (.string x.de) (.int .i64 x.nu) 84
  have HW := Lib.hid hW1
  have g := gW1
  clear hW1 gW1
  replace l0 := g.cell l0
  replace y0 := g.cell y0
  go_enter Tryz.func122, Tryz.ntmps122
  go_wp2_with fail
  rw [HW.out]
  clear HW
  generalize W.heap.size = Bx at *
  have gd := (Gr.refl W1).drew
  replace x0 := gd.cell x0
  replace x1 := gd.cell x1
  replace l0 := gd.cell l0
  replace y0 := gd.cell y0
  replace g := g.trans gd
  clear gd
  refine wp_region_held_drew (S := (fun w' => w'.cell? ⟨Bx, 0, none⟩ = some (.string x.de) ∧ w'.cell? ⟨Bx, 1, none⟩ = some (.int .i64 x.nu) ∧ w'.cell? ⟨L, 0, none⟩ = some (.slice (some ⟨b, off, none⟩) n cap) ∧ w'.cell? ⟨b, off + j * 2, none⟩ = some (.string a.de))) (by kernel_rfl) ⟨x0, x1, l0, y0⟩ (fun hHeld => ?_)
  generalize W1.drew = V at *
  refine wpAnyH_take (i := 0) (v := (.pointer (some ⟨Bx, 0, none⟩))) (op_at rfl) (by kernel_rfl) (by kernel_rfl) (by kernel_rfl) (fun _ _ _ h => h) (Or.inl ⟨rfl, fun w hSw => ?_⟩) (by assumption) ?_
  · (try dsimp only at hSw); go_simp; try with_reducible rfl
  (try simp only [Act.put, tz0, tz1, tz2])
  refine wpAnyH_take (i := 1) (v := (.string x.de)) (op_at rfl) (by kernel_rfl) (by kernel_rfl) (by kernel_rfl) (fun _ _ _ h => h) (Or.inl ⟨rfl, fun w hSw => ?_⟩) (by assumption) ?_
  · (try dsimp only at hSw); go_simp; try with_reducible rfl
  (try simp only [Act.put, tz0, tz1, tz2])
  refine wpAnyH_take (i := 3) (v := (.pointer (some ⟨Bx, 1, none⟩))) (op_at rfl) (by kernel_rfl) (by kernel_rfl) (by kernel_rfl) (fun _ _ _ h => h) (Or.inl ⟨rfl, fun w hSw => ?_⟩) (by assumption) ?_
  · (try dsimp only at hSw); go_simp; try with_reducible rfl
  (try simp only [Act.put, tz0, tz1, tz2])
  refine wpAnyH_take (i := 4) (v := (.int .i64 x.nu)) (op_at rfl) (by kernel_rfl) (by kernel_rfl) (by kernel_rfl) (fun _ _ _ h => h) (Or.inl ⟨rfl, fun w hSw => ?_⟩) (by assumption) ?_
  · (try dsimp only at hSw); go_simp; try with_reducible rfl
  (try simp only [Act.put, tz0, tz1, tz2])
  refine wpAnyH_take (i := 6) (v := (.int .i64 (i : Int))) (op_at rfl) (by kernel_rfl) (by kernel_rfl) (by kernel_rfl) (fun _ _ _ h => h) (Or.inl ⟨rfl, fun w hSw => ?_⟩) (by assumption) ?_
  · (try dsimp only at hSw); go_simp; try with_reducible rfl
  (try simp only [Act.put, tz0, tz1, tz2])
  refine wpAnyH_take (i := 7) (v := (.bool true)) (op_at rfl) (by kernel_rfl) (by kernel_rfl) (by kernel_rfl) (fun _ _ _ h => h) (Or.inl ⟨rfl, fun w hSw => ?_⟩) (by assumption) ?_
  · (try dsimp only at hSw); go_simp; try with_reducible rfl
  (try simp only [Act.put, tz0, tz1, tz2])
  refine wpAnyH_ready (rs := [2]) (by kernel_rfl) (by simp) (AllReadyH.cons (op_at rfl) (fun K hK => ?_) AllReadyH.nil)
  go_simp
  (refine (HNM.out _).mono ?_; rintro e W3 ⟨rfl, hg⟩; replace x0 := hg.cell x0; replace x1 := hg.cell x1; replace l0 := hg.cell l0; replace y0 := hg.cell y0; replace g := g.trans hg; clear hg)
  go_wp2_with fail
  refine hK.out _ _ ⟨x0, x1, l0, y0⟩ (fun hHeld => ?_)
  clear hK K
  (try simp only [Act.put, tz0, tz1, tz2])
  refine wpAnyH_ready (rs := [5]) (by kernel_rfl) (by simp) (AllReadyH.cons (op_at rfl) (fun K hK => ?_) AllReadyH.nil)
  go_simp
  (refine (HRG.out _).mono ?_; rintro e w' ⟨rfl, rfl⟩)
  go_wp2_with fail
  refine hK.out _ _ ⟨x0, x1, l0, y0⟩ (fun hHeld => ?_)
  clear hK K
  (try simp only [Act.put, tz0, tz1, tz2])
  refine wpAnyH_take (i := 8) (v := (.bool true)) (op_at rfl) (by kernel_rfl) (by kernel_rfl) (by kernel_rfl) (fun _ _ _ h => h) (Or.inl ⟨rfl, fun w hSw => ?_⟩) (by assumption) ?_
  · (try dsimp only at hSw); go_simp; try with_reducible rfl
  (try simp only [Act.put, tz0, tz1, tz2])
  refine wpAnyH_take (i := 9) (v := (.slice (some ⟨b, off, none⟩) n cap)) (op_at rfl) (by kernel_rfl) (by kernel_rfl) (by kernel_rfl) (fun _ _ _ h => h) (Or.inl ⟨rfl, fun w hSw => ?_⟩) (by assumption) ?_
  · (try dsimp only at hSw); go_simp; try with_reducible rfl
  (try simp only [Act.put, tz0, tz1, tz2])
  refine wpAnyH_take (i := 10) (v := (.int .i64 (i : Int))) (op_at rfl) (by kernel_rfl) (by kernel_rfl) (by kernel_rfl) (fun _ _ _ h => h) (Or.inl ⟨rfl, fun w hSw => ?_⟩) (by assumption) ?_
  · (try dsimp only at hSw); go_simp; try with_reducible rfl
  (try simp only [Act.put, tz0, tz1, tz2])
  refine wpAnyH_take (i := 11) (v := (.int .i64 (j : Int))) (op_at rfl) (by kernel_rfl) (by kernel_rfl) (by kernel_rfl) (fun _ _ _ h => h) (Or.inl ⟨rfl, fun w hSw => ?_⟩) (by assumption) ?_
  · (try dsimp only at hSw); go_simp; try with_reducible rfl
  (try simp only [Act.put, tz0, tz1, tz2])
  refine wpAnyH_take (i := 12) (v := (.pointer (some ⟨b, off + j * 2, none⟩))) (op_at rfl) (by kernel_rfl) (by kernel_rfl) (by kernel_rfl) (fun _ _ _ h => h) (Or.inl ⟨rfl, fun w hSw => ?_⟩) (by assumption) ?_
  · (try dsimp only at hSw); go_simp; try with_reducible rfl
  (try simp only [Act.put, tz0, tz1, tz2])
  refine wpAnyH_take (i := 13) (v := (.pointer (some ⟨b, off + j * 2, none⟩))) (op_at rfl) (by kernel_rfl) (by kernel_rfl) (by kernel_rfl) (fun _ _ _ h => h) (Or.inl ⟨rfl, fun w hSw => ?_⟩) (by assumption) ?_
  · (try dsimp only at hSw); go_simp; try with_reducible rfl
  (try simp only [Act.put, tz0, tz1, tz2])
  refine wpAnyH_take (i := 14) (v := (.string a.de)) (op_at rfl) (by kernel_rfl) (by kernel_rfl) (by kernel_rfl) (fun _ _ _ h => h) (Or.inl ⟨rfl, fun w hSw => ?_⟩) (by assumption) ?_
  · (try dsimp only at hSw); go_simp; try with_reducible rfl
  (try simp only [Act.put, tz0, tz1, tz2])
  refine wpAnyH_take (i := 15) (v := (.pointer (some ⟨Bx, 0, none⟩))) (op_at rfl) (by kernel_rfl) (by kernel_rfl) (by kernel_rfl) (fun _ _ _ h => h) (Or.inl ⟨rfl, fun w hSw => ?_⟩) (by assumption) ?_
  · (try dsimp only at hSw); go_simp; try with_reducible rfl
  (try simp only [Act.put, tz0, tz1, tz2])
  refine wpAnyH_take (i := 16) (v := (.string x.de)) (op_at rfl) (by kernel_rfl) (by kernel_rfl) (by kernel_rfl) (fun _ _ _ h => h) (Or.inl ⟨rfl, fun w hSw => ?_⟩) (by assumption) ?_
  · (try dsimp only at hSw); go_simp; try with_reducible rfl
  (try simp only [Act.put, tz0, tz1, tz2])
  refine wpAnyH_take (i := 17) (v := (.bool gb)) (op_at rfl) (by kernel_rfl) (by kernel_rfl) (by kernel_rfl) (fun _ _ _ h => h) (Or.inl ⟨rfl, fun w hSw => ?_⟩) (by assumption) ?_
  · (try dsimp only at hSw); go_simp; try with_reducible rfl
  (try simp only [Act.put, tz0, tz1, tz2])
  refine wpAnyH_take (i := 18) (v := (.bool gb)) (op_at rfl) (by kernel_rfl) (by kernel_rfl) (by kernel_rfl) (fun _ _ _ h => h) (Or.inl ⟨rfl, fun w hSw => ?_⟩) (by assumption) ?_
  · (try dsimp only at hSw); go_simp; try with_reducible rfl
  (try simp only [Act.put, tz0, tz1, tz2])
  refine wpAnyH_ready (rs := [19]) (by kernel_rfl) (by simp) (AllReadyH.cons (op_at rfl) (fun K hK => ?_) AllReadyH.nil)
  go_simp
  (refine (HIF.out _).mono ?_; rintro e w' ⟨rfl, rfl⟩)
  go_wp2_with fail
  refine hK.out _ _ ⟨x0, x1, l0, y0⟩ (fun hHeld => ?_)
  clear hK K
  (try simp only [Act.put, tz0, tz1, tz2])
  refine wpAnyH_ready (rs := [20]) (by kernel_rfl) (by simp) (AllReadyH.cons (op_at rfl) (fun K hK => ?_) AllReadyH.nil)
  go_simp
  obtain ⟨WW, hWW, gWW, q0, q1, q2⟩ := box3 W3 (.int .i64 z1) (.int .i64 z2) (.int .i64 z3) 37
  rw [hWW]
  clear hWW
  replace x0 := gWW.cell x0
  replace x1 := gWW.cell x1
  replace l0 := gWW.cell l0
  replace y0 := gWW.cell y0
  replace g := g.trans gWW
  refine hK.out _ _ ⟨x0, x1, l0, y0⟩ (fun hHeld => ?_)
  clear hK K
  (try simp only [Act.put, tz0, tz1, tz2])
  refine wpAnyH_ready (rs := [21]) (by kernel_rfl) (by simp) (AllReadyH.cons (op_at rfl) (fun K hK => ?_) AllReadyH.nil)
  go_simp
  (refine (HFI.out _ _ WW q0 q1 q2).mono ?_; rintro e w8 ⟨rfl, rfl⟩)
  go_wp2_with fail
  refine hK.out _ _ ⟨x0, x1, l0, y0⟩ (fun hHeld => ?_)
  clear hK K
  (try simp only [Act.put, tz0, tz1, tz2])
  refine wpAnyH_take (i := 22) (v := (.int .i64 zo)) (op_at rfl) (by kernel_rfl) (by kernel_rfl) (by kernel_rfl) (fun _ _ _ h => h) (Or.inl ⟨rfl, fun w hSw => ?_⟩) (by assumption) ?_
  · (try dsimp only at hSw); go_simp; try with_reducible rfl
  (try simp only [Act.put, tz0, tz1, tz2])
  refine wpAnyH_done (by kernel_rfl) ?_ _
  go_wp2_with fail
  go_ret
  exact ⟨rfl, g⟩
set_option maxHeartbeats 4000000 in
set_option maxRecDepth 100000 in
theorem findMk_c {w : World} {l : List MkR} {n b off cap L : Nat} (hn : l.length = n) (h1 : n ≤ 1000) (hc : ∀ (i : Nat) (r : MkR), l[i]? = some r → w.cell? ⟨b, off + i * 2, none⟩ = some (.string r.de) ∧ w.cell? ⟨b, off + i * 2 + 1, none⟩ = some (.int .i64 r.nu)) (hL : w.cell? ⟨L, 0, none⟩ = some (.slice (some ⟨b, off, none⟩) n cap)) :
    Calls Tryz.prog 182 #[.slice (some ⟨b, off, none⟩) n cap, .func (.func 122) #[] #[.pointer (some ⟨L, 0, none⟩)]] w fun e w' => (∃ i : Int, e = .returned (.tuple #[.int .i64 i, .int .i64 (errG (mkE l) l n 0)])) ∧ Gr w w' := by
  have HX := Lib.hid (fun k (h : k < n) => (show ∃ x, l[k]? = some x from ⟨l[k]'(by omega), List.getElem?_eq_getElem _⟩))
  have HC := Lib.hid hc
  have HS := Lib.hid (fun i x (hi : i < n) (h : l[i]? = some x) => errG_step (E := mkE l) hi h)
  have HE : Hid (errG (mkE l) l 0 n = 0) := rfl
  have HO : Hid (∀ (i : Nat) (x : MkR), l[i]? = some x → ∀ W, Gr w W → Calls Tryz.prog 122 #[.int .i64 (i : Int), .agg #[.string x.de, .int .i64 x.nu], .pointer (some ⟨L, 0, none⟩)] W fun e w' => e = .returned (.int .i64 (mkE l i x)) ∧ Gr W w') := fun i x hx W G => by
    rcases i with _ | j
    · exact oneMk0_c
    · obtain ⟨a, ha⟩ : ∃ a, l[j]? = some a := ⟨l[j]'(by have := (List.getElem?_eq_some_iff.1 hx).1; omega), List.getElem?_eq_getElem _⟩
      exact oneMkS_c rfl (by have := (List.getElem?_eq_some_iff.1 hx).1; omega) h1 ha (G.cell (hc j a ha).1) (G.cell hL)
  generalize errG (mkE l) l = R at *
  clear hc hn hL
  go_enter Tryz.func182, Tryz.ntmps182
  go_wp2_with fail
  go_loopg [11] n (fun gk s11 wr => ∃ i : Nat, s11 = .int .i64 i ∧ gk + i = n ∧ Hid (Gr w wr) ∧ Hid (R (n - i) i = R n 0))
  case atStart => exact ⟨0, rfl, by omega, Gr.refl _, by simp [Hid]⟩
  case round =>
    obtain ⟨i, rfl, hi, HG, HF⟩ := hrel
    by_cases hlt : i < n
    · obtain ⟨x, hx⟩ := HX.out i hlt
      obtain ⟨c0, c1⟩ := HC.out i x hx
      replace c0 := HG.out.cell c0
      replace c1 := HG.out.cell c1
      have hi2 : (i : Int) < n := by omega
      have hst := HS.out i x hlt hx
      have g1 := (Gr.refl wr).alloc (.cells #[.string x.de, .int .i64 x.nu] 84)
      have HT := Lib.hid (HO.out i x hx _ (HG.out.trans g1))
      have HGG := Lib.hid (HG.out.trans g1)
      clear hx g1
      by_cases h0 : mkE l i x = 0
      · rw [h0] at HT
        rw [if_pos h0] at hst
        have HF2 := Lib.hid hst
        clear hst h0
        go_wp2_with (refine HT.out.mono ?_; rintro e w4 ⟨rfl, hA⟩)
        go_roundg (gk - 1)
        case measure => omega
        case rel => exact ⟨i + 1, by go_num, by omega, HGG.out.trans hA, by unfold Hid; rw [← HF2.out, HF.out]⟩
      · rw [if_neg h0] at hst
        generalize mkE l i x = z at *
        have q2 : (z != 0) = true := bne_iff_ne.2 h0
        have HQ : Hid (R n 0 = z) := by unfold Hid; rw [← HF.out, hst]
        clear hst h0
        go_wp2_with (refine HT.out.mono ?_; rintro e w4 ⟨rfl, hA⟩)
        exact bodyPost_ret (v := .tuple #[.int .i64 i, .int .i64 z]) (by simp [results, Tryz.results182, go_sem]) rfl ⟨⟨i, by rw [HQ.out]⟩, HGG.out.trans hA⟩
    · have hin : i = n := by omega
      have hi2 : ¬ (i : Int) < n := by omega
      have HQ : Hid (R n 0 = 0) := by unfold Hid; rw [← HF.out, hin, Nat.sub_self]; exact HE.out
      go_wp2_with fail
      exact bodyPost_ret (v := .tuple #[.int .i64 0, .int .i64 0]) (by simp [results, Tryz.results182, go_sem]) rfl ⟨⟨0, by rw [HQ.out]⟩, HG.out⟩
theorem findMk_nil (p : Option Addr) (cap : Nat) (fn : Value) (w : World) :
    Calls Tryz.prog 182 #[.slice p 0 cap, fn] w fun e w' => (∃ i : Int, e = .returned (.tuple #[.int .i64 i, .int .i64 0])) ∧ w = w' := by
  go_enter Tryz.func182, Tryz.ntmps182
  go_wp2_with fail
  refine wp_loop_rounds 1 ?_
  rw [rounds_succ]
  go_wp2_with fail
  exact bodyPost_ret (v := .tuple #[.int .i64 0, .int .i64 0]) (by simp [results, Tryz.results182, go_sem]) rfl ⟨⟨0, rfl⟩, rfl⟩
theorem eachMk_c {w : World} {q : Option Addr} {l : List MkR} {n cap L : Nat} (hn : n = l.length) (h1 : n ≤ 1000) (hr : MkS w q l) (hL : w.cell? ⟨L, 0, none⟩ = some (.slice q n cap)) :
    Calls Tryz.prog 121 #[.slice q n cap, .func (.func 122) #[] #[.pointer (some ⟨L, 0, none⟩)]] w fun e w' => e = .returned (.int .i64 (vecE l)) ∧ Gr w w' := by
  have H : Hid (Calls Tryz.prog 182 #[.slice q n cap, .func (.func 122) #[] #[.pointer (some ⟨L, 0, none⟩)]] w fun e w' => (∃ i : Int, e = .returned (.tuple #[.int .i64 i, .int .i64 (vecE l)])) ∧ Gr w w') := by
    by_cases h0 : 0 < n
    · obtain ⟨b, off, rfl, hc⟩ := hr.out (by omega)
      have := findMk_c hn.symm h1 hc hL
      unfold vecE
      rw [← hn]
      exact this
    · obtain rfl : n = 0 := by omega
      refine (findMk_nil q cap _ w).mono fun e w' ⟨he, hw⟩ => ⟨?_, hw ▸ Gr.refl _⟩
      have : vecE l = 0 := by unfold vecE; rw [← hn]; rfl
      rw [this]; exact he
  generalize vecE l = z at *
  clear hr hL hn
  go_enter Tryz.func121, Tryz.ntmps121
  go_wp2_with (refine H.out.mono ?_; rintro e w4 ⟨⟨i, rfl⟩, hg⟩)
  go_ret
  exact ⟨rfl, hg⟩
theorem checkVec_c {w : World} {q : Option Addr} {l : List MkR} {n cap : Nat} (hn : n = l.length) (h1 : n ≤ 1000) (hr : MkS w q l) :
    Calls Tryz.prog 76 #[.slice q n cap] w fun e w' => e = .returned (.int .i64 (vecE l)) ∧ Gr w w' := by
  have H := Lib.hid (fun W L (g : Gr w W) (hL : W.cell? ⟨L, 0, none⟩ = some (.slice q n cap)) => eachMk_c (L := L) hn h1 (hr.gr g) hL)
  have g1 := (Gr.refl w).alloc (.cells #[.slice q n cap] 55)
  have c0 := cell_new w #[.slice q n cap] 55 0 (by simp)
  have h2 : ¬ (1000 : Int) < (n : Int) := by omega
  generalize vecE l = z at *
  clear hr hn
  go_enter Tryz.func76, Tryz.ntmps76
  go_wp2_with fail
  refine (H.out _ _ g1 c0).mono ?_
  rintro e w4 ⟨rfl, hg⟩
  go_wp2_with fail
  go_ret
  exact ⟨rfl, g1.trans hg⟩
end Go.Proofs.YtnihclhhbegjhaaGreatDoor
namespace Go.Proofs.YtnihclhhbegjhaaGreatDoor
open Go.RowKit Go.Lib
set_option linter.unusedSimpArgs false
set_option linter.unusedVariables false
set_option maxHeartbeats 4000000 in
set_option maxRecDepth 100000 in
theorem refVec_c {w : World} {q : Option Addr} {l : List MkR} {n cap : Nat} (hn : n = l.length) (h1 : n ≤ 1000) (hr : MkS w q l) :
    Calls Tryz.prog 35 #[.slice q n cap] w fun e w' => e = .returned (.int .i64 (vecE l)) ∧ Gr w w' := by
  have HX := Lib.hid (fun k (h : k < n) => (show ∃ x, l[k]? = some x from ⟨l[k]'(by omega), List.getElem?_eq_getElem _⟩))
  have HR := Lib.hid hr.out
  have HN := Lib.hid hn
  have HS := Lib.hid (fun i x (hi : i < n) (h : l[i]? = some x) => errG_step (E := mkE l) hi h)
  have HE : Hid (errG (mkE l) l 0 n = 0) := rfl
  have HEN : Hid (∀ i x, mkE l i x = if decide (Nm x.de) = true then (if outB x.nu 0 1000 = true then 3 else if lateE l i x = true then 11 else 0) else 8) := fun i x => by
    unfold mkE nmE outE
    have hh : ∀ a b c : Int, firstE [a, b, c] = if a = 0 then (if b = 0 then (if c = 0 then 0 else c) else b) else a := fun _ _ _ => rfl
    rw [hh]
    by_cases hnm : Nm x.de <;> cases outB x.nu 0 1000 <;> cases lateE l i x <;> simp [hnm]
  have HOR : Hid (∀ i j x a, i = j + 1 → l[j]? = some a → lateE l i x = !(ltS a.de x.de)) := fun i j x a e h => by
    subst e
    simp only [lateE, h, lateB]
  have HO0 : Hid (∀ x, lateE l 0 x = false) := fun x => rfl
  have hA : vecE l = errG (mkE l) l n 0 := by rw [hn]; rfl
  rw [hA]
  generalize errG (mkE l) l = R at *
  have h2 : ¬ (1000 : Int) < (n : Int) := by omega
  clear hr hn hA
  go_enter Tryz.func35, Tryz.ntmps35
  go_wp2_with fail
  go_loopg [3] n (fun gk s3 wr => ∃ i : Nat, s3 = .int .i64 (i : Int) ∧ gk + i = n ∧ Hid (Gr w wr) ∧ Hid (R (n - i) i = R n 0))
  case atStart => exact ⟨0, rfl, by omega, Gr.refl _, by simp [Hid]⟩
  case round =>
    obtain ⟨i, rfl, hgk, HG, HF⟩ := hrel
    by_cases hlt : i < n
    · obtain ⟨x, hx⟩ := HX.out i hlt
      obtain ⟨b, off, rfl, hc⟩ := HR.out (by have := HN.out; omega)
      obtain ⟨x0, x1⟩ := hc i x hx
      replace x0 := HG.out.cell x0
      replace x1 := HG.out.cell x1
      have hlt2 : (i : Int) < (n : Int) := by omega
      have hst := HS.out i x hlt hx
      have HEQ := HEN.out i x
      have HNM := Lib.hid (fun V => refIsName_c x.de V)
      have HOU := Lib.hid (fun V => refOut10_c x.nu 0 1000 V)
      cases hN : decide (Nm x.de)
      · rw [hN] at HEQ HNM
        have hE : mkE l i x = 8 := HEQ
        rw [hE] at hst
        have HQ : Hid (R n 0 = 8) := by unfold Hid; rw [← HF.out, hst]; rfl
        clear hst HEQ hE hx hc hN
        go_wp2_with fail
        refine (HNM.out _).mono ?_
        rintro e V ⟨rfl, rfl⟩
        go_wp2_with fail
        go_ret
        exact ⟨by rw [HQ.out]; try rfl, HG.out⟩
      · rw [hN] at HEQ HNM
        rw [if_pos rfl] at HEQ
        cases hO : outB x.nu 0 1000
        · rw [hO] at HEQ HOU
          rcases Nat.eq_zero_or_pos i with hi0 | hi0
          · subst hi0
            simp only [Nat.zero_mul, Nat.add_zero] at x0 x1
            rw [HO0.out x] at HEQ
            have hE : mkE l 0 x = 0 := HEQ
            rw [if_pos hE] at hst
            have HF2 := Lib.hid hst
            clear hst HEQ hx hc hE hN hO
            go_wp2_with fail
            refine (HNM.out _).mono ?_
            rintro e V ⟨rfl, rfl⟩
            have HGV := HG
            go_wp2_with fail
            refine (HOU.out _).mono ?_
            rintro e V2 ⟨rfl, rfl⟩
            go_wp2_with fail
            go_big_quiet (fail)
            go_wp2_with fail
            go_roundg (gk - 1)
            case measure => omega
            case rel => exact ⟨0 + 1, by go_num, by omega, HGV.out.drewN _, by unfold Hid; rw [← HF2.out, HF.out]⟩
          · obtain ⟨j, hij⟩ : ∃ j, i = j + 1 := ⟨i - 1, by omega⟩
            obtain ⟨a, ha⟩ := HX.out j (by omega)
            rw [HOR.out i j x a hij ha] at HEQ
            have y0 := HG.out.cell (hc j a ha).1
            have hw1 : IntKind.i64.wrap ((i : Int) - 1) = (j : Int) := by rw [IntKind.wrap_i64]; omega
            have d1 : decide ((0 : Int) < (i : Int)) = true := decide_eq_true (by omega)
            have hjn : j < n := by omega
            have hi1 : 0 < i := hi0
            have hle := fun w => runS_leq x.de a.de w
            rw [ltS_tri] at HEQ
            obtain ⟨gb, hgb⟩ : ∃ g, g = (ltS x.de a.de || (x.de.toList == a.de.toList)) := ⟨_, rfl⟩
            simp only [← hgb] at hle HEQ
            clear hij hi0 hx hc ha hgb hN hO
            cases gb
            · have hE : mkE l i x = 0 := HEQ
              rw [if_pos hE] at hst
              have HF2 := Lib.hid hst
              clear hst HEQ hE
              go_wp2_with fail
              refine (HNM.out _).mono ?_
              rintro e V ⟨rfl, rfl⟩
              have HGV := HG
              go_wp2_with fail
              refine (HOU.out _).mono ?_
              rintro e V2 ⟨rfl, rfl⟩
              go_wp2_with fail
              go_big_quiet (fail)
              go_wp2_with fail
              go_roundg (gk - 1)
              case measure => omega
              case rel => exact ⟨i + 1, by go_num, by omega, HGV.out.drewN _, by unfold Hid; rw [← HF2.out, HF.out]⟩
            · have hE : mkE l i x = 11 := HEQ
              rw [hE] at hst
              have HQ : Hid (R n 0 = 11) := by unfold Hid; rw [← HF.out, hst]; rfl
              clear hst HEQ hE
              go_wp2_with fail
              refine (HNM.out _).mono ?_
              rintro e V ⟨rfl, rfl⟩
              have HGV := HG
              go_wp2_with fail
              refine (HOU.out _).mono ?_
              rintro e V2 ⟨rfl, rfl⟩
              go_wp2_with fail
              go_big_quiet (fail)
              go_wp2_with fail
              go_ret
              exact ⟨by rw [HQ.out]; try rfl, HGV.out.drewN _⟩
        · rw [hO] at HEQ HOU
          have hE : mkE l i x = 3 := HEQ
          rw [hE] at hst
          have HQ : Hid (R n 0 = 3) := by unfold Hid; rw [← HF.out, hst]; rfl
          clear hst HEQ hE hx hc hN hO
          go_wp2_with fail
          refine (HNM.out _).mono ?_
          rintro e V ⟨rfl, rfl⟩
          have HGV := HG
          go_wp2_with fail
          refine (HOU.out _).mono ?_
          rintro e V2 ⟨rfl, rfl⟩
          go_wp2_with fail
          go_ret
          exact ⟨by rw [HQ.out]; try rfl, HGV.out⟩
    · have hin : i = n := by omega
      have hi2 : ¬ (i : Int) < n := by omega
      have HQ : Hid (R n 0 = 0) := by unfold Hid; rw [← HF.out, hin, Nat.sub_self]; exact HE.out
      go_wp2_with fail
      go_ret
      exact ⟨by rw [HQ.out]; try rfl, HG.out⟩
end Go.Proofs.YtnihclhhbegjhaaGreatDoor
namespace Go.Proofs.YtnihclhhbegjhaaGreatDoor
open Go.RowKit Go.Lib
set_option linter.unusedSimpArgs false
set_option linter.unusedVariables false
def lastN (v : List MkR) (d : ByteArray) : Int := v.foldl (fun n m => if (m.de.toList == d.toList) = true then m.nu else n) 0
theorem lastN_add (v : List MkR) (m : MkR) (d : ByteArray) : lastN (v ++ [m]) d = if (m.de.toList == d.toList) = true then m.nu else lastN v d := by
  unfold lastN; rw [List.foldl_append]; rfl
def lackL (l : List EnR) (v : List MkR) : List EnR := l.filter fun e => decide (lastN v e.de < e.nu)
theorem lackL_add (l : List EnR) (v : List MkR) (e : EnR) : lackL (l ++ [e]) v = if lastN v e.de < e.nu then lackL l v ++ [e] else lackL l v := by
  unfold lackL; rw [List.filter_append]
  by_cases h : lastN v e.de < e.nu <;> simp [h]
def sameD (x y : EnR) : Bool := y.de.toList == x.de.toList
def grps : Nat → List EnR → List (List EnR)
  | 0, _ => []
  | _ + 1, [] => []
  | f + 1, x :: t => (x :: t.takeWhile (sameD x)) :: grps f (t.dropWhile (sameD x))
def groups (l : List EnR) : List (List EnR) := grps l.length l
def cntN : Nat → List EnR → Nat
  | c, [] => c
  | c, e :: t => if e.nu = (c : Int) + 1 then cntN (c + 1) t else c
def deskOf (g : List EnR) : ByteArray := match g with
  | [] => ⟨#[]⟩
  | x :: _ => x.de
def vecG (g : List EnR) : MkR := ⟨deskOf g, ((cntN 0 g : Nat) : Int)⟩
def vecP (l : List EnR) : List MkR := (groups l).map vecG
def gapG (g : List EnR) : List MkR := if cntN 0 g < g.length then [⟨deskOf g, ((cntN 0 g : Nat) : Int) + 1⟩] else []
def gapsP (l : List EnR) : List MkR := (groups l).flatMap gapG
theorem baI {s t : ByteArray} (h : s.toList = t.toList) : s = t := by
  rw [ByteArray.toList_eq, ByteArray.toList_eq] at h
  exact ByteArray.ext (Array.toList_inj.1 h)
structure Asc1 (d : ByteArray) (c : Int) (g : List EnR) : Prop where
  desk : ∀ e ∈ g, e.de = d
  lo : ∀ e ∈ g, c < e.nu
  asc : g.Pairwise fun a b => a.nu < b.nu
structure Ord (l : List EnR) : Prop where
  lo : ∀ e ∈ l, 1 ≤ e.nu
  asc : l.Pairwise fun a b => befB a b = true
theorem befB_same {a b : EnR} (h : befB a b = true) (e : b.de.toList = a.de.toList) : a.nu < b.nu := by
  unfold befB at h
  rw [ltS_eq e.symm, Bool.false_or, Bool.and_eq_true] at h
  exact of_decide_eq_true h.2
theorem takeWhile_same {x : EnR} {t : List EnR} : ∀ e ∈ t.takeWhile (sameD x), e.de = x.de := fun e he => by
  have := List.all_takeWhile (p := sameD x) (l := t)
  rw [List.all_eq_true] at this
  have h := this e he
  unfold sameD at h
  exact baI (beq_iff_eq.1 h)
theorem Ord.sub {l m : List EnR} (h : Ord l) (hs : m.Sublist l) : Ord m := ⟨fun e he => h.lo e (hs.subset he), h.asc.sublist hs⟩
theorem group_asc {x : EnR} {t : List EnR} (h : Ord (x :: t)) : Asc1 x.de 0 (x :: t.takeWhile (sameD x)) := by
  have hd : ∀ e ∈ x :: t.takeWhile (sameD x), e.de = x.de := fun e he => by
    rcases List.mem_cons.1 he with rfl | he
    · rfl
    · exact takeWhile_same e he
  have hs : (x :: t.takeWhile (sameD x)).Sublist (x :: t) := (List.takeWhile_sublist _).cons_cons x
  refine ⟨hd, fun e he => by have := h.lo e (hs.subset he); omega, ?_⟩
  have hp := h.asc.sublist hs
  refine List.Pairwise.imp_of_mem ?_ hp
  intro a b ha hb hab
  exact befB_same hab (by rw [hd a ha, hd b hb])
end Go.Proofs.YtnihclhhbegjhaaGreatDoor
namespace Go.Proofs.YtnihclhhbegjhaaGreatDoor
open Go.RowKit Go.Lib
set_option linter.unusedSimpArgs false
set_option linter.unusedVariables false
theorem less_trans : ∀ a b c : List UInt8, Op.bytesLess a b = true → Op.bytesLess b c = true → Op.bytesLess a c = true
  | _, [], _, h, _ => by simp [Op.bytesLess] at h
  | _, _ :: _, [], _, h => by simp [Op.bytesLess] at h
  | [], _ :: _, _ :: _, _, _ => by simp [Op.bytesLess]
  | x :: a, y :: b, z :: c, h1, h2 => by
    unfold Op.bytesLess at h1 h2 ⊢
    simp only [Bool.or_eq_true, decide_eq_true_eq, Bool.and_eq_true, beq_iff_eq] at *
    rcases h1 with h1 | ⟨h1, h1'⟩ <;> rcases h2 with h2 | ⟨h2, h2'⟩
    · left; rw [UInt8.lt_iff_toNat_lt] at *; omega
    · left; rw [← h2]; exact h1
    · left; rw [h1]; exact h2
    · right; exact ⟨h1.trans h2, less_trans a b c h1' h2'⟩
theorem post_ne {x : EnR} {t : List EnR} (h : Ord (x :: t)) : ∀ e ∈ t.dropWhile (sameD x), ¬ e.de.toList = x.de.toList := by
  intro e he
  have hsub : (t.dropWhile (sameD x)).Sublist t := List.dropWhile_sublist _
  have hp := List.pairwise_cons.1 h.asc
  cases hd : t.dropWhile (sameD x) with
  | nil => rw [hd] at he; cases he
  | cons y r =>
    have hnot : sameD x y = false := by
      have := List.head?_dropWhile_not (sameD x) t
      rw [hd] at this
      simpa using this
    have hyt : y ∈ t := hsub.subset (by rw [hd]; simp)
    have hxy := hp.1 y hyt
    unfold sameD at hnot
    have hlt : ltS x.de y.de = true := by
      unfold befB at hxy
      have h2 : (x.de.toList == y.de.toList) = false := by
        rw [Bool.beq_comm]; exact hnot
      rw [h2] at hxy
      simpa using hxy
    have hlt2 : ltS x.de e.de = true := by
      rw [hd] at he
      rcases List.mem_cons.1 he with rfl | he
      · exact hlt
      · have hpt := hp.2.sublist hsub
        rw [hd] at hpt
        have hye := (List.pairwise_cons.1 hpt).1 e he
        unfold befB at hye
        rw [Bool.or_eq_true] at hye
        rcases hye with hye | hye
        · exact less_trans _ _ _ hlt hye
        · rw [Bool.and_eq_true] at hye
          have := beq_iff_eq.1 hye.1
          unfold ltS at hlt ⊢
          rw [← this]; exact hlt
    intro heq
    rw [ltS_eq heq.symm] at hlt2
    cases hlt2
theorem befB_trans {a b c : EnR} (h1 : befB a b = true) (h2 : befB b c = true) : befB a c = true := by
  unfold befB at *
  rw [Bool.or_eq_true, Bool.and_eq_true] at *
  rcases h1 with h1 | ⟨h1, h1'⟩ <;> rcases h2 with h2 | ⟨h2, h2'⟩
  · left; exact less_trans _ _ _ h1 h2
  · left; unfold ltS at *; rw [← beq_iff_eq.1 h2]; exact h1
  · left; unfold ltS at *; rw [beq_iff_eq.1 h1]; exact h2
  · right
    have := of_decide_eq_true h1'
    have := of_decide_eq_true h2'
    exact ⟨by rw [beq_iff_eq.1 h1, beq_iff_eq.1 h2]; simp, decide_eq_true (by omega)⟩
theorem errG_all {α : Type} {E : Nat → α → Int} {xs : List α} : ∀ (k i : Nat), i + k = xs.length → errG E xs k i = 0 → ∀ j x, i ≤ j → xs[j]? = some x → E j x = 0
  | 0, i, h, _, j, x, hj, hx => by
    have := (List.getElem?_eq_some_iff.1 hx).1; omega
  | k + 1, i, h, h0, j, x, hj, hx => by
    unfold errG at h0
    cases hi : xs[i]? with
    | none => rw [List.getElem?_eq_none_iff] at hi; omega
    | some y =>
      rw [hi] at h0
      by_cases hy : E i y = 0
      · simp only [hy, if_pos] at h0
        rcases Nat.eq_or_lt_of_le hj with e | hlt
        · subst e
          rw [hx] at hi; cases hi
          exact hy
        · exact errG_all k (i + 1) (by omega) h0 j x (by omega) hx
      · simp only [hy, if_neg, not_false_eq_true] at h0
theorem arch_ord {l : List EnR} (h : archE l = 0) : Ord l ∧ ∀ e ∈ l, enErr e = 0 := by
  have ha := errG_all l.length 0 (by omega) h
  have hf : ∀ x y : Int, firstE [x, y] = if x = 0 then (if y = 0 then 0 else y) else x := fun _ _ => rfl
  have h1 : ∀ i x, l[i]? = some x → enErr x = 0 ∧ ordE l i x = false := fun i x hx => by
    have h0 := ha i x (Nat.zero_le _) hx
    unfold enE at h0
    rw [hf] at h0
    by_cases he : enErr x = 0
    · refine ⟨he, ?_⟩
      cases ho : ordE l i x with
      | false => rfl
      | true => rw [he, ho] at h0; simp at h0
    · rw [if_neg he] at h0; exact absurd h0 he
  have he : ∀ e ∈ l, enErr e = 0 := fun e he => by
    obtain ⟨i, hi⟩ := List.getElem?_of_mem he
    exact (h1 i e hi).1
  refine ⟨⟨fun e hm => ?_, ?_⟩, he⟩
  · have h0 := he e hm
    unfold enErr entryE at h0
    have h4 : ∀ a b c d : Int, firstE [a, b, c, d] = 0 → b = 0 := fun a b c d hh => by
      have hh4 : firstE [a, b, c, d] = if a = 0 then (if b = 0 then (if c = 0 then (if d = 0 then 0 else d) else c) else b) else a := rfl
      rw [hh4] at hh
      by_cases h1 : a = 0 <;> by_cases h2 : b = 0 <;> simp_all
    have hb := h4 _ _ _ _ h0
    unfold outE outB at hb
    by_cases hlt : e.nu < 1
    · simp [hlt] at hb
    · omega
  · have hadj : ∀ i a b, l[i]? = some a → l[i + 1]? = some b → befB a b = true := fun i a b hia hib => by
      have := (h1 (i + 1) b hib).2
      simp only [ordE, hia, ordB] at this
      rw [Bool.or_eq_false_iff] at this
      simpa using this.1
    rw [List.pairwise_iff_getElem]
    intro i j hi hj hij
    obtain ⟨d, rfl⟩ : ∃ d, j = i + 1 + d := ⟨j - (i + 1), by omega⟩
    clear hij
    induction d with
    | zero => exact hadj i _ _ (List.getElem?_eq_getElem hi) (List.getElem?_eq_getElem hj)
    | succ d ih =>
      have hj2 : i + 1 + d < l.length := by omega
      exact befB_trans (ih hj2) (hadj (i + 1 + d) _ _ (List.getElem?_eq_getElem hj2) (List.getElem?_eq_getElem hj))
end Go.Proofs.YtnihclhhbegjhaaGreatDoor
namespace Go.Proofs.YtnihclhhbegjhaaGreatDoor
open Go.RowKit Go.Lib
set_option linter.unusedSimpArgs false
set_option linter.unusedVariables false
theorem lack_len (l : List EnR) (v : List MkR) : (lackL l v).length ≤ l.length := List.length_filter_le _ _
end Go.Proofs.YtnihclhhbegjhaaGreatDoor
namespace Go.Proofs.YtnihclhhbegjhaaGreatDoor
open Go.RowKit Go.Lib
set_option linter.unusedSimpArgs false
set_option linter.unusedVariables false
end Go.Proofs.YtnihclhhbegjhaaGreatDoor
namespace Go.Proofs.YtnihclhhbegjhaaGreatDoor
open Go.RowKit Go.Lib
set_option linter.unusedSimpArgs false
set_option linter.unusedVariables false
end Go.Proofs.YtnihclhhbegjhaaGreatDoor
namespace Go.Proofs.YtnihclhhbegjhaaGreatDoor
open Go.RowKit Go.Lib
set_option linter.unusedSimpArgs false
set_option linter.unusedVariables false
theorem set7O {w : World} {g T : Nat} {r0 r1 r2 r3 r4 r5 r6 : Value} (h : w.heap[g]? = some (.cells #[r0, r1, r2, r3, r4, r5, r6] T)) (a b c d e f k : Value) : (((((((w.setCell ⟨g, 0, none⟩ a).setCell ⟨g, 1, none⟩ b).setCell ⟨g, 2, none⟩ c).setCell ⟨g, 3, none⟩ d).setCell ⟨g, 4, none⟩ e).setCell ⟨g, 5, none⟩ f).setCell ⟨g, 6, none⟩ k).heap[g]? = some (.cells #[a, b, c, d, e, f, k] T) := by
  simp [World.setCell, Array.getElem?_modify, h]
theorem cells7_ofO {w : World} {g : Nat} {a b c d e f k : Value} {T : TypeId} {z : Nat × Nat} (h : w.heap[g]? = some (.cells #[a, b, c, d, e, f, k] T z)) : w.cell? ⟨g, 0, none⟩ = some a ∧ w.cell? ⟨g, 1, none⟩ = some b ∧ w.cell? ⟨g, 2, none⟩ = some c ∧ w.cell? ⟨g, 3, none⟩ = some d ∧ w.cell? ⟨g, 4, none⟩ = some e ∧ w.cell? ⟨g, 5, none⟩ = some f ∧ w.cell? ⟨g, 6, none⟩ = some k := by
  simp [World.cell?, h]
set_option maxHeartbeats 4000000 in
set_option maxRecDepth 100000 in
theorem copyEn_c {e : EnR} {w : World} (h : RowsX w e.p e.n e.cap e.xs) (hn : e.n ≤ 1000) (hl : ∀ x ∈ e.xs, x.xs.length ≤ 1000) :
    Calls Tryz.prog 77 #[enV e] w fun r w' => ∃ q k ys, r = .returned (enV { e with p := q, cap := k, xs := ys }) ∧ CpS w' w.heap.size q e.n k ys ∧ ys.map rk = e.xs.map rk ∧ Gr w w' := by
  obtain ⟨de, nu, ck, ro, va, st, p, n, cap, xs⟩ := e
  unfold enV
  simp only at h hn hl ⊢
  have HS := Lib.hid (fun V (g : Gr w V) => copySh_c (ro := ro) (st := st) (va := va) (h.gr g) hn hl)
  obtain ⟨W1, hW1, g1, a0, a1, a2, a3, a4, a5, a6⟩ := bx7 w (.string de) (.int .i64 nu) (.int .i64 ck) (.string ro) (.int .i64 va) (.string st) (.slice p n cap) 77
  have HW := Lib.hid hW1
  have HSZ : Hid (W1.heap.size = w.heap.size + 1) := by rw [Hid, ← hW1]; simp
  have HB1 : Hid (W1.heap[w.heap.size]? = some (.cells #[.string de, .int .i64 nu, .int .i64 ck, .string ro, .int .i64 va, .string st, .slice p n cap] 77 (0, 0))) := by rw [Hid, ← hW1]; exact heap_alloc_new w _
  clear hW1 h
  go_enter Tryz.func77, Tryz.ntmps77
  go_wp2_with fail
  rw [HW.out]
  clear HW
  have hsz : W1.heap.size = w.heap.size + 1 := HSZ.out
  obtain ⟨W2, hW2, g2, z0, z1, z2, z3, z4, z5, z6⟩ := bx7 W1 (.string ⟨#[]⟩) (.int .i64 0) (.int .i64 0) (.string ⟨#[]⟩) (.int .i64 0) (.string ⟨#[]⟩) (.slice none 0 0) 77
  have hb2 : W2.heap[W1.heap.size]? = some (.cells #[.string ⟨#[]⟩, .int .i64 0, .int .i64 0, .string ⟨#[]⟩, .int .i64 0, .string ⟨#[]⟩, .slice none 0 0] 77 (0, 0)) := by rw [← hW2]; exact heap_alloc_new W1 _
  have hb1 := Gr.block g2 HB1.out
  rw [hW2]
  replace a0 := g2.cell a0
  replace a1 := g2.cell a1
  replace a2 := g2.cell a2
  replace a3 := g2.cell a3
  replace a4 := g2.cell a4
  replace a5 := g2.cell a5
  replace a6 := g2.cell a6
  go_wp2_with fail
  refine (HS.out _ (g1.trans g2)).mono ?_
  rintro e W3 ⟨q, k, ys, rfl, hcp, hmp, hg⟩
  replace hb1 := Gr.block hg hb1
  replace hb2 := Gr.block hg hb2
  replace a0 := hg.cell a0
  replace a1 := hg.cell a1
  replace a2 := hg.cell a2
  replace a3 := hg.cell a3
  replace a4 := hg.cell a4
  replace a5 := hg.cell a5
  replace a6 := hg.cell a6
  replace z0 := hg.cell z0
  replace z1 := hg.cell z1
  replace z2 := hg.cell z2
  replace z3 := hg.cell z3
  replace z4 := hg.cell z4
  replace z5 := hg.cell z5
  replace z6 := hg.cell z6
  have f1 : ∀ o, W3.frozen? ⟨w.heap.size, o, none⟩ = false := fun o => frozen_of_row _ _ o _ _ hb1
  have f2 : ∀ o, W3.frozen? ⟨W1.heap.size, o, none⟩ = false := fun o => frozen_of_row _ _ o _ _ hb2
  have HO := Lib.hid hcp
  have HM := Lib.hid hmp
  have HG := Lib.hid ((g1.trans g2).trans hg)
  rw [hsz] at hb2
  have HB2' := Lib.hid hb2
  rw [hsz] at z0 z1 z2 z3 z4 z5 z6 f2
  have HS2 : Hid (W2.heap.size = w.heap.size + 2) := by rw [Hid, ← hW2]; simp [hsz]
  clear hW2 g2 hg hcp hmp hb1 hb2 HB1 HS
  obtain ⟨Bx, hBx⟩ : ∃ B, w.heap.size = B := ⟨_, rfl⟩
  have HBW := Lib.hid hBx
  rw [hBx] at a0 a1 a2 a3 a4 a5 a6 z0 z1 z2 z3 z4 z5 z6 f1 f2 HS2 HB2' ⊢
  clear hBx hsz HSZ
  go_wp2_with fail
  have hb : ((((W3.setCell ⟨Bx, 3, none⟩ (.string ro)).setCell ⟨Bx, 4, none⟩ (.int .i64 va)).setCell ⟨Bx, 5, none⟩ (.string st)).setCell ⟨Bx, 6, none⟩ (.slice q n k)).heap[Bx + 1]? = some (.cells #[.string ⟨#[]⟩, .int .i64 0, .int .i64 0, .string ⟨#[]⟩, .int .i64 0, .string ⟨#[]⟩, .slice none 0 0] 77 (0, 0)) := by
    rw [Below.heap_setCell _ _ _ _ (by show Bx + 1 ≠ Bx; omega), Below.heap_setCell _ _ _ _ (by show Bx + 1 ≠ Bx; omega), Below.heap_setCell _ _ _ _ (by show Bx + 1 ≠ Bx; omega), Below.heap_setCell _ _ _ _ (by show Bx + 1 ≠ Bx; omega)]
    exact HB2'.out
  have hb7 := set7O hb (.string de) (.int .i64 nu) (.int .i64 ck) (.string ro) (.int .i64 va) (.string st) (.slice q n k)
  obtain ⟨y0, y1, y2, y3, y4, y5, y6⟩ := cells7_ofO hb7
  have hw : w.heap.size = Bx := HBW.out
  have h2 : W2.heap.size = Bx + 2 := HS2.out
  have ho := HO.out
  rw [h2] at ho
  refine bodyPost_ret (v := .agg #[.string de, .int .i64 nu, .int .i64 ck, .string ro, .int .i64 va, .string st, .slice q n k]) (by simp [results, Tryz.results77, go_sem, y0, y1, y2, y3, y4, y5, y6]) rfl ⟨q, k, ys, rfl, ?_, HM.out, ?_⟩
  · exact CpS.low (((((((((((ho.set_low _ _ (by show Bx < Bx + 2; omega)).set_low _ _ (by show Bx < Bx + 2; omega)).set_low _ _ (by show Bx < Bx + 2; omega)).set_low _ _ (by show Bx < Bx + 2; omega)).set_low _ _ (by show Bx + 1 < Bx + 2; omega)).set_low _ _ (by show Bx + 1 < Bx + 2; omega)).set_low _ _ (by show Bx + 1 < Bx + 2; omega)).set_low _ _ (by show Bx + 1 < Bx + 2; omega)).set_low _ _ (by show Bx + 1 < Bx + 2; omega)).set_low _ _ (by show Bx + 1 < Bx + 2; omega)).set_low _ _ (by show Bx + 1 < Bx + 2; omega)) (by omega)
  · exact Below.setCell (Below.setCell (Below.setCell (Below.setCell (Below.setCell (Below.setCell (Below.setCell (Below.setCell (Below.setCell (Below.setCell (Below.setCell HG.out (by show w.heap.size ≤ Bx; omega) _) (by show w.heap.size ≤ Bx; omega) _) (by show w.heap.size ≤ Bx; omega) _) (by show w.heap.size ≤ Bx; omega) _) (by show w.heap.size ≤ Bx + 1; omega) _) (by show w.heap.size ≤ Bx + 1; omega) _) (by show w.heap.size ≤ Bx + 1; omega) _) (by show w.heap.size ≤ Bx + 1; omega) _) (by show w.heap.size ≤ Bx + 1; omega) _) (by show w.heap.size ≤ Bx + 1; omega) _) (by show w.heap.size ≤ Bx + 1; omega) _
end Go.Proofs.YtnihclhhbegjhaaGreatDoor
