/- Open values: the program's CheckOpen. -/
import Derived.Test.YtigmonaggppehaaGreatDoorOpFG
namespace Go.Proofs.YtigmonaggppehaaGreatDoor
open Go.RowKit Go.Lib
set_option linter.unusedSimpArgs false
set_option linter.unusedVariables false
theorem contains_pos (xs : List OpR) (n b off cap B : Nat) (nm : ByteArray) (w : World) (hn : n ≤ xs.length) (h1 : n ≤ 1000) (hc : ∀ i x, xs[i]? = some x → OpAt w b (off + i * 3) x) (hB : w.cell? ⟨B, 0, none⟩ = some (.string nm)) :
    Calls Tryz.prog 93 #[.slice (some ⟨b, off, none⟩) n cap, .func (.func 91) #[] #[.pointer (some ⟨B, 0, none⟩)]] w fun e w' => e = .returned (.bool (dupB xs n nm)) ∧ Gr w w' := by
  have HI := Lib.hid (indexFunc_pos xs n b off cap B nm w hn h1 hc hB)
  have HE : Hid (dupB xs n nm = decide (0 ≤ firstAt xs nm n 0)) := by unfold Hid dupB; rw [firstAt_any xs nm n 0 (by omega), List.drop_zero]
  clear hc hB
  generalize firstAt xs nm n 0 = z at *
  go_enter Tryz.func93, Tryz.ntmps93
  go_wp2_with fail
  refine HI.out.mono ?_
  rintro e w4 ⟨rfl, hg⟩
  go_wp2_with fail
  go_ret
  exact ⟨by rw [HE.out]; rfl, hg⟩
theorem first_five (x y z u q : Int) (b cap : Nat) (w : World) (hx : w.cell? ⟨b, 0, none⟩ = some (.int .i64 x)) (hy : w.cell? ⟨b, 1, none⟩ = some (.int .i64 y)) (hz : w.cell? ⟨b, 2, none⟩ = some (.int .i64 z)) (hu : w.cell? ⟨b, 3, none⟩ = some (.int .i64 u)) (hq : w.cell? ⟨b, 4, none⟩ = some (.int .i64 q)) :
    Calls Tryz.prog 35 #[.slice (some ⟨b, 0, none⟩) 5 cap] w fun e w' => e = .returned (.int .i64 (firstE [x, y, z, u, q])) ∧ w = w' :=
  first_c0 b 5 cap [x, y, z, u, q] w rfl (fun i v h => by
    rcases i with _ | _ | _ | _ | _ | i <;> simp at h <;> subst h <;> assumption) (by omega)
theorem box5 (w : World) (a0 a1 a2 a3 a4 : Value) (T : Nat) : ∃ W, w.alloc (.cells #[a0, a1, a2, a3, a4] T) = W ∧ Gr w W ∧ W.cell? ⟨w.heap.size, 0, none⟩ = some a0 ∧ W.cell? ⟨w.heap.size, 1, none⟩ = some a1 ∧ W.cell? ⟨w.heap.size, 2, none⟩ = some a2 ∧ W.cell? ⟨w.heap.size, 3, none⟩ = some a3 ∧ W.cell? ⟨w.heap.size, 4, none⟩ = some a4 :=
  ⟨_, rfl, (Gr.refl w).alloc _, cell_new w _ T 0 (by simp), cell_new w _ T 1 (by simp), cell_new w _ T 2 (by simp), cell_new w _ T 3 (by simp), cell_new w _ T 4 (by simp)⟩
set_option maxHeartbeats 1000000 in
set_option maxRecDepth 100000 in
theorem one_open (xs : List OpR) (i N b off cap L : Nat) (x : OpR) (w : World) (hN : xs.length = N) (h1 : N ≤ 1000) (hi : i ≤ N) (hcap : N ≤ cap) (hmx : cap ≤ maxLen) (hc : ∀ i x, xs[i]? = some x → OpAt w b (off + i * 3) x) (hL : w.cell? ⟨L, 0, none⟩ = some (.slice (some ⟨b, off, none⟩) N cap)) :
    Calls Tryz.prog 90 #[.int .i64 i, opV x, .pointer (some ⟨L, 0, none⟩)] w fun e w' => e = .returned (.int .i64 (errAt xs i x)) ∧ Gr w w' := by
  unfold opV
  have hR : errAt xs i x = firstE [if !decide (Nm x.nm) then 8 else 0, if dupB xs i x.nm then 9 else 0, outE x.lo 0 99999, outE x.hi 0 99999, if decide (x.hi < x.lo) then 11 else 0] := rfl
  have hN1 := fun W => isName_c x.nm W
  have hD := fun (W : World) (B : Nat) hc hB => contains_pos xs i b off cap B x.nm W (by omega) (by omega) hc hB
  have HR3 := Lib.hid (fun W => range_c x.lo 0 99999 W)
  have HR4 := Lib.hid (fun W => range_c x.hi 0 99999 W)
  generalize decide (Nm x.nm) = b1 at *
  generalize dupB xs i x.nm = b2 at *
  generalize outE x.lo 0 99999 = e3 at *
  generalize outE x.hi 0 99999 = e4 at *
  obtain ⟨e1, h1', H1⟩ := if_e (!b1) 8
  obtain ⟨e2, h2', H2⟩ := if_e b2 9
  obtain ⟨e5, h5', H5⟩ := if_e (decide (x.hi < x.lo)) 11
  rw [← h1', ← h2', ← h5'] at hR
  have hF := first_five e1 e2 e3 e4 e5
  rw [← hR] at hF
  generalize errAt xs i x = err at *
  replace H1 := Lib.hid H1
  replace H2 := Lib.hid H2
  replace H5 := Lib.hid H5
  have HF := Lib.hid hF
  have HN1 := Lib.hid hN1
  have HD := Lib.hid hD
  obtain ⟨W, hW, g, a0, a1, a2⟩ := box3 w (.string x.nm) (.int .i64 x.lo) (.int .i64 x.hi) 69
  have l0 := g.cell hL
  have hcc := fun i x hx => (hc i x hx).gr g
  have HC := Lib.hid hcc
  have HW := Lib.hid hW
  have hi1 : (i : Int) ≤ cap := by omega
  have hi0 : (0 : Int) ≤ i := by omega
  clear hW hc hcc hL hF hN1 hD hR h1' h2' h5' hN
  go_enter Tryz.func90, Tryz.ntmps90
  go_wp2_with fail
  rw [HW.out]
  generalize w.heap.size = B at *
  clear HW
  have gd := (Gr.refl W).drew
  replace a0 := gd.cell a0
  replace a1 := gd.cell a1
  replace a2 := gd.cell a2
  replace l0 := gd.cell l0
  replace HC := Lib.hid (fun i x hx => (HC.out i x hx).gr gd)
  replace g := g.trans gd
  clear gd
  refine wp_region_held_drew (S := (fun w' => w'.cell? ⟨B, 0, none⟩ = some (.string x.nm) ∧ w'.cell? ⟨B, 1, none⟩ = some (.int .i64 x.lo) ∧ w'.cell? ⟨B, 2, none⟩ = some (.int .i64 x.hi) ∧ w'.cell? ⟨L, 0, none⟩ = some (.slice (some ⟨b, off, none⟩) N cap))) (by kernel_rfl) ⟨a0, a1, a2, l0⟩ (fun hHeld => ?_)
  generalize W.drew = V at *
  refine wpAnyH_take (i := 0) (v := (.pointer (some ⟨B, 0, none⟩))) (op_at rfl) (by kernel_rfl) (by kernel_rfl) (by kernel_rfl) (fun _ _ _ h => h) (Or.inl ⟨rfl, fun w hSw => ?_⟩) (by assumption) ?_
  · (try dsimp only at hSw); go_simp; try with_reducible rfl
  (try simp only [Act.put, List.setIfInBounds_toArray, List.set_cons_zero, List.set_cons_succ])
  refine wpAnyH_take (i := 1) (v := (.string x.nm)) (op_at rfl) (by kernel_rfl) (by kernel_rfl) (by kernel_rfl) (fun _ _ _ h => h) (Or.inl ⟨rfl, fun w hSw => ?_⟩) (by assumption) ?_
  · (try dsimp only at hSw); go_simp; try with_reducible rfl
  (try simp only [Act.put, List.setIfInBounds_toArray, List.set_cons_zero, List.set_cons_succ])
  refine wpAnyH_take (i := 5) (v := (.slice (some ⟨b, off, none⟩) N cap)) (op_at rfl) (by kernel_rfl) (by kernel_rfl) (by kernel_rfl) (fun _ _ _ h => h) (Or.inl ⟨rfl, fun w hSw => ?_⟩) (by assumption) ?_
  · (try dsimp only at hSw); go_simp; try with_reducible rfl
  (try simp only [Act.put, List.setIfInBounds_toArray, List.set_cons_zero, List.set_cons_succ])
  refine wpAnyH_take (i := 6) (v := (.int .i64 i)) (op_at rfl) (by kernel_rfl) (by kernel_rfl) (by kernel_rfl) (fun _ _ _ h => h) (Or.inl ⟨rfl, fun w hSw => ?_⟩) (by assumption) ?_
  · (try dsimp only at hSw); go_simp; try with_reducible rfl
  (try simp only [Act.put, List.setIfInBounds_toArray, List.set_cons_zero, List.set_cons_succ])
  refine wpAnyH_take (i := 7) (v := (.slice (some ⟨b, off, none⟩) i cap)) (op_at rfl) (by kernel_rfl) (by kernel_rfl) (by kernel_rfl) (fun _ _ _ h => h) (Or.inl ⟨rfl, fun w hSw => ?_⟩) (by assumption) ?_
  · (try dsimp only at hSw); go_simp; try with_reducible rfl
  (try simp only [Act.put, List.setIfInBounds_toArray, List.set_cons_zero, List.set_cons_succ])
  refine wpAnyH_take (i := 8) (v := (.func (.func 91) #[] #[.pointer (some ⟨B, 0, none⟩)])) (op_at rfl) (by kernel_rfl) (by kernel_rfl) (by kernel_rfl) (fun _ _ _ h => h) (Or.inl ⟨rfl, fun w hSw => ?_⟩) (by assumption) ?_
  · (try dsimp only at hSw); go_simp; try with_reducible rfl
  (try simp only [Act.put, List.setIfInBounds_toArray, List.set_cons_zero, List.set_cons_succ])
  refine wpAnyH_take (i := 11) (v := (.pointer (some ⟨B, 1, none⟩))) (op_at rfl) (by kernel_rfl) (by kernel_rfl) (by kernel_rfl) (fun _ _ _ h => h) (Or.inl ⟨rfl, fun w hSw => ?_⟩) (by assumption) ?_
  · (try dsimp only at hSw); go_simp; try with_reducible rfl
  (try simp only [Act.put, List.setIfInBounds_toArray, List.set_cons_zero, List.set_cons_succ])
  refine wpAnyH_take (i := 12) (v := (.int .i64 x.lo)) (op_at rfl) (by kernel_rfl) (by kernel_rfl) (by kernel_rfl) (fun _ _ _ h => h) (Or.inl ⟨rfl, fun w hSw => ?_⟩) (by assumption) ?_
  · (try dsimp only at hSw); go_simp; try with_reducible rfl
  (try simp only [Act.put, List.setIfInBounds_toArray, List.set_cons_zero, List.set_cons_succ])
  refine wpAnyH_take (i := 14) (v := (.pointer (some ⟨B, 2, none⟩))) (op_at rfl) (by kernel_rfl) (by kernel_rfl) (by kernel_rfl) (fun _ _ _ h => h) (Or.inl ⟨rfl, fun w hSw => ?_⟩) (by assumption) ?_
  · (try dsimp only at hSw); go_simp; try with_reducible rfl
  (try simp only [Act.put, List.setIfInBounds_toArray, List.set_cons_zero, List.set_cons_succ])
  refine wpAnyH_take (i := 15) (v := (.int .i64 x.hi)) (op_at rfl) (by kernel_rfl) (by kernel_rfl) (by kernel_rfl) (fun _ _ _ h => h) (Or.inl ⟨rfl, fun w hSw => ?_⟩) (by assumption) ?_
  · (try dsimp only at hSw); go_simp; try with_reducible rfl
  (try simp only [Act.put, List.setIfInBounds_toArray, List.set_cons_zero, List.set_cons_succ])
  refine wpAnyH_take (i := 17) (v := (.pointer (some ⟨B, 1, none⟩))) (op_at rfl) (by kernel_rfl) (by kernel_rfl) (by kernel_rfl) (fun _ _ _ h => h) (Or.inl ⟨rfl, fun w hSw => ?_⟩) (by assumption) ?_
  · (try dsimp only at hSw); go_simp; try with_reducible rfl
  (try simp only [Act.put, List.setIfInBounds_toArray, List.set_cons_zero, List.set_cons_succ])
  refine wpAnyH_take (i := 18) (v := (.int .i64 x.lo)) (op_at rfl) (by kernel_rfl) (by kernel_rfl) (by kernel_rfl) (fun _ _ _ h => h) (Or.inl ⟨rfl, fun w hSw => ?_⟩) (by assumption) ?_
  · (try dsimp only at hSw); go_simp; try with_reducible rfl
  (try simp only [Act.put, List.setIfInBounds_toArray, List.set_cons_zero, List.set_cons_succ])
  refine wpAnyH_take (i := 19) (v := (.pointer (some ⟨B, 2, none⟩))) (op_at rfl) (by kernel_rfl) (by kernel_rfl) (by kernel_rfl) (fun _ _ _ h => h) (Or.inl ⟨rfl, fun w hSw => ?_⟩) (by assumption) ?_
  · (try dsimp only at hSw); go_simp; try with_reducible rfl
  (try simp only [Act.put, List.setIfInBounds_toArray, List.set_cons_zero, List.set_cons_succ])
  refine wpAnyH_take (i := 20) (v := (.int .i64 x.hi)) (op_at rfl) (by kernel_rfl) (by kernel_rfl) (by kernel_rfl) (fun _ _ _ h => h) (Or.inl ⟨rfl, fun w hSw => ?_⟩) (by assumption) ?_
  · (try dsimp only at hSw); go_simp; try with_reducible rfl
  (try simp only [Act.put, List.setIfInBounds_toArray, List.set_cons_zero, List.set_cons_succ])
  refine wpAnyH_take (i := 21) (v := (.bool (decide (x.hi < x.lo)))) (op_at rfl) (by kernel_rfl) (by kernel_rfl) (by kernel_rfl) (fun _ _ _ h => h) (Or.inl ⟨rfl, fun w hSw => ?_⟩) (by assumption) ?_
  · (try dsimp only at hSw); go_simp; try with_reducible rfl
  (try simp only [Act.put, List.setIfInBounds_toArray, List.set_cons_zero, List.set_cons_succ])
  refine wpAnyH_ready (rs := [2]) (by kernel_rfl) (by simp) (AllReadyH.cons (op_at rfl) (fun K hK => ?_) AllReadyH.nil)
  go_simp
  (refine (HN1.out _).mono ?_; rintro e W1 ⟨rfl, hg⟩; replace a0 := hg.cell a0; replace a1 := hg.cell a1; replace a2 := hg.cell a2; replace l0 := hg.cell l0; replace HC := Lib.hid (fun i x hx => (HC.out i x hx).gr hg); replace g := g.trans hg; clear hg)
  go_wp2_with fail
  refine hK.out _ _ ⟨a0, a1, a2, l0⟩ (fun hHeld => ?_)
  clear hK K
  (try simp only [Act.put, List.setIfInBounds_toArray, List.set_cons_zero, List.set_cons_succ])
  refine wpAnyH_take (i := 3) (v := (.bool (!b1))) (op_at rfl) (by kernel_rfl) (by kernel_rfl) (by kernel_rfl) (fun _ _ _ h => h) (Or.inl ⟨rfl, fun w hSw => ?_⟩) (by assumption) ?_
  · (try dsimp only at hSw); go_simp; try with_reducible rfl
  (try simp only [Act.put, List.setIfInBounds_toArray, List.set_cons_zero, List.set_cons_succ])
  refine wpAnyH_ready (rs := [4]) (by kernel_rfl) (by simp) (AllReadyH.cons (op_at rfl) (fun K hK => ?_) AllReadyH.nil)
  go_simp
  (refine (H1.out _).mono ?_; rintro e w' ⟨rfl, rfl⟩)
  go_wp2_with fail
  refine hK.out _ _ ⟨a0, a1, a2, l0⟩ (fun hHeld => ?_)
  clear hK K
  (try simp only [Act.put, List.setIfInBounds_toArray, List.set_cons_zero, List.set_cons_succ])
  refine wpAnyH_ready (rs := [9]) (by kernel_rfl) (by simp) (AllReadyH.cons (op_at rfl) (fun K hK => ?_) AllReadyH.nil)
  go_simp
  (refine (HD.out _ B HC.out a0).mono ?_; rintro e W2 ⟨rfl, hg⟩; replace a0 := hg.cell a0; replace a1 := hg.cell a1; replace a2 := hg.cell a2; replace l0 := hg.cell l0; replace HC := Lib.hid (fun i x hx => (HC.out i x hx).gr hg); replace g := g.trans hg; clear hg)
  go_wp2_with fail
  refine hK.out _ _ ⟨a0, a1, a2, l0⟩ (fun hHeld => ?_)
  clear hK K
  (try simp only [Act.put, List.setIfInBounds_toArray, List.set_cons_zero, List.set_cons_succ])
  refine wpAnyH_ready (rs := [10]) (by kernel_rfl) (by simp) (AllReadyH.cons (op_at rfl) (fun K hK => ?_) AllReadyH.nil)
  go_simp
  (refine (H2.out _).mono ?_; rintro e w' ⟨rfl, rfl⟩)
  go_wp2_with fail
  refine hK.out _ _ ⟨a0, a1, a2, l0⟩ (fun hHeld => ?_)
  clear hK K
  (try simp only [Act.put, List.setIfInBounds_toArray, List.set_cons_zero, List.set_cons_succ])
  refine wpAnyH_ready (rs := [13]) (by kernel_rfl) (by simp) (AllReadyH.cons (op_at rfl) (fun K hK => ?_) AllReadyH.nil)
  go_simp
  (refine (HR3.out _).mono ?_; rintro e w' ⟨rfl, rfl⟩)
  go_wp2_with fail
  refine hK.out _ _ ⟨a0, a1, a2, l0⟩ (fun hHeld => ?_)
  clear hK K
  (try simp only [Act.put, List.setIfInBounds_toArray, List.set_cons_zero, List.set_cons_succ])
  refine wpAnyH_ready (rs := [16]) (by kernel_rfl) (by simp) (AllReadyH.cons (op_at rfl) (fun K hK => ?_) AllReadyH.nil)
  go_simp
  (refine (HR4.out _).mono ?_; rintro e w' ⟨rfl, rfl⟩)
  go_wp2_with fail
  refine hK.out _ _ ⟨a0, a1, a2, l0⟩ (fun hHeld => ?_)
  clear hK K
  (try simp only [Act.put, List.setIfInBounds_toArray, List.set_cons_zero, List.set_cons_succ])
  refine wpAnyH_ready (rs := [22]) (by kernel_rfl) (by simp) (AllReadyH.cons (op_at rfl) (fun K hK => ?_) AllReadyH.nil)
  go_simp
  (refine (H5.out _).mono ?_; rintro e w' ⟨rfl, rfl⟩)
  go_wp2_with fail
  refine hK.out _ _ ⟨a0, a1, a2, l0⟩ (fun hHeld => ?_)
  clear hK K
  (try simp only [Act.put, List.setIfInBounds_toArray, List.set_cons_zero, List.set_cons_succ])
  refine wpAnyH_ready (rs := [23]) (by kernel_rfl) (by simp) (AllReadyH.cons (op_at rfl) (fun K hK => ?_) AllReadyH.nil)
  go_simp
  obtain ⟨W3, hW3, g3, q0, q1, q2, q3, q4⟩ := box5 W2 (.int .i64 e1) (.int .i64 e2) (.int .i64 e3) (.int .i64 e4) (.int .i64 e5) 27
  rw [hW3]
  clear hW3
  replace a0 := g3.cell a0
  replace a1 := g3.cell a1
  replace a2 := g3.cell a2
  replace l0 := g3.cell l0
  replace HC := Lib.hid (fun i x hx => (HC.out i x hx).gr g3)
  replace g := g.trans g3
  refine hK.out _ _ ⟨a0, a1, a2, l0⟩ (fun hHeld => ?_)
  clear hK K
  (try simp only [Act.put, List.setIfInBounds_toArray, List.set_cons_zero, List.set_cons_succ])
  refine wpAnyH_ready (rs := [24]) (by kernel_rfl) (by simp) (AllReadyH.cons (op_at rfl) (fun K hK => ?_) AllReadyH.nil)
  go_simp
  (refine (HF.out _ _ W3 q0 q1 q2 q3 q4).mono ?_; rintro e w8 ⟨rfl, rfl⟩)
  go_wp2_with fail
  refine hK.out _ _ ⟨a0, a1, a2, l0⟩ (fun hHeld => ?_)
  clear hK K
  (try simp only [Act.put, List.setIfInBounds_toArray, List.set_cons_zero, List.set_cons_succ])
  refine wpAnyH_take (i := 25) (v := (.int .i64 err)) (op_at rfl) (by kernel_rfl) (by kernel_rfl) (by kernel_rfl) (fun _ _ _ h => h) (Or.inl ⟨rfl, fun w hSw => ?_⟩) (by assumption) ?_
  · (try dsimp only at hSw); go_simp; try with_reducible rfl
  (try simp only [Act.put, List.setIfInBounds_toArray, List.set_cons_zero, List.set_cons_succ])
  refine wpAnyH_done (by kernel_rfl) ?_ _
  go_wp2_with fail
  go_ret
  exact ⟨rfl, g⟩
end Go.Proofs.YtigmonaggppehaaGreatDoor
namespace Go.Proofs.YtigmonaggppehaaGreatDoor
open Go.RowKit Go.Lib
set_option linter.unusedSimpArgs false
set_option linter.unusedVariables false
set_option maxHeartbeats 1000000 in
set_option maxRecDepth 100000 in
theorem findO_pos (xs : List OpR) (n b off cap L : Nat) (w : World) (hn : xs.length = n) (h1 : n ≤ 1000) (hcap : n ≤ cap) (hmx : cap ≤ maxLen) (hc : ∀ i x, xs[i]? = some x → OpAt w b (off + i * 3) x) (hL : w.cell? ⟨L, 0, none⟩ = some (.slice (some ⟨b, off, none⟩) n cap)) :
    Calls Tryz.prog 138 #[.slice (some ⟨b, off, none⟩) n cap, .func (.func 90) #[] #[.pointer (some ⟨L, 0, none⟩)]] w fun e w' => (∃ i : Int, e = .returned (.tuple #[.int .i64 i, .int .i64 (errFrom xs (xs.length - 0) 0)])) ∧ Gr w w' := by
  have HC := Lib.hid hc
  have HN := Lib.hid hn
  have HO := Lib.hid (fun (i : Nat) (x : OpR) (W : World) (hi : i ≤ n) (hg : Gr w W) => one_open xs i n b off cap L x W hn h1 hi hcap hmx (fun i x hx => (hc i x hx).gr hg) (hg.cell hL))
  clear hc hL hn
  go_enter Tryz.func138, Tryz.ntmps138
  go_wp2_with fail
  go_loopg [11] n (fun gk s11 wr => ∃ i : Nat, s11 = .int .i64 i ∧ gk + i = n ∧ Gr w wr ∧ Hid (errFrom xs (xs.length - i) i = errFrom xs (xs.length - 0) 0))
  case atStart => exact ⟨0, rfl, by omega, Gr.refl _, rfl⟩
  case round =>
    obtain ⟨i, rfl, hi, hg, HF⟩ := hrel
    by_cases hlt : i < n
    · obtain ⟨x, hx⟩ : ∃ x, xs[i]? = some x := ⟨xs[i]'(by have := HN.out; omega), List.getElem?_eq_getElem _⟩
      obtain ⟨c0, c1, c2⟩ := (HC.out i x hx).gr hg
      have hf := errFrom_step hx
      have hi2 : (i : Int) < n := by omega
      have hT := fun W hg2 => HO.out i x W (by omega) hg2
      unfold opV at hT
      clear hx
      obtain ⟨W, hW, g, a0, a1, a2⟩ := box3 wr (.string x.nm) (.int .i64 x.lo) (.int .i64 x.hi) 69
      have gW := hg.trans g
      have HW := Lib.hid hW
      by_cases h0 : errAt xs i x = 0
      · rw [h0] at hT hf
        rw [if_pos rfl] at hf
        have HT := Lib.hid hT
        have HF2 := Lib.hid hf
        clear hT hf h0 hW
        go_wp2_with fail
        rw [HW.out]
        refine (HT.out _ gW).mono ?_
        rintro e w4 ⟨rfl, hg2⟩
        go_wp2_with fail
        go_roundg (gk - 1)
        case measure => omega
        case rel => exact ⟨i + 1, by go_num, by omega, gW.trans hg2, by unfold Hid; rw [← HF2.out, HF.out]⟩
      · rw [if_neg h0] at hf
        generalize errAt xs i x = z at *
        have q1 : (z == 0) = false := by simpa using h0
        have q2 : (z != 0) = true := by simpa [bne] using q1
        have HT := Lib.hid hT
        have HF2 := Lib.hid hf
        clear hT hf hW
        go_wp2_with fail
        rw [HW.out]
        refine (HT.out _ gW).mono ?_
        rintro e w4 ⟨rfl, hg2⟩
        go_wp2_with fail
        exact bodyPost_ret (v := .tuple #[.int .i64 i, .int .i64 z]) (by simp [results, Tryz.results138, go_sem]) rfl ⟨⟨i, by rw [← HF.out, HF2.out]⟩, gW.trans hg2⟩
    · have HE2 := Lib.hid (errFrom_end (xs := xs) (i := i) (by have := HN.out; omega))
      have hi2 : (n : Int) ≤ i := by omega
      go_wp2_with fail
      exact bodyPost_ret (v := .tuple #[.int .i64 0, .int .i64 0]) (by simp [results, Tryz.results138, go_sem]) rfl ⟨⟨0, by rw [← HF.out, HE2.out]⟩, hg⟩
theorem eachO_pos (xs : List OpR) (n b off cap L : Nat) (w : World) (hn : xs.length = n) (h1 : n ≤ 1000) (hcap : n ≤ cap) (hmx : cap ≤ maxLen) (hc : ∀ i x, xs[i]? = some x → OpAt w b (off + i * 3) x) (hL : w.cell? ⟨L, 0, none⟩ = some (.slice (some ⟨b, off, none⟩) n cap)) :
    Calls Tryz.prog 89 #[.slice (some ⟨b, off, none⟩) n cap, .func (.func 90) #[] #[.pointer (some ⟨L, 0, none⟩)]] w fun e w' => e = .returned (.int .i64 (errFrom xs (xs.length - 0) 0)) ∧ Gr w w' := by
  have HF := Lib.hid (findO_pos xs n b off cap L w hn h1 hcap hmx hc hL)
  have HE : Hid (errFrom xs (xs.length - 0) 0 = errFrom xs (n - 0) 0) := by unfold Hid; rw [hn]
  rw [HE.out] at HF ⊢
  generalize errFrom xs (n - 0) 0 = z at *
  clear hc hL hn HE
  go_enter Tryz.func89, Tryz.ntmps89
  go_wp2_with fail
  refine HF.out.mono ?_
  rintro e w4 ⟨⟨i, rfl⟩, hg⟩
  go_wp2_with fail
  go_ret
  exact ⟨rfl, hg⟩
theorem box1 (w : World) (a0 : Value) (T : Nat) : ∃ W, w.alloc (.cells #[a0] T) = W ∧ Gr w W ∧ W.cell? ⟨w.heap.size, 0, none⟩ = some a0 :=
  ⟨_, rfl, (Gr.refl w).alloc _, cell_new w #[a0] T 0 (by simp)⟩
set_option maxHeartbeats 1000000 in
set_option maxRecDepth 100000 in
theorem checkOpen_c {v : Value} {xs : List OpR} {w : World} (h : OpsV w v xs) :
    Calls Tryz.prog 42 #[v] w fun e w' => e = .returned (.int .i64 (openE xs)) ∧ Gr w w' := by
  obtain ⟨⟨p, cap, rfl, hcap, hh⟩⟩ := h
  by_cases h0 : 0 < xs.length
  · obtain ⟨b, off, rfl, hc⟩ := hh h0
    obtain ⟨W, hW, g, a0⟩ := box1 w (.slice (some ⟨b, off, none⟩) xs.length cap) 30
    have hz1 : ((xs.length : Int) == 0) = false := beq_eq_false_iff_ne.2 (by omega)
    by_cases h1 : xs.length ≤ 160
    · have HE : Hid (openE xs = errFrom xs (xs.length - 0) 0) := by unfold Hid openE; rw [if_neg (show ¬ xs.length = 0 by omega), if_neg (show ¬ 160 < xs.length by omega)]
      have hz2 : decide ((160 : Int) < xs.length) = false := decide_eq_false (by omega)
      have HT := Lib.hid (eachO_pos xs _ b off cap w.heap.size W rfl (by omega) hcap.1 hcap.2 (fun i x hx => (hc i x hx).gr g) a0)
      have HW := Lib.hid hW
      clear hh hc hW
      go_enter Tryz.func42, Tryz.ntmps42
      go_wp2_with fail
      rw [HW.out]
      refine HT.out.mono ?_
      rintro e w4 ⟨rfl, hg⟩
      go_wp2_with fail
      go_ret
      exact ⟨by rw [HE.out]; rfl, g.trans hg⟩
    · have HE : Hid (openE xs = 5) := by unfold Hid openE; rw [if_neg (show ¬ xs.length = 0 by omega), if_pos (show 160 < xs.length by omega)]
      have hz2 : decide ((160 : Int) < xs.length) = true := decide_eq_true (by omega)
      have HW := Lib.hid hW
      clear hh hc hW
      go_enter Tryz.func42, Tryz.ntmps42
      go_wp2_with fail
      rw [HW.out]
      go_ret
      exact ⟨by rw [HE.out]; rfl, g⟩
  · have hx : xs = [] := List.eq_nil_of_length_eq_zero (by omega)
    subst hx
    have HE : Hid (openE ([] : List OpR) = 12) := rfl
    go_enter Tryz.func42, Tryz.ntmps42
    go_wp2_with fail
    go_ret
    exact ⟨by rw [HE.out]; rfl, (Gr.refl _).alloc _⟩
end Go.Proofs.YtigmonaggppehaaGreatDoor
