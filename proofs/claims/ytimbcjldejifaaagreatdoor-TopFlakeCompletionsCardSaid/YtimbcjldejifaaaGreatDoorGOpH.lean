/- Open values: the program's CheckOpen. -/
import Derived.Test.YtimbcjldejifaaaGreatDoorGOpB
import Derived.Test.YtimbcjldejifaaaGreatDoorEvWrite
namespace Go.Proofs.YtimbcjldejifaaaGreatDoor
open Go.RowKit Go.Lib
set_option linter.unusedSimpArgs false
set_option linter.unusedVariables false
theorem contains_pos (xs : List OpR) (n b off cap B : Nat) (nm : ByteArray) (w : World) (hn : n ≤ xs.length) (h1 : n ≤ 1000) (hc : ∀ i x, xs[i]? = some x → OpAt w b (off + i * 3) x) (hB : w.cell? ⟨B, 0, none⟩ = some (.string nm)) :
    Calls Tryz.prog 56 #[.slice (some ⟨b, off, none⟩) n cap, .func (.func 54) #[] #[.pointer (some ⟨B, 0, none⟩)]] w fun e w' => e = .returned (.bool (dupB xs n nm)) ∧ Gr w w' := by
  have HI := Lib.hid (indexFunc_pos xs n b off cap B nm w hn h1 hc hB)
  have HE : Hid (dupB xs n nm = decide (0 ≤ firstAt xs nm n 0)) := by unfold Hid dupB; rw [firstAt_any xs nm n 0 (by omega), List.drop_zero]
  clear hc hB
  generalize firstAt xs nm n 0 = z at *
  go_enter Tryz.func56, Tryz.ntmps56
  go_wp2_with fail
  refine HI.out.mono ?_
  rintro e w4 ⟨rfl, hg⟩
  go_wp2_with fail
  go_ret
  exact ⟨by rw [HE.out]; rfl, hg⟩
theorem first_five (x y z u q : Int) (b cap : Nat) (w : World) (hx : w.cell? ⟨b, 0, none⟩ = some (.int .i64 x)) (hy : w.cell? ⟨b, 1, none⟩ = some (.int .i64 y)) (hz : w.cell? ⟨b, 2, none⟩ = some (.int .i64 z)) (hu : w.cell? ⟨b, 3, none⟩ = some (.int .i64 u)) (hq : w.cell? ⟨b, 4, none⟩ = some (.int .i64 q)) :
    Calls Tryz.prog 19 #[.slice (some ⟨b, 0, none⟩) 5 cap] w fun e w' => e = .returned (.int .i64 (firstE [x, y, z, u, q])) ∧ w = w' :=
  first_c0 b 5 cap [x, y, z, u, q] w rfl (fun i v h => by
    rcases i with _ | _ | _ | _ | _ | i <;> simp at h <;> subst h <;> assumption) (by omega)
theorem box5 (w : World) (a0 a1 a2 a3 a4 : Value) (T : Nat) : ∃ W, w.alloc (.cells #[a0, a1, a2, a3, a4] T) = W ∧ Gr w W ∧ W.cell? ⟨w.heap.size, 0, none⟩ = some a0 ∧ W.cell? ⟨w.heap.size, 1, none⟩ = some a1 ∧ W.cell? ⟨w.heap.size, 2, none⟩ = some a2 ∧ W.cell? ⟨w.heap.size, 3, none⟩ = some a3 ∧ W.cell? ⟨w.heap.size, 4, none⟩ = some a4 :=
  ⟨_, rfl, (Gr.refl w).alloc _, cell_new w _ T 0 (by simp), cell_new w _ T 1 (by simp), cell_new w _ T 2 (by simp), cell_new w _ T 3 (by simp), cell_new w _ T 4 (by simp)⟩
set_option maxHeartbeats 1000000 in
set_option maxRecDepth 100000 in
theorem one_open (xs : List OpR) (i N b off cap L : Nat) (x : OpR) (w : World) (hN : xs.length = N) (h1 : N ≤ 1000) (hi : i ≤ N) (hcap : N ≤ cap) (hmx : cap ≤ maxLen) (hc : ∀ i x, xs[i]? = some x → OpAt w b (off + i * 3) x) (hL : w.cell? ⟨L, 0, none⟩ = some (.slice (some ⟨b, off, none⟩) N cap)) :
    Calls Tryz.prog 53 #[.int .i64 i, opV x, .pointer (some ⟨L, 0, none⟩)] w fun e w' => e = .returned (.int .i64 (errAt xs i x)) ∧ Gr w w' := by
  unfold opV
  have hR : errAt xs i x = firstE [if !decide (Nm x.nm) then 8 else 0, if dupB xs i x.nm then 9 else 0, outE x.lo 0 99999, outE x.hi 0 99999, if decide (x.hi < x.lo) then 11 else 0] := rfl
  have hN1 := fun W => isName_c x.nm W
  have hD := fun (W : World) (B : Nat) hc hB => contains_pos xs i b off cap B x.nm W (by omega) (by omega) hc hB
  have HR3 := Lib.hid (fun W => range_c x.lo 0 99999 W)
  have HR4 := Lib.hid (fun W => range_c x.hi 0 99999 W)
  generalize decide (Nm x.nm) = b1 at *
  generalize dupB xs i x.nm = b2 at *
  generalize outE x.lo 0 99999 = e3 at *
  generalize outE x.hi 0 99999 = e4 at *
  obtain ⟨e1, h1', H1⟩ := if_e (!b1) 8
  obtain ⟨e2, h2', H2⟩ := if_e b2 9
  obtain ⟨e5, h5', H5⟩ := if_e (decide (x.hi < x.lo)) 11
  rw [← h1', ← h2', ← h5'] at hR
  have hF := first_five e1 e2 e3 e4 e5
  rw [← hR] at hF
  generalize errAt xs i x = err at *
  replace H1 := Lib.hid H1
  replace H2 := Lib.hid H2
  replace H5 := Lib.hid H5
  have HF := Lib.hid hF
  have HN1 := Lib.hid hN1
  have HD := Lib.hid hD
  obtain ⟨W, hW, g, a0, a1, a2⟩ := box3 w (.string x.nm) (.int .i64 x.lo) (.int .i64 x.hi) 28
  have l0 := g.cell hL
  have hcc := fun i x hx => (hc i x hx).gr g
  have HC := Lib.hid hcc
  have HW := Lib.hid hW
  have hi1 : (i : Int) ≤ cap := by omega
  have hi0 : (0 : Int) ≤ i := by omega
  clear hW hc hcc hL hF hN1 hD hR h1' h2' h5' hN
  go_enter Tryz.func53, Tryz.ntmps53
  go_wp2_with fail
  rw [HW.out]
  generalize w.heap.size = B at *
  clear HW
  have gd := (Gr.refl W).drew
  replace a0 := gd.cell a0
  replace a1 := gd.cell a1
  replace a2 := gd.cell a2
  replace l0 := gd.cell l0
  replace HC := Lib.hid (fun i x hx => (HC.out i x hx).gr gd)
  replace g := g.trans gd
  clear gd
  refine wp_region_held_drew (S := (fun w' => w'.cell? ⟨B, 0, none⟩ = some (.string x.nm) ∧ w'.cell? ⟨B, 1, none⟩ = some (.int .i64 x.lo) ∧ w'.cell? ⟨B, 2, none⟩ = some (.int .i64 x.hi) ∧ w'.cell? ⟨L, 0, none⟩ = some (.slice (some ⟨b, off, none⟩) N cap))) (by kernel_rfl) ⟨a0, a1, a2, l0⟩ (fun hHeld => ?_)
  generalize W.drew = V at *
  refine wpAnyH_take (i := 0) (v := (.pointer (some ⟨B, 0, none⟩))) (op_at rfl) (by kernel_rfl) (by kernel_rfl) (by kernel_rfl) (fun _ _ _ h => h) (Or.inl ⟨rfl, fun w hSw => ?_⟩) (by assumption) ?_
  · (try dsimp only at hSw); go_simp; try with_reducible rfl
  (try simp only [Act.put, List.setIfInBounds_toArray, List.set_cons_zero, List.set_cons_succ])
  refine wpAnyH_take (i := 1) (v := (.string x.nm)) (op_at rfl) (by kernel_rfl) (by kernel_rfl) (by kernel_rfl) (fun _ _ _ h => h) (Or.inl ⟨rfl, fun w hSw => ?_⟩) (by assumption) ?_
  · (try dsimp only at hSw); go_simp; try with_reducible rfl
  (try simp only [Act.put, List.setIfInBounds_toArray, List.set_cons_zero, List.set_cons_succ])
  refine wpAnyH_take (i := 5) (v := (.slice (some ⟨b, off, none⟩) N cap)) (op_at rfl) (by kernel_rfl) (by kernel_rfl) (by kernel_rfl) (fun _ _ _ h => h) (Or.inl ⟨rfl, fun w hSw => ?_⟩) (by assumption) ?_
  · (try dsimp only at hSw); go_simp; try with_reducible rfl
  (try simp only [Act.put, List.setIfInBounds_toArray, List.set_cons_zero, List.set_cons_succ])
  refine wpAnyH_take (i := 6) (v := (.int .i64 i)) (op_at rfl) (by kernel_rfl) (by kernel_rfl) (by kernel_rfl) (fun _ _ _ h => h) (Or.inl ⟨rfl, fun w hSw => ?_⟩) (by assumption) ?_
  · (try dsimp only at hSw); go_simp; try with_reducible rfl
  (try simp only [Act.put, List.setIfInBounds_toArray, List.set_cons_zero, List.set_cons_succ])
  refine wpAnyH_take (i := 7) (v := (.slice (some ⟨b, off, none⟩) i cap)) (op_at rfl) (by kernel_rfl) (by kernel_rfl) (by kernel_rfl) (fun _ _ _ h => h) (Or.inl ⟨rfl, fun w hSw => ?_⟩) (by assumption) ?_
  · (try dsimp only at hSw); go_simp; try with_reducible rfl
  (try simp only [Act.put, List.setIfInBounds_toArray, List.set_cons_zero, List.set_cons_succ])
  refine wpAnyH_take (i := 8) (v := (.func (.func 54) #[] #[.pointer (some ⟨B, 0, none⟩)])) (op_at rfl) (by kernel_rfl) (by kernel_rfl) (by kernel_rfl) (fun _ _ _ h => h) (Or.inl ⟨rfl, fun w hSw => ?_⟩) (by assumption) ?_
  · (try dsimp only at hSw); go_simp; try with_reducible rfl
  (try simp only [Act.put, List.setIfInBounds_toArray, List.set_cons_zero, List.set_cons_succ])
  refine wpAnyH_take (i := 11) (v := (.pointer (some ⟨B, 1, none⟩))) (op_at rfl) (by kernel_rfl) (by kernel_rfl) (by kernel_rfl) (fun _ _ _ h => h) (Or.inl ⟨rfl, fun w hSw => ?_⟩) (by assumption) ?_
  · (try dsimp only at hSw); go_simp; try with_reducible rfl
  (try simp only [Act.put, List.setIfInBounds_toArray, List.set_cons_zero, List.set_cons_succ])
  refine wpAnyH_take (i := 12) (v := (.int .i64 x.lo)) (op_at rfl) (by kernel_rfl) (by kernel_rfl) (by kernel_rfl) (fun _ _ _ h => h) (Or.inl ⟨rfl, fun w hSw => ?_⟩) (by assumption) ?_
  · (try dsimp only at hSw); go_simp; try with_reducible rfl
  (try simp only [Act.put, List.setIfInBounds_toArray, List.set_cons_zero, List.set_cons_succ])
  refine wpAnyH_take (i := 14) (v := (.pointer (some ⟨B, 2, none⟩))) (op_at rfl) (by kernel_rfl) (by kernel_rfl) (by kernel_rfl) (fun _ _ _ h => h) (Or.inl ⟨rfl, fun w hSw => ?_⟩) (by assumption) ?_
  · (try dsimp only at hSw); go_simp; try with_reducible rfl
  (try simp only [Act.put, List.setIfInBounds_toArray, List.set_cons_zero, List.set_cons_succ])
  refine wpAnyH_take (i := 15) (v := (.int .i64 x.hi)) (op_at rfl) (by kernel_rfl) (by kernel_rfl) (by kernel_rfl) (fun _ _ _ h => h) (Or.inl ⟨rfl, fun w hSw => ?_⟩) (by assumption) ?_
  · (try dsimp only at hSw); go_simp; try with_reducible rfl
  (try simp only [Act.put, List.setIfInBounds_toArray, List.set_cons_zero, List.set_cons_succ])
  refine wpAnyH_take (i := 17) (v := (.pointer (some ⟨B, 1, none⟩))) (op_at rfl) (by kernel_rfl) (by kernel_rfl) (by kernel_rfl) (fun _ _ _ h => h) (Or.inl ⟨rfl, fun w hSw => ?_⟩) (by assumption) ?_
  · (try dsimp only at hSw); go_simp; try with_reducible rfl
  (try simp only [Act.put, List.setIfInBounds_toArray, List.set_cons_zero, List.set_cons_succ])
  refine wpAnyH_take (i := 18) (v := (.int .i64 x.lo)) (op_at rfl) (by kernel_rfl) (by kernel_rfl) (by kernel_rfl) (fun _ _ _ h => h) (Or.inl ⟨rfl, fun w hSw => ?_⟩) (by assumption) ?_
  · (try dsimp only at hSw); go_simp; try with_reducible rfl
  (try simp only [Act.put, List.setIfInBounds_toArray, List.set_cons_zero, List.set_cons_succ])
  refine wpAnyH_take (i := 19) (v := (.pointer (some ⟨B, 2, none⟩))) (op_at rfl) (by kernel_rfl) (by kernel_rfl) (by kernel_rfl) (fun _ _ _ h => h) (Or.inl ⟨rfl, fun w hSw => ?_⟩) (by assumption) ?_
  · (try dsimp only at hSw); go_simp; try with_reducible rfl
  (try simp only [Act.put, List.setIfInBounds_toArray, List.set_cons_zero, List.set_cons_succ])
  refine wpAnyH_take (i := 20) (v := (.int .i64 x.hi)) (op_at rfl) (by kernel_rfl) (by kernel_rfl) (by kernel_rfl) (fun _ _ _ h => h) (Or.inl ⟨rfl, fun w hSw => ?_⟩) (by assumption) ?_
  · (try dsimp only at hSw); go_simp; try with_reducible rfl
  (try simp only [Act.put, List.setIfInBounds_toArray, List.set_cons_zero, List.set_cons_succ])
  refine wpAnyH_take (i := 21) (v := (.bool (decide (x.hi < x.lo)))) (op_at rfl) (by kernel_rfl) (by kernel_rfl) (by kernel_rfl) (fun _ _ _ h => h) (Or.inl ⟨rfl, fun w hSw => ?_⟩) (by assumption) ?_
  · (try dsimp only at hSw); go_simp; try with_reducible rfl
  (try simp only [Act.put, List.setIfInBounds_toArray, List.set_cons_zero, List.set_cons_succ])
  refine wpAnyH_ready (rs := [2]) (by kernel_rfl) (by simp) (AllReadyH.cons (op_at rfl) (fun K hK => ?_) AllReadyH.nil)
  go_simp
  (refine (HN1.out _).mono ?_; rintro e W1 ⟨rfl, hg⟩; replace a0 := hg.cell a0; replace a1 := hg.cell a1; replace a2 := hg.cell a2; replace l0 := hg.cell l0; replace HC := Lib.hid (fun i x hx => (HC.out i x hx).gr hg); replace g := g.trans hg; clear hg)
  go_wp2_with fail
  refine hK.out _ _ ⟨a0, a1, a2, l0⟩ (fun hHeld => ?_)
  clear hK K
  (try simp only [Act.put, List.setIfInBounds_toArray, List.set_cons_zero, List.set_cons_succ])
  refine wpAnyH_take (i := 3) (v := (.bool (!b1))) (op_at rfl) (by kernel_rfl) (by kernel_rfl) (by kernel_rfl) (fun _ _ _ h => h) (Or.inl ⟨rfl, fun w hSw => ?_⟩) (by assumption) ?_
  · (try dsimp only at hSw); go_simp; try with_reducible rfl
  (try simp only [Act.put, List.setIfInBounds_toArray, List.set_cons_zero, List.set_cons_succ])
  refine wpAnyH_ready (rs := [4]) (by kernel_rfl) (by simp) (AllReadyH.cons (op_at rfl) (fun K hK => ?_) AllReadyH.nil)
  go_simp
  (refine (H1.out _).mono ?_; rintro e w' ⟨rfl, rfl⟩)
  go_wp2_with fail
  refine hK.out _ _ ⟨a0, a1, a2, l0⟩ (fun hHeld => ?_)
  clear hK K
  (try simp only [Act.put, List.setIfInBounds_toArray, List.set_cons_zero, List.set_cons_succ])
  refine wpAnyH_ready (rs := [9]) (by kernel_rfl) (by simp) (AllReadyH.cons (op_at rfl) (fun K hK => ?_) AllReadyH.nil)
  go_simp
  (refine (HD.out _ B HC.out a0).mono ?_; rintro e W2 ⟨rfl, hg⟩; replace a0 := hg.cell a0; replace a1 := hg.cell a1; replace a2 := hg.cell a2; replace l0 := hg.cell l0; replace HC := Lib.hid (fun i x hx => (HC.out i x hx).gr hg); replace g := g.trans hg; clear hg)
  go_wp2_with fail
  refine hK.out _ _ ⟨a0, a1, a2, l0⟩ (fun hHeld => ?_)
  clear hK K
  (try simp only [Act.put, List.setIfInBounds_toArray, List.set_cons_zero, List.set_cons_succ])
  refine wpAnyH_ready (rs := [10]) (by kernel_rfl) (by simp) (AllReadyH.cons (op_at rfl) (fun K hK => ?_) AllReadyH.nil)
  go_simp
  (refine (H2.out _).mono ?_; rintro e w' ⟨rfl, rfl⟩)
  go_wp2_with fail
  refine hK.out _ _ ⟨a0, a1, a2, l0⟩ (fun hHeld => ?_)
  clear hK K
  (try simp only [Act.put, List.setIfInBounds_toArray, List.set_cons_zero, List.set_cons_succ])
  refine wpAnyH_ready (rs := [13]) (by kernel_rfl) (by simp) (AllReadyH.cons (op_at rfl) (fun K hK => ?_) AllReadyH.nil)
  go_simp
  (refine (HR3.out _).mono ?_; rintro e w' ⟨rfl, rfl⟩)
  go_wp2_with fail
  refine hK.out _ _ ⟨a0, a1, a2, l0⟩ (fun hHeld => ?_)
  clear hK K
  (try simp only [Act.put, List.setIfInBounds_toArray, List.set_cons_zero, List.set_cons_succ])
  refine wpAnyH_ready (rs := [16]) (by kernel_rfl) (by simp) (AllReadyH.cons (op_at rfl) (fun K hK => ?_) AllReadyH.nil)
  go_simp
  (refine (HR4.out _).mono ?_; rintro e w' ⟨rfl, rfl⟩)
  go_wp2_with fail
  refine hK.out _ _ ⟨a0, a1, a2, l0⟩ (fun hHeld => ?_)
  clear hK K
  (try simp only [Act.put, List.setIfInBounds_toArray, List.set_cons_zero, List.set_cons_succ])
  refine wpAnyH_ready (rs := [22]) (by kernel_rfl) (by simp) (AllReadyH.cons (op_at rfl) (fun K hK => ?_) AllReadyH.nil)
  go_simp
  (refine (H5.out _).mono ?_; rintro e w' ⟨rfl, rfl⟩)
  go_wp2_with fail
  refine hK.out _ _ ⟨a0, a1, a2, l0⟩ (fun hHeld => ?_)
  clear hK K
  (try simp only [Act.put, List.setIfInBounds_toArray, List.set_cons_zero, List.set_cons_succ])
  refine wpAnyH_ready (rs := [23]) (by kernel_rfl) (by simp) (AllReadyH.cons (op_at rfl) (fun K hK => ?_) AllReadyH.nil)
  go_simp
  obtain ⟨W3, hW3, g3, q0, q1, q2, q3, q4⟩ := box5 W2 (.int .i64 e1) (.int .i64 e2) (.int .i64 e3) (.int .i64 e4) (.int .i64 e5) 34
  rw [hW3]
  clear hW3
  replace a0 := g3.cell a0
  replace a1 := g3.cell a1
  replace a2 := g3.cell a2
  replace l0 := g3.cell l0
  replace HC := Lib.hid (fun i x hx => (HC.out i x hx).gr g3)
  replace g := g.trans g3
  refine hK.out _ _ ⟨a0, a1, a2, l0⟩ (fun hHeld => ?_)
  clear hK K
  (try simp only [Act.put, List.setIfInBounds_toArray, List.set_cons_zero, List.set_cons_succ])
  refine wpAnyH_ready (rs := [24]) (by kernel_rfl) (by simp) (AllReadyH.cons (op_at rfl) (fun K hK => ?_) AllReadyH.nil)
  go_simp
  (refine (HF.out _ _ W3 q0 q1 q2 q3 q4).mono ?_; rintro e w8 ⟨rfl, rfl⟩)
  go_wp2_with fail
  refine hK.out _ _ ⟨a0, a1, a2, l0⟩ (fun hHeld => ?_)
  clear hK K
  (try simp only [Act.put, List.setIfInBounds_toArray, List.set_cons_zero, List.set_cons_succ])
  refine wpAnyH_take (i := 25) (v := (.int .i64 err)) (op_at rfl) (by kernel_rfl) (by kernel_rfl) (by kernel_rfl) (fun _ _ _ h => h) (Or.inl ⟨rfl, fun w hSw => ?_⟩) (by assumption) ?_
  · (try dsimp only at hSw); go_simp; try with_reducible rfl
  (try simp only [Act.put, List.setIfInBounds_toArray, List.set_cons_zero, List.set_cons_succ])
  refine wpAnyH_done (by kernel_rfl) ?_ _
  go_wp2_with fail
  go_ret
  exact ⟨rfl, g⟩
end Go.Proofs.YtimbcjldejifaaaGreatDoor
namespace Go.Proofs.YtimbcjldejifaaaGreatDoor
open Go.RowKit Go.Lib
set_option linter.unusedSimpArgs false
set_option linter.unusedVariables false
set_option maxHeartbeats 1000000 in
set_option maxRecDepth 100000 in
theorem findO_pos (xs : List OpR) (n b off cap L : Nat) (w : World) (hn : xs.length = n) (h1 : n ≤ 1000) (hcap : n ≤ cap) (hmx : cap ≤ maxLen) (hc : ∀ i x, xs[i]? = some x → OpAt w b (off + i * 3) x) (hL : w.cell? ⟨L, 0, none⟩ = some (.slice (some ⟨b, off, none⟩) n cap)) :
    Calls Tryz.prog 81 #[.slice (some ⟨b, off, none⟩) n cap, .func (.func 53) #[] #[.pointer (some ⟨L, 0, none⟩)]] w fun e w' => (∃ i : Int, e = .returned (.tuple #[.int .i64 i, .int .i64 (errFrom xs (xs.length - 0) 0)])) ∧ Gr w w' := by
  have HC := Lib.hid hc
  have HN := Lib.hid hn
  have HO := Lib.hid (fun (i : Nat) (x : OpR) (W : World) (hi : i ≤ n) (hg : Gr w W) => one_open xs i n b off cap L x W hn h1 hi hcap hmx (fun i x hx => (hc i x hx).gr hg) (hg.cell hL))
  clear hc hL hn
  go_enter Tryz.func81, Tryz.ntmps81
  go_wp2_with fail
  go_loopg [11] n (fun gk s11 wr => ∃ i : Nat, s11 = .int .i64 i ∧ gk + i = n ∧ Gr w wr ∧ Hid (errFrom xs (xs.length - i) i = errFrom xs (xs.length - 0) 0))
  case atStart => exact ⟨0, rfl, by omega, Gr.refl _, rfl⟩
  case round =>
    obtain ⟨i, rfl, hi, hg, HF⟩ := hrel
    by_cases hlt : i < n
    · obtain ⟨x, hx⟩ : ∃ x, xs[i]? = some x := ⟨xs[i]'(by have := HN.out; omega), List.getElem?_eq_getElem _⟩
      obtain ⟨c0, c1, c2⟩ := (HC.out i x hx).gr hg
      have hf := errFrom_step hx
      have hi2 : (i : Int) < n := by omega
      have hT := fun W hg2 => HO.out i x W (by omega) hg2
      unfold opV at hT
      clear hx
      obtain ⟨W, hW, g, a0, a1, a2⟩ := box3 wr (.string x.nm) (.int .i64 x.lo) (.int .i64 x.hi) 28
      have gW := hg.trans g
      have HW := Lib.hid hW
      by_cases h0 : errAt xs i x = 0
      · rw [h0] at hT hf
        rw [if_pos rfl] at hf
        have HT := Lib.hid hT
        have HF2 := Lib.hid hf
        clear hT hf h0 hW
        go_wp2_with fail
        rw [HW.out]
        refine (HT.out _ gW).mono ?_
        rintro e w4 ⟨rfl, hg2⟩
        go_wp2_with fail
        go_roundg (gk - 1)
        case measure => omega
        case rel => exact ⟨i + 1, by go_num, by omega, gW.trans hg2, by unfold Hid; rw [← HF2.out, HF.out]⟩
      · rw [if_neg h0] at hf
        generalize errAt xs i x = z at *
        have q1 : (z == 0) = false := by simpa using h0
        have q2 : (z != 0) = true := by simpa [bne] using q1
        have HT := Lib.hid hT
        have HF2 := Lib.hid hf
        clear hT hf hW
        go_wp2_with fail
        rw [HW.out]
        refine (HT.out _ gW).mono ?_
        rintro e w4 ⟨rfl, hg2⟩
        go_wp2_with fail
        exact bodyPost_ret (v := .tuple #[.int .i64 i, .int .i64 z]) (by simp [results, Tryz.results81, go_sem]) rfl ⟨⟨i, by rw [← HF.out, HF2.out]⟩, gW.trans hg2⟩
    · have HE2 := Lib.hid (errFrom_end (xs := xs) (i := i) (by have := HN.out; omega))
      have hi2 : (n : Int) ≤ i := by omega
      go_wp2_with fail
      exact bodyPost_ret (v := .tuple #[.int .i64 0, .int .i64 0]) (by simp [results, Tryz.results81, go_sem]) rfl ⟨⟨0, by rw [← HF.out, HE2.out]⟩, hg⟩
theorem eachO_pos (xs : List OpR) (n b off cap L : Nat) (w : World) (hn : xs.length = n) (h1 : n ≤ 1000) (hcap : n ≤ cap) (hmx : cap ≤ maxLen) (hc : ∀ i x, xs[i]? = some x → OpAt w b (off + i * 3) x) (hL : w.cell? ⟨L, 0, none⟩ = some (.slice (some ⟨b, off, none⟩) n cap)) :
    Calls Tryz.prog 52 #[.slice (some ⟨b, off, none⟩) n cap, .func (.func 53) #[] #[.pointer (some ⟨L, 0, none⟩)]] w fun e w' => e = .returned (.int .i64 (errFrom xs (xs.length - 0) 0)) ∧ Gr w w' := by
  have HF := Lib.hid (findO_pos xs n b off cap L w hn h1 hcap hmx hc hL)
  have HE : Hid (errFrom xs (xs.length - 0) 0 = errFrom xs (n - 0) 0) := by unfold Hid; rw [hn]
  rw [HE.out] at HF ⊢
  generalize errFrom xs (n - 0) 0 = z at *
  clear hc hL hn HE
  go_enter Tryz.func52, Tryz.ntmps52
  go_wp2_with fail
  refine HF.out.mono ?_
  rintro e w4 ⟨⟨i, rfl⟩, hg⟩
  go_wp2_with fail
  go_ret
  exact ⟨rfl, hg⟩
set_option maxHeartbeats 1000000 in
set_option maxRecDepth 100000 in
theorem checkOpen_c {v : Value} {xs : List OpR} {w : World} (h : OpsV w v xs) :
    Calls Tryz.prog 20 #[v] w fun e w' => e = .returned (.int .i64 (openE xs)) ∧ Gr w w' := by
  obtain ⟨⟨p, cap, rfl, hcap, hh⟩⟩ := h
  by_cases h0 : 0 < xs.length
  · obtain ⟨b, off, rfl, hc⟩ := hh h0
    obtain ⟨W, hW, g, a0⟩ := box1 w (.slice (some ⟨b, off, none⟩) xs.length cap) 25
    have hz1 : ((xs.length : Int) == 0) = false := beq_eq_false_iff_ne.2 (by omega)
    by_cases h1 : xs.length ≤ 160
    · have HE : Hid (openE xs = errFrom xs (xs.length - 0) 0) := by unfold Hid openE; rw [if_neg (show ¬ xs.length = 0 by omega), if_neg (show ¬ 160 < xs.length by omega)]
      have hz2 : decide ((160 : Int) < xs.length) = false := decide_eq_false (by omega)
      have HT := Lib.hid (eachO_pos xs _ b off cap w.heap.size W rfl (by omega) hcap.1 hcap.2 (fun i x hx => (hc i x hx).gr g) a0)
      have HW := Lib.hid hW
      clear hh hc hW
      go_enter Tryz.func20, Tryz.ntmps20
      go_wp2_with fail
      rw [HW.out]
      refine HT.out.mono ?_
      rintro e w4 ⟨rfl, hg⟩
      go_wp2_with fail
      go_ret
      exact ⟨by rw [HE.out]; rfl, g.trans hg⟩
    · have HE : Hid (openE xs = 5) := by unfold Hid openE; rw [if_neg (show ¬ xs.length = 0 by omega), if_pos (show 160 < xs.length by omega)]
      have hz2 : decide ((160 : Int) < xs.length) = true := decide_eq_true (by omega)
      have HW := Lib.hid hW
      clear hh hc hW
      go_enter Tryz.func20, Tryz.ntmps20
      go_wp2_with fail
      rw [HW.out]
      go_ret
      exact ⟨by rw [HE.out]; rfl, g⟩
  · have hx : xs = [] := List.eq_nil_of_length_eq_zero (by omega)
    subst hx
    have HE : Hid (openE ([] : List OpR) = 12) := rfl
    go_enter Tryz.func20, Tryz.ntmps20
    go_wp2_with fail
    go_ret
    exact ⟨by rw [HE.out]; rfl, (Gr.refl _).alloc _⟩
end Go.Proofs.YtimbcjldejifaaaGreatDoor
namespace Go.Proofs.YtimbcjldejifaaaGreatDoor
open Go.RowKit Go.Lib
set_option linter.unusedSimpArgs false
set_option linter.unusedVariables false
/-- append(nil, make([]T, l)...) -/
theorem append_made {P : Program} {w : World} {t t2 ty elem : TypeId} {ki : IntKind} {info : TypeInfo} (hu : P.underlying t = some (.slice elem)) (hi : P.info? elem = some info) (h2 : P.underlying t2 = some (.int ki))
    {z : Value} {k : IntKind} {l : Int} (h0 : 0 < l) (hl : l.toNat ≤ 100000) (hby : info.bytes ≤ 1000) (hz : ∀ w : World, (zeroValue elem).run P w = .ok z w) (hzs : z.cells.size = info.size) :
    ∃ N C, l.toNat ≤ N ∧ N ≤ maxLen ∧ C.size = N * info.size ∧ (Builtin.append_ #[t, t2] ty #[.slice none 0 0, .int k l]).run P w = .ok (.slice (some ⟨w.heap.size, 0, none⟩) l.toNat N) (w.drew.alloc (.cells C elem)) := by
  letI : Ev.Ground := ⟨w⟩
  have hcap := Ev.nextslicecap_le (0 + l.toNat) 0 (by omega)
  have hbig : ¬ (281474976710656 < Builtin.nextslicecap (0 + l.toNat) 0 * info.bytes) := by
    have : Builtin.nextslicecap (0 + l.toNat) 0 * info.bytes ≤ 404000 * 1000 := Nat.mul_le_mul (by omega) hby
    omega
  have hw : IntKind.i64.wrap l = l := by rw [IntKind.wrap_i64]; omega
  have hb : ¬ (281474976710656 < l * info.bytes) := by
    have h1 : l * (info.bytes : Int) ≤ 100000 * 1000 := Int.mul_le_mul (by omega) (by omega) (by omega) (by omega)
    omega
  have hge := grownCap_ge w (0 + l.toNat) 0 elem
  have hle := grownCap_le_maxLen w (0 + l.toNat) 0 elem (by unfold maxLen; omega)
  refine ⟨grownCap w (0 + l.toNat) 0 elem, ⟨Ev.repN z.cells.toList l.toNat ++ (Builtin.zeroCells z.cells (grownCap w (0 + l.toNat) 0 elem - l.toNat)).toList⟩, by omega, hle, ?_, ?_⟩
  · generalize grownCap w (0 + l.toNat) 0 elem = G at *
    simp only [List.size_toArray, List.length_append, Ev.repN_length, Array.length_toList, Ev.zeroCells_repN, hzs, ← Nat.add_mul]
    rw [show l.toNat + (G - l.toNat) = G by omega]
  unfold grownCap
  unfold Builtin.append_
  have hfit : ¬ (0 + l.toNat ≤ 0) := by omega
  have h63' : ¬ (9223372036854775807 < ((0 + l.toNat : Nat) : Int)) := by omega
  have hneg : ¬ l < 0 := by omega
  simp only [List.getElem?_toArray, List.getElem?_cons_zero, List.getElem?_cons_succ, Sem.run_bind, Ev.under_run hu, Result.andThen_ok, sizeOf, typeInfo, run_program, hi, Sem.run_pure, Ev.under_run h2, if_true, asInt, hw]
  simp only [asIntOf, Sem.run_pure, Result.andThen_ok, hw, hneg, if_false, Sem.run_bind, run_program, hi]
  have hb' : ¬ (l * (info.bytes : Int) > 2 ^ 48) := by simpa using hb
  have hbig' : ¬ (Builtin.nextslicecap (0 + l.toNat) 0 * info.bytes > 2 ^ 48) := by simpa using hbig
  have h63'' : ¬ (((0 + l.toNat : Nat) : Int) > IntKind.i64.max ∧ (True ∨ info.bytes = 0)) := by
    rintro ⟨h1, _⟩
    have : IntKind.i64.max = 9223372036854775807 := by decide
    omega
  have hz0 : ¬ (l.toNat * info.size = 0) ∨ Ev.repN z.cells.toList l.toNat = [] := by
    rcases Nat.eq_zero_or_pos (l.toNat * info.size) with h | h
    · exact .inr (List.eq_nil_of_length_eq_zero (by rw [Ev.repN_length]; simpa [hzs] using h))
    · exact .inl (by omega)
  simp only [hb', if_false, Sem.run_bind, Sem.run_pure, Result.andThen_ok, hfit, run_program, hi, h63'', hbig']
  simp [Question.forced, hz, newRow, Builtin.firstCells]
  split
  · rename_i h
    rcases hz0 with h' | h'
    · exact absurd h h'
    · rw [h']; rfl
  · rw [Ev.zeroCells_repN]
    congr 3
    apply Array.ext'
    simp
/-- the same, as a step of a walk -/
theorem wpList_append_made {P : Program} {ops : Array Oper} {rest : List Oper} {o : Oper} {a : Act} {w : World} {Q : Exit → Act → World → Prop} (hgd : o.guard = none) (s x : Operand) (t t2 : TypeId)
    (ho : o.op = .call { callee := .builtin .append, args := #[s, x], argTypes := #[t, t2] })
    (elem : TypeId) (ki : IntKind) (info : TypeInfo) (z : Value) (size : Nat) (hu : P.underlying t = some (.slice elem)) (hi : P.info? elem = some info) (h2 : P.underlying t2 = some (.int ki)) (hzr : info.zero = some z) (hsz : info.size = size) (hzs : z.cells.size = size) (hby : info.bytes ≤ 1000)
    (l : Nat) (hl0 : 0 < l) (hl : l ≤ 100000) (hs : a.eval s = .slice none 0 0) (k : IntKind) (hx : a.eval x = .int k l)
    (h : ∀ N C, l ≤ N → N ≤ maxLen → C.size = N * size → wpList P ops Q rest (a.put o.dst (.slice (some ⟨w.heap.size, 0, none⟩) l N)) (w.drew.alloc (.cells C elem))) :
    wpList P ops Q (o :: rest) a w := by
  refine wpList_plain hgd fun K hK => ?_
  have hz : ∀ w : World, (zeroValue elem).run P w = .ok z w := fun w => by simp [zeroValue, typeInfo, hi, hzr]
  obtain ⟨N, C, g1, g2, g3, hr⟩ := append_made (P := P) (w := w) (ty := o.type) (k := k) (l := (l : Int)) hu hi h2 (by omega) (by simpa using hl) hby hz (by rw [hzs, hsz])
  simp only [Int.toNat_natCast] at g1 hr
  unfold Oper.wp execOp
  simp only [ho, resolve, invoke, builtin, Sem.run_bind, Sem.run_pure, Result.andThen_ok, List.map_toArray, List.map_cons, List.map_nil, hs, hx, hr]
  exact hK _ _ (h N C g1 g2 (by rw [g3, hsz]))
end Go.Proofs.YtimbcjldejifaaaGreatDoor
namespace Go.Proofs.YtimbcjldejifaaaGreatDoor
open Go.RowKit Go.Lib
set_option linter.unusedSimpArgs false
set_option linter.unusedVariables false
theorem grow_zero (w : World) :
    Calls Tryz.prog 85 #[.slice none 0 0, .int .i64 0] w fun e w' => ∃ v, e = .returned v ∧ w'.ownsRow w.heap.size 28 3 v 0 [] ∧ Gr w w' := by
  go_enter Tryz.func85, Tryz.ntmps85
  go_wp2_with fail
  go_ret
  exact ⟨_, rfl, World.ownsRow_nil _ _ _ _, Gr.refl _⟩
set_option maxHeartbeats 1000000 in
set_option maxRecDepth 100000 in
theorem grow_pos (l : Nat) (w : World) (h0 : 0 < l) (hl : l ≤ 1000) :
    Calls Tryz.prog 85 #[.slice none 0 0, .int .i64 l] w fun e w' => ∃ v, e = .returned v ∧ w'.ownsRow w.heap.size 28 3 v 0 [] ∧ Gr w w' := by
  obtain ⟨i0, hi, hz0, hz1, hz2⟩ := info_parts info75
  have h1 : (0 : Int) < l := by omega
  go_enter Tryz.func85, Tryz.ntmps85
  go_wp2_with (first
    | (at_builtin; refine wpList_append_made rfl _ _ 25 3 rfl 28 .i64 i0 (.agg #[.string ⟨#[]⟩, .int .i64 0, .int .i64 0]) 3 Tryz.underlying25 hi Tryz.underlying3 hz0 hz1 rfl (by rw [hz2]; decide) l h0 (by omega) rfl .i64 rfl ?_; intro N C hN hM hC))
  go_ret
  refine ⟨_, rfl, ⟨rfl, .inr ⟨w.heap.size, N, C, rfl, Nat.le_refl _, heap_alloc_new w _, Nat.zero_le _, hM, hC, by simp⟩⟩, ((Gr.refl w).alloc _).drew⟩
theorem grow_c (z : Int) (l : Nat) (hz : z = l) (w : World) (hl : l ≤ 1000) :
    Calls Tryz.prog 85 #[.slice none 0 0, .int .i64 z] w fun e w' => ∃ v, e = .returned v ∧ w'.ownsRow w.heap.size 28 3 v 0 [] ∧ Gr w w' := by
  subst hz
  rcases Nat.eq_zero_or_pos l with rfl | h0
  · exact grow_zero w
  · exact grow_pos l w h0 hl
theorem opCs_one (xs : List OpR) : ∀ u ∈ opCs xs, u.oneCell' = true := by
  intro u hu
  simp only [opCs, List.mem_flatMap] at hu
  obtain ⟨x, _, hx⟩ := hu
  simp only [opC, List.mem_cons, List.not_mem_nil, or_false] at hx
  rcases hx with rfl | rfl | rfl <;> rfl
theorem opCs_append (xs ys : List OpR) : opCs (xs ++ ys) = opCs xs ++ opCs ys := by simp [opCs]
set_option maxHeartbeats 1000000 in
set_option maxRecDepth 100000 in
theorem concat_c (ys1 ys2 : List OpR) (D m1 m2 c1 c2 cap : Nat) (A1 A2 : Addr) (w : World) (hm1 : ys1.length = m1) (hm2 : ys2.length = m2) (hl1 : m1 ≤ 400) (hl2 : m2 ≤ 400)
    (hD0 : w.cell? ⟨D, 0, none⟩ = some (.slice (some A1) m1 c1)) (hD1 : w.cell? ⟨D, 1, none⟩ = some (.slice (some A2) m2 c2))
    (h1 : ∀ j u, (opCs ys1)[j]? = some u → w.cell? (A1.add j) = some u) (h2 : ∀ j u, (opCs ys2)[j]? = some u → w.cell? (A2.add j) = some u) :
    Calls Tryz.prog 58 #[.slice (some ⟨D, 0, none⟩) 2 cap] w fun e w' => ∃ v, e = .returned v ∧ w'.ownsRow w.heap.size 28 3 v (m1 + m2) (opCs (ys1 ++ ys2)) ∧ Gr w w' := by
  obtain ⟨i0, hi, hz0, hz1, hz2⟩ := info_parts info75
  have hG := fun W => grow_c ((m1 : Int) + m2) (m1 + m2) (by omega) W (by omega)
  have HG := Lib.hid hG
  have H1 := Lib.hid h1
  have H2 := Lib.hid h2
  have HL1 := Lib.hid (show (opCs ys1).length = m1 * 3 by rw [opCs_len, hm1])
  have HL2 := Lib.hid (show (opCs ys2).length = m2 * 3 by rw [opCs_len, hm2])
  have hw1 : IntKind.i64.wrap ((m1 : Int) + m2) = m1 + m2 := by rw [IntKind.wrap_i64]; omega
  have hw0 : IntKind.i64.wrap (m1 : Int) = m1 := by rw [IntKind.wrap_i64]; omega
  have hn1 : ¬ ((m1 : Int) < 0) := by omega
  have hn2 : ¬ ((m1 : Int) + m2 < 0) := by omega
  clear hG h1 h2 hm1 hm2
  go_enter Tryz.func58, Tryz.ntmps58
  go_wp2_with fail
  refine wp_loop_rounds 3 ?_
  rw [rounds_succ]
  go_wp2_with fail
  rw [rounds_succ]
  go_wp2_with fail
  rw [rounds_succ]
  go_wp2_with fail
  have E1 := Lib.hid hD1
  refine (HG.out _).mono ?_
  rintro e W1 ⟨v, rfl, hown, hg⟩
  replace hD0 := hg.cell hD0
  replace hD1 := hg.cell hD1
  have hs1 := hg.size
  go_wp2_with fail
  refine wp_loop_rounds 3 ?_
  rw [rounds_succ]
  go_wp2_with (first
    | (at_builtin; refine wpList_append_own _ rfl _ _ 25 rfl w.heap.size 28 i0 (.agg #[.string ⟨#[]⟩, .int .i64 0, .int .i64 0]) 3 32 Tryz.underlying25 hi hz0 hz1 hz2 rfl (by decide) _ _ _ rfl hown A1 m1 c1 (opCs ys1) rfl HL1.out (fun j u hu => hg.cell (H1.out j u hu)) (opCs_one ys1) (by unfold maxLen; omega) (by omega) hs1 ?_; intro v1 w1 hown1 hgrow1 hnil1))
  have hb : Gr w w1 := Below.grown hg hgrow1 hs1 (fun j hj => (hown.lt j hj).1)
  have hd1 := hb.cell E1.out
  have hs2 := hb.size
  clear hgrow1 hnil1 hD0 hD1
  rw [rounds_succ]
  go_wp2_with (first
    | (at_builtin; refine wpList_append_own _ rfl _ _ 25 rfl w.heap.size 28 i0 (.agg #[.string ⟨#[]⟩, .int .i64 0, .int .i64 0]) 3 32 Tryz.underlying25 hi hz0 hz1 hz2 rfl (by decide) _ _ _ rfl hown1 A2 m2 c2 (opCs ys2) rfl HL2.out (fun j u hu => hb.cell (H2.out j u hu)) (opCs_one ys2) (by unfold maxLen; omega) (by omega) hs2 ?_; intro v2 w2 hown2 hgrow2 hnil2))
  have hb2 : Gr w w2 := Below.grown hb hgrow2 hs2 (fun j hj => (hown1.lt j hj).1)
  clear hgrow2 hnil2
  rw [rounds_succ]
  go_wp2_with fail
  go_ret
  refine ⟨_, rfl, ?_, hb2⟩
  rw [opCs_append]
  simpa using hown2
end Go.Proofs.YtimbcjldejifaaaGreatDoor
