/- Pools: the program's Pool. -/
import Derived.Test.YtenkbeeiblhnjaaGreatGSyI
namespace Go.Proofs.YtenkbeeiblhnjaaGreat
open Go.RowKit Go.Lib
set_option linter.unusedSimpArgs false
set_option linter.unusedVariables false
def poolE (cs : List ByteArray) (xs : List TstR) (c sp key d : Int) : Int := firstE [listE 160 (strE cs) cs, listE 256 (tstE xs) xs, pickE c sp key, outE d 0 99999]
theorem pickE_zero {c sp key : Int} (h : pickE c sp key = 0) : (0 ≤ c ∧ c ≤ 160) ∧ (0 ≤ sp ∧ sp ≤ 99999) ∧ 1 ≤ key ∧ key < 2147483647 := by
  unfold pickE at h
  have := drawE_zero (firstE_zero h (drawE key 0) (by simp))
  exact ⟨outE_zero.1 (firstE_zero h (outE c 0 160) (by simp)), outE_zero.1 (firstE_zero h (outE sp 0 99999) (by simp)), this.1, this.2.1⟩
theorem poolE_zero {cs : List ByteArray} {xs : List TstR} {c sp key d : Int} (h : poolE cs xs c sp key d = 0) : listE 160 (strE cs) cs = 0 ∧ listE 256 (tstE xs) xs = 0 ∧ pickE c sp key = 0 ∧ 0 ≤ d ∧ d ≤ 99999 := by
  unfold poolE at h
  exact ⟨firstE_zero h _ (by simp), firstE_zero h _ (by simp), firstE_zero h _ (by simp), outE_zero.1 (firstE_zero h (outE d 0 99999) (by simp))⟩
/-- the pool of a day -/
def poolL (cs : List ByteArray) (xs : List TstR) (c sp : Int) (key : Nat) (d : Int) : List ByteArray :=
  (srtM (lastM cs xs d) (poolU xs sp d (drawnS key cs))).take (min c (poolU xs sp d (drawnS key cs)).length).toNat
set_option maxHeartbeats 2000000 in
set_option maxRecDepth 100000 in
theorem pool_bad {vc v : Value} {cs : List ByteArray} {xs : List TstR} {w : World} (c sp key d : Int) (hcs : StrAts w vc cs) (h : TstAts w v xs) (h0 : poolE cs xs c sp key d ≠ 0) :
    Calls Tryz.prog 13 #[vc, v, .agg #[.int .i64 c, .int .i64 sp, .int .i64 key], .int .i64 d] w fun e w' => e = .returned (.tuple #[.slice none 0 0, .int .i64 (poolE cs xs c sp key d)]) ∧ Gr w w' := by
  have hR : poolE cs xs c sp key d = firstE [listE 160 (strE cs) cs, listE 256 (tstE xs) xs, pickE c sp key, outE d 0 99999] := rfl
  have HC := Lib.hid (fun W (g : Gr w W) => checkNms_c cs 160 _ W (by omega) (hcs.gr g))
  have HT := Lib.hid (fun W (g : Gr w W) => checkTsts_c xs _ W (h.gr g))
  have HP := Lib.hid (fun W => checkPick_c c sp key W)
  obtain ⟨e4, h4', H4⟩ := day_e d
  replace H4 := Lib.hid H4
  generalize listE 160 (strE cs) cs = e1 at *
  generalize listE 256 (tstE xs) xs = e2 at *
  generalize pickE c sp key = e3 at *
  rw [← h4'] at hR
  have hF := first_four e1 e2 e3 e4
  rw [← hR] at hF
  generalize poolE cs xs c sp key d = err at *
  have HF := Lib.hid hF
  have q1 : (err == 0) = false := by simpa using h0
  have q2 : (err != 0) = true := by simpa [bne] using q1
  obtain ⟨pt, nt, capt, rfl⟩ : ∃ p n cap, v = .slice p n cap := by
    obtain ⟨⟨p, cap, rfl, _⟩⟩ := h
    exact ⟨p, _, cap, rfl⟩
  obtain ⟨WP, hWP, g0, b0, b1, b2⟩ := box3 w (.int .i64 c) (.int .i64 sp) (.int .i64 key) 25
  have HWP := Lib.hid hWP
  clear hF hR h4' h hcs hWP
  go_enter Tryz.func13, Tryz.ntmps13
  go_wp2_with fail
  rw [HWP.out]
  clear HWP
  generalize w.heap.size = Bx at *
  have gd := (Gr.refl WP).drew
  replace b0 := gd.cell b0
  replace b1 := gd.cell b1
  replace b2 := gd.cell b2
  have g := g0.trans gd
  clear gd g0
  refine wp_region_held_drew (S := (fun w' => w'.cell? ⟨Bx, 0, none⟩ = some (.int .i64 c) ∧ w'.cell? ⟨Bx, 1, none⟩ = some (.int .i64 sp) ∧ w'.cell? ⟨Bx, 2, none⟩ = some (.int .i64 key))) (by kernel_rfl) ⟨b0, b1, b2⟩ (fun hHeld => ?_)
  generalize WP.drew = V at *
  refine wpAnyH_take (i := 0) (v := vc) (op_at rfl) (by kernel_rfl) (by kernel_rfl) (by kernel_rfl) (fun _ _ _ h => h) (Or.inl ⟨rfl, fun w hSw => ?_⟩) (by assumption) ?_
  · (try dsimp only at hSw); go_simp; try with_reducible rfl
  (try simp only [Act.put, List.setIfInBounds_toArray, List.set_cons_zero, List.set_cons_succ])
  refine wpAnyH_take (i := 2) (v := (.slice pt nt capt)) (op_at rfl) (by kernel_rfl) (by kernel_rfl) (by kernel_rfl) (fun _ _ _ h => h) (Or.inl ⟨rfl, fun w hSw => ?_⟩) (by assumption) ?_
  · (try dsimp only at hSw); go_simp; try with_reducible rfl
  (try simp only [Act.put, List.setIfInBounds_toArray, List.set_cons_zero, List.set_cons_succ])
  refine wpAnyH_take (i := 4) (v := (.agg #[.int .i64 c, .int .i64 sp, .int .i64 key])) (op_at rfl) (by kernel_rfl) (by kernel_rfl) (by kernel_rfl) (fun _ _ _ h => h) (Or.inl ⟨rfl, fun w hSw => ?_⟩) (by assumption) ?_
  · (try dsimp only at hSw); go_simp; try with_reducible rfl
  (try simp only [Act.put, List.setIfInBounds_toArray, List.set_cons_zero, List.set_cons_succ])
  refine wpAnyH_take (i := 6) (v := (.int .i64 d)) (op_at rfl) (by kernel_rfl) (by kernel_rfl) (by kernel_rfl) (fun _ _ _ h => h) (Or.inl ⟨rfl, fun w hSw => ?_⟩) (by assumption) ?_
  · (try dsimp only at hSw); go_simp; try with_reducible rfl
  (try simp only [Act.put, List.setIfInBounds_toArray, List.set_cons_zero, List.set_cons_succ])
  refine wpAnyH_ready (rs := [1]) (by kernel_rfl) (by simp) (AllReadyH.cons (op_at rfl) (fun K hK => ?_) AllReadyH.nil)
  go_simp
  (refine (HC.out _ g).mono ?_; rintro e V1 ⟨rfl, hg⟩; replace b0 := hg.cell b0; replace b1 := hg.cell b1; replace b2 := hg.cell b2; replace g := g.trans hg; clear hg)
  go_wp2_with fail
  refine hK.out _ _ ⟨b0, b1, b2⟩ (fun hHeld => ?_)
  clear hK K
  (try simp only [Act.put, List.setIfInBounds_toArray, List.set_cons_zero, List.set_cons_succ])
  refine wpAnyH_ready (rs := [3]) (by kernel_rfl) (by simp) (AllReadyH.cons (op_at rfl) (fun K hK => ?_) AllReadyH.nil)
  go_simp
  (refine (HT.out _ g).mono ?_; rintro e V2 ⟨rfl, hg⟩; replace b0 := hg.cell b0; replace b1 := hg.cell b1; replace b2 := hg.cell b2; replace g := g.trans hg; clear hg)
  go_wp2_with fail
  refine hK.out _ _ ⟨b0, b1, b2⟩ (fun hHeld => ?_)
  clear hK K
  (try simp only [Act.put, List.setIfInBounds_toArray, List.set_cons_zero, List.set_cons_succ])
  refine wpAnyH_ready (rs := [5]) (by kernel_rfl) (by simp) (AllReadyH.cons (op_at rfl) (fun K hK => ?_) AllReadyH.nil)
  go_simp
  (refine (HP.out _).mono ?_; rintro e V4 ⟨rfl, hg⟩; replace b0 := hg.cell b0; replace b1 := hg.cell b1; replace b2 := hg.cell b2; replace g := g.trans hg; clear hg)
  go_wp2_with fail
  refine hK.out _ _ ⟨b0, b1, b2⟩ (fun hHeld => ?_)
  clear hK K
  (try simp only [Act.put, List.setIfInBounds_toArray, List.set_cons_zero, List.set_cons_succ])
  refine wpAnyH_ready (rs := [7]) (by kernel_rfl) (by simp) (AllReadyH.cons (op_at rfl) (fun K hK => ?_) AllReadyH.nil)
  go_simp
  (refine (H4.out _).mono ?_; rintro e w' ⟨rfl, rfl⟩)
  go_wp2_with fail
  refine hK.out _ _ ⟨b0, b1, b2⟩ (fun hHeld => ?_)
  clear hK K
  (try simp only [Act.put, List.setIfInBounds_toArray, List.set_cons_zero, List.set_cons_succ])
  refine wpAnyH_ready (rs := [8]) (by kernel_rfl) (by simp) (AllReadyH.cons (op_at rfl) (fun K hK => ?_) AllReadyH.nil)
  go_simp
  obtain ⟨WW, hWW, gW, s0, s1, s2, s3⟩ := box4 V4 (.int .i64 e1) (.int .i64 e2) (.int .i64 e3) (.int .i64 e4) 32
  rw [hWW]
  clear hWW
  replace b0 := gW.cell b0
  replace b1 := gW.cell b1
  replace b2 := gW.cell b2
  replace g := g.trans gW
  refine hK.out _ _ ⟨b0, b1, b2⟩ (fun hHeld => ?_)
  clear hK K
  (try simp only [Act.put, List.setIfInBounds_toArray, List.set_cons_zero, List.set_cons_succ])
  refine wpAnyH_ready (rs := [9]) (by kernel_rfl) (by simp) (AllReadyH.cons (op_at rfl) (fun K hK => ?_) AllReadyH.nil)
  go_simp
  (refine (HF.out _ _ WW s0 s1 s2 s3).mono ?_; rintro e w' ⟨rfl, rfl⟩)
  go_wp2_with fail
  refine hK.out _ _ ⟨b0, b1, b2⟩ (fun hHeld => ?_)
  clear hK K
  (try simp only [Act.put, List.setIfInBounds_toArray, List.set_cons_zero, List.set_cons_succ])
  refine wpAnyH_take (i := 10) (v := (.int .i64 err)) (op_at rfl) (by kernel_rfl) (by kernel_rfl) (by kernel_rfl) (fun _ _ _ h => h) (Or.inl ⟨rfl, fun w hSw => ?_⟩) (by assumption) ?_
  · (try dsimp only at hSw); go_simp; try with_reducible rfl
  (try simp only [Act.put, List.setIfInBounds_toArray, List.set_cons_zero, List.set_cons_succ])
  refine wpAnyH_done (by kernel_rfl) ?_ _
  go_wp2_with fail
  exact bodyPost_ret (v := .tuple #[.slice none 0 0, .int .i64 err]) (by simp [results, Tryz.results13, go_sem]) rfl ⟨rfl, g⟩
/-- a block of its own -/
def FreshV (w : World) (u : Value) : Prop := ∀ p n c, u = .slice (some p) n c → w.heap.size ≤ p.block
set_option maxHeartbeats 2000000 in
set_option maxRecDepth 100000 in
theorem pool_goodF (I : InsSOK) {vc v : Value} {cs : List ByteArray} {xs : List TstR} {w : World} (c sp : Int) (key : Nat) (d : Int) (hcs : StrAts w vc cs) (h : TstAts w v xs) (h0 : poolE cs xs c sp key d = 0) (h20 : cs.length ≤ 160) :
    Calls Tryz.prog 13 #[vc, v, .agg #[.int .i64 c, .int .i64 sp, .int .i64 (key : Int)], .int .i64 d] w fun e w' => ∃ u, e = .returned (.tuple #[u, .int .i64 0]) ∧ StrAts w' u (poolL cs xs c sp key d) ∧ Gr w w' ∧ FreshV w u := by
  obtain ⟨i0, hi, hz0, hz1, hz2⟩ := info_parts infoStrN
  obtain ⟨z1, z2, z3, q3, q4⟩ := poolE_zero h0
  obtain ⟨⟨c1, c2⟩, ⟨p1, p2⟩, k1, k2⟩ := pickE_zero z3
  have hcl := str_len z1
  obtain ⟨htl, htr⟩ := tst_range z2
  have HC := Lib.hid (fun W (g : Gr w W) => checkNms_c cs 160 _ W (by omega) (hcs.gr g))
  have HT := Lib.hid (fun W (g : Gr w W) => checkTsts_c xs _ W (h.gr g))
  have HP := Lib.hid (fun W => checkPick_c c sp (key : Int) W)
  obtain ⟨e4, h4', H4⟩ := day_e d
  replace H4 := Lib.hid H4
  have HL := Lib.hid (fun W (g : Gr w W) => lastTests_c d (hcs.gr g) (h.gr g) (by omega) (by omega))
  have HD := Lib.hid (fun W => draw_good key cs.length W (by omega) (by omega) (by omega))
  have HSP := Lib.hid (fun l g cap T G W => sortPool_c I (lastM cs xs d) l g cap T G W)
  have HLE : Hid (poolL cs xs c sp key d = (srtM (lastM cs xs d) (poolU xs sp d (drawnS key cs))).take (min c (poolU xs sp d (drawnS key cs)).length).toNat) := rfl
  have HUL := Lib.hid (fun k => Nat.le_trans (poolU_len xs sp d ((drawnS key cs).take k)) (show ((drawnS key cs).take k).length ≤ k by rw [List.length_take]; omega))
  have HLF := Lib.hid (show ∀ m l, (srtM m l).length = l.length from fun m l => (srtM_spec m l).2.1)
  rw [outE_zero.2 ⟨q3, q4⟩] at h4'
  subst h4'
  have HF := Lib.hid (first_four 0 0 0 0)
  rw [show firstE [0, 0, 0, 0] = 0 by simp [firstE]] at HF
  rw [z1] at HC
  rw [z2] at HT
  rw [z3] at HP
  have HLM := Lib.hid (fun s (hs : s ∈ cs) => look_last (xs := xs) (d := d) hs)
  have HGE := Lib.hid (fun s => lastZ_ge (lastD d s) xs (-1))
  obtain ⟨pt, nt, capt, rfl⟩ : ∃ p n cap, v = .slice p n cap := by
    obtain ⟨⟨p, cap, rfl, _⟩⟩ := h
    exact ⟨p, _, cap, rfl⟩
  obtain ⟨⟨p, cap, rfl, _, hh⟩⟩ := hcs
  have HAT := Lib.hid (fun i (hi : i < cs.length) (hs : (drawN key cs.length).size = cs.length) => drawnS_at hi hs)
  have HDL := Lib.hid (drawnS_len key cs)
  obtain ⟨n, hn⟩ : ∃ n, n = cs.length := ⟨_, rfl⟩
  rw [← hn] at hcl hh h20 ⊢
  rw [← hn] at HC HL HAT HDL HD
  have HN := Lib.hid hn
  have HH := Lib.hid hh
  have hwr : IntKind.i64.wrap (d - sp) = d - sp := by rw [IntKind.wrap_i64]; omega
  obtain ⟨WP, hWP, g0, b0, b1, b2⟩ := box3 w (.int .i64 c) (.int .i64 sp) (.int .i64 (key : Int)) 25
  have HWP := Lib.hid hWP
  clear hn hh h h0 z1 z2 z3 htl htr hWP I
  go_enter Tryz.func13, Tryz.ntmps13
  go_wp2_with fail
  rw [HWP.out]
  clear HWP
  generalize w.heap.size = Bx at *
  have gd := (Gr.refl WP).drew
  replace b0 := gd.cell b0
  replace b1 := gd.cell b1
  replace b2 := gd.cell b2
  have g := g0.trans gd
  clear gd g0
  refine wp_region_held_drew (S := (fun w' => w'.cell? ⟨Bx, 0, none⟩ = some (.int .i64 c) ∧ w'.cell? ⟨Bx, 1, none⟩ = some (.int .i64 sp) ∧ w'.cell? ⟨Bx, 2, none⟩ = some (.int .i64 (key : Int)))) (by kernel_rfl) ⟨b0, b1, b2⟩ (fun hHeld => ?_)
  generalize WP.drew = V at *
  refine wpAnyH_take (i := 0) (v := (.slice p n cap)) (op_at rfl) (by kernel_rfl) (by kernel_rfl) (by kernel_rfl) (fun _ _ _ h => h) (Or.inl ⟨rfl, fun w hSw => ?_⟩) (by assumption) ?_
  · (try dsimp only at hSw); go_simp; try with_reducible rfl
  (try simp only [Act.put, List.setIfInBounds_toArray, List.set_cons_zero, List.set_cons_succ])
  refine wpAnyH_take (i := 2) (v := (.slice pt nt capt)) (op_at rfl) (by kernel_rfl) (by kernel_rfl) (by kernel_rfl) (fun _ _ _ h => h) (Or.inl ⟨rfl, fun w hSw => ?_⟩) (by assumption) ?_
  · (try dsimp only at hSw); go_simp; try with_reducible rfl
  (try simp only [Act.put, List.setIfInBounds_toArray, List.set_cons_zero, List.set_cons_succ])
  refine wpAnyH_take (i := 4) (v := (.agg #[.int .i64 c, .int .i64 sp, .int .i64 key])) (op_at rfl) (by kernel_rfl) (by kernel_rfl) (by kernel_rfl) (fun _ _ _ h => h) (Or.inl ⟨rfl, fun w hSw => ?_⟩) (by assumption) ?_
  · (try dsimp only at hSw); go_simp; try with_reducible rfl
  (try simp only [Act.put, List.setIfInBounds_toArray, List.set_cons_zero, List.set_cons_succ])
  refine wpAnyH_take (i := 6) (v := (.int .i64 d)) (op_at rfl) (by kernel_rfl) (by kernel_rfl) (by kernel_rfl) (fun _ _ _ h => h) (Or.inl ⟨rfl, fun w hSw => ?_⟩) (by assumption) ?_
  · (try dsimp only at hSw); go_simp; try with_reducible rfl
  (try simp only [Act.put, List.setIfInBounds_toArray, List.set_cons_zero, List.set_cons_succ])
  refine wpAnyH_ready (rs := [1]) (by kernel_rfl) (by simp) (AllReadyH.cons (op_at rfl) (fun K hK => ?_) AllReadyH.nil)
  go_simp
  (refine (HC.out _ g).mono ?_; rintro e V1 ⟨rfl, hg⟩; replace b0 := hg.cell b0; replace b1 := hg.cell b1; replace b2 := hg.cell b2; replace g := g.trans hg; clear hg)
  go_wp2_with fail
  refine hK.out _ _ ⟨b0, b1, b2⟩ (fun hHeld => ?_)
  clear hK K
  (try simp only [Act.put, List.setIfInBounds_toArray, List.set_cons_zero, List.set_cons_succ])
  refine wpAnyH_ready (rs := [3]) (by kernel_rfl) (by simp) (AllReadyH.cons (op_at rfl) (fun K hK => ?_) AllReadyH.nil)
  go_simp
  (refine (HT.out _ g).mono ?_; rintro e V2 ⟨rfl, hg⟩; replace b0 := hg.cell b0; replace b1 := hg.cell b1; replace b2 := hg.cell b2; replace g := g.trans hg; clear hg)
  go_wp2_with fail
  refine hK.out _ _ ⟨b0, b1, b2⟩ (fun hHeld => ?_)
  clear hK K
  (try simp only [Act.put, List.setIfInBounds_toArray, List.set_cons_zero, List.set_cons_succ])
  refine wpAnyH_ready (rs := [5]) (by kernel_rfl) (by simp) (AllReadyH.cons (op_at rfl) (fun K hK => ?_) AllReadyH.nil)
  go_simp
  (refine (HP.out _).mono ?_; rintro e V4 ⟨rfl, hg⟩; replace b0 := hg.cell b0; replace b1 := hg.cell b1; replace b2 := hg.cell b2; replace g := g.trans hg; clear hg)
  go_wp2_with fail
  refine hK.out _ _ ⟨b0, b1, b2⟩ (fun hHeld => ?_)
  clear hK K
  (try simp only [Act.put, List.setIfInBounds_toArray, List.set_cons_zero, List.set_cons_succ])
  refine wpAnyH_ready (rs := [7]) (by kernel_rfl) (by simp) (AllReadyH.cons (op_at rfl) (fun K hK => ?_) AllReadyH.nil)
  go_simp
  (refine (H4.out _).mono ?_; rintro e w' ⟨rfl, rfl⟩)
  go_wp2_with fail
  refine hK.out _ _ ⟨b0, b1, b2⟩ (fun hHeld => ?_)
  clear hK K
  (try simp only [Act.put, List.setIfInBounds_toArray, List.set_cons_zero, List.set_cons_succ])
  refine wpAnyH_ready (rs := [8]) (by kernel_rfl) (by simp) (AllReadyH.cons (op_at rfl) (fun K hK => ?_) AllReadyH.nil)
  go_simp
  obtain ⟨WW, hWW, gW, s0, s1, s2, s3⟩ := box4 V4 (.int .i64 0) (.int .i64 0) (.int .i64 0) (.int .i64 0) 32
  rw [hWW]
  clear hWW
  replace b0 := gW.cell b0
  replace b1 := gW.cell b1
  replace b2 := gW.cell b2
  replace g := g.trans gW
  refine hK.out _ _ ⟨b0, b1, b2⟩ (fun hHeld => ?_)
  clear hK K
  (try simp only [Act.put, List.setIfInBounds_toArray, List.set_cons_zero, List.set_cons_succ])
  refine wpAnyH_ready (rs := [9]) (by kernel_rfl) (by simp) (AllReadyH.cons (op_at rfl) (fun K hK => ?_) AllReadyH.nil)
  go_simp
  (refine (HF.out _ _ WW s0 s1 s2 s3).mono ?_; rintro e w' ⟨rfl, rfl⟩)
  go_wp2_with fail
  refine hK.out _ _ ⟨b0, b1, b2⟩ (fun hHeld => ?_)
  clear hK K
  (try simp only [Act.put, List.setIfInBounds_toArray, List.set_cons_zero, List.set_cons_succ])
  refine wpAnyH_take (i := 10) (v := (.int .i64 0)) (op_at rfl) (by kernel_rfl) (by kernel_rfl) (by kernel_rfl) (fun _ _ _ h => h) (Or.inl ⟨rfl, fun w hSw => ?_⟩) (by assumption) ?_
  · (try dsimp only at hSw); go_simp; try with_reducible rfl
  (try simp only [Act.put, List.setIfInBounds_toArray, List.set_cons_zero, List.set_cons_succ])
  refine wpAnyH_done (by kernel_rfl) ?_ _
  go_wp2_with fail
  refine (HD.out _).mono ?_
  rintro e W5 ⟨rfl, hrow, hsz, hg⟩
  replace b0 := hg.cell b0
  replace b1 := hg.cell b1
  replace g := g.trans hg
  generalize WW.heap.size = Dr at *
  clear hg gW s0 s1 s2 s3 b2
  go_wp2_with fail
  refine (HL.out _ g).mono ?_
  rintro e W9 ⟨rfl, hmap, hg⟩
  replace b0 := hg.cell b0
  replace b1 := hg.cell b1
  have hrow2 := RowA.gr hrow hg
  replace g := g.trans hg
  have hGl := hmap.lt
  generalize W5.heap.size = G at *
  clear hg hrow
  go_wp2_with fail
  obtain ⟨WT, hWT, gT, tT⟩ := box1 W9 (.map (some G)) 110
  have hTl : W9.heap.size < WT.heap.size := by rw [← hWT, World.size_alloc]; omega
  rw [hWT]
  clear hWT
  replace b0 := gT.cell b0
  replace b1 := gT.cell b1
  replace hrow2 := RowA.gr hrow2 gT
  replace hmap := hmap.gr gT
  replace g := g.trans gT
  generalize W9.heap.size = Tb at *
  clear gT
  have HS2 := Lib.hid hsz
  clear hsz
  go_loopw [14, 16, 44] (fun bv nv iv wr => ∃ i : Nat, i ≤ n ∧ iv = .int .i64 i ∧ wr.ownsRow WT.heap.size 9 1 bv (poolU xs sp d ((drawnS key cs).take i)).length (strC (poolU xs sp d ((drawnS key cs).take i))) ∧ Gr WT wr) (fun _ _ iv _ => n - (intOf iv).toNat)
  case atStart => exact ⟨0, Nat.zero_le _, rfl, World.ownsRow_nil _ _ _ _, Gr.refl _⟩
  case round =>
    obtain ⟨i, hi', rfl, hown, hg⟩ := hrel
    have hgw := g.trans hg
    have hsz := hg.size
    by_cases hlt : i < n
    · obtain ⟨x, hdx, hx, hjl⟩ := HAT.out i hlt HS2.out
      have hrc := (RowA.gr hrow2 hg).cell (i := i) (by rw [HS2.out]; exact hlt)
      obtain ⟨b, off, rfl, hc⟩ := HH.out (by omega)
      obtain ⟨c0⟩ := (hc _ x hx).gr hgw
      have hst := poolU_take (xs := xs) (sp := sp) (d := d) hdx
      have hle := HUL.out i
      have hi2 : (i : Int) < n := by omega
      have hmx := List.mem_of_getElem? hx
      have hlook := map_look (hmap.gr hg) x
      rw [HLM.out x hmx, Option.getD_some] at hlook
      have hlookd := map_look ((hmap.gr hg).gr (Gr.refl wr).drew) x
      rw [HLM.out x hmx, Option.getD_some] at hlookd
      have hge := HGE.out x
      rw [show freeS xs sp d x = (decide (lastZ (lastD d x) xs (-1) < 0) || decide (lastZ (lastD d x) xs (-1) < d - sp)) from rfl] at hst
      generalize lastZ (lastD d x) xs (-1) = z at *
      generalize poolU xs sp d ((drawnS key cs).take i) = L at *
      generalize (drawN key n).getD i 0 = j at *
      clear hx hc hdx hmx
      have hz1' : (z == -1) = decide (z < 0) := by
        by_cases hq : z = -1
        · subst hq; rfl
        · rw [beq_eq_false_iff_ne.2 hq, decide_eq_false (by omega)]
      have HLn : Hid ((strC L).length = L.length) := by simp [Hid, strC]
      have hb1 := hg.cell b1
      have htT := hg.cell tT
      go_wp2_with fail
      have gd := (Gr.refl wr).drew
      have kt := gd.cell htT
      have kb := gd.cell hb1
      have kx := gd.cell c0
      have kl := hlookd
      have hgd := hg.trans gd
      have hownd := hown.drew
      have hc0d := gd.cell c0
      clear gd
      cases hzz : decide (z < 0)
      case true =>
        rw [hzz] at hst hz1'
        simp only [Bool.true_or, if_true] at hst
        have HST := Lib.hid hst
        clear hst
        refine wp_region_held_drew (S := (fun w' => w'.cell? ⟨Tb, 0, none⟩ = some (.map (some G)) ∧ w'.cell? ⟨Bx, 1, none⟩ = some (.int .i64 sp) ∧ w'.cell? ⟨b, off + j, none⟩ = some (.string x) ∧ (Instr.lookup 110 (.map (some G)) (.string x) false).run Tryz.prog w' = .ok (.int .i64 z) w')) (by kernel_rfl) ⟨kt, kb, kx, kl⟩ (fun hHeld => ?_)
        generalize wr.drew = V at *
        refine wpAnyH_take (i := 0) (v := (.map (some G))) (op_at rfl) (by kernel_rfl) (by kernel_rfl) (by kernel_rfl) (fun _ _ _ h => h) (Or.inl ⟨rfl, fun w hSw => ?_⟩) (by assumption) ?_
        · (try dsimp only at hSw); go_simp; try with_reducible rfl
        (try simp only [Act.put, List.setIfInBounds_toArray, List.set_cons_zero, List.set_cons_succ])
        refine wpAnyH_take (i := 1) (v := (.slice (some ⟨b, off, none⟩) n cap)) (op_at rfl) (by kernel_rfl) (by kernel_rfl) (by kernel_rfl) (fun _ _ _ h => h) (Or.inl ⟨rfl, fun w hSw => ?_⟩) (by assumption) ?_
        · (try dsimp only at hSw); go_simp; try with_reducible rfl
        (try simp only [Act.put, List.setIfInBounds_toArray, List.set_cons_zero, List.set_cons_succ])
        refine wpAnyH_take (i := 2) (v := (.int .i64 j)) (op_at rfl) (by kernel_rfl) (by kernel_rfl) (by kernel_rfl) (fun _ _ _ h => h) (Or.inl ⟨rfl, fun w hSw => ?_⟩) (by assumption) ?_
        · (try dsimp only at hSw); go_simp; try with_reducible rfl
        (try simp only [Act.put, List.setIfInBounds_toArray, List.set_cons_zero, List.set_cons_succ])
        refine wpAnyH_take (i := 3) (v := (.pointer (some ⟨b, off + j, none⟩))) (op_at rfl) (by kernel_rfl) (by kernel_rfl) (by kernel_rfl) (fun _ _ _ h => h) (Or.inl ⟨rfl, fun w hSw => ?_⟩) (by assumption) ?_
        · (try dsimp only at hSw); go_simp; try with_reducible rfl
        (try simp only [Act.put, List.setIfInBounds_toArray, List.set_cons_zero, List.set_cons_succ])
        refine wpAnyH_take (i := 4) (v := (.string x)) (op_at rfl) (by kernel_rfl) (by kernel_rfl) (by kernel_rfl) (fun _ _ _ h => h) (Or.inl ⟨rfl, fun w hSw => ?_⟩) (by assumption) ?_
        · (try dsimp only at hSw); go_simp; try with_reducible rfl
        (try simp only [Act.put, List.setIfInBounds_toArray, List.set_cons_zero, List.set_cons_succ])
        refine wpAnyH_take (i := 5) (v := (.int .i64 z)) (op_at rfl) (by kernel_rfl) (by kernel_rfl) (by kernel_rfl) (fun _ _ _ h => h) (Or.inl ⟨rfl, fun w hSw => ?_⟩) (by assumption) ?_
        · (try dsimp only at hSw); go_simp; try with_reducible rfl
        (try simp only [Act.put, List.setIfInBounds_toArray, List.set_cons_zero, List.set_cons_succ])
        refine wpAnyH_take (i := 6) (v := (.bool true)) (op_at rfl) (by kernel_rfl) (by kernel_rfl) (by kernel_rfl) (fun _ _ _ h => h) (Or.inl ⟨rfl, fun w hSw => ?_⟩) (by assumption) ?_
        · (try dsimp only at hSw); go_simp; try with_reducible rfl
        (try simp only [Act.put, List.setIfInBounds_toArray, List.set_cons_zero, List.set_cons_succ])
        refine wpAnyH_take (i := 7) (v := (.bool true)) (op_at rfl) (by kernel_rfl) (by kernel_rfl) (by kernel_rfl) (fun _ _ _ h => h) (Or.inl ⟨rfl, fun w hSw => ?_⟩) (by assumption) ?_
        · (try dsimp only at hSw); go_simp; try with_reducible rfl
        (try simp only [Act.put, List.setIfInBounds_toArray, List.set_cons_zero, List.set_cons_succ])
        refine wpAnyH_take (i := 8) (v := undef) (op_at rfl) (by kernel_rfl) (by kernel_rfl) (by kernel_rfl) (fun _ _ _ h => h) (Or.inr ⟨rfl, rfl⟩) (by assumption) ?_
        (try simp only [Act.put, List.setIfInBounds_toArray, List.set_cons_zero, List.set_cons_succ])
        refine wpAnyH_take (i := 9) (v := undef) (op_at rfl) (by kernel_rfl) (by kernel_rfl) (by kernel_rfl) (fun _ _ _ h => h) (Or.inr ⟨rfl, rfl⟩) (by assumption) ?_
        (try simp only [Act.put, List.setIfInBounds_toArray, List.set_cons_zero, List.set_cons_succ])
        refine wpAnyH_take (i := 10) (v := undef) (op_at rfl) (by kernel_rfl) (by kernel_rfl) (by kernel_rfl) (fun _ _ _ h => h) (Or.inr ⟨rfl, rfl⟩) (by assumption) ?_
        (try simp only [Act.put, List.setIfInBounds_toArray, List.set_cons_zero, List.set_cons_succ])
        refine wpAnyH_take (i := 11) (v := undef) (op_at rfl) (by kernel_rfl) (by kernel_rfl) (by kernel_rfl) (fun _ _ _ h => h) (Or.inr ⟨rfl, rfl⟩) (by assumption) ?_
        (try simp only [Act.put, List.setIfInBounds_toArray, List.set_cons_zero, List.set_cons_succ])
        refine wpAnyH_take (i := 12) (v := undef) (op_at rfl) (by kernel_rfl) (by kernel_rfl) (by kernel_rfl) (fun _ _ _ h => h) (Or.inr ⟨rfl, rfl⟩) (by assumption) ?_
        (try simp only [Act.put, List.setIfInBounds_toArray, List.set_cons_zero, List.set_cons_succ])
        refine wpAnyH_take (i := 13) (v := undef) (op_at rfl) (by kernel_rfl) (by kernel_rfl) (by kernel_rfl) (fun _ _ _ h => h) (Or.inr ⟨rfl, rfl⟩) (by assumption) ?_
        (try simp only [Act.put, List.setIfInBounds_toArray, List.set_cons_zero, List.set_cons_succ])
        refine wpAnyH_take (i := 14) (v := undef) (op_at rfl) (by kernel_rfl) (by kernel_rfl) (by kernel_rfl) (fun _ _ _ h => h) (Or.inr ⟨rfl, rfl⟩) (by assumption) ?_
        (try simp only [Act.put, List.setIfInBounds_toArray, List.set_cons_zero, List.set_cons_succ])
        refine wpAnyH_take (i := 15) (v := undef) (op_at rfl) (by kernel_rfl) (by kernel_rfl) (by kernel_rfl) (fun _ _ _ h => h) (Or.inr ⟨rfl, rfl⟩) (by assumption) ?_
        (try simp only [Act.put, List.setIfInBounds_toArray, List.set_cons_zero, List.set_cons_succ])
        refine wpAnyH_take (i := 16) (v := undef) (op_at rfl) (by kernel_rfl) (by kernel_rfl) (by kernel_rfl) (fun _ _ _ h => h) (Or.inr ⟨rfl, rfl⟩) (by assumption) ?_
        (try simp only [Act.put, List.setIfInBounds_toArray, List.set_cons_zero, List.set_cons_succ])
        refine wpAnyH_take (i := 17) (v := undef) (op_at rfl) (by kernel_rfl) (by kernel_rfl) (by kernel_rfl) (fun _ _ _ h => h) (Or.inr ⟨rfl, rfl⟩) (by assumption) ?_
        (try simp only [Act.put, List.setIfInBounds_toArray, List.set_cons_zero, List.set_cons_succ])
        refine wpAnyH_take (i := 18) (v := undef) (op_at rfl) (by kernel_rfl) (by kernel_rfl) (by kernel_rfl) (fun _ _ _ h => h) (Or.inr ⟨rfl, rfl⟩) (by assumption) ?_
        (try simp only [Act.put, List.setIfInBounds_toArray, List.set_cons_zero, List.set_cons_succ])
        refine wpAnyH_take (i := 19) (v := (.bool true)) (op_at rfl) (by kernel_rfl) (by kernel_rfl) (by kernel_rfl) (fun _ _ _ h => h) (Or.inl ⟨rfl, fun w hSw => ?_⟩) (by assumption) ?_
        · (try dsimp only at hSw); go_simp; try with_reducible rfl
        (try simp only [Act.put, List.setIfInBounds_toArray, List.set_cons_zero, List.set_cons_succ])
        refine wpAnyH_done (by kernel_rfl) ?_ _
        clear kl hlook hlookd kt kb htT hb1 k1 k2 hwr hzz hz1' hge hHeld
        have hszd := hgd.size
        go_wp2_with (first
          | (at_builtin; refine wpList_append_own _ rfl _ _ 22 rfl WT.heap.size 9 i0 (.string ⟨#[]⟩) 1 16 Tryz.underlying22 hi hz0 hz1 hz2 rfl (by decide) _ _ _ rfl (hownd.alloc _) ⟨V.heap.size, 0, none⟩ 1 1 [.string x] rfl rfl (cell_one_new _ _ _) (by intro u hu; simp at hu; subst hu; rfl) (by unfold maxLen; omega) (by omega) (by simp; omega) ?_; intro v1 w1 hown1 hgrow1 hnil1))
        go_roundw
        case rel => exact ⟨i + 1, by omega, by go_num, by rw [HST.out, strC_add]; simpa using hown1, Below.grown (hgd.alloc _) hgrow1 (by simp; omega) (fun j hj => (hownd.lt j hj).1)⟩
        case measure => simp [intOf]; omega
      case false =>
        rw [hzz] at hst hz1'
        simp only [Bool.false_or] at hst
        cases hz2' : decide (z < d - sp)
        case false =>
          rw [hz2'] at hst
          simp only [Bool.false_eq_true, if_false, List.append_nil] at hst
          have HST := Lib.hid hst
          clear hst
          refine wp_region_held_drew (S := (fun w' => w'.cell? ⟨Tb, 0, none⟩ = some (.map (some G)) ∧ w'.cell? ⟨Bx, 1, none⟩ = some (.int .i64 sp) ∧ w'.cell? ⟨b, off + j, none⟩ = some (.string x) ∧ (Instr.lookup 110 (.map (some G)) (.string x) false).run Tryz.prog w' = .ok (.int .i64 z) w')) (by kernel_rfl) ⟨kt, kb, kx, kl⟩ (fun hHeld => ?_)
          generalize wr.drew = V at *
          refine wpAnyH_take (i := 0) (v := (.map (some G))) (op_at rfl) (by kernel_rfl) (by kernel_rfl) (by kernel_rfl) (fun _ _ _ h => h) (Or.inl ⟨rfl, fun w hSw => ?_⟩) (by assumption) ?_
          · (try dsimp only at hSw); go_simp; try with_reducible rfl
          (try simp only [Act.put, List.setIfInBounds_toArray, List.set_cons_zero, List.set_cons_succ])
          refine wpAnyH_take (i := 1) (v := (.slice (some ⟨b, off, none⟩) n cap)) (op_at rfl) (by kernel_rfl) (by kernel_rfl) (by kernel_rfl) (fun _ _ _ h => h) (Or.inl ⟨rfl, fun w hSw => ?_⟩) (by assumption) ?_
          · (try dsimp only at hSw); go_simp; try with_reducible rfl
          (try simp only [Act.put, List.setIfInBounds_toArray, List.set_cons_zero, List.set_cons_succ])
          refine wpAnyH_take (i := 2) (v := (.int .i64 j)) (op_at rfl) (by kernel_rfl) (by kernel_rfl) (by kernel_rfl) (fun _ _ _ h => h) (Or.inl ⟨rfl, fun w hSw => ?_⟩) (by assumption) ?_
          · (try dsimp only at hSw); go_simp; try with_reducible rfl
          (try simp only [Act.put, List.setIfInBounds_toArray, List.set_cons_zero, List.set_cons_succ])
          refine wpAnyH_take (i := 3) (v := (.pointer (some ⟨b, off + j, none⟩))) (op_at rfl) (by kernel_rfl) (by kernel_rfl) (by kernel_rfl) (fun _ _ _ h => h) (Or.inl ⟨rfl, fun w hSw => ?_⟩) (by assumption) ?_
          · (try dsimp only at hSw); go_simp; try with_reducible rfl
          (try simp only [Act.put, List.setIfInBounds_toArray, List.set_cons_zero, List.set_cons_succ])
          refine wpAnyH_take (i := 4) (v := (.string x)) (op_at rfl) (by kernel_rfl) (by kernel_rfl) (by kernel_rfl) (fun _ _ _ h => h) (Or.inl ⟨rfl, fun w hSw => ?_⟩) (by assumption) ?_
          · (try dsimp only at hSw); go_simp; try with_reducible rfl
          (try simp only [Act.put, List.setIfInBounds_toArray, List.set_cons_zero, List.set_cons_succ])
          refine wpAnyH_take (i := 5) (v := (.int .i64 z)) (op_at rfl) (by kernel_rfl) (by kernel_rfl) (by kernel_rfl) (fun _ _ _ h => h) (Or.inl ⟨rfl, fun w hSw => ?_⟩) (by assumption) ?_
          · (try dsimp only at hSw); go_simp; try with_reducible rfl
          (try simp only [Act.put, List.setIfInBounds_toArray, List.set_cons_zero, List.set_cons_succ])
          refine wpAnyH_take (i := 6) (v := (.bool false)) (op_at rfl) (by kernel_rfl) (by kernel_rfl) (by kernel_rfl) (fun _ _ _ h => h) (Or.inl ⟨rfl, fun w hSw => ?_⟩) (by assumption) ?_
          · (try dsimp only at hSw); go_simp; try with_reducible rfl
          (try simp only [Act.put, List.setIfInBounds_toArray, List.set_cons_zero, List.set_cons_succ])
          refine wpAnyH_take (i := 7) (v := (.bool false)) (op_at rfl) (by kernel_rfl) (by kernel_rfl) (by kernel_rfl) (fun _ _ _ h => h) (Or.inl ⟨rfl, fun w hSw => ?_⟩) (by assumption) ?_
          · (try dsimp only at hSw); go_simp; try with_reducible rfl
          (try simp only [Act.put, List.setIfInBounds_toArray, List.set_cons_zero, List.set_cons_succ])
          refine wpAnyH_take (i := 8) (v := (.map (some G))) (op_at rfl) (by kernel_rfl) (by kernel_rfl) (by kernel_rfl) (fun _ _ _ h => h) (Or.inl ⟨rfl, fun w hSw => ?_⟩) (by assumption) ?_
          · (try dsimp only at hSw); go_simp; try with_reducible rfl
          (try simp only [Act.put, List.setIfInBounds_toArray, List.set_cons_zero, List.set_cons_succ])
          refine wpAnyH_take (i := 9) (v := (.slice (some ⟨b, off, none⟩) n cap)) (op_at rfl) (by kernel_rfl) (by kernel_rfl) (by kernel_rfl) (fun _ _ _ h => h) (Or.inl ⟨rfl, fun w hSw => ?_⟩) (by assumption) ?_
          · (try dsimp only at hSw); go_simp; try with_reducible rfl
          (try simp only [Act.put, List.setIfInBounds_toArray, List.set_cons_zero, List.set_cons_succ])
          refine wpAnyH_take (i := 10) (v := (.int .i64 j)) (op_at rfl) (by kernel_rfl) (by kernel_rfl) (by kernel_rfl) (fun _ _ _ h => h) (Or.inl ⟨rfl, fun w hSw => ?_⟩) (by assumption) ?_
          · (try dsimp only at hSw); go_simp; try with_reducible rfl
          (try simp only [Act.put, List.setIfInBounds_toArray, List.set_cons_zero, List.set_cons_succ])
          refine wpAnyH_take (i := 11) (v := (.pointer (some ⟨b, off + j, none⟩))) (op_at rfl) (by kernel_rfl) (by kernel_rfl) (by kernel_rfl) (fun _ _ _ h => h) (Or.inl ⟨rfl, fun w hSw => ?_⟩) (by assumption) ?_
          · (try dsimp only at hSw); go_simp; try with_reducible rfl
          (try simp only [Act.put, List.setIfInBounds_toArray, List.set_cons_zero, List.set_cons_succ])
          refine wpAnyH_take (i := 12) (v := (.string x)) (op_at rfl) (by kernel_rfl) (by kernel_rfl) (by kernel_rfl) (fun _ _ _ h => h) (Or.inl ⟨rfl, fun w hSw => ?_⟩) (by assumption) ?_
          · (try dsimp only at hSw); go_simp; try with_reducible rfl
          (try simp only [Act.put, List.setIfInBounds_toArray, List.set_cons_zero, List.set_cons_succ])
          refine wpAnyH_take (i := 13) (v := (.int .i64 z)) (op_at rfl) (by kernel_rfl) (by kernel_rfl) (by kernel_rfl) (fun _ _ _ h => h) (Or.inl ⟨rfl, fun w hSw => ?_⟩) (by assumption) ?_
          · (try dsimp only at hSw); go_simp; try with_reducible rfl
          (try simp only [Act.put, List.setIfInBounds_toArray, List.set_cons_zero, List.set_cons_succ])
          refine wpAnyH_take (i := 14) (v := (.int .i64 d)) (op_at rfl) (by kernel_rfl) (by kernel_rfl) (by kernel_rfl) (fun _ _ _ h => h) (Or.inl ⟨rfl, fun w hSw => ?_⟩) (by assumption) ?_
          · (try dsimp only at hSw); go_simp; try with_reducible rfl
          (try simp only [Act.put, List.setIfInBounds_toArray, List.set_cons_zero, List.set_cons_succ])
          refine wpAnyH_take (i := 15) (v := (.pointer (some ⟨Bx, 1, none⟩))) (op_at rfl) (by kernel_rfl) (by kernel_rfl) (by kernel_rfl) (fun _ _ _ h => h) (Or.inl ⟨rfl, fun w hSw => ?_⟩) (by assumption) ?_
          · (try dsimp only at hSw); go_simp; try with_reducible rfl
          (try simp only [Act.put, List.setIfInBounds_toArray, List.set_cons_zero, List.set_cons_succ])
          refine wpAnyH_take (i := 16) (v := (.int .i64 sp)) (op_at rfl) (by kernel_rfl) (by kernel_rfl) (by kernel_rfl) (fun _ _ _ h => h) (Or.inl ⟨rfl, fun w hSw => ?_⟩) (by assumption) ?_
          · (try dsimp only at hSw); go_simp; try with_reducible rfl
          (try simp only [Act.put, List.setIfInBounds_toArray, List.set_cons_zero, List.set_cons_succ])
          refine wpAnyH_take (i := 17) (v := (.int .i64 (d - sp))) (op_at rfl) (by kernel_rfl) (by kernel_rfl) (by kernel_rfl) (fun _ _ _ h => h) (Or.inl ⟨rfl, fun w hSw => ?_⟩) (by assumption) ?_
          · (try dsimp only at hSw); go_simp; try with_reducible rfl
          (try simp only [Act.put, List.setIfInBounds_toArray, List.set_cons_zero, List.set_cons_succ])
          refine wpAnyH_take (i := 18) (v := (.bool (false))) (op_at rfl) (by kernel_rfl) (by kernel_rfl) (by kernel_rfl) (fun _ _ _ h => h) (Or.inl ⟨rfl, fun w hSw => ?_⟩) (by assumption) ?_
          · (try dsimp only at hSw); go_simp; try with_reducible rfl
          (try simp only [Act.put, List.setIfInBounds_toArray, List.set_cons_zero, List.set_cons_succ])
          refine wpAnyH_take (i := 19) (v := (.bool (false))) (op_at rfl) (by kernel_rfl) (by kernel_rfl) (by kernel_rfl) (fun _ _ _ h => h) (Or.inl ⟨rfl, fun w hSw => ?_⟩) (by assumption) ?_
          · (try dsimp only at hSw); go_simp; try with_reducible rfl
          (try simp only [Act.put, List.setIfInBounds_toArray, List.set_cons_zero, List.set_cons_succ])
          refine wpAnyH_done (by kernel_rfl) ?_ _
          go_wp2_with fail
          go_roundw
          case rel => exact ⟨i + 1, by omega, by go_num, by rw [HST.out]; exact hownd, hgd⟩
          case measure => simp [intOf]; omega
        case true =>
          rw [hz2'] at hst
          simp only [if_true] at hst
          have HST := Lib.hid hst
          clear hst
          refine wp_region_held_drew (S := (fun w' => w'.cell? ⟨Tb, 0, none⟩ = some (.map (some G)) ∧ w'.cell? ⟨Bx, 1, none⟩ = some (.int .i64 sp) ∧ w'.cell? ⟨b, off + j, none⟩ = some (.string x) ∧ (Instr.lookup 110 (.map (some G)) (.string x) false).run Tryz.prog w' = .ok (.int .i64 z) w')) (by kernel_rfl) ⟨kt, kb, kx, kl⟩ (fun hHeld => ?_)
          generalize wr.drew = V at *
          refine wpAnyH_take (i := 0) (v := (.map (some G))) (op_at rfl) (by kernel_rfl) (by kernel_rfl) (by kernel_rfl) (fun _ _ _ h => h) (Or.inl ⟨rfl, fun w hSw => ?_⟩) (by assumption) ?_
          · (try dsimp only at hSw); go_simp; try with_reducible rfl
          (try simp only [Act.put, List.setIfInBounds_toArray, List.set_cons_zero, List.set_cons_succ])
          refine wpAnyH_take (i := 1) (v := (.slice (some ⟨b, off, none⟩) n cap)) (op_at rfl) (by kernel_rfl) (by kernel_rfl) (by kernel_rfl) (fun _ _ _ h => h) (Or.inl ⟨rfl, fun w hSw => ?_⟩) (by assumption) ?_
          · (try dsimp only at hSw); go_simp; try with_reducible rfl
          (try simp only [Act.put, List.setIfInBounds_toArray, List.set_cons_zero, List.set_cons_succ])
          refine wpAnyH_take (i := 2) (v := (.int .i64 j)) (op_at rfl) (by kernel_rfl) (by kernel_rfl) (by kernel_rfl) (fun _ _ _ h => h) (Or.inl ⟨rfl, fun w hSw => ?_⟩) (by assumption) ?_
          · (try dsimp only at hSw); go_simp; try with_reducible rfl
          (try simp only [Act.put, List.setIfInBounds_toArray, List.set_cons_zero, List.set_cons_succ])
          refine wpAnyH_take (i := 3) (v := (.pointer (some ⟨b, off + j, none⟩))) (op_at rfl) (by kernel_rfl) (by kernel_rfl) (by kernel_rfl) (fun _ _ _ h => h) (Or.inl ⟨rfl, fun w hSw => ?_⟩) (by assumption) ?_
          · (try dsimp only at hSw); go_simp; try with_reducible rfl
          (try simp only [Act.put, List.setIfInBounds_toArray, List.set_cons_zero, List.set_cons_succ])
          refine wpAnyH_take (i := 4) (v := (.string x)) (op_at rfl) (by kernel_rfl) (by kernel_rfl) (by kernel_rfl) (fun _ _ _ h => h) (Or.inl ⟨rfl, fun w hSw => ?_⟩) (by assumption) ?_
          · (try dsimp only at hSw); go_simp; try with_reducible rfl
          (try simp only [Act.put, List.setIfInBounds_toArray, List.set_cons_zero, List.set_cons_succ])
          refine wpAnyH_take (i := 5) (v := (.int .i64 z)) (op_at rfl) (by kernel_rfl) (by kernel_rfl) (by kernel_rfl) (fun _ _ _ h => h) (Or.inl ⟨rfl, fun w hSw => ?_⟩) (by assumption) ?_
          · (try dsimp only at hSw); go_simp; try with_reducible rfl
          (try simp only [Act.put, List.setIfInBounds_toArray, List.set_cons_zero, List.set_cons_succ])
          refine wpAnyH_take (i := 6) (v := (.bool false)) (op_at rfl) (by kernel_rfl) (by kernel_rfl) (by kernel_rfl) (fun _ _ _ h => h) (Or.inl ⟨rfl, fun w hSw => ?_⟩) (by assumption) ?_
          · (try dsimp only at hSw); go_simp; try with_reducible rfl
          (try simp only [Act.put, List.setIfInBounds_toArray, List.set_cons_zero, List.set_cons_succ])
          refine wpAnyH_take (i := 7) (v := (.bool false)) (op_at rfl) (by kernel_rfl) (by kernel_rfl) (by kernel_rfl) (fun _ _ _ h => h) (Or.inl ⟨rfl, fun w hSw => ?_⟩) (by assumption) ?_
          · (try dsimp only at hSw); go_simp; try with_reducible rfl
          (try simp only [Act.put, List.setIfInBounds_toArray, List.set_cons_zero, List.set_cons_succ])
          refine wpAnyH_take (i := 8) (v := (.map (some G))) (op_at rfl) (by kernel_rfl) (by kernel_rfl) (by kernel_rfl) (fun _ _ _ h => h) (Or.inl ⟨rfl, fun w hSw => ?_⟩) (by assumption) ?_
          · (try dsimp only at hSw); go_simp; try with_reducible rfl
          (try simp only [Act.put, List.setIfInBounds_toArray, List.set_cons_zero, List.set_cons_succ])
          refine wpAnyH_take (i := 9) (v := (.slice (some ⟨b, off, none⟩) n cap)) (op_at rfl) (by kernel_rfl) (by kernel_rfl) (by kernel_rfl) (fun _ _ _ h => h) (Or.inl ⟨rfl, fun w hSw => ?_⟩) (by assumption) ?_
          · (try dsimp only at hSw); go_simp; try with_reducible rfl
          (try simp only [Act.put, List.setIfInBounds_toArray, List.set_cons_zero, List.set_cons_succ])
          refine wpAnyH_take (i := 10) (v := (.int .i64 j)) (op_at rfl) (by kernel_rfl) (by kernel_rfl) (by kernel_rfl) (fun _ _ _ h => h) (Or.inl ⟨rfl, fun w hSw => ?_⟩) (by assumption) ?_
          · (try dsimp only at hSw); go_simp; try with_reducible rfl
          (try simp only [Act.put, List.setIfInBounds_toArray, List.set_cons_zero, List.set_cons_succ])
          refine wpAnyH_take (i := 11) (v := (.pointer (some ⟨b, off + j, none⟩))) (op_at rfl) (by kernel_rfl) (by kernel_rfl) (by kernel_rfl) (fun _ _ _ h => h) (Or.inl ⟨rfl, fun w hSw => ?_⟩) (by assumption) ?_
          · (try dsimp only at hSw); go_simp; try with_reducible rfl
          (try simp only [Act.put, List.setIfInBounds_toArray, List.set_cons_zero, List.set_cons_succ])
          refine wpAnyH_take (i := 12) (v := (.string x)) (op_at rfl) (by kernel_rfl) (by kernel_rfl) (by kernel_rfl) (fun _ _ _ h => h) (Or.inl ⟨rfl, fun w hSw => ?_⟩) (by assumption) ?_
          · (try dsimp only at hSw); go_simp; try with_reducible rfl
          (try simp only [Act.put, List.setIfInBounds_toArray, List.set_cons_zero, List.set_cons_succ])
          refine wpAnyH_take (i := 13) (v := (.int .i64 z)) (op_at rfl) (by kernel_rfl) (by kernel_rfl) (by kernel_rfl) (fun _ _ _ h => h) (Or.inl ⟨rfl, fun w hSw => ?_⟩) (by assumption) ?_
          · (try dsimp only at hSw); go_simp; try with_reducible rfl
          (try simp only [Act.put, List.setIfInBounds_toArray, List.set_cons_zero, List.set_cons_succ])
          refine wpAnyH_take (i := 14) (v := (.int .i64 d)) (op_at rfl) (by kernel_rfl) (by kernel_rfl) (by kernel_rfl) (fun _ _ _ h => h) (Or.inl ⟨rfl, fun w hSw => ?_⟩) (by assumption) ?_
          · (try dsimp only at hSw); go_simp; try with_reducible rfl
          (try simp only [Act.put, List.setIfInBounds_toArray, List.set_cons_zero, List.set_cons_succ])
          refine wpAnyH_take (i := 15) (v := (.pointer (some ⟨Bx, 1, none⟩))) (op_at rfl) (by kernel_rfl) (by kernel_rfl) (by kernel_rfl) (fun _ _ _ h => h) (Or.inl ⟨rfl, fun w hSw => ?_⟩) (by assumption) ?_
          · (try dsimp only at hSw); go_simp; try with_reducible rfl
          (try simp only [Act.put, List.setIfInBounds_toArray, List.set_cons_zero, List.set_cons_succ])
          refine wpAnyH_take (i := 16) (v := (.int .i64 sp)) (op_at rfl) (by kernel_rfl) (by kernel_rfl) (by kernel_rfl) (fun _ _ _ h => h) (Or.inl ⟨rfl, fun w hSw => ?_⟩) (by assumption) ?_
          · (try dsimp only at hSw); go_simp; try with_reducible rfl
          (try simp only [Act.put, List.setIfInBounds_toArray, List.set_cons_zero, List.set_cons_succ])
          refine wpAnyH_take (i := 17) (v := (.int .i64 (d - sp))) (op_at rfl) (by kernel_rfl) (by kernel_rfl) (by kernel_rfl) (fun _ _ _ h => h) (Or.inl ⟨rfl, fun w hSw => ?_⟩) (by assumption) ?_
          · (try dsimp only at hSw); go_simp; try with_reducible rfl
          (try simp only [Act.put, List.setIfInBounds_toArray, List.set_cons_zero, List.set_cons_succ])
          refine wpAnyH_take (i := 18) (v := (.bool true)) (op_at rfl) (by kernel_rfl) (by kernel_rfl) (by kernel_rfl) (fun _ _ _ h => h) (Or.inl ⟨rfl, fun w hSw => ?_⟩) (by assumption) ?_
          · (try dsimp only at hSw); go_simp; try with_reducible rfl
          (try simp only [Act.put, List.setIfInBounds_toArray, List.set_cons_zero, List.set_cons_succ])
          refine wpAnyH_take (i := 19) (v := (.bool true)) (op_at rfl) (by kernel_rfl) (by kernel_rfl) (by kernel_rfl) (fun _ _ _ h => h) (Or.inl ⟨rfl, fun w hSw => ?_⟩) (by assumption) ?_
          · (try dsimp only at hSw); go_simp; try with_reducible rfl
          (try simp only [Act.put, List.setIfInBounds_toArray, List.set_cons_zero, List.set_cons_succ])
          refine wpAnyH_done (by kernel_rfl) ?_ _
          clear kl hlook hlookd kt kb htT hb1 k1 k2 hwr hzz hz1' hge hHeld
          have hszd := hgd.size
          go_wp2_with (first
            | (at_builtin; refine wpList_append_own _ rfl _ _ 22 rfl WT.heap.size 9 i0 (.string ⟨#[]⟩) 1 16 Tryz.underlying22 hi hz0 hz1 hz2 rfl (by decide) _ _ _ rfl (hownd.alloc _) ⟨V.heap.size, 0, none⟩ 1 1 [.string x] rfl rfl (cell_one_new _ _ _) (by intro u hu; simp at hu; subst hu; rfl) (by unfold maxLen; omega) (by omega) (by simp; omega) ?_; intro v1 w1 hown1 hgrow1 hnil1))
          go_roundw
          case rel => exact ⟨i + 1, by omega, by go_num, by rw [HST.out, strC_add]; simpa using hown1, Below.grown (hgd.alloc _) hgrow1 (by simp; omega) (fun j hj => (hownd.lt j hj).1)⟩
          case measure => simp [intOf]; omega
    · obtain rfl : i = n := by omega
      rw [List.take_of_length_le (by have := HDL.out; omega)] at hown
      have hul := HUL.out i
      rw [List.take_of_length_le (by have := HDL.out; omega)] at hul
      generalize poolU xs sp d (drawnS key cs) = U at *
      have hsl := HLF.out (lastM cs xs d) U
      have hb0 := hg.cell b0
      have htT := hg.cell tT
      rcases ownsS_cases rfl hown with ⟨rfl, hU⟩ | ⟨gs, cp, rfl, hgb, hglt, hH, hle, hmx⟩
      · subst hU
        have hLn : srtM (lastM cs xs d) [] = [] := List.eq_nil_of_length_eq_zero hsl
        rw [hLn] at HLE
        have HZ := Lib.hid (fun f W => sortSS_0 none 0 f W)
        clear hown hsl hLn
        go_wp2_with fail
        refine (HZ.out _ _).mono ?_
        rintro e w4 ⟨rfl, rfl⟩
        go_wp2_with fail
        exact bodyPost_ret (v := .tuple #[.slice none (min c 0).toNat 0, .int .i64 0]) (by simp [results, Tryz.results13, go_sem]) rfl ⟨.slice none (min c 0).toNat 0, rfl, by
          rw [HLE.out]
          refine ⟨none, 0, ?_, ⟨by simp, by unfold maxLen; omega⟩, fun h => absurd h (by simp)⟩
          simp; omega, hgw, fun p n c h => by cases h⟩
      · have HSO := Lib.hid (HSP.out U gs cp Tb G wr (by omega) hglt hH htT (hmap.gr hg) (by omega) (by omega))
        generalize srtM (lastM cs xs d) U = SU at *
        clear hown hH
        go_wp2_with fail
        refine HSO.out.mono ?_
        rintro e w4 ⟨rfl, hgrow, hSU⟩
        have hBl := cell_lt b0
        have hb0' := cell_keep hb0 hgrow (by show Bx ≠ gs; have : Bx < WT.heap.size := hBl; omega)
        have hg4 := Below.grown hg hgrow hsz (fun k hk => by cases hk; exact hgb)
        go_wp2_with fail
        exact bodyPost_ret (v := .tuple #[.slice (some ⟨gs, 0, none⟩) (min c (U.length : Int)).toNat cp, .int .i64 0]) (by simp [results, Tryz.results13, go_sem]) rfl ⟨.slice (some ⟨gs, 0, none⟩) (min c (U.length : Int)).toNat cp, rfl, by
          rw [HLE.out]
          have hq : ((SU.take (min c (U.length : Int)).toNat)).length = (min c (U.length : Int)).toNat := by rw [List.length_take]; omega
          refine ⟨some ⟨gs, 0, none⟩, cp, by rw [hq], ⟨by rw [hq]; omega, hmx⟩, fun _ => ⟨gs, 0, rfl, fun k x hk => ?_⟩⟩
          rw [List.getElem?_take] at hk
          split at hk
          · rw [Nat.zero_add]; exact hSU k x hk
          · exact absurd hk (by simp), g.trans hg4, fun p n c h => by
            simp only [Value.slice.injEq, Option.some.injEq] at h
            have := g.size
            rw [← h.1]
            show w.heap.size ≤ gs
            omega⟩
theorem pool_good (I : InsSOK) {vc v : Value} {cs : List ByteArray} {xs : List TstR} {w : World} (c sp : Int) (key : Nat) (d : Int) (hcs : StrAts w vc cs) (h : TstAts w v xs) (h0 : poolE cs xs c sp key d = 0) (h20 : cs.length ≤ 160) :
    Calls Tryz.prog 13 #[vc, v, .agg #[.int .i64 c, .int .i64 sp, .int .i64 (key : Int)], .int .i64 d] w fun e w' => ∃ u, e = .returned (.tuple #[u, .int .i64 0]) ∧ StrAts w' u (poolL cs xs c sp key d) ∧ Gr w w' :=
  (pool_goodF I c sp key d hcs h h0 h20).mono fun e w' ⟨u, h1, h2, h3, _⟩ => ⟨u, h1, h2, h3⟩
end Go.Proofs.YtenkbeeiblhnjaaGreat
