/- MemberPools: the law, walked. -/
import Derived.Test.YtenkbeeiblhnjaaGreatPoR
import Derived.Test.YtenkbeeiblhnjaaGreatGNmsC
import Derived.Test.YtenkbeeiblhnjaaGreatGTsB
import Derived.Test.YtenkbeeiblhnjaaGreatGMbT
import Derived.Test.YtenkbeeiblhnjaaGreatGMbA
namespace Go.Proofs.YtenkbeeiblhnjaaGreat
open Go.RowKit Go.Lib
set_option linter.unusedSimpArgs false
set_option linter.unusedVariables false
theorem firstE_flat (a b p q : Int) : firstE [firstE [a, b], p, q] = firstE [a, b, p, q] := by
  by_cases h : a = 0 <;> by_cases h2 : b = 0 <;> simp [firstE, h, h2]
theorem wdsV_of {w : World} {v : Value} {l : List ByteArray} (h : StrAts w v l) : WdsV w v l := by
  obtain ⟨⟨p, cap, e, hc, hh⟩⟩ := h
  exact ⟨p, cap, e, hc, fun h0 => by
    obtain ⟨b, off, e1, h1⟩ := hh h0
    exact ⟨b, off, e1, fun i s hs => (h1 i s hs).nm⟩⟩
/-- what a call returns that may be wrong -/
structure PrR (E : Int) (l : List ByteArray) (w : World) (u : Value) : Prop where
  good : E = 0 → StrAts w u l
  bad : E ≠ 0 → u = .slice none 0 0
theorem PrR.gr {E : Int} {l : List ByteArray} {w w' : World} {u : Value} (h : PrR E l w u) (k : Gr w w') : PrR E l w' u := ⟨fun e => (h.good e).gr k, h.bad⟩
theorem pools_one (I : InsSOK) (cs : List ByteArray) (xs : List TstR) (c sp key d : Int) : ∃ A : List ByteArray, A.length ≤ 1000 ∧ (∀ W vc v, StrAts W vc cs → TstAts W v xs → Calls Tryz.prog 13 #[vc, v, .agg #[.int .i64 c, .int .i64 sp, .int .i64 key], .int .i64 d] W fun e w' => ∃ u, e = .returned (.tuple #[u, .int .i64 (poolE cs xs c sp key d)]) ∧ PrR (poolE cs xs c sp key d) A w' u ∧ Gr W w') ∧ (poolE cs xs c sp key d = 0 → ∀ W vc v, StrAts W vc cs → TstAts W v xs → Calls Tryz.prog 18 #[vc, v, .agg #[.int .i64 c, .int .i64 sp, .int .i64 key], .int .i64 d] W fun e w' => ∃ u, e = .returned u ∧ StrAts w' u A ∧ Gr W w') := by
  by_cases h0 : poolE cs xs c sp key d = 0
  · obtain ⟨z1, z2, z3, -, -⟩ := poolE_zero h0
    obtain ⟨⟨c1, c2⟩, -, k1, -⟩ := pickE_zero z3
    obtain ⟨kn, rfl⟩ : ∃ k : Nat, key = k := ⟨key.toNat, by omega⟩
    refine ⟨poolL cs xs c sp kn d, ?_, ?_, ?_⟩
    · unfold poolL
      rw [List.length_take]
      omega
    · intro W vc v h1 h2
      refine (pool_good I c sp kn d h1 h2 h0 (str_len z1)).mono ?_
      rintro e w' ⟨u, rfl, hu, hg⟩
      exact ⟨u, by rw [h0], ⟨fun _ => hu, fun e => absurd h0 e⟩, hg⟩
    · intro _ W vc v h1 h2
      exact refPool_c c sp kn d h1 h2 h0
  · refine ⟨[], by simp, ?_, fun e => absurd e h0⟩
    intro W vc v h1 h2
    refine (pool_bad c sp key d h1 h2 h0).mono ?_
    rintro e w' ⟨rfl, hg⟩
    exact ⟨_, rfl, ⟨fun e => absurd e h0, fun _ => rfl⟩, hg⟩
theorem lates_one (cs : List ByteArray) (xs : List TstR) (ds d : Int) : ∃ A : List ByteArray, A.length ≤ 1000 ∧ (∀ W vc v, StrAts W vc cs → TstAts W v xs → Calls Tryz.prog 14 #[vc, v, .int .i64 ds, .int .i64 d] W fun e w' => ∃ u, e = .returned (.tuple #[u, .int .i64 (lateE cs xs ds d)]) ∧ PrR (lateE cs xs ds d) A w' u ∧ Gr W w') ∧ (lateE cs xs ds d = 0 → ∀ W vc v, StrAts W vc cs → TstAts W v xs → Calls Tryz.prog 19 #[vc, v, .int .i64 ds, .int .i64 d] W fun e w' => ∃ u, e = .returned u ∧ StrAts w' u A ∧ Gr W w') := by
  by_cases h0 : lateE cs xs ds d = 0
  · obtain ⟨z1, z2, ⟨q1, q2⟩, q3, q4⟩ := lateE_zero h0
    have hcl := str_len z1
    obtain ⟨htl, -⟩ := tst_range z2
    refine ⟨lateL xs ds d cs, ?_, ?_, ?_⟩
    · have := List.length_filter_le (fun s => decide (lastT xs s (d - ds) d < 0)) cs
      show (cs.filter fun s => decide (lastT xs s (d - ds) d < 0)).length ≤ 1000
      omega
    · intro W vc v h1 h2
      refine (late_good ds d h1 h2 h0).mono ?_
      rintro e w' ⟨u, rfl, hu, hg⟩
      exact ⟨u, by rw [h0], ⟨fun _ => hu, fun e => absurd h0 e⟩, hg⟩
    · intro _ W vc v h1 h2
      exact refLate_c ds d h1 h2 (by omega) (by omega) q1 q2 q3 q4
  · refine ⟨[], by simp, ?_, fun e => absurd e h0⟩
    intro W vc v h1 h2
    refine (late_bad ds d h1 h2 h0).mono ?_
    rintro e w' ⟨rfl, hg⟩
    exact ⟨_, rfl, ⟨fun e => absurd e h0, fun _ => rfl⟩, hg⟩
set_option maxHeartbeats 4000000 in
set_option maxRecDepth 100000 in
theorem lawPools_c (I : InsSOK) (cs : List ByteArray) (xs : List TstR) (vc v : Value) (c sp key ds d : Int) (w : World) (hcs : StrAts w vc cs) (h : TstAts w v xs) (hb : xs.length * 24 ≤ 140737488355328) (hA : AwakeOK w) :
    Calls Tryz.prog 3 #[vc, v, .agg #[.int .i64 c, .int .i64 sp, .int .i64 key, .int .i64 ds, .int .i64 d]] w fun e w' => e = .returned (.bool true) ∧ Gr w w' := by
  have HA := Lib.hid hA
  have HCv := Lib.hid (fun W (g : Gr w W) => tsts_c (h.gr g) hb)
  have HSH := Lib.hid (fun W u (h1 : StrAts W vc cs) (h2 : TstAts W u xs) => shortTsts_c h1 h2)
  have HCL := Lib.hid (fun W (h1 : StrAts W vc cs) => refList_c h1)
  have HCM := Lib.hid (fun W (g : Gr w W) => checkTsts_c xs _ W (h.gr g))
  have HCT := Lib.hid (fun W u (h2 : TstAts W u xs) => refTsts_c h2)
  have HCP := Lib.hid (fun W => refPick_c c sp key W)
  obtain ⟨e3, h3', H3⟩ := lawDay_e ds
  obtain ⟨e4, h4', H4⟩ := lawDay_e d
  replace H3 := Lib.hid H3
  replace H4 := Lib.hid H4
  obtain ⟨bd, hbd⟩ : ∃ z, z = firstE [listE 160 (strE cs) cs, listE 256 (tstE xs) xs] := ⟨_, rfl⟩
  have hE1 : firstE [bd, pickE c sp key, e4] = poolE cs xs c sp key d := by rw [hbd, h4', firstE_flat]; rfl
  have hE2 : firstE [bd, e3, e4] = lateE cs xs ds d := by rw [hbd, h3', h4', firstE_flat]; rfl
  have hf0 := lawFirst_two (listE 160 (strE cs) cs) (listE 256 (tstE xs) xs)
  rw [← hbd] at hf0
  have hf1 := lawFirst_three bd (pickE c sp key) e4
  rw [hE1] at hf1
  have hf2 := lawFirst_three bd e3 e4
  rw [hE2] at hf2
  obtain ⟨A, hAl, hPo, hPr⟩ := pools_one I cs xs c sp key d
  obtain ⟨Lt, hLl, hLo, hLr⟩ := lates_one cs xs ds d
  clear hE1 hE2 hbd h3' h4' I
  generalize listE 160 (strE cs) cs = z1 at *
  generalize listE 256 (tstE xs) xs = z2 at *
  generalize pickE c sp key = pk at *
  generalize poolE cs xs c sp key d = E1 at *
  generalize lateE cs xs ds d = E2 at *
  have HF0 := Lib.hid hf0
  have HF1 := Lib.hid hf1
  have HF2 := Lib.hid hf2
  have HPO := Lib.hid (fun W (g : Gr w W) => hPo W vc v (hcs.gr g) (h.gr g))
  have HLO := Lib.hid (fun W (g : Gr w W) => hLo W vc v (hcs.gr g) (h.gr g))
  have HPR := Lib.hid (fun W (g : Gr w W) u (h2 : TstAts W u xs) h0 => hPr h0 W vc u (hcs.gr g) h2)
  have HLR := Lib.hid (fun W (g : Gr w W) u (h2 : TstAts W u xs) h0 => hLr h0 W vc u (hcs.gr g) h2)
  have HCS := Lib.hid hcs
  obtain ⟨p, n, cap, rfl⟩ : ∃ p n cap, vc = .slice p n cap := by
    obtain ⟨⟨p, cap, rfl, _⟩⟩ := hcs
    exact ⟨p, _, cap, rfl⟩
  obtain ⟨pt, m, capt, rfl⟩ : ∃ p n cap, v = .slice p n cap := by
    obtain ⟨⟨p, cap, rfl, _⟩⟩ := h
    exact ⟨p, _, cap, rfl⟩
  obtain ⟨W0, hW0, g, b0, b1, b2, b3, b4⟩ := bx5 w (.int .i64 c) (.int .i64 sp) (.int .i64 key) (.int .i64 ds) (.int .i64 d) 27
  have HW0 := Lib.hid hW0
  clear hA hcs h hb hW0 hf0 hf1 hf2 hPo hLo hPr hLr
  go_enter Tryz.func3, Tryz.ntmps3
  go_wp2_with fail
  rw [HW0.out]
  clear HW0
  generalize w.heap.size = Bx at *
  refine (HCv.out _ g).mono ?_
  rintro e W1 ⟨u, rfl, hu, hg⟩
  replace b0 := hg.cell b0
  replace b1 := hg.cell b1
  replace b2 := hg.cell b2
  replace b3 := hg.cell b3
  replace b4 := hg.cell b4
  replace g := g.trans hg
  clear hg
  obtain ⟨pu, nu, cu, rfl⟩ : ∃ p n c, u = .slice p n c := by
    obtain ⟨⟨p, cap, rfl, _⟩⟩ := hu
    exact ⟨p, _, cap, rfl⟩
  go_wp2_with fail
  refine (HA.out _ g).mono ?_
  rintro e W2 ⟨rfl, hg⟩
  replace b0 := hg.cell b0
  replace b1 := hg.cell b1
  replace b2 := hg.cell b2
  replace b3 := hg.cell b3
  replace b4 := hg.cell b4
  replace hu := hu.gr hg
  replace g := g.trans hg
  clear hg
  go_wp2_with fail
  refine (HSH.out _ _ (HCS.out.gr g) hu).mono ?_
  rintro e W3 ⟨⟨r, rfl, hr⟩, rfl⟩
  clear hr
  cases r
  · go_wp2_with fail
    refine (HA.out _ g).mono ?_
    rintro e Wa ⟨rfl, g4⟩
    go_wp2_with fail
    go_ret
    exact ⟨rfl, g.trans g4⟩
  go_wp2_with fail
  refine (HCM.out _ g).mono ?_
  rintro e W4 ⟨rfl, hg⟩
  replace b0 := hg.cell b0
  replace b1 := hg.cell b1
  replace b2 := hg.cell b2
  replace b3 := hg.cell b3
  replace b4 := hg.cell b4
  replace hu := hu.gr hg
  replace g := g.trans hg
  clear hg
  go_wp2_with fail
  refine (HCT.out _ _ hu).mono ?_
  rintro e W5 ⟨rfl, hg⟩
  replace b0 := hg.cell b0
  replace b1 := hg.cell b1
  replace b2 := hg.cell b2
  replace b3 := hg.cell b3
  replace b4 := hg.cell b4
  replace hu := hu.gr hg
  replace g := g.trans hg
  clear hg
  go_wp2_with fail
  refine (HCL.out _ (HCS.out.gr g)).mono ?_
  rintro e W6 ⟨rfl, hg⟩
  replace b0 := hg.cell b0
  replace b1 := hg.cell b1
  replace b2 := hg.cell b2
  replace b3 := hg.cell b3
  replace b4 := hg.cell b4
  replace hu := hu.gr hg
  replace g := g.trans hg
  clear hg
  go_wp2_with fail
  refine (HCT.out _ _ hu).mono ?_
  rintro e W7 ⟨rfl, hg⟩
  replace b0 := hg.cell b0
  replace b1 := hg.cell b1
  replace b2 := hg.cell b2
  replace b3 := hg.cell b3
  replace b4 := hg.cell b4
  replace hu := hu.gr hg
  replace g := g.trans hg
  clear hg
  go_wp2_with fail
  obtain ⟨W8, hWW, hg, s0, s1⟩ := box2 W7 (.int .i64 z1) (.int .i64 z2) 3
  rw [hWW]
  clear hWW
  replace b0 := hg.cell b0
  replace b1 := hg.cell b1
  replace b2 := hg.cell b2
  replace b3 := hg.cell b3
  replace b4 := hg.cell b4
  replace hu := hu.gr hg
  replace g := g.trans hg
  clear hg
  refine (HF0.out _ _ W8 s0 s1).mono ?_
  rintro e w' ⟨rfl, rfl⟩
  clear s0 s1 HF0 HCL HCT HCM HSH HA HCv
  by_cases hb0 : bd = 0
  · subst hb0
    cases h30 : decide ((30 : Int) < n)
    case true =>
      go_wp2_with fail
      go_ret
      exact ⟨rfl, g⟩
    cases h60 : decide ((60 : Int) < m)
    case true =>
      go_wp2_with fail
      go_ret
      exact ⟨rfl, g⟩
    go_wp2_with fail
    clear h30 h60
    refine (HPO.out _ g).mono ?_
    rintro e W9 ⟨ua, rfl, hua, hg⟩
    replace b0 := hg.cell b0
    replace b1 := hg.cell b1
    replace b2 := hg.cell b2
    replace b3 := hg.cell b3
    replace b4 := hg.cell b4
    replace hu := hu.gr hg
    replace g := g.trans hg
    clear hg
    go_wp2_with fail
    refine (HLO.out _ g).mono ?_
    rintro e WT ⟨ul, rfl, hul, hg⟩
    replace b0 := hg.cell b0
    replace b1 := hg.cell b1
    replace b2 := hg.cell b2
    replace b3 := hg.cell b3
    replace b4 := hg.cell b4
    replace hu := hu.gr hg
    replace hua := hua.gr hg
    replace g := g.trans hg
    clear hg
    go_wp2_with fail
    have gd := (Gr.refl WT).drew
    replace b0 := gd.cell b0
    replace b1 := gd.cell b1
    replace b2 := gd.cell b2
    replace b3 := gd.cell b3
    replace b4 := gd.cell b4
    replace hu := hu.gr gd
    replace hua := hua.gr gd
    replace hul := hul.gr gd
    replace g := g.trans gd
    clear gd
    refine wp_region_held_drew (S := (fun w' => w'.cell? ⟨Bx, 0, none⟩ = some (.int .i64 c) ∧ w'.cell? ⟨Bx, 1, none⟩ = some (.int .i64 sp) ∧ w'.cell? ⟨Bx, 2, none⟩ = some (.int .i64 key) ∧ w'.cell? ⟨Bx, 3, none⟩ = some (.int .i64 ds) ∧ w'.cell? ⟨Bx, 4, none⟩ = some (.int .i64 d))) (by kernel_rfl) ⟨b0, b1, b2, b3, b4⟩ (fun hHeld => ?_)
    generalize WT.drew = V at *
    refine wpAnyH_take (i := 0) (v := (.int .i64 0)) (op_at rfl) (by kernel_rfl) (by kernel_rfl) (by kernel_rfl) (fun _ _ _ h => h) (Or.inl ⟨rfl, fun w hSw => ?_⟩) (by assumption) ?_
    · (try dsimp only at hSw); go_simp; try with_reducible rfl
    (try simp only [Act.put, List.setIfInBounds_toArray, List.set_cons_zero, List.set_cons_succ])
    refine wpAnyH_take (i := 1) (v := (.pointer (some ⟨Bx, 0, none⟩))) (op_at rfl) (by kernel_rfl) (by kernel_rfl) (by kernel_rfl) (fun _ _ _ h => h) (Or.inl ⟨rfl, fun w hSw => ?_⟩) (by assumption) ?_
    · (try dsimp only at hSw); go_simp; try with_reducible rfl
    (try simp only [Act.put, List.setIfInBounds_toArray, List.set_cons_zero, List.set_cons_succ])
    refine wpAnyH_take (i := 2) (v := (.agg #[.int .i64 c, .int .i64 sp, .int .i64 key])) (op_at rfl) (by kernel_rfl) (by kernel_rfl) (by kernel_rfl) (fun _ _ _ h => h) (Or.inl ⟨rfl, fun w hSw => ?_⟩) (by assumption) ?_
    · (try dsimp only at hSw); go_simp; try with_reducible rfl
    (try simp only [Act.put, List.setIfInBounds_toArray, List.set_cons_zero, List.set_cons_succ])
    refine wpAnyH_take (i := 4) (v := (.pointer (some ⟨Bx, 4, none⟩))) (op_at rfl) (by kernel_rfl) (by kernel_rfl) (by kernel_rfl) (fun _ _ _ h => h) (Or.inl ⟨rfl, fun w hSw => ?_⟩) (by assumption) ?_
    · (try dsimp only at hSw); go_simp; try with_reducible rfl
    (try simp only [Act.put, List.setIfInBounds_toArray, List.set_cons_zero, List.set_cons_succ])
    refine wpAnyH_take (i := 5) (v := (.int .i64 d)) (op_at rfl) (by kernel_rfl) (by kernel_rfl) (by kernel_rfl) (fun _ _ _ h => h) (Or.inl ⟨rfl, fun w hSw => ?_⟩) (by assumption) ?_
    · (try dsimp only at hSw); go_simp; try with_reducible rfl
    (try simp only [Act.put, List.setIfInBounds_toArray, List.set_cons_zero, List.set_cons_succ])
    refine wpAnyH_ready (rs := [3]) (by kernel_rfl) (by simp) (AllReadyH.cons (op_at rfl) (fun K hK => ?_) AllReadyH.nil)
    go_simp
    (refine (HCP.out _).mono ?_; rintro e V1 ⟨rfl, hg⟩; replace b0 := hg.cell b0; replace b1 := hg.cell b1; replace b2 := hg.cell b2; replace b3 := hg.cell b3; replace b4 := hg.cell b4; replace hu := hu.gr hg; replace hua := hua.gr hg; replace hul := hul.gr hg; replace g := g.trans hg; clear hg)
    go_wp2_with fail
    refine hK.out _ _ ⟨b0, b1, b2, b3, b4⟩ (fun hHeld => ?_)
    clear hK K
    (try simp only [Act.put, List.setIfInBounds_toArray, List.set_cons_zero, List.set_cons_succ])
    refine wpAnyH_ready (rs := [6]) (by kernel_rfl) (by simp) (AllReadyH.cons (op_at rfl) (fun K hK => ?_) AllReadyH.nil)
    go_simp
    (refine (H4.out _).mono ?_; rintro e w' ⟨rfl, rfl⟩)
    go_wp2_with fail
    refine hK.out _ _ ⟨b0, b1, b2, b3, b4⟩ (fun hHeld => ?_)
    clear hK K
    (try simp only [Act.put, List.setIfInBounds_toArray, List.set_cons_zero, List.set_cons_succ])
    refine wpAnyH_ready (rs := [7]) (by kernel_rfl) (by simp) (AllReadyH.cons (op_at rfl) (fun K hK => ?_) AllReadyH.nil)
    go_simp
    obtain ⟨WW, hWW, hg, s0, s1, s2⟩ := box3 V1 (.int .i64 0) (.int .i64 pk) (.int .i64 e4) 3
    rw [hWW]
    clear hWW
    replace b0 := hg.cell b0
    replace b1 := hg.cell b1
    replace b2 := hg.cell b2
    replace b3 := hg.cell b3
    replace b4 := hg.cell b4
    replace hu := hu.gr hg
    replace hua := hua.gr hg
    replace hul := hul.gr hg
    replace g := g.trans hg
    clear hg
    refine hK.out _ _ ⟨b0, b1, b2, b3, b4⟩ (fun hHeld => ?_)
    clear hK K
    (try simp only [Act.put, List.setIfInBounds_toArray, List.set_cons_zero, List.set_cons_succ])
    refine wpAnyH_ready (rs := [8]) (by kernel_rfl) (by simp) (AllReadyH.cons (op_at rfl) (fun K hK => ?_) AllReadyH.nil)
    go_simp
    (refine (HF1.out _ _ WW s0 s1 s2).mono ?_; rintro e w' ⟨rfl, rfl⟩)
    go_wp2_with fail
    refine hK.out _ _ ⟨b0, b1, b2, b3, b4⟩ (fun hHeld => ?_)
    clear hK K
    (try simp only [Act.put, List.setIfInBounds_toArray, List.set_cons_zero, List.set_cons_succ])
    refine wpAnyH_take (i := 9) (v := (.int .i64 E1)) (op_at rfl) (by kernel_rfl) (by kernel_rfl) (by kernel_rfl) (fun _ _ _ h => h) (Or.inl ⟨rfl, fun w hSw => ?_⟩) (by assumption) ?_
    · (try dsimp only at hSw); go_simp; try with_reducible rfl
    (try simp only [Act.put, List.setIfInBounds_toArray, List.set_cons_zero, List.set_cons_succ])
    refine wpAnyH_done (by kernel_rfl) ?_ _
    go_wp2_with fail
    have gd := (Gr.refl WW).drew
    replace b0 := gd.cell b0
    replace b1 := gd.cell b1
    replace b2 := gd.cell b2
    replace b3 := gd.cell b3
    replace b4 := gd.cell b4
    replace hu := hu.gr gd
    replace hua := hua.gr gd
    replace hul := hul.gr gd
    replace g := g.trans gd
    clear gd s0 s1 s2
    refine wp_region_held_drew (S := (fun w' => w'.cell? ⟨Bx, 0, none⟩ = some (.int .i64 c) ∧ w'.cell? ⟨Bx, 1, none⟩ = some (.int .i64 sp) ∧ w'.cell? ⟨Bx, 2, none⟩ = some (.int .i64 key) ∧ w'.cell? ⟨Bx, 3, none⟩ = some (.int .i64 ds) ∧ w'.cell? ⟨Bx, 4, none⟩ = some (.int .i64 d))) (by kernel_rfl) ⟨b0, b1, b2, b3, b4⟩ (fun hHeld => ?_)
    generalize WW.drew = VV at *
    refine wpAnyH_take (i := 0) (v := (.int .i64 0)) (op_at rfl) (by kernel_rfl) (by kernel_rfl) (by kernel_rfl) (fun _ _ _ h => h) (Or.inl ⟨rfl, fun w hSw => ?_⟩) (by assumption) ?_
    · (try dsimp only at hSw); go_simp; try with_reducible rfl
    (try simp only [Act.put, List.setIfInBounds_toArray, List.set_cons_zero, List.set_cons_succ])
    refine wpAnyH_take (i := 1) (v := (.pointer (some ⟨Bx, 3, none⟩))) (op_at rfl) (by kernel_rfl) (by kernel_rfl) (by kernel_rfl) (fun _ _ _ h => h) (Or.inl ⟨rfl, fun w hSw => ?_⟩) (by assumption) ?_
    · (try dsimp only at hSw); go_simp; try with_reducible rfl
    (try simp only [Act.put, List.setIfInBounds_toArray, List.set_cons_zero, List.set_cons_succ])
    refine wpAnyH_take (i := 2) (v := (.int .i64 ds)) (op_at rfl) (by kernel_rfl) (by kernel_rfl) (by kernel_rfl) (fun _ _ _ h => h) (Or.inl ⟨rfl, fun w hSw => ?_⟩) (by assumption) ?_
    · (try dsimp only at hSw); go_simp; try with_reducible rfl
    (try simp only [Act.put, List.setIfInBounds_toArray, List.set_cons_zero, List.set_cons_succ])
    refine wpAnyH_take (i := 4) (v := (.pointer (some ⟨Bx, 4, none⟩))) (op_at rfl) (by kernel_rfl) (by kernel_rfl) (by kernel_rfl) (fun _ _ _ h => h) (Or.inl ⟨rfl, fun w hSw => ?_⟩) (by assumption) ?_
    · (try dsimp only at hSw); go_simp; try with_reducible rfl
    (try simp only [Act.put, List.setIfInBounds_toArray, List.set_cons_zero, List.set_cons_succ])
    refine wpAnyH_take (i := 5) (v := (.int .i64 d)) (op_at rfl) (by kernel_rfl) (by kernel_rfl) (by kernel_rfl) (fun _ _ _ h => h) (Or.inl ⟨rfl, fun w hSw => ?_⟩) (by assumption) ?_
    · (try dsimp only at hSw); go_simp; try with_reducible rfl
    (try simp only [Act.put, List.setIfInBounds_toArray, List.set_cons_zero, List.set_cons_succ])
    refine wpAnyH_ready (rs := [3]) (by kernel_rfl) (by simp) (AllReadyH.cons (op_at rfl) (fun K hK => ?_) AllReadyH.nil)
    go_simp
    (refine (H3.out _).mono ?_; rintro e w' ⟨rfl, rfl⟩)
    go_wp2_with fail
    refine hK.out _ _ ⟨b0, b1, b2, b3, b4⟩ (fun hHeld => ?_)
    clear hK K
    (try simp only [Act.put, List.setIfInBounds_toArray, List.set_cons_zero, List.set_cons_succ])
    refine wpAnyH_ready (rs := [6]) (by kernel_rfl) (by simp) (AllReadyH.cons (op_at rfl) (fun K hK => ?_) AllReadyH.nil)
    go_simp
    (refine (H4.out _).mono ?_; rintro e w' ⟨rfl, rfl⟩)
    go_wp2_with fail
    refine hK.out _ _ ⟨b0, b1, b2, b3, b4⟩ (fun hHeld => ?_)
    clear hK K
    (try simp only [Act.put, List.setIfInBounds_toArray, List.set_cons_zero, List.set_cons_succ])
    refine wpAnyH_ready (rs := [7]) (by kernel_rfl) (by simp) (AllReadyH.cons (op_at rfl) (fun K hK => ?_) AllReadyH.nil)
    go_simp
    obtain ⟨WY, hWW, hg, s0, s1, s2⟩ := box3 VV (.int .i64 0) (.int .i64 e3) (.int .i64 e4) 3
    rw [hWW]
    clear hWW
    replace b0 := hg.cell b0
    replace b1 := hg.cell b1
    replace b2 := hg.cell b2
    replace b3 := hg.cell b3
    replace b4 := hg.cell b4
    replace hu := hu.gr hg
    replace hua := hua.gr hg
    replace hul := hul.gr hg
    replace g := g.trans hg
    clear hg
    refine hK.out _ _ ⟨b0, b1, b2, b3, b4⟩ (fun hHeld => ?_)
    clear hK K
    (try simp only [Act.put, List.setIfInBounds_toArray, List.set_cons_zero, List.set_cons_succ])
    refine wpAnyH_ready (rs := [8]) (by kernel_rfl) (by simp) (AllReadyH.cons (op_at rfl) (fun K hK => ?_) AllReadyH.nil)
    go_simp
    (refine (HF2.out _ _ WY s0 s1 s2).mono ?_; rintro e w' ⟨rfl, rfl⟩)
    go_wp2_with fail
    refine hK.out _ _ ⟨b0, b1, b2, b3, b4⟩ (fun hHeld => ?_)
    clear hK K
    (try simp only [Act.put, List.setIfInBounds_toArray, List.set_cons_zero, List.set_cons_succ])
    refine wpAnyH_take (i := 9) (v := (.int .i64 E2)) (op_at rfl) (by kernel_rfl) (by kernel_rfl) (by kernel_rfl) (fun _ _ _ h => h) (Or.inl ⟨rfl, fun w hSw => ?_⟩) (by assumption) ?_
    · (try dsimp only at hSw); go_simp; try with_reducible rfl
    (try simp only [Act.put, List.setIfInBounds_toArray, List.set_cons_zero, List.set_cons_succ])
    refine wpAnyH_done (by kernel_rfl) ?_ _
    clear s0 s1 s2
    have HU := Lib.hid hu
    have HUA := Lib.hid hua
    have HUL := Lib.hid hul
    clear hu hua hul
    by_cases hz : E1 = 0
    · have HZ := Lib.hid hz
      have HQA := Lib.hid (HUA.out.good hz)
      clear hz
      have HZ0 := HZ.out
      subst HZ0
      go_wp2_with fail
      refine (HPR.out _ g _ HU.out (by first | trivial | rfl)).mono ?_
      rintro e WP ⟨ur, rfl, hur, hg⟩
      have HW1 := Lib.hid (wdsV_of (HQA.out.gr hg))
      have HW2 := Lib.hid (wdsV_of hur)
      replace HU := Lib.hid (HU.out.gr hg)
      replace HUL := Lib.hid (HUL.out.gr hg)
      replace b0 := hg.cell b0
      replace b1 := hg.cell b1
      replace b2 := hg.cell b2
      replace b3 := hg.cell b3
      replace b4 := hg.cell b4
      replace g := g.trans hg
      clear hg
      clear hur HQA
      go_wp2_with fail
      refine (words_good HW1.out HW2.out hAl).mono ?_
      rintro e WQ ⟨rfl, hg⟩
      replace HU := Lib.hid (HU.out.gr hg)
      replace HUL := Lib.hid (HUL.out.gr hg)
      replace b0 := hg.cell b0
      replace b1 := hg.cell b1
      replace b2 := hg.cell b2
      replace b3 := hg.cell b3
      replace b4 := hg.cell b4
      replace g := g.trans hg
      clear hg
      clear HW1 HW2
      by_cases hz : E2 = 0
      · have HZ := Lib.hid hz
        have HQA := Lib.hid (HUL.out.good hz)
        clear hz
        have HZ0 := HZ.out
        subst HZ0
        go_wp2_with fail
        refine (HLR.out _ g _ HU.out (by first | trivial | rfl)).mono ?_
        rintro e WP ⟨ur, rfl, hur, hg⟩
        have HW1 := Lib.hid (wdsV_of (HQA.out.gr hg))
        have HW2 := Lib.hid (wdsV_of hur)
        replace HU := Lib.hid (HU.out.gr hg)
        replace b0 := hg.cell b0
        replace b1 := hg.cell b1
        replace b2 := hg.cell b2
        replace b3 := hg.cell b3
        replace b4 := hg.cell b4
        replace g := g.trans hg
        clear hg
        clear hur HQA
        go_wp2_with fail
        refine (words_good HW1.out HW2.out hLl).mono ?_
        rintro e WQ ⟨rfl, hg⟩
        replace HU := Lib.hid (HU.out.gr hg)
        replace b0 := hg.cell b0
        replace b1 := hg.cell b1
        replace b2 := hg.cell b2
        replace b3 := hg.cell b3
        replace b4 := hg.cell b4
        replace g := g.trans hg
        clear hg
        clear HW1 HW2
        go_wp2_with fail
        go_ret
        exact ⟨rfl, g⟩
      · have HZ := Lib.hid hz
        have q1 : (E2 == 0) = false := by simpa using hz
        have q2 : (E2 != 0) = true := by simpa [bne] using q1
        have hx := HUL.out.bad hz
        clear hz
        subst hx
        go_wp2_with fail
        refine (words_bad E2 _ HZ.out _).mono ?_
        rintro e WQ ⟨rfl, hg⟩
        replace HU := Lib.hid (HU.out.gr hg)
        replace b0 := hg.cell b0
        replace b1 := hg.cell b1
        replace b2 := hg.cell b2
        replace b3 := hg.cell b3
        replace b4 := hg.cell b4
        replace g := g.trans hg
        clear hg
        go_wp2_with fail
        go_ret
        exact ⟨rfl, g⟩
    · have HZ := Lib.hid hz
      have q1 : (E1 == 0) = false := by simpa using hz
      have q2 : (E1 != 0) = true := by simpa [bne] using q1
      have hx := HUA.out.bad hz
      clear hz
      subst hx
      go_wp2_with fail
      refine (words_bad E1 _ HZ.out _).mono ?_
      rintro e WQ ⟨rfl, hg⟩
      replace HU := Lib.hid (HU.out.gr hg)
      replace HUL := Lib.hid (HUL.out.gr hg)
      replace b0 := hg.cell b0
      replace b1 := hg.cell b1
      replace b2 := hg.cell b2
      replace b3 := hg.cell b3
      replace b4 := hg.cell b4
      replace g := g.trans hg
      clear hg
      by_cases hz : E2 = 0
      · have HZ := Lib.hid hz
        have HQA := Lib.hid (HUL.out.good hz)
        clear hz
        have HZ0 := HZ.out
        subst HZ0
        go_wp2_with fail
        refine (HLR.out _ g _ HU.out (by first | trivial | rfl)).mono ?_
        rintro e WP ⟨ur, rfl, hur, hg⟩
        have HW1 := Lib.hid (wdsV_of (HQA.out.gr hg))
        have HW2 := Lib.hid (wdsV_of hur)
        replace HU := Lib.hid (HU.out.gr hg)
        replace b0 := hg.cell b0
        replace b1 := hg.cell b1
        replace b2 := hg.cell b2
        replace b3 := hg.cell b3
        replace b4 := hg.cell b4
        replace g := g.trans hg
        clear hg
        clear hur HQA
        go_wp2_with fail
        refine (words_good HW1.out HW2.out hLl).mono ?_
        rintro e WQ ⟨rfl, hg⟩
        replace HU := Lib.hid (HU.out.gr hg)
        replace b0 := hg.cell b0
        replace b1 := hg.cell b1
        replace b2 := hg.cell b2
        replace b3 := hg.cell b3
        replace b4 := hg.cell b4
        replace g := g.trans hg
        clear hg
        clear HW1 HW2
        go_wp2_with fail
        go_ret
        exact ⟨rfl, g⟩
      · have HZ := Lib.hid hz
        have q1 : (E2 == 0) = false := by simpa using hz
        have q2 : (E2 != 0) = true := by simpa [bne] using q1
        have hx := HUL.out.bad hz
        clear hz
        subst hx
        go_wp2_with fail
        refine (words_bad E2 _ HZ.out _).mono ?_
        rintro e WQ ⟨rfl, hg⟩
        replace HU := Lib.hid (HU.out.gr hg)
        replace b0 := hg.cell b0
        replace b1 := hg.cell b1
        replace b2 := hg.cell b2
        replace b3 := hg.cell b3
        replace b4 := hg.cell b4
        replace g := g.trans hg
        clear hg
        go_wp2_with fail
        go_ret
        exact ⟨rfl, g⟩
  · have q1 : (bd == 0) = false := by simpa using hb0
    go_wp2_with fail
    clear hb0 q1
    refine (HPO.out _ g).mono ?_
    rintro e W9 ⟨ua, rfl, hua, hg⟩
    replace b0 := hg.cell b0
    replace b1 := hg.cell b1
    replace b2 := hg.cell b2
    replace b3 := hg.cell b3
    replace b4 := hg.cell b4
    replace hu := hu.gr hg
    replace g := g.trans hg
    clear hg
    go_wp2_with fail
    refine (HLO.out _ g).mono ?_
    rintro e WT ⟨ul, rfl, hul, hg⟩
    replace b0 := hg.cell b0
    replace b1 := hg.cell b1
    replace b2 := hg.cell b2
    replace b3 := hg.cell b3
    replace b4 := hg.cell b4
    replace hu := hu.gr hg
    replace hua := hua.gr hg
    replace g := g.trans hg
    clear hg
    go_wp2_with fail
    have gd := (Gr.refl WT).drew
    replace b0 := gd.cell b0
    replace b1 := gd.cell b1
    replace b2 := gd.cell b2
    replace b3 := gd.cell b3
    replace b4 := gd.cell b4
    replace hu := hu.gr gd
    replace hua := hua.gr gd
    replace hul := hul.gr gd
    replace g := g.trans gd
    clear gd
    refine wp_region_held_drew (S := (fun w' => w'.cell? ⟨Bx, 0, none⟩ = some (.int .i64 c) ∧ w'.cell? ⟨Bx, 1, none⟩ = some (.int .i64 sp) ∧ w'.cell? ⟨Bx, 2, none⟩ = some (.int .i64 key) ∧ w'.cell? ⟨Bx, 3, none⟩ = some (.int .i64 ds) ∧ w'.cell? ⟨Bx, 4, none⟩ = some (.int .i64 d))) (by kernel_rfl) ⟨b0, b1, b2, b3, b4⟩ (fun hHeld => ?_)
    generalize WT.drew = V at *
    refine wpAnyH_take (i := 0) (v := (.int .i64 bd)) (op_at rfl) (by kernel_rfl) (by kernel_rfl) (by kernel_rfl) (fun _ _ _ h => h) (Or.inl ⟨rfl, fun w hSw => ?_⟩) (by assumption) ?_
    · (try dsimp only at hSw); go_simp; try with_reducible rfl
    (try simp only [Act.put, List.setIfInBounds_toArray, List.set_cons_zero, List.set_cons_succ])
    refine wpAnyH_take (i := 1) (v := (.pointer (some ⟨Bx, 0, none⟩))) (op_at rfl) (by kernel_rfl) (by kernel_rfl) (by kernel_rfl) (fun _ _ _ h => h) (Or.inl ⟨rfl, fun w hSw => ?_⟩) (by assumption) ?_
    · (try dsimp only at hSw); go_simp; try with_reducible rfl
    (try simp only [Act.put, List.setIfInBounds_toArray, List.set_cons_zero, List.set_cons_succ])
    refine wpAnyH_take (i := 2) (v := (.agg #[.int .i64 c, .int .i64 sp, .int .i64 key])) (op_at rfl) (by kernel_rfl) (by kernel_rfl) (by kernel_rfl) (fun _ _ _ h => h) (Or.inl ⟨rfl, fun w hSw => ?_⟩) (by assumption) ?_
    · (try dsimp only at hSw); go_simp; try with_reducible rfl
    (try simp only [Act.put, List.setIfInBounds_toArray, List.set_cons_zero, List.set_cons_succ])
    refine wpAnyH_take (i := 4) (v := (.pointer (some ⟨Bx, 4, none⟩))) (op_at rfl) (by kernel_rfl) (by kernel_rfl) (by kernel_rfl) (fun _ _ _ h => h) (Or.inl ⟨rfl, fun w hSw => ?_⟩) (by assumption) ?_
    · (try dsimp only at hSw); go_simp; try with_reducible rfl
    (try simp only [Act.put, List.setIfInBounds_toArray, List.set_cons_zero, List.set_cons_succ])
    refine wpAnyH_take (i := 5) (v := (.int .i64 d)) (op_at rfl) (by kernel_rfl) (by kernel_rfl) (by kernel_rfl) (fun _ _ _ h => h) (Or.inl ⟨rfl, fun w hSw => ?_⟩) (by assumption) ?_
    · (try dsimp only at hSw); go_simp; try with_reducible rfl
    (try simp only [Act.put, List.setIfInBounds_toArray, List.set_cons_zero, List.set_cons_succ])
    refine wpAnyH_ready (rs := [3]) (by kernel_rfl) (by simp) (AllReadyH.cons (op_at rfl) (fun K hK => ?_) AllReadyH.nil)
    go_simp
    (refine (HCP.out _).mono ?_; rintro e V1 ⟨rfl, hg⟩; replace b0 := hg.cell b0; replace b1 := hg.cell b1; replace b2 := hg.cell b2; replace b3 := hg.cell b3; replace b4 := hg.cell b4; replace hu := hu.gr hg; replace hua := hua.gr hg; replace hul := hul.gr hg; replace g := g.trans hg; clear hg)
    go_wp2_with fail
    refine hK.out _ _ ⟨b0, b1, b2, b3, b4⟩ (fun hHeld => ?_)
    clear hK K
    (try simp only [Act.put, List.setIfInBounds_toArray, List.set_cons_zero, List.set_cons_succ])
    refine wpAnyH_ready (rs := [6]) (by kernel_rfl) (by simp) (AllReadyH.cons (op_at rfl) (fun K hK => ?_) AllReadyH.nil)
    go_simp
    (refine (H4.out _).mono ?_; rintro e w' ⟨rfl, rfl⟩)
    go_wp2_with fail
    refine hK.out _ _ ⟨b0, b1, b2, b3, b4⟩ (fun hHeld => ?_)
    clear hK K
    (try simp only [Act.put, List.setIfInBounds_toArray, List.set_cons_zero, List.set_cons_succ])
    refine wpAnyH_ready (rs := [7]) (by kernel_rfl) (by simp) (AllReadyH.cons (op_at rfl) (fun K hK => ?_) AllReadyH.nil)
    go_simp
    obtain ⟨WW, hWW, hg, s0, s1, s2⟩ := box3 V1 (.int .i64 bd) (.int .i64 pk) (.int .i64 e4) 3
    rw [hWW]
    clear hWW
    replace b0 := hg.cell b0
    replace b1 := hg.cell b1
    replace b2 := hg.cell b2
    replace b3 := hg.cell b3
    replace b4 := hg.cell b4
    replace hu := hu.gr hg
    replace hua := hua.gr hg
    replace hul := hul.gr hg
    replace g := g.trans hg
    clear hg
    refine hK.out _ _ ⟨b0, b1, b2, b3, b4⟩ (fun hHeld => ?_)
    clear hK K
    (try simp only [Act.put, List.setIfInBounds_toArray, List.set_cons_zero, List.set_cons_succ])
    refine wpAnyH_ready (rs := [8]) (by kernel_rfl) (by simp) (AllReadyH.cons (op_at rfl) (fun K hK => ?_) AllReadyH.nil)
    go_simp
    (refine (HF1.out _ _ WW s0 s1 s2).mono ?_; rintro e w' ⟨rfl, rfl⟩)
    go_wp2_with fail
    refine hK.out _ _ ⟨b0, b1, b2, b3, b4⟩ (fun hHeld => ?_)
    clear hK K
    (try simp only [Act.put, List.setIfInBounds_toArray, List.set_cons_zero, List.set_cons_succ])
    refine wpAnyH_take (i := 9) (v := (.int .i64 E1)) (op_at rfl) (by kernel_rfl) (by kernel_rfl) (by kernel_rfl) (fun _ _ _ h => h) (Or.inl ⟨rfl, fun w hSw => ?_⟩) (by assumption) ?_
    · (try dsimp only at hSw); go_simp; try with_reducible rfl
    (try simp only [Act.put, List.setIfInBounds_toArray, List.set_cons_zero, List.set_cons_succ])
    refine wpAnyH_done (by kernel_rfl) ?_ _
    go_wp2_with fail
    have gd := (Gr.refl WW).drew
    replace b0 := gd.cell b0
    replace b1 := gd.cell b1
    replace b2 := gd.cell b2
    replace b3 := gd.cell b3
    replace b4 := gd.cell b4
    replace hu := hu.gr gd
    replace hua := hua.gr gd
    replace hul := hul.gr gd
    replace g := g.trans gd
    clear gd s0 s1 s2
    refine wp_region_held_drew (S := (fun w' => w'.cell? ⟨Bx, 0, none⟩ = some (.int .i64 c) ∧ w'.cell? ⟨Bx, 1, none⟩ = some (.int .i64 sp) ∧ w'.cell? ⟨Bx, 2, none⟩ = some (.int .i64 key) ∧ w'.cell? ⟨Bx, 3, none⟩ = some (.int .i64 ds) ∧ w'.cell? ⟨Bx, 4, none⟩ = some (.int .i64 d))) (by kernel_rfl) ⟨b0, b1, b2, b3, b4⟩ (fun hHeld => ?_)
    generalize WW.drew = VV at *
    refine wpAnyH_take (i := 0) (v := (.int .i64 bd)) (op_at rfl) (by kernel_rfl) (by kernel_rfl) (by kernel_rfl) (fun _ _ _ h => h) (Or.inl ⟨rfl, fun w hSw => ?_⟩) (by assumption) ?_
    · (try dsimp only at hSw); go_simp; try with_reducible rfl
    (try simp only [Act.put, List.setIfInBounds_toArray, List.set_cons_zero, List.set_cons_succ])
    refine wpAnyH_take (i := 1) (v := (.pointer (some ⟨Bx, 3, none⟩))) (op_at rfl) (by kernel_rfl) (by kernel_rfl) (by kernel_rfl) (fun _ _ _ h => h) (Or.inl ⟨rfl, fun w hSw => ?_⟩) (by assumption) ?_
    · (try dsimp only at hSw); go_simp; try with_reducible rfl
    (try simp only [Act.put, List.setIfInBounds_toArray, List.set_cons_zero, List.set_cons_succ])
    refine wpAnyH_take (i := 2) (v := (.int .i64 ds)) (op_at rfl) (by kernel_rfl) (by kernel_rfl) (by kernel_rfl) (fun _ _ _ h => h) (Or.inl ⟨rfl, fun w hSw => ?_⟩) (by assumption) ?_
    · (try dsimp only at hSw); go_simp; try with_reducible rfl
    (try simp only [Act.put, List.setIfInBounds_toArray, List.set_cons_zero, List.set_cons_succ])
    refine wpAnyH_take (i := 4) (v := (.pointer (some ⟨Bx, 4, none⟩))) (op_at rfl) (by kernel_rfl) (by kernel_rfl) (by kernel_rfl) (fun _ _ _ h => h) (Or.inl ⟨rfl, fun w hSw => ?_⟩) (by assumption) ?_
    · (try dsimp only at hSw); go_simp; try with_reducible rfl
    (try simp only [Act.put, List.setIfInBounds_toArray, List.set_cons_zero, List.set_cons_succ])
    refine wpAnyH_take (i := 5) (v := (.int .i64 d)) (op_at rfl) (by kernel_rfl) (by kernel_rfl) (by kernel_rfl) (fun _ _ _ h => h) (Or.inl ⟨rfl, fun w hSw => ?_⟩) (by assumption) ?_
    · (try dsimp only at hSw); go_simp; try with_reducible rfl
    (try simp only [Act.put, List.setIfInBounds_toArray, List.set_cons_zero, List.set_cons_succ])
    refine wpAnyH_ready (rs := [3]) (by kernel_rfl) (by simp) (AllReadyH.cons (op_at rfl) (fun K hK => ?_) AllReadyH.nil)
    go_simp
    (refine (H3.out _).mono ?_; rintro e w' ⟨rfl, rfl⟩)
    go_wp2_with fail
    refine hK.out _ _ ⟨b0, b1, b2, b3, b4⟩ (fun hHeld => ?_)
    clear hK K
    (try simp only [Act.put, List.setIfInBounds_toArray, List.set_cons_zero, List.set_cons_succ])
    refine wpAnyH_ready (rs := [6]) (by kernel_rfl) (by simp) (AllReadyH.cons (op_at rfl) (fun K hK => ?_) AllReadyH.nil)
    go_simp
    (refine (H4.out _).mono ?_; rintro e w' ⟨rfl, rfl⟩)
    go_wp2_with fail
    refine hK.out _ _ ⟨b0, b1, b2, b3, b4⟩ (fun hHeld => ?_)
    clear hK K
    (try simp only [Act.put, List.setIfInBounds_toArray, List.set_cons_zero, List.set_cons_succ])
    refine wpAnyH_ready (rs := [7]) (by kernel_rfl) (by simp) (AllReadyH.cons (op_at rfl) (fun K hK => ?_) AllReadyH.nil)
    go_simp
    obtain ⟨WY, hWW, hg, s0, s1, s2⟩ := box3 VV (.int .i64 bd) (.int .i64 e3) (.int .i64 e4) 3
    rw [hWW]
    clear hWW
    replace b0 := hg.cell b0
    replace b1 := hg.cell b1
    replace b2 := hg.cell b2
    replace b3 := hg.cell b3
    replace b4 := hg.cell b4
    replace hu := hu.gr hg
    replace hua := hua.gr hg
    replace hul := hul.gr hg
    replace g := g.trans hg
    clear hg
    refine hK.out _ _ ⟨b0, b1, b2, b3, b4⟩ (fun hHeld => ?_)
    clear hK K
    (try simp only [Act.put, List.setIfInBounds_toArray, List.set_cons_zero, List.set_cons_succ])
    refine wpAnyH_ready (rs := [8]) (by kernel_rfl) (by simp) (AllReadyH.cons (op_at rfl) (fun K hK => ?_) AllReadyH.nil)
    go_simp
    (refine (HF2.out _ _ WY s0 s1 s2).mono ?_; rintro e w' ⟨rfl, rfl⟩)
    go_wp2_with fail
    refine hK.out _ _ ⟨b0, b1, b2, b3, b4⟩ (fun hHeld => ?_)
    clear hK K
    (try simp only [Act.put, List.setIfInBounds_toArray, List.set_cons_zero, List.set_cons_succ])
    refine wpAnyH_take (i := 9) (v := (.int .i64 E2)) (op_at rfl) (by kernel_rfl) (by kernel_rfl) (by kernel_rfl) (fun _ _ _ h => h) (Or.inl ⟨rfl, fun w hSw => ?_⟩) (by assumption) ?_
    · (try dsimp only at hSw); go_simp; try with_reducible rfl
    (try simp only [Act.put, List.setIfInBounds_toArray, List.set_cons_zero, List.set_cons_succ])
    refine wpAnyH_done (by kernel_rfl) ?_ _
    clear s0 s1 s2
    have HU := Lib.hid hu
    have HUA := Lib.hid hua
    have HUL := Lib.hid hul
    clear hu hua hul
    by_cases hz : E1 = 0
    · have HZ := Lib.hid hz
      have HQA := Lib.hid (HUA.out.good hz)
      clear hz
      have HZ0 := HZ.out
      subst HZ0
      go_wp2_with fail
      refine (HPR.out _ g _ HU.out (by first | trivial | rfl)).mono ?_
      rintro e WP ⟨ur, rfl, hur, hg⟩
      have HW1 := Lib.hid (wdsV_of (HQA.out.gr hg))
      have HW2 := Lib.hid (wdsV_of hur)
      replace HU := Lib.hid (HU.out.gr hg)
      replace HUL := Lib.hid (HUL.out.gr hg)
      replace b0 := hg.cell b0
      replace b1 := hg.cell b1
      replace b2 := hg.cell b2
      replace b3 := hg.cell b3
      replace b4 := hg.cell b4
      replace g := g.trans hg
      clear hg
      clear hur HQA
      go_wp2_with fail
      refine (words_good HW1.out HW2.out hAl).mono ?_
      rintro e WQ ⟨rfl, hg⟩
      replace HU := Lib.hid (HU.out.gr hg)
      replace HUL := Lib.hid (HUL.out.gr hg)
      replace b0 := hg.cell b0
      replace b1 := hg.cell b1
      replace b2 := hg.cell b2
      replace b3 := hg.cell b3
      replace b4 := hg.cell b4
      replace g := g.trans hg
      clear hg
      clear HW1 HW2
      by_cases hz : E2 = 0
      · have HZ := Lib.hid hz
        have HQA := Lib.hid (HUL.out.good hz)
        clear hz
        have HZ0 := HZ.out
        subst HZ0
        go_wp2_with fail
        refine (HLR.out _ g _ HU.out (by first | trivial | rfl)).mono ?_
        rintro e WP ⟨ur, rfl, hur, hg⟩
        have HW1 := Lib.hid (wdsV_of (HQA.out.gr hg))
        have HW2 := Lib.hid (wdsV_of hur)
        replace HU := Lib.hid (HU.out.gr hg)
        replace b0 := hg.cell b0
        replace b1 := hg.cell b1
        replace b2 := hg.cell b2
        replace b3 := hg.cell b3
        replace b4 := hg.cell b4
        replace g := g.trans hg
        clear hg
        clear hur HQA
        go_wp2_with fail
        refine (words_good HW1.out HW2.out hLl).mono ?_
        rintro e WQ ⟨rfl, hg⟩
        replace HU := Lib.hid (HU.out.gr hg)
        replace b0 := hg.cell b0
        replace b1 := hg.cell b1
        replace b2 := hg.cell b2
        replace b3 := hg.cell b3
        replace b4 := hg.cell b4
        replace g := g.trans hg
        clear hg
        clear HW1 HW2
        go_wp2_with fail
        go_ret
        exact ⟨rfl, g⟩
      · have HZ := Lib.hid hz
        have q1 : (E2 == 0) = false := by simpa using hz
        have q2 : (E2 != 0) = true := by simpa [bne] using q1
        have hx := HUL.out.bad hz
        clear hz
        subst hx
        go_wp2_with fail
        refine (words_bad E2 _ HZ.out _).mono ?_
        rintro e WQ ⟨rfl, hg⟩
        replace HU := Lib.hid (HU.out.gr hg)
        replace b0 := hg.cell b0
        replace b1 := hg.cell b1
        replace b2 := hg.cell b2
        replace b3 := hg.cell b3
        replace b4 := hg.cell b4
        replace g := g.trans hg
        clear hg
        go_wp2_with fail
        go_ret
        exact ⟨rfl, g⟩
    · have HZ := Lib.hid hz
      have q1 : (E1 == 0) = false := by simpa using hz
      have q2 : (E1 != 0) = true := by simpa [bne] using q1
      have hx := HUA.out.bad hz
      clear hz
      subst hx
      go_wp2_with fail
      refine (words_bad E1 _ HZ.out _).mono ?_
      rintro e WQ ⟨rfl, hg⟩
      replace HU := Lib.hid (HU.out.gr hg)
      replace HUL := Lib.hid (HUL.out.gr hg)
      replace b0 := hg.cell b0
      replace b1 := hg.cell b1
      replace b2 := hg.cell b2
      replace b3 := hg.cell b3
      replace b4 := hg.cell b4
      replace g := g.trans hg
      clear hg
      by_cases hz : E2 = 0
      · have HZ := Lib.hid hz
        have HQA := Lib.hid (HUL.out.good hz)
        clear hz
        have HZ0 := HZ.out
        subst HZ0
        go_wp2_with fail
        refine (HLR.out _ g _ HU.out (by first | trivial | rfl)).mono ?_
        rintro e WP ⟨ur, rfl, hur, hg⟩
        have HW1 := Lib.hid (wdsV_of (HQA.out.gr hg))
        have HW2 := Lib.hid (wdsV_of hur)
        replace HU := Lib.hid (HU.out.gr hg)
        replace b0 := hg.cell b0
        replace b1 := hg.cell b1
        replace b2 := hg.cell b2
        replace b3 := hg.cell b3
        replace b4 := hg.cell b4
        replace g := g.trans hg
        clear hg
        clear hur HQA
        go_wp2_with fail
        refine (words_good HW1.out HW2.out hLl).mono ?_
        rintro e WQ ⟨rfl, hg⟩
        replace HU := Lib.hid (HU.out.gr hg)
        replace b0 := hg.cell b0
        replace b1 := hg.cell b1
        replace b2 := hg.cell b2
        replace b3 := hg.cell b3
        replace b4 := hg.cell b4
        replace g := g.trans hg
        clear hg
        clear HW1 HW2
        go_wp2_with fail
        go_ret
        exact ⟨rfl, g⟩
      · have HZ := Lib.hid hz
        have q1 : (E2 == 0) = false := by simpa using hz
        have q2 : (E2 != 0) = true := by simpa [bne] using q1
        have hx := HUL.out.bad hz
        clear hz
        subst hx
        go_wp2_with fail
        refine (words_bad E2 _ HZ.out _).mono ?_
        rintro e WQ ⟨rfl, hg⟩
        replace HU := Lib.hid (HU.out.gr hg)
        replace b0 := hg.cell b0
        replace b1 := hg.cell b1
        replace b2 := hg.cell b2
        replace b3 := hg.cell b3
        replace b4 := hg.cell b4
        replace g := g.trans hg
        clear hg
        go_wp2_with fail
        go_ret
        exact ⟨rfl, g⟩
end Go.Proofs.YtenkbeeiblhnjaaGreat
