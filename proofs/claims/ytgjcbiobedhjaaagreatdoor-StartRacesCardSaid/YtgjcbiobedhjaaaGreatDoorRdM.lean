/- Races: the law, walked. -/
import Derived.Test.YtgjcbiobedhjaaaGreatDoorRdL
namespace Go.Proofs.YtgjcbiobedhjaaaGreatDoor
open Go.RowKit Go.Lib
set_option linter.unusedSimpArgs false
set_option linter.unusedVariables false
set_option maxHeartbeats 4000000 in
set_option maxRecDepth 100000 in
theorem first6_three (x y z : Int) (b cap : Nat) (w : World) (hx : w.cell? ⟨b, 0, none⟩ = some (.int .i64 x)) (hy : w.cell? ⟨b, 1, none⟩ = some (.int .i64 y)) (hz : w.cell? ⟨b, 2, none⟩ = some (.int .i64 z)) :
    Calls Tryz.prog 13 #[.slice (some ⟨b, 0, none⟩) 3 cap] w fun e w' => e = .returned (.int .i64 (firstE [x, y, z])) ∧ w = w' := by
  have HE : Hid (firstE [x, y, z] = if x = 0 then (if y = 0 then z else y) else x) := by
    unfold Hid firstE firstE firstE firstE
    by_cases h : x = 0 <;> by_cases h2 : y = 0 <;> by_cases h3 : z = 0 <;> simp [h, h2, h3]
  by_cases h : x = 0
  · rw [if_pos h] at HE
    have h1 : (x != 0) = false := by rw [h]; rfl
    by_cases h2 : y = 0
    · rw [if_pos h2] at HE
      have h3 : (y != 0) = false := by rw [h2]; rfl
      by_cases h4 : z = 0
      · have h5 : (z != 0) = false := by rw [h4]; rfl
        go_enter Tryz.func13, Tryz.ntmps13
        go_wp2_with fail
        refine wp_loop_rounds 4 ?_
        rw [rounds_succ]
        go_wp2_with fail
        rw [rounds_succ]
        go_wp2_with fail
        rw [rounds_succ]
        go_wp2_with fail
        rw [rounds_succ]
        go_wp2_with fail
        go_ret
        exact ⟨by rw [HE.out, h4]; rfl, rfl⟩
      · have h5 : (z != 0) = true := bne_iff_ne.2 h4
        go_enter Tryz.func13, Tryz.ntmps13
        go_wp2_with fail
        refine wp_loop_rounds 4 ?_
        rw [rounds_succ]
        go_wp2_with fail
        rw [rounds_succ]
        go_wp2_with fail
        rw [rounds_succ]
        go_wp2_with fail
        go_ret
        exact ⟨by rw [HE.out]; rfl, rfl⟩
    · rw [if_neg h2] at HE
      have h3 : (y != 0) = true := bne_iff_ne.2 h2
      go_enter Tryz.func13, Tryz.ntmps13
      go_wp2_with fail
      refine wp_loop_rounds 4 ?_
      rw [rounds_succ]
      go_wp2_with fail
      rw [rounds_succ]
      go_wp2_with fail
      go_ret
      exact ⟨by rw [HE.out]; rfl, rfl⟩
  · rw [if_neg h] at HE
    have h1 : (x != 0) = true := bne_iff_ne.2 h
    go_enter Tryz.func13, Tryz.ntmps13
    go_wp2_with fail
    refine wp_loop_rounds 4 ?_
    rw [rounds_succ]
    go_wp2_with fail
    go_ret
    exact ⟨by rw [HE.out]; rfl, rfl⟩
set_option maxHeartbeats 4000000 in
set_option maxRecDepth 100000 in
theorem lawRaces_c {v : Value} {l : List RaR} {w : World} (hv : RaV w v l) (hb : l.length * 40 ≤ 140737488355328) (hbt : Beat w) (hA : AwakeOK w) :
    Calls Tryz.prog 3 #[v] w fun e w' => e = .returned (.bool true) ∧ Gr w w' := by
  have HV := Lib.hid hv
  have HA := Lib.hid hA
  have HB := Lib.hid hb
  have HBT := Lib.hid hbt
  obtain ⟨⟨p, cap, rfl, hcm, _⟩⟩ := hv
  have HCP := Lib.hid (races6_c HV.out hb)
  obtain ⟨n, hn⟩ : ∃ n, n = l.length := ⟨_, rfl⟩
  rw [← hn] at HV HCP ⊢
  have HN := Lib.hid hn
  clear hA hb hbt hcm hn
  go_enter Tryz.func3, Tryz.ntmps3
  go_wp2_with fail
  refine HCP.out.mono ?_
  rintro e W1 ⟨u, rfl, hu, g1⟩
  have HU := Lib.hid hu
  have G1 := Lib.hid g1
  have HSH := Lib.hid (fun V (g : Gr W1 V) => shortRaces_c (hu.gr g))
  obtain ⟨pu, cu, rfl⟩ : ∃ pu cu, u = .slice pu n cu := by
    obtain ⟨⟨pu, cu, rfl, _, _⟩⟩ := hu
    exact ⟨pu, cu, by rw [HN.out]⟩
  clear hu g1 HCP
  go_wp2_with fail
  refine (HA.out _ G1.out).mono ?_
  rintro e W2 ⟨rfl, g2⟩
  have G2 := Lib.hid (G1.out.trans g2)
  have HU2 := Lib.hid (HU.out.gr g2)
  have HSH2 := Lib.hid (HSH.out _ g2)
  clear g2 HSH HU
  go_wp2_with fail
  refine HSH2.out.mono ?_
  rintro e w9 ⟨⟨sh, rfl, hsh⟩, rfl⟩
  have HSS := Lib.hid hsh
  clear hsh HSH2
  cases sh
  · go_wp2_with fail
    refine (HA.out _ G2.out).mono ?_
    rintro e W3 ⟨rfl, g3⟩
    go_wp2_with fail
    go_ret
    exact ⟨rfl, G2.out.trans g3⟩
  have hs34 : l.length ≤ 34 := (HSS.out rfl).1
  have HS34 := Lib.hid hs34
  obtain ⟨bad, hbad⟩ : ∃ z, z = racesE l := ⟨_, rfl⟩
  obtain ⟨z2, hz2⟩ : ∃ z, z = (if ((l.length : Int) == 1) then (20 : Int) else 0) := ⟨_, rfl⟩
  obtain ⟨y2, hy2⟩ : ∃ z, z = (if ((l.length : Int) != 2) then (2 : Int) else 0) := ⟨_, rfl⟩
  obtain ⟨z3, hz3⟩ : ∃ z, z = (if openR l then (24 : Int) else 0) := ⟨_, rfl⟩
  have hne : nextE l = firstE [bad, z2, z3] := by rw [hbad, hz2, hz3]; rfl
  have hse : smallE l = firstE [bad, y2, z3] := by rw [hbad, hy2, hz3]; rfl
  have HRC : Hid (∀ V, Gr W2 V → Calls Tryz.prog 9 #[.slice pu n cu] V fun e w' => e = .returned (.int .i64 bad) ∧ Gr V w') := fun V g => by rw [hbad]; exact refCheckRaces_c l _ V (HU2.out.gr g) hs34
  have HPC : Hid (∀ V, Gr w V → Calls Tryz.prog 10 #[.slice p n cap] V fun e w' => e = .returned (.int .i64 bad) ∧ Gr V w') := fun V g => by rw [hbad]; exact checkRaces_c l _ V (HV.out.gr g) hs34
  have HW1 : Hid (∀ V, Calls Tryz.prog 14 #[.bool ((n : Int) == 1), .int .i64 20] V fun e w' => e = .returned (.int .i64 z2) ∧ V = w') := fun V => by rw [hz2, ← HN.out]; exact when6_c _ 20 V
  have HW2 : Hid (∀ V, Calls Tryz.prog 14 #[.bool ((n : Int) != 2), .int .i64 2] V fun e w' => e = .returned (.int .i64 y2) ∧ V = w') := fun V => by rw [hy2, ← HN.out]; exact when6_c _ 2 V
  have HW24 : Hid (∀ V, Calls Tryz.prog 14 #[.bool (openR l), .int .i64 24] V fun e w' => e = .returned (.int .i64 z3) ∧ V = w') := fun V => by rw [hz3]; exact when6_c _ 24 V
  have HOP0 : Hid (∀ V, Gr W2 V → Calls Tryz.prog 15 #[.slice pu n cu] V fun e w' => e = .returned (.bool (openR l)) ∧ V = w') := fun V g => refOpenR_c (HU2.out.gr g)
  obtain ⟨ne, hnee⟩ : ∃ z, z = nextE l := ⟨_, rfl⟩
  obtain ⟨se, hsee⟩ : ∃ z, z = smallE l := ⟨_, rfl⟩
  have HF1 : Hid (∀ b cap V, V.cell? ⟨b, 0, none⟩ = some (.int .i64 bad) → V.cell? ⟨b, 1, none⟩ = some (.int .i64 z2) → V.cell? ⟨b, 2, none⟩ = some (.int .i64 z3) → Calls Tryz.prog 13 #[.slice (some ⟨b, 0, none⟩) 3 cap] V fun e w' => e = .returned (.int .i64 ne) ∧ V = w') := fun b cap V h0 h1 h2 => by rw [hnee, hne]; exact first6_three bad z2 z3 b cap V h0 h1 h2
  have HF2 : Hid (∀ b cap V, V.cell? ⟨b, 0, none⟩ = some (.int .i64 bad) → V.cell? ⟨b, 1, none⟩ = some (.int .i64 y2) → V.cell? ⟨b, 2, none⟩ = some (.int .i64 z3) → Calls Tryz.prog 13 #[.slice (some ⟨b, 0, none⟩) 3 cap] V fun e w' => e = .returned (.int .i64 se) ∧ V = w') := fun b cap V h0 h1 h2 => by rw [hsee, hse]; exact first6_three bad y2 z3 b cap V h0 h1 h2
  have HNE := Lib.hid hnee
  have HSE := Lib.hid hsee
  clear hbad hz2 hy2 hz3 hne hse hnee hsee hs34
  have hbb : (bad != bad) = false := bne_self_eq_false _
  go_wp2_with fail
  refine (HRC.out _ (Gr.refl _)).mono ?_
  rintro e W3 ⟨rfl, g3⟩
  have G3 := Lib.hid (G2.out.trans g3)
  have L3 := Lib.hid g3
  clear g3
  go_wp2_with fail
  refine (HPC.out _ G3.out).mono ?_
  rintro e W4 ⟨rfl, g4⟩
  have G4 := Lib.hid (G3.out.trans g4)
  have L4 := Lib.hid (L3.out.trans g4)
  clear g4
  go_wp2_with fail
  by_cases hn0 : ne = 0
  · subst hn0
    have hne0 : nextE l = 0 := HNE.out.symm
    obtain ⟨M, hM, hM1, hM5⟩ := nextE_zero hne0
    have HNX := Lib.hid (next_ok (HV.out.gr G4.out) HS34.out hne0)
    have HRN0 : Hid (∀ V, Gr W2 V → Calls Tryz.prog 17 #[.slice pu n cu] V fun e w' => ∃ u, e = .returned u ∧ w'.ownsRow V.heap.size 40 3 u M (raCs (pairR (l.map winR))) ∧ Gr V w') := fun V g => refNext_c M (HU2.out.gr g) hM (by omega)
    have hlm : (pairR (l.map winR)).length = M := pairR_len M _ (by rw [List.length_map]; exact hM)
    have HNN : Hid (M ≤ 100) := by rw [Hid]; omega
    have HLM := Lib.hid hlm
    clear hne0 hM hM1 hM5 hlm
    refine HNX.out.mono ?_
    rintro e W5 ⟨q5, N5, c5, rfl, hr5, hl5, _, g5⟩
    obtain rfl : N5 = M := hl5.symm.trans HLM.out
    have HRS := Lib.hid hr5
    have HLN := Lib.hid hl5
    have G5 := Lib.hid (G4.out.trans g5)
    have L5 := Lib.hid (L4.out.trans g5)
    have HRN := HRN0
    generalize pairR (l.map winR) = res at *
    clear g5 hr5 hl5 HNX HLM
    go_wp2_with fail
    by_cases hs : se = 0
    · subst hs
      have hse0 : smallE l = 0 := HSE.out.symm
      have HSM0 := Lib.hid (small_ok (HV.out.gr G5.out) (HBT.out.gr G5.out) HS34.out hse0)
      have HSM : Hid (∀ V, Gr W2 V → Calls Tryz.prog 18 #[.slice pu n cu] V fun e w' => e = .returned (raV (smallR l)) ∧ Gr V w') := fun V g => refSmall_c (HU2.out.gr g) (smallE_zero hse0).1
      generalize smallR l = sr at *
      obtain ⟨sa, sb, sw⟩ := sr
      unfold raV at HSM0 HSM
      simp only at HSM0 HSM
      clear hse0
      refine HSM0.out.mono ?_
      rintro e W6 ⟨rfl, g6⟩
      have G6 := Lib.hid (G5.out.trans g6)
      have G56 := Lib.hid g6
      have L6 := Lib.hid (L5.out.trans g6)
      clear g6 HSM0
      go_wp2_with fail
      obtain ⟨W7, hW7, g7, b0, b1, b2⟩ := box3 W6 (.string sa) (.string sb) (.int .i64 sw) 33
      rw [hW7]
      have G7 := Lib.hid (G6.out.trans g7)
      have G57 := Lib.hid (G56.out.trans g7)
      have L7 := Lib.hid (L6.out.trans g7)
      have B0 := Lib.hid b0
      have B1 := Lib.hid b1
      have B2 := Lib.hid b2
      have L79 : Hid (∀ V, Gr W7 V → Gr W5 V) := fun V g => (G57.out.trans g)
      have HOP := Lib.hid (fun V (g : Gr W7 V) => HOP0.out V (L7.out.trans g))
      generalize hBx : W6.heap.size = Bx at *
      clear hW7 g7 hBx
      have GG7 := Lib.hid (Gr.refl W7)
      go_wp2_with fail
      refine (HW1.out _).mono ?_
      rintro e w9 ⟨rfl, rfl⟩
      go_wp2_with fail
      refine (HOP.out _ GG7.out).mono ?_
      rintro e w9 ⟨rfl, rfl⟩
      go_wp2_with fail
      refine (HW24.out _).mono ?_
      rintro e w9 ⟨rfl, rfl⟩
      obtain ⟨W8, hW8, gW8, s0, s1, s2⟩ := box3 W7 (.int .i64 bad) (.int .i64 z2) (.int .i64 z3) 3
      have HF1 := Lib.hid (HF1.out _ 3 W8 s0 s1 s2)
      have HW8 := Lib.hid hW8
      have GG8 := Lib.hid (GG7.out.trans gW8)
      clear hW8 gW8 s0 s1 s2
      go_wp2_with fail
      rw [HW8.out]
      refine HF1.out.mono ?_
      rintro e w9 ⟨rfl, rfl⟩
      clear HF1 HW8
      clear b0 b1 b2
      skip
      skip
      go_wp2_with fail
      refine (HW2.out _).mono ?_
      rintro e w9 ⟨rfl, rfl⟩
      go_wp2_with fail
      refine (HOP.out _ GG8.out).mono ?_
      rintro e w9 ⟨rfl, rfl⟩
      go_wp2_with fail
      refine (HW24.out _).mono ?_
      rintro e w9 ⟨rfl, rfl⟩
      obtain ⟨W9, hW9, gW9, s0, s1, s2⟩ := box3 W8 (.int .i64 bad) (.int .i64 y2) (.int .i64 z3) 3
      have HF1 := Lib.hid (HF2.out _ 3 W9 s0 s1 s2)
      have HW9 := Lib.hid hW9
      have GG9 := Lib.hid (GG8.out.trans gW9)
      clear hW9 gW9 s0 s1 s2
      go_wp2_with fail
      rw [HW9.out]
      refine HF1.out.mono ?_
      rintro e w9 ⟨rfl, rfl⟩
      clear HF1 HW9
      have b0 := GG9.out.cell B0.out
      have b1 := GG9.out.cell B1.out
      have b2 := GG9.out.cell B2.out
      have G9 := Lib.hid (G7.out.trans GG9.out)
      have L9 := Lib.hid (L7.out.trans GG9.out)
      go_wp2_with fail
      refine (HRN.out _ L9.out).mono ?_
      rintro e W10 ⟨uu, rfl, ho, g10⟩
      obtain ⟨qu, cuu, rfl, _, _⟩ := own_shape ho
      have b0 := g10.cell b0
      have b1 := g10.cell b1
      have b2 := g10.cell b2
      have G10 := Lib.hid (G9.out.trans g10)
      have L10 := Lib.hid (L9.out.trans g10)
      have HRU := Lib.hid (run_ok (c1 := c5) (c2 := cuu) (HRS.out.gr (L79.out _ (GG9.out.trans g10))) (RaS.of_own ho HLN.out) HLN.out (by have := HNN.out; omega))
      clear ho g10
      go_wp2_with fail
      refine HRU.out.mono ?_
      rintro e W11 ⟨rfl, g11⟩
      have b0 := g11.cell b0
      have b1 := g11.cell b1
      have b2 := g11.cell b2
      have G11 := Lib.hid (G10.out.trans g11)
      have L11 := Lib.hid (L10.out.trans g11)
      clear g11
      go_wp2_with fail
      have gd := (Gr.refl W11).drew
      replace b0 := gd.cell b0
      replace b1 := gd.cell b1
      replace b2 := gd.cell b2
      have GV := Lib.hid (L11.out.trans gd)
      have GW := Lib.hid (G11.out.trans gd)
      refine wp_region_held_drew (S := (fun w' => w'.cell? ⟨Bx, 0, none⟩ = some (.string sa) ∧ w'.cell? ⟨Bx, 1, none⟩ = some (.string sb) ∧ w'.cell? ⟨Bx, 2, none⟩ = some (.int .i64 sw))) (by kernel_rfl) ⟨b0, b1, b2⟩ (fun hHeld => ?_)
      have GY := Lib.hid (Gr.refl W11.drew)
      clear gd
      generalize W11.drew = V at *
      refine wpAnyH_take (i := 0) (v := (.int .i64 0)) (op_at rfl) (by kernel_rfl) (by kernel_rfl) (by kernel_rfl) (fun _ _ _ h => h) (Or.inl ⟨rfl, fun w hSw => ?_⟩) (by assumption) ?_
      · (try dsimp only at hSw); go_simp; try with_reducible rfl
      (try simp only [Act.put, List.setIfInBounds_toArray, List.set_cons_zero, List.set_cons_succ])
      refine wpAnyH_take (i := 1) (v := (.bool true)) (op_at rfl) (by kernel_rfl) (by kernel_rfl) (by kernel_rfl) (fun _ _ _ h => h) (Or.inl ⟨rfl, fun w hSw => ?_⟩) (by assumption) ?_
      · (try dsimp only at hSw); go_simp; try with_reducible rfl
      (try simp only [Act.put, List.setIfInBounds_toArray, List.set_cons_zero, List.set_cons_succ])
      refine wpAnyH_take (i := 2) (v := (.bool true)) (op_at rfl) (by kernel_rfl) (by kernel_rfl) (by kernel_rfl) (fun _ _ _ h => h) (Or.inl ⟨rfl, fun w hSw => ?_⟩) (by assumption) ?_
      · (try dsimp only at hSw); go_simp; try with_reducible rfl
      (try simp only [Act.put, List.setIfInBounds_toArray, List.set_cons_zero, List.set_cons_succ])
      refine wpAnyH_take (i := 3) (v := (.agg #[.string sa, .string sb, .int .i64 sw])) (op_at rfl) (by kernel_rfl) (by kernel_rfl) (by kernel_rfl) (fun _ _ _ h => h) (Or.inl ⟨rfl, fun w hSw => ?_⟩) (by assumption) ?_
      · (try dsimp only at hSw); go_simp; try with_reducible rfl
      (try simp only [Act.put, List.setIfInBounds_toArray, List.set_cons_zero, List.set_cons_succ])
      refine wpAnyH_take (i := 4) (v := (.slice pu n cu)) (op_at rfl) (by kernel_rfl) (by kernel_rfl) (by kernel_rfl) (fun _ _ _ h => h) (Or.inl ⟨rfl, fun w hSw => ?_⟩) (by assumption) ?_
      · (try dsimp only at hSw); go_simp; try with_reducible rfl
      (try simp only [Act.put, List.setIfInBounds_toArray, List.set_cons_zero, List.set_cons_succ])
      refine wpAnyH_ready (rs := [5]) (by kernel_rfl) (by simp) (AllReadyH.cons (op_at rfl) (fun K hK => ?_) AllReadyH.nil)
      go_simp
      (refine (HSM.out _ GV.out).mono ?_; rintro e V1 ⟨rfl, hg⟩; replace b0 := hg.cell b0; replace b1 := hg.cell b1; replace b2 := hg.cell b2; have GZ := Lib.hid (GY.out.trans hg); clear hg)
      go_wp2_with fail
      refine hK.out _ _ ⟨b0, b1, b2⟩ (fun hHeld => ?_)
      clear hK K
      (try simp only [Act.put, List.setIfInBounds_toArray, List.set_cons_zero, List.set_cons_succ])
      refine wpAnyH_take (i := 6) (v := (.bool true)) (op_at rfl) (by kernel_rfl) (by kernel_rfl) (by kernel_rfl) (fun _ _ _ h => h) (Or.inl ⟨rfl, fun w hSw => ?_⟩) (by assumption) ?_
      · (try dsimp only at hSw); go_simp; try with_reducible rfl
      (try simp only [Act.put, List.setIfInBounds_toArray, List.set_cons_zero, List.set_cons_succ])
      refine wpAnyH_take (i := 7) (v := (.bool true)) (op_at rfl) (by kernel_rfl) (by kernel_rfl) (by kernel_rfl) (fun _ _ _ h => h) (Or.inl ⟨rfl, fun w hSw => ?_⟩) (by assumption) ?_
      · (try dsimp only at hSw); go_simp; try with_reducible rfl
      (try simp only [Act.put, List.setIfInBounds_toArray, List.set_cons_zero, List.set_cons_succ])
      refine wpAnyH_take (i := 8) (v := (.bool true)) (op_at rfl) (by kernel_rfl) (by kernel_rfl) (by kernel_rfl) (fun _ _ _ h => h) (Or.inl ⟨rfl, fun w hSw => ?_⟩) (by assumption) ?_
      · (try dsimp only at hSw); go_simp; try with_reducible rfl
      (try simp only [Act.put, List.setIfInBounds_toArray, List.set_cons_zero, List.set_cons_succ])
      refine wpAnyH_done (by kernel_rfl) ?_ _
      go_wp2_with fail
      go_ret
      exact ⟨by simp, GW.out.trans GZ.out⟩
    · have hs0 : se ≠ 0 := hs
      have q1 : (se != 0) = true := bne_iff_ne.2 hs
      have q2 : (se == se) = true := by simp
      have HSM0 := Lib.hid (small_err (HV.out.gr G5.out) HS34.out (by rw [← HSE.out]; exact hs))
      rw [← HSE.out] at HSM0
      clear hs
      refine HSM0.out.mono ?_
      rintro e W6 ⟨rfl, g6⟩
      have G6 := Lib.hid (G5.out.trans g6)
      have G56 := Lib.hid g6
      have L6 := Lib.hid (L5.out.trans g6)
      clear g6 HSM0
      go_wp2_with fail
      obtain ⟨W7, hW7, g7, b0, b1, b2⟩ := box3 W6 (.string ⟨#[]⟩) (.string ⟨#[]⟩) (.int .i64 0) 33
      rw [hW7]
      have G7 := Lib.hid (G6.out.trans g7)
      have G57 := Lib.hid (G56.out.trans g7)
      have L7 := Lib.hid (L6.out.trans g7)
      have B0 := Lib.hid b0
      have B1 := Lib.hid b1
      have B2 := Lib.hid b2
      have L79 : Hid (∀ V, Gr W7 V → Gr W5 V) := fun V g => (G57.out.trans g)
      have HOP := Lib.hid (fun V (g : Gr W7 V) => HOP0.out V (L7.out.trans g))
      generalize hBx : W6.heap.size = Bx at *
      clear hW7 g7 hBx
      have GG7 := Lib.hid (Gr.refl W7)
      go_wp2_with fail
      refine (HW1.out _).mono ?_
      rintro e w9 ⟨rfl, rfl⟩
      go_wp2_with fail
      refine (HOP.out _ GG7.out).mono ?_
      rintro e w9 ⟨rfl, rfl⟩
      go_wp2_with fail
      refine (HW24.out _).mono ?_
      rintro e w9 ⟨rfl, rfl⟩
      obtain ⟨W8, hW8, gW8, s0, s1, s2⟩ := box3 W7 (.int .i64 bad) (.int .i64 z2) (.int .i64 z3) 3
      have HF1 := Lib.hid (HF1.out _ 3 W8 s0 s1 s2)
      have HW8 := Lib.hid hW8
      have GG8 := Lib.hid (GG7.out.trans gW8)
      clear hW8 gW8 s0 s1 s2
      go_wp2_with fail
      rw [HW8.out]
      refine HF1.out.mono ?_
      rintro e w9 ⟨rfl, rfl⟩
      clear HF1 HW8
      clear b0 b1 b2
      skip
      skip
      go_wp2_with fail
      refine (HW2.out _).mono ?_
      rintro e w9 ⟨rfl, rfl⟩
      go_wp2_with fail
      refine (HOP.out _ GG8.out).mono ?_
      rintro e w9 ⟨rfl, rfl⟩
      go_wp2_with fail
      refine (HW24.out _).mono ?_
      rintro e w9 ⟨rfl, rfl⟩
      obtain ⟨W9, hW9, gW9, s0, s1, s2⟩ := box3 W8 (.int .i64 bad) (.int .i64 y2) (.int .i64 z3) 3
      have HF1 := Lib.hid (HF2.out _ 3 W9 s0 s1 s2)
      have HW9 := Lib.hid hW9
      have GG9 := Lib.hid (GG8.out.trans gW9)
      clear hW9 gW9 s0 s1 s2
      go_wp2_with fail
      rw [HW9.out]
      refine HF1.out.mono ?_
      rintro e w9 ⟨rfl, rfl⟩
      clear HF1 HW9
      have b0 := GG9.out.cell B0.out
      have b1 := GG9.out.cell B1.out
      have b2 := GG9.out.cell B2.out
      have G9 := Lib.hid (G7.out.trans GG9.out)
      have L9 := Lib.hid (L7.out.trans GG9.out)
      go_wp2_with fail
      refine (HRN.out _ L9.out).mono ?_
      rintro e W10 ⟨uu, rfl, ho, g10⟩
      obtain ⟨qu, cuu, rfl, _, _⟩ := own_shape ho
      have b0 := g10.cell b0
      have b1 := g10.cell b1
      have b2 := g10.cell b2
      have G10 := Lib.hid (G9.out.trans g10)
      have L10 := Lib.hid (L9.out.trans g10)
      have HRU := Lib.hid (run_ok (c1 := c5) (c2 := cuu) (HRS.out.gr (L79.out _ (GG9.out.trans g10))) (RaS.of_own ho HLN.out) HLN.out (by have := HNN.out; omega))
      clear ho g10
      go_wp2_with fail
      refine HRU.out.mono ?_
      rintro e W11 ⟨rfl, g11⟩
      have b0 := g11.cell b0
      have b1 := g11.cell b1
      have b2 := g11.cell b2
      have G11 := Lib.hid (G10.out.trans g11)
      have L11 := Lib.hid (L10.out.trans g11)
      clear g11
      go_wp2_with fail
      go_ret
      exact ⟨by simp, G11.out⟩
  · have q3 : (ne != 0) = true := bne_iff_ne.2 hn0
    have HNX := Lib.hid (next_err (HV.out.gr G4.out) HS34.out (by rw [← HNE.out]; exact hn0))
    rw [← HNE.out] at HNX
    have HRE : Hid (∀ (vv : Value) V, Calls Tryz.prog 16 #[.slice none 0 0, .int .i64 ne, .int .i64 ne, vv] V fun e w' => e = .returned (.bool true) ∧ V = w') := fun vv V => run_err ne hn0 vv V
    have q4 : (ne == 0) = false := beq_eq_false_iff_ne.2 hn0
    clear hn0
    refine HNX.out.mono ?_
    rintro e W5 ⟨rfl, g5⟩
    have G5 := Lib.hid (G4.out.trans g5)
    have L5 := Lib.hid (L4.out.trans g5)
    clear g5 HNX
    go_wp2_with fail
    by_cases hs : se = 0
    · subst hs
      have hse0 : smallE l = 0 := HSE.out.symm
      have HSM0 := Lib.hid (small_ok (HV.out.gr G5.out) (HBT.out.gr G5.out) HS34.out hse0)
      have HSM : Hid (∀ V, Gr W2 V → Calls Tryz.prog 18 #[.slice pu n cu] V fun e w' => e = .returned (raV (smallR l)) ∧ Gr V w') := fun V g => refSmall_c (HU2.out.gr g) (smallE_zero hse0).1
      generalize smallR l = sr at *
      obtain ⟨sa, sb, sw⟩ := sr
      unfold raV at HSM0 HSM
      simp only at HSM0 HSM
      clear hse0
      refine HSM0.out.mono ?_
      rintro e W6 ⟨rfl, g6⟩
      have G6 := Lib.hid (G5.out.trans g6)
      have G56 := Lib.hid g6
      have L6 := Lib.hid (L5.out.trans g6)
      clear g6 HSM0
      go_wp2_with fail
      obtain ⟨W7, hW7, g7, b0, b1, b2⟩ := box3 W6 (.string sa) (.string sb) (.int .i64 sw) 33
      rw [hW7]
      have G7 := Lib.hid (G6.out.trans g7)
      have G57 := Lib.hid (G56.out.trans g7)
      have L7 := Lib.hid (L6.out.trans g7)
      have B0 := Lib.hid b0
      have B1 := Lib.hid b1
      have B2 := Lib.hid b2
      have L79 : Hid (∀ V, Gr W7 V → Gr W5 V) := fun V g => (G57.out.trans g)
      have HOP := Lib.hid (fun V (g : Gr W7 V) => HOP0.out V (L7.out.trans g))
      generalize hBx : W6.heap.size = Bx at *
      clear hW7 g7 hBx
      have GG7 := Lib.hid (Gr.refl W7)
      go_wp2_with fail
      refine (HW1.out _).mono ?_
      rintro e w9 ⟨rfl, rfl⟩
      go_wp2_with fail
      refine (HOP.out _ GG7.out).mono ?_
      rintro e w9 ⟨rfl, rfl⟩
      go_wp2_with fail
      refine (HW24.out _).mono ?_
      rintro e w9 ⟨rfl, rfl⟩
      obtain ⟨W8, hW8, gW8, s0, s1, s2⟩ := box3 W7 (.int .i64 bad) (.int .i64 z2) (.int .i64 z3) 3
      have HF1 := Lib.hid (HF1.out _ 3 W8 s0 s1 s2)
      have HW8 := Lib.hid hW8
      have GG8 := Lib.hid (GG7.out.trans gW8)
      clear hW8 gW8 s0 s1 s2
      go_wp2_with fail
      rw [HW8.out]
      refine HF1.out.mono ?_
      rintro e w9 ⟨rfl, rfl⟩
      clear HF1 HW8
      clear b0 b1 b2
      skip
      skip
      go_wp2_with fail
      refine (HW2.out _).mono ?_
      rintro e w9 ⟨rfl, rfl⟩
      go_wp2_with fail
      refine (HOP.out _ GG8.out).mono ?_
      rintro e w9 ⟨rfl, rfl⟩
      go_wp2_with fail
      refine (HW24.out _).mono ?_
      rintro e w9 ⟨rfl, rfl⟩
      obtain ⟨W9, hW9, gW9, s0, s1, s2⟩ := box3 W8 (.int .i64 bad) (.int .i64 y2) (.int .i64 z3) 3
      have HF1 := Lib.hid (HF2.out _ 3 W9 s0 s1 s2)
      have HW9 := Lib.hid hW9
      have GG9 := Lib.hid (GG8.out.trans gW9)
      clear hW9 gW9 s0 s1 s2
      go_wp2_with fail
      rw [HW9.out]
      refine HF1.out.mono ?_
      rintro e w9 ⟨rfl, rfl⟩
      clear HF1 HW9
      have b0 := GG9.out.cell B0.out
      have b1 := GG9.out.cell B1.out
      have b2 := GG9.out.cell B2.out
      have G9 := Lib.hid (G7.out.trans GG9.out)
      have L9 := Lib.hid (L7.out.trans GG9.out)
      go_wp2_with fail
      refine (HRE.out _ _).mono ?_
      rintro e w9 ⟨rfl, rfl⟩
      go_wp2_with fail
      have gd := (Gr.refl W9).drew
      replace b0 := gd.cell b0
      replace b1 := gd.cell b1
      replace b2 := gd.cell b2
      have GV := Lib.hid (L9.out.trans gd)
      have GW := Lib.hid (G9.out.trans gd)
      refine wp_region_held_drew (S := (fun w' => w'.cell? ⟨Bx, 0, none⟩ = some (.string sa) ∧ w'.cell? ⟨Bx, 1, none⟩ = some (.string sb) ∧ w'.cell? ⟨Bx, 2, none⟩ = some (.int .i64 sw))) (by kernel_rfl) ⟨b0, b1, b2⟩ (fun hHeld => ?_)
      have GY := Lib.hid (Gr.refl W9.drew)
      clear gd
      generalize W9.drew = V at *
      refine wpAnyH_take (i := 0) (v := (.int .i64 0)) (op_at rfl) (by kernel_rfl) (by kernel_rfl) (by kernel_rfl) (fun _ _ _ h => h) (Or.inl ⟨rfl, fun w hSw => ?_⟩) (by assumption) ?_
      · (try dsimp only at hSw); go_simp; try with_reducible rfl
      (try simp only [Act.put, List.setIfInBounds_toArray, List.set_cons_zero, List.set_cons_succ])
      refine wpAnyH_take (i := 1) (v := (.bool true)) (op_at rfl) (by kernel_rfl) (by kernel_rfl) (by kernel_rfl) (fun _ _ _ h => h) (Or.inl ⟨rfl, fun w hSw => ?_⟩) (by assumption) ?_
      · (try dsimp only at hSw); go_simp; try with_reducible rfl
      (try simp only [Act.put, List.setIfInBounds_toArray, List.set_cons_zero, List.set_cons_succ])
      refine wpAnyH_take (i := 2) (v := (.bool true)) (op_at rfl) (by kernel_rfl) (by kernel_rfl) (by kernel_rfl) (fun _ _ _ h => h) (Or.inl ⟨rfl, fun w hSw => ?_⟩) (by assumption) ?_
      · (try dsimp only at hSw); go_simp; try with_reducible rfl
      (try simp only [Act.put, List.setIfInBounds_toArray, List.set_cons_zero, List.set_cons_succ])
      refine wpAnyH_take (i := 3) (v := (.agg #[.string sa, .string sb, .int .i64 sw])) (op_at rfl) (by kernel_rfl) (by kernel_rfl) (by kernel_rfl) (fun _ _ _ h => h) (Or.inl ⟨rfl, fun w hSw => ?_⟩) (by assumption) ?_
      · (try dsimp only at hSw); go_simp; try with_reducible rfl
      (try simp only [Act.put, List.setIfInBounds_toArray, List.set_cons_zero, List.set_cons_succ])
      refine wpAnyH_take (i := 4) (v := (.slice pu n cu)) (op_at rfl) (by kernel_rfl) (by kernel_rfl) (by kernel_rfl) (fun _ _ _ h => h) (Or.inl ⟨rfl, fun w hSw => ?_⟩) (by assumption) ?_
      · (try dsimp only at hSw); go_simp; try with_reducible rfl
      (try simp only [Act.put, List.setIfInBounds_toArray, List.set_cons_zero, List.set_cons_succ])
      refine wpAnyH_ready (rs := [5]) (by kernel_rfl) (by simp) (AllReadyH.cons (op_at rfl) (fun K hK => ?_) AllReadyH.nil)
      go_simp
      (refine (HSM.out _ GV.out).mono ?_; rintro e V1 ⟨rfl, hg⟩; replace b0 := hg.cell b0; replace b1 := hg.cell b1; replace b2 := hg.cell b2; have GZ := Lib.hid (GY.out.trans hg); clear hg)
      go_wp2_with fail
      refine hK.out _ _ ⟨b0, b1, b2⟩ (fun hHeld => ?_)
      clear hK K
      (try simp only [Act.put, List.setIfInBounds_toArray, List.set_cons_zero, List.set_cons_succ])
      refine wpAnyH_take (i := 6) (v := (.bool true)) (op_at rfl) (by kernel_rfl) (by kernel_rfl) (by kernel_rfl) (fun _ _ _ h => h) (Or.inl ⟨rfl, fun w hSw => ?_⟩) (by assumption) ?_
      · (try dsimp only at hSw); go_simp; try with_reducible rfl
      (try simp only [Act.put, List.setIfInBounds_toArray, List.set_cons_zero, List.set_cons_succ])
      refine wpAnyH_take (i := 7) (v := (.bool true)) (op_at rfl) (by kernel_rfl) (by kernel_rfl) (by kernel_rfl) (fun _ _ _ h => h) (Or.inl ⟨rfl, fun w hSw => ?_⟩) (by assumption) ?_
      · (try dsimp only at hSw); go_simp; try with_reducible rfl
      (try simp only [Act.put, List.setIfInBounds_toArray, List.set_cons_zero, List.set_cons_succ])
      refine wpAnyH_take (i := 8) (v := (.bool true)) (op_at rfl) (by kernel_rfl) (by kernel_rfl) (by kernel_rfl) (fun _ _ _ h => h) (Or.inl ⟨rfl, fun w hSw => ?_⟩) (by assumption) ?_
      · (try dsimp only at hSw); go_simp; try with_reducible rfl
      (try simp only [Act.put, List.setIfInBounds_toArray, List.set_cons_zero, List.set_cons_succ])
      refine wpAnyH_done (by kernel_rfl) ?_ _
      go_wp2_with fail
      go_ret
      exact ⟨by simp, GW.out.trans GZ.out⟩
    · have hs0 : se ≠ 0 := hs
      have q1 : (se != 0) = true := bne_iff_ne.2 hs
      have q2 : (se == se) = true := by simp
      have HSM0 := Lib.hid (small_err (HV.out.gr G5.out) HS34.out (by rw [← HSE.out]; exact hs))
      rw [← HSE.out] at HSM0
      clear hs
      refine HSM0.out.mono ?_
      rintro e W6 ⟨rfl, g6⟩
      have G6 := Lib.hid (G5.out.trans g6)
      have G56 := Lib.hid g6
      have L6 := Lib.hid (L5.out.trans g6)
      clear g6 HSM0
      go_wp2_with fail
      obtain ⟨W7, hW7, g7, b0, b1, b2⟩ := box3 W6 (.string ⟨#[]⟩) (.string ⟨#[]⟩) (.int .i64 0) 33
      rw [hW7]
      have G7 := Lib.hid (G6.out.trans g7)
      have G57 := Lib.hid (G56.out.trans g7)
      have L7 := Lib.hid (L6.out.trans g7)
      have B0 := Lib.hid b0
      have B1 := Lib.hid b1
      have B2 := Lib.hid b2
      have L79 : Hid (∀ V, Gr W7 V → Gr W5 V) := fun V g => (G57.out.trans g)
      have HOP := Lib.hid (fun V (g : Gr W7 V) => HOP0.out V (L7.out.trans g))
      generalize hBx : W6.heap.size = Bx at *
      clear hW7 g7 hBx
      have GG7 := Lib.hid (Gr.refl W7)
      go_wp2_with fail
      refine (HW1.out _).mono ?_
      rintro e w9 ⟨rfl, rfl⟩
      go_wp2_with fail
      refine (HOP.out _ GG7.out).mono ?_
      rintro e w9 ⟨rfl, rfl⟩
      go_wp2_with fail
      refine (HW24.out _).mono ?_
      rintro e w9 ⟨rfl, rfl⟩
      obtain ⟨W8, hW8, gW8, s0, s1, s2⟩ := box3 W7 (.int .i64 bad) (.int .i64 z2) (.int .i64 z3) 3
      have HF1 := Lib.hid (HF1.out _ 3 W8 s0 s1 s2)
      have HW8 := Lib.hid hW8
      have GG8 := Lib.hid (GG7.out.trans gW8)
      clear hW8 gW8 s0 s1 s2
      go_wp2_with fail
      rw [HW8.out]
      refine HF1.out.mono ?_
      rintro e w9 ⟨rfl, rfl⟩
      clear HF1 HW8
      clear b0 b1 b2
      skip
      skip
      go_wp2_with fail
      refine (HW2.out _).mono ?_
      rintro e w9 ⟨rfl, rfl⟩
      go_wp2_with fail
      refine (HOP.out _ GG8.out).mono ?_
      rintro e w9 ⟨rfl, rfl⟩
      go_wp2_with fail
      refine (HW24.out _).mono ?_
      rintro e w9 ⟨rfl, rfl⟩
      obtain ⟨W9, hW9, gW9, s0, s1, s2⟩ := box3 W8 (.int .i64 bad) (.int .i64 y2) (.int .i64 z3) 3
      have HF1 := Lib.hid (HF2.out _ 3 W9 s0 s1 s2)
      have HW9 := Lib.hid hW9
      have GG9 := Lib.hid (GG8.out.trans gW9)
      clear hW9 gW9 s0 s1 s2
      go_wp2_with fail
      rw [HW9.out]
      refine HF1.out.mono ?_
      rintro e w9 ⟨rfl, rfl⟩
      clear HF1 HW9
      have b0 := GG9.out.cell B0.out
      have b1 := GG9.out.cell B1.out
      have b2 := GG9.out.cell B2.out
      have G9 := Lib.hid (G7.out.trans GG9.out)
      have L9 := Lib.hid (L7.out.trans GG9.out)
      go_wp2_with fail
      refine (HRE.out _ _).mono ?_
      rintro e w9 ⟨rfl, rfl⟩
      go_wp2_with fail
      go_ret
      exact ⟨by simp, G9.out⟩
end Go.Proofs.YtgjcbiobedhjaaaGreatDoor
