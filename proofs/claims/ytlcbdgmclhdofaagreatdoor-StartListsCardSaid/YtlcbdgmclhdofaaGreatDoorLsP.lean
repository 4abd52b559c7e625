/- StartLists: the law, walked. -/
import Derived.Test.YtlcbdgmclhdofaaGreatDoorGSaI
import Derived.Test.YtlcbdgmclhdofaaGreatDoorGLsD
namespace Go.Proofs.YtlcbdgmclhdofaaGreatDoor
open Go.RowKit Go.Lib
set_option linter.unusedSimpArgs false
set_option linter.unusedVariables false
theorem ent_range {xs : List EntR} (h : listE 160 (entE xs) xs = 0) : xs.length ≤ 160 ∧ ∀ x ∈ xs, 0 ≤ x.sd ∧ x.sd ≤ 999999999 := by
  unfold listE at h
  split at h
  · cases h
  · rename_i hl
    refine ⟨by omega, fun x hm => ?_⟩
    obtain ⟨i, hi, hx⟩ := List.mem_iff_getElem.1 hm
    have h0 := errG_zero xs.length 0 h (by omega) i x (by omega) (by omega) (by rw [List.getElem?_eq_getElem hi, hx])
    unfold entE at h0
    exact outE_zero.1 (firstE_zero h0 (outE x.sd 0 999999999) (by simp))
theorem firstE_two0 (z q : Int) (h : z = 0) : firstE [z, q] = q := by
  subst h
  by_cases h2 : q = 0 <;> simp [firstE, h2]
theorem firstE_two1 (z q : Int) (h : z ≠ 0) : firstE [z, q] = z := by simp [firstE, h]
set_option maxHeartbeats 4000000 in
set_option maxRecDepth 100000 in
theorem lawLists_c (I : InsNOK) (xs : List EntR) (v : Value) (m key : Int) (w : World) (hv : EntAts w v xs) (hb : xs.length * 40 ≤ 140737488355328) (hA : AwakeOK w) :
    Calls Tryz.prog 3 #[v, .int .i64 m, .int .i64 key] w fun e w' => e = .returned (.bool true) ∧ Gr w w' := by
  have HA := Lib.hid hA
  have HCv := Lib.hid (fun W (g : Gr w W) => ents_c (hv.gr g) hb)
  have HSH := Lib.hid (fun W u (h : EntAts W u xs) => shortEnts_c 24 (by omega) h)
  have HRC := Lib.hid (fun W u (h : EntAts W u xs) => refEnts_c h)
  have HCk := Lib.hid (fun W (g : Gr w W) => checkEnts_c xs v W (hv.gr g))
  have HD := Lib.hid (fun W => refDrawE_c key xs.length W)
  obtain ⟨q, hq⟩ : ∃ q, q = outE m 1 16 := ⟨_, rfl⟩
  have hOut : ∀ W, Calls Tryz.prog 14 #[.int .i64 m, .int .i64 1, .int .i64 16] W fun e w' => e = .returned (.int .i64 q) ∧ W = w' := fun W => by
    rw [hq]
    exact outside6_c m 1 16 W
  have HOut := Lib.hid hOut
  have HF := Lib.hid (fun b c W (s0 : W.cell? ⟨b, 0, none⟩ = some (.int .i64 (listE 160 (entE xs) xs))) (s1 : W.cell? ⟨b, 1, none⟩ = some (.int .i64 q)) => first6_c _ q b c W s0 s1)
  have HX := Lib.hid hv
  have HB := Lib.hid (fun W (g : Gr w W) h => groups_bad1 (listE 160 (entE xs) xs) m key v W (fun W2 g2 => checkEnts_c xs v W2 (hv.gr (g.trans g2))) h)
  rw [← hq] at HB
  have HEX := Lib.hid (fun h => ent_range (xs := xs) h)
  have HSB := Lib.hid (fun W (g : Gr w W) h => seededBad_c xs v key W (hv.gr g) h)
  have HSG := Lib.hid (fun W (g : Gr w W) h h1 => seededGood_c I xs v key W (hv.gr g) h h1)
  have HSD := Lib.hid (fun W (g : Gr w W) h1 => seeded_c I xs v key W (hv.gr g) h1)
  have HQ := Lib.hid hq
  obtain ⟨p, n, cap, rfl, HNX⟩ : ∃ p n cap, v = .slice p n cap ∧ Hid (n = xs.length) := by
    obtain ⟨⟨p, cap, rfl, _⟩⟩ := hv
    exact ⟨p, _, cap, rfl, rfl⟩
  generalize hz : listE 160 (entE xs) xs = z at *
  generalize hE : drawE key xs.length = E at *
  rw [← HNX.out] at HD
  have HE := Lib.hid hE
  clear hv hb hA hOut hq hz hE I
  go_enter Tryz.func3, Tryz.ntmps3
  go_wp2_with fail
  refine (HCv.out _ (Gr.refl w)).mono ?_
  rintro e W1 ⟨u, rfl, hu, g⟩
  obtain ⟨pu, nu, cu, rfl⟩ : ∃ p n c, u = .slice p n c := by
    obtain ⟨⟨p, cap, rfl, _⟩⟩ := hu
    exact ⟨p, _, cap, rfl⟩
  go_wp2_with fail
  refine (HA.out _ g).mono ?_
  rintro e W2 ⟨rfl, hg⟩
  replace hu := hu.gr hg
  replace g := g.trans hg
  clear hg
  go_wp2_with fail
  refine (HSH.out _ _ hu).mono ?_
  rintro e W3 ⟨⟨sh, rfl, hr⟩, rfl⟩
  cases sh
  · clear hr
    go_wp2_with fail
    refine (HA.out _ g).mono ?_
    rintro e Wa ⟨rfl, g4⟩
    replace g4 := g.trans g4
    go_wp2_with fail
    go_ret
    exact ⟨rfl, g4⟩
  obtain ⟨hn1, hn2⟩ := hr rfl
  have HN1 := Lib.hid hn1
  clear hr hn1 hn2
  go_wp2_with fail
  refine (HRC.out _ _ hu).mono ?_
  rintro e W4 ⟨rfl, hg⟩
  replace hu := hu.gr hg
  replace g := g.trans hg
  clear hg
  go_wp2_with fail
  refine (HCk.out _ g).mono ?_
  rintro e W5 ⟨rfl, hg⟩
  replace hu := hu.gr hg
  replace g := g.trans hg
  clear hg
  go_wp2_with fail
  by_cases hz0 : z = 0
  · obtain ⟨hl160, hsd⟩ := HEX.out hz0
    have HLN : Hid (xs.length ≤ 1000) := by unfold Hid; omega
    have hl24 : xs.length ≤ 24 := by rcases HN1.out with h | h <;> omega
    have HSDR := Lib.hid hsd
    subst hz0
    rw [firstE_two0 0 q rfl] at HF
    have hB2 := HB
    rw [firstE_two0 0 q rfl] at hB2
    by_cases hE0 : E = 0
    · obtain ⟨k1, k2, -, -⟩ := drawE_zero (HE.out.trans hE0)
      obtain ⟨kn, rfl⟩ : ∃ k : Nat, key = k := ⟨key.toNat, by omega⟩
      subst hE0
      have HS : Hid (∀ W, Gr w W → Calls Tryz.prog 11 #[.slice p n cap, .int .i64 (kn : Int)] W fun e w' => ∃ po r, e = .returned (.tuple #[.slice po n n, .int .i64 0]) ∧ OrdL xs kn r ∧ ReadsI w' (.slice po n n) (natI r) ∧ Gr W w') := fun W g => by
        refine (HSG.out W g rfl hl160).mono ?_
        rintro e w' ⟨u, rfl, hr, hg⟩
        obtain ⟨kn', po, r, hk, rfl, ho, hat⟩ := hr.good rfl
        obtain rfl : kn' = kn := by omega
        rw [HNX.out]
        exact ⟨po, r, rfl, ho, reads_ord ho.len hat, hg⟩
      have HRS := Lib.hid (fun W u (h : EntAts W u xs) => refSeeded_c xs kn u W h hl24 (by omega) (by omega) HSDR.out)
      by_cases hq0 : q = 0
      · have hm := outE_zero.1 (HQ.out.symm.trans hq0)
        obtain ⟨mn, rfl⟩ : ∃ k : Nat, m = k := ⟨m.toNat, by omega⟩
        subst hq0
        have HG : Hid (∀ W, Gr w W → Calls Tryz.prog 12 #[.slice p n cap, .int .i64 (mn : Int), .int .i64 (kn : Int)] W fun e w' => ∃ G vs r, e = .returned (.tuple #[.slice (some ⟨G, 0, none⟩) mn mn, .int .i64 0]) ∧ OrdL xs kn r ∧ GRow w' G G vs (grpL mn r xs.length) ∧ Gr W w') := fun W g => by
          refine (groups_good _ xs.length mn kn (fun r => OrdL xs kn r) W (by omega) (by omega) (fun r h => h.len) hl160 (fun W2 g2 => HCk.out W2 (g.trans g2)) (fun W2 g2 => (HSD.out W2 (g.trans g2) hl160).mono ?_)).mono ?_
          · rintro e w' ⟨u, rfl, hr, hg⟩
            obtain ⟨kn', po, r, hk, rfl, ho, hat⟩ := hr.good rfl
            obtain rfl : kn' = kn := by omega
            exact ⟨po, r, rfl, ho, hat, hg⟩
          · rintro e w' ⟨G, vs, r, rfl, h1, h2, h3⟩
            exact ⟨G, vs, r, rfl, h1, h2, h3⟩
        have HRG : Hid (∀ W u, EntAts W u xs → Calls Tryz.prog 18 #[u, .int .i64 (mn : Int), .int .i64 (kn : Int)] W fun e w' => ∃ G vs r, e = .returned (.slice (some ⟨G, 0, none⟩) mn mn) ∧ OrdL xs kn r ∧ GRow w' G G vs (grpL mn r xs.length) ∧ Gr W w') := fun W u h => by
          refine (refGroups_good u xs.length mn kn (fun r => OrdL xs kn r) W (by omega) (by omega) (fun r h => h.len) hl160 ((HRS.out W u h).mono ?_)).mono ?_
          · rintro e w' ⟨r, p, c, rfl, ho, hat, hg⟩
            exact ⟨p, r, c, rfl, ho, hat, hg⟩
          · rintro e w' ⟨G, vs, r, rfl, h1, h2, h3⟩
            exact ⟨G, vs, r, rfl, h1, h2, h3⟩
        clear HB hB2 HSB HSG HSD HEX
        refine (HS.out _ g).mono ?_
        rintro e W6 ⟨po, r, rfl, ho, hro, hg⟩
        replace hu := hu.gr hg
        replace g := g.trans hg
        clear hg
        go_wp2_with fail
        refine (HG.out _ g).mono ?_
        rintro e W7 ⟨G, vs, r2, rfl, ho2, hrow, hg⟩
        replace hro := hro.gr hg
        replace hu := hu.gr hg
        replace g := g.trans hg
        clear hg
        obtain ⟨WW, hWW, gW, s0, s1⟩ := box2 W7 (.int .i64 0) (.int .i64 0) 3
        go_wp2_with fail
        refine (HOut.out _).mono ?_
        rintro e w' ⟨rfl, rfl⟩
        go_wp2_with fail
        refine (HF.out _ _ _ s0 s1).mono ?_
        rintro e w' ⟨rfl, rfl⟩
        replace hu := hu.gr gW
        replace g := g.trans gW
        replace hro := hro.gr gW
        replace hrow := hrow.gr gW
        clear s0 s1 hWW gW
        go_wp2_with fail
        refine (HD.out _).mono ?_
        rintro e w' ⟨rfl, rfl⟩
        go_wp2_with fail
        refine (HD.out _).mono ?_
        rintro e w' ⟨rfl, rfl⟩
        go_wp2_with fail
        refine (HRS.out _ _ hu).mono ?_
        rintro e W8 ⟨r3, p3, c3, rfl, ho3, hro3, hg⟩
        replace hro := hro.gr hg
        replace hrow := hrow.gr hg
        replace hu := hu.gr hg
        replace g := g.trans hg
        clear hg
        obtain rfl := OrdL.unique ho ho3
        have hr3 := reads_ord (p := p3) (c := c3) ho.len hro3
        clear hro3
        go_wp2_with fail
        refine (list6_ok hro hr3 (by rw [natI_len, ho.len]; exact HLN.out)).mono ?_
        rintro e W9 ⟨rfl, hg⟩
        replace hrow := hrow.gr hg
        replace hu := hu.gr hg
        replace g := g.trans hg
        clear hg
        clear hro hr3
        go_wp2_with fail
        obtain rfl := OrdL.unique ho ho2
        refine (HRG.out _ _ hu).mono ?_
        rintro e W10 ⟨G2, vs2, r4, rfl, ho4, hrow2, hg⟩
        obtain rfl := OrdL.unique ho ho4
        replace hrow := hrow.gr hg
        replace g := g.trans hg
        clear hg hu ho2 ho4
        go_wp2_with fail
        have HR1 := Lib.hid hrow
        have HR2 := Lib.hid hrow2
        have HGG := Lib.hid g
        have HRL := Lib.hid ho.len
        clear hrow hrow2 g ho ho3
        go_loopg [16] mn (fun gk s16 wr => ∃ i : Nat, s16 = .int .i64 i ∧ gk + i = mn ∧ Gr W10 wr)
        case atStart => exact ⟨0, rfl, by omega, Gr.refl _⟩
        case round =>
          obtain ⟨i, rfl, hgk, hg⟩ := hrel
          by_cases hlt : i < mn
          · have hLl := grpL_len mn r xs.length
            obtain ⟨l, hl⟩ : ∃ l, (grpL mn r xs.length)[i]? = some l := ⟨_, List.getElem?_eq_getElem (by rw [hLl]; exact hlt)⟩
            obtain ⟨v1, hv1⟩ : ∃ v, vs[i]? = some v := ⟨_, List.getElem?_eq_getElem (by rw [HR1.out.len, hLl]; exact hlt)⟩
            obtain ⟨v2, hv2⟩ : ∃ v, vs2[i]? = some v := ⟨_, List.getElem?_eq_getElem (by rw [HR2.out.len, hLl]; exact hlt)⟩
            have hll := grpL_le mn r xs.length l (List.mem_of_getElem? hl)
            have hg2 := hg.drew
            have a0 := hg2.cell (HR1.out.cell hv1)
            have b0 := hg2.cell (HR2.out.cell hv2)
            have HSM := Lib.hid (fun W (k : Gr W10 W) => same_c ((HR1.out.reads hv1 hl).gr k) ((HR2.out.reads hv2 hl).gr k) (by rw [natI_len]; have := HLN.out; omega))
            have hii : (i : Int) < mn := by omega
            clear hv1 hv2 hl hll hLl hg
            go_wp2_with fail
            refine wp_region_held_drew (S := (fun w' => w'.cell? ⟨G, i, none⟩ = some v1 ∧ w'.cell? ⟨G2, i, none⟩ = some v2)) (by kernel_rfl) ⟨a0, b0⟩ (fun hHeld => ?_)
            generalize wr.drew = V at *
            refine wpAnyH_take (i := 0) (v := (.slice (some ⟨G, 0, none⟩) mn mn)) (op_at rfl) (by kernel_rfl) (by kernel_rfl) (by kernel_rfl) (fun _ _ _ h => h) (Or.inl ⟨rfl, fun w hSw => ?_⟩) (by assumption) ?_
            · (try dsimp only at hSw); go_simp; try with_reducible rfl
            (try simp only [Act.put, List.setIfInBounds_toArray, List.set_cons_zero, List.set_cons_succ])
            refine wpAnyH_take (i := 1) (v := (.int .i64 (i : Int))) (op_at rfl) (by kernel_rfl) (by kernel_rfl) (by kernel_rfl) (fun _ _ _ h => h) (Or.inl ⟨rfl, fun w hSw => ?_⟩) (by assumption) ?_
            · (try dsimp only at hSw); go_simp; try with_reducible rfl
            (try simp only [Act.put, List.setIfInBounds_toArray, List.set_cons_zero, List.set_cons_succ])
            refine wpAnyH_take (i := 2) (v := (.pointer (some ⟨G, i, none⟩))) (op_at rfl) (by kernel_rfl) (by kernel_rfl) (by kernel_rfl) (fun _ _ _ h => h) (Or.inl ⟨rfl, fun w hSw => ?_⟩) (by assumption) ?_
            · (try dsimp only at hSw); go_simp; try with_reducible rfl
            (try simp only [Act.put, List.setIfInBounds_toArray, List.set_cons_zero, List.set_cons_succ])
            refine wpAnyH_take (i := 3) (v := v1) (op_at rfl) (by kernel_rfl) (by kernel_rfl) (by kernel_rfl) (fun _ _ _ h => h) (Or.inl ⟨rfl, fun w hSw => ?_⟩) (by assumption) ?_
            · (try dsimp only at hSw); go_simp; try with_reducible rfl
            (try simp only [Act.put, List.setIfInBounds_toArray, List.set_cons_zero, List.set_cons_succ])
            refine wpAnyH_take (i := 4) (v := (.slice (some ⟨G2, 0, none⟩) mn mn)) (op_at rfl) (by kernel_rfl) (by kernel_rfl) (by kernel_rfl) (fun _ _ _ h => h) (Or.inl ⟨rfl, fun w hSw => ?_⟩) (by assumption) ?_
            · (try dsimp only at hSw); go_simp; try with_reducible rfl
            (try simp only [Act.put, List.setIfInBounds_toArray, List.set_cons_zero, List.set_cons_succ])
            refine wpAnyH_take (i := 5) (v := (.int .i64 (i : Int))) (op_at rfl) (by kernel_rfl) (by kernel_rfl) (by kernel_rfl) (fun _ _ _ h => h) (Or.inl ⟨rfl, fun w hSw => ?_⟩) (by assumption) ?_
            · (try dsimp only at hSw); go_simp; try with_reducible rfl
            (try simp only [Act.put, List.setIfInBounds_toArray, List.set_cons_zero, List.set_cons_succ])
            refine wpAnyH_take (i := 6) (v := (.pointer (some ⟨G2, i, none⟩))) (op_at rfl) (by kernel_rfl) (by kernel_rfl) (by kernel_rfl) (fun _ _ _ h => h) (Or.inl ⟨rfl, fun w hSw => ?_⟩) (by assumption) ?_
            · (try dsimp only at hSw); go_simp; try with_reducible rfl
            (try simp only [Act.put, List.setIfInBounds_toArray, List.set_cons_zero, List.set_cons_succ])
            refine wpAnyH_take (i := 7) (v := v2) (op_at rfl) (by kernel_rfl) (by kernel_rfl) (by kernel_rfl) (fun _ _ _ h => h) (Or.inl ⟨rfl, fun w hSw => ?_⟩) (by assumption) ?_
            · (try dsimp only at hSw); go_simp; try with_reducible rfl
            (try simp only [Act.put, List.setIfInBounds_toArray, List.set_cons_zero, List.set_cons_succ])
            refine wpAnyH_ready (rs := [8]) (by kernel_rfl) (by simp) (AllReadyH.cons (op_at rfl) (fun K hK => ?_) AllReadyH.nil)
            go_simp
            (refine (HSM.out _ hg2).mono ?_; rintro e w8 ⟨rfl, hg⟩; replace a0 := hg.cell a0; replace b0 := hg.cell b0; replace hg2 := hg2.trans hg; clear hg)
            go_wp2_with fail
            refine hK.out _ _ ⟨a0, b0⟩ (fun hHeld => ?_)
            clear hK K
            (try simp only [Act.put, List.setIfInBounds_toArray, List.set_cons_zero, List.set_cons_succ])
            refine wpAnyH_take (i := 9) (v := (.bool false)) (op_at rfl) (by kernel_rfl) (by kernel_rfl) (by kernel_rfl) (fun _ _ _ h => h) (Or.inl ⟨rfl, fun w hSw => ?_⟩) (by assumption) ?_
            · (try dsimp only at hSw); go_simp; try with_reducible rfl
            (try simp only [Act.put, List.setIfInBounds_toArray, List.set_cons_zero, List.set_cons_succ])
            refine wpAnyH_done (by kernel_rfl) ?_ _
            go_wp2_with fail
            go_roundg (gk - 1)
            case measure => omega
            case rel => exact ⟨i + 1, by go_num, by omega, hg2⟩
          · obtain rfl : i = mn := by omega
            have HG5 := Lib.hid (HGG.out.trans hg)
            go_wp2_with fail
            go_ret
            exact ⟨rfl, HG5.out⟩
      · have q1 : (q == 0) = false := by simpa using hq0
        have q2 : (q != 0) = true := by simpa [bne] using q1
        have HG := Lib.hid (fun W g => hB2.out W g hq0)
        clear HB hB2 HSB HSG HSD HEX
        refine (HS.out _ g).mono ?_
        rintro e W6 ⟨po, r, rfl, ho, hro, hg⟩
        replace hu := hu.gr hg
        replace g := g.trans hg
        clear hg
        go_wp2_with fail
        refine (HG.out _ g).mono ?_
        rintro e W7 ⟨rfl, hg⟩
        replace hro := hro.gr hg
        replace hu := hu.gr hg
        replace g := g.trans hg
        clear hg
        obtain ⟨WW, hWW, gW, s0, s1⟩ := box2 W7 (.int .i64 0) (.int .i64 q) 3
        go_wp2_with fail
        refine (HOut.out _).mono ?_
        rintro e w' ⟨rfl, rfl⟩
        go_wp2_with fail
        refine (HF.out _ _ _ s0 s1).mono ?_
        rintro e w' ⟨rfl, rfl⟩
        replace hu := hu.gr gW
        replace g := g.trans gW
        replace hro := hro.gr gW
        clear s0 s1 hWW gW
        go_wp2_with fail
        refine (HD.out _).mono ?_
        rintro e w' ⟨rfl, rfl⟩
        go_wp2_with fail
        refine (HRS.out _ _ hu).mono ?_
        rintro e W8 ⟨r3, p3, c3, rfl, ho3, hro3, hg⟩
        replace hro := hro.gr hg
        replace hu := hu.gr hg
        replace g := g.trans hg
        clear hg
        obtain rfl := OrdL.unique ho ho3
        have hr3 := reads_ord (p := p3) (c := c3) ho.len hro3
        clear hro3
        go_wp2_with fail
        refine (list6_ok hro hr3 (by rw [natI_len, ho.len]; exact HLN.out)).mono ?_
        rintro e W9 ⟨rfl, hg⟩
        replace hu := hu.gr hg
        replace g := g.trans hg
        clear hg
        clear hro hr3
        go_wp2_with fail
        go_ret
        exact ⟨rfl, g⟩
    · have e1 : (E == 0) = false := by simpa using hE0
      have e2 : (E != 0) = true := by simpa [bne] using e1
      have HS : Hid (∀ W, Gr w W → Calls Tryz.prog 11 #[.slice p n cap, .int .i64 key] W fun e w' => e = .returned (.tuple #[.slice none 0 0, .int .i64 E]) ∧ Gr W w') := fun W g => by
        refine (HSG.out W g rfl hl160).mono ?_
        rintro e w' ⟨u, rfl, hr, hg⟩
        obtain rfl := hr.bad hE0
        exact ⟨rfl, hg⟩
      have HLe := Lib.hid (fun W => list6_err E hE0 W)
      by_cases hq0 : q = 0
      · have HG : Hid (∀ W, Gr w W → Calls Tryz.prog 12 #[.slice p n cap, .int .i64 m, .int .i64 key] W fun e w' => e = .returned (.tuple #[.slice none 0 0, .int .i64 E]) ∧ Gr W w') := fun W g => by
          refine groups_bad2 E m key _ W (fun W2 g2 => HCk.out W2 (g.trans g2)) (HQ.out.symm.trans hq0) hE0 (fun W2 g2 => (HSD.out W2 (g.trans g2) hl160).mono ?_)
          rintro e w' ⟨u, rfl, hr, hg⟩
          obtain rfl := hr.bad hE0
          exact ⟨rfl, hg⟩
        subst hq0
        clear HB hB2 HSB HSG HSD HEX
        refine (HS.out _ g).mono ?_
        rintro e W6 ⟨rfl, hg⟩
        replace hu := hu.gr hg
        replace g := g.trans hg
        clear hg
        go_wp2_with fail
        refine (HG.out _ g).mono ?_
        rintro e W7 ⟨rfl, hg⟩
        replace hu := hu.gr hg
        replace g := g.trans hg
        clear hg
        obtain ⟨WW, hWW, gW, s0, s1⟩ := box2 W7 (.int .i64 0) (.int .i64 0) 3
        go_wp2_with fail
        refine (HOut.out _).mono ?_
        rintro e w' ⟨rfl, rfl⟩
        go_wp2_with fail
        refine (HF.out _ _ _ s0 s1).mono ?_
        rintro e w' ⟨rfl, rfl⟩
        replace hu := hu.gr gW
        replace g := g.trans gW
        clear s0 s1 hWW gW
        go_wp2_with fail
        refine (HD.out _).mono ?_
        rintro e w' ⟨rfl, rfl⟩
        go_wp2_with fail
        refine (HD.out _).mono ?_
        rintro e w' ⟨rfl, rfl⟩
        go_wp2_with fail
        refine (HLe.out _).mono ?_
        rintro e w' ⟨rfl, rfl⟩
        go_wp2_with fail
        go_ret
        exact ⟨rfl, g⟩
      · have q1 : (q == 0) = false := by simpa using hq0
        have q2 : (q != 0) = true := by simpa [bne] using q1
        have HG := Lib.hid (fun W g => hB2.out W g hq0)
        clear HB hB2 HSB HSG HSD HEX
        refine (HS.out _ g).mono ?_
        rintro e W6 ⟨rfl, hg⟩
        replace hu := hu.gr hg
        replace g := g.trans hg
        clear hg
        go_wp2_with fail
        refine (HG.out _ g).mono ?_
        rintro e W7 ⟨rfl, hg⟩
        replace hu := hu.gr hg
        replace g := g.trans hg
        clear hg
        obtain ⟨WW, hWW, gW, s0, s1⟩ := box2 W7 (.int .i64 0) (.int .i64 q) 3
        go_wp2_with fail
        refine (HOut.out _).mono ?_
        rintro e w' ⟨rfl, rfl⟩
        go_wp2_with fail
        refine (HF.out _ _ _ s0 s1).mono ?_
        rintro e w' ⟨rfl, rfl⟩
        replace hu := hu.gr gW
        replace g := g.trans gW
        clear s0 s1 hWW gW
        go_wp2_with fail
        refine (HD.out _).mono ?_
        rintro e w' ⟨rfl, rfl⟩
        go_wp2_with fail
        refine (HLe.out _).mono ?_
        rintro e w' ⟨rfl, rfl⟩
        go_wp2_with fail
        go_ret
        exact ⟨rfl, g⟩
  · have z1 : (z == 0) = false := by simpa using hz0
    have z2 : (z != 0) = true := by simpa [bne] using z1
    have HS := Lib.hid (fun W g => HSB.out W g hz0)
    rw [firstE_two1 z q hz0] at HF
    have hB2 := HB
    rw [firstE_two1 z q hz0] at hB2
    have HG := Lib.hid (fun W g => hB2.out W g hz0)
    have HLe := Lib.hid (fun W => list6_err z hz0 W)
    clear HB hB2 HSB HSG HSD HEX
    refine (HS.out _ g).mono ?_
    rintro e W6 ⟨rfl, hg⟩
    replace hu := hu.gr hg
    replace g := g.trans hg
    clear hg
    go_wp2_with fail
    refine (HG.out _ g).mono ?_
    rintro e W7 ⟨rfl, hg⟩
    replace hu := hu.gr hg
    replace g := g.trans hg
    clear hg
    obtain ⟨WW, hWW, gW, s0, s1⟩ := box2 W7 (.int .i64 z) (.int .i64 q) 3
    go_wp2_with fail
    refine (HOut.out _).mono ?_
    rintro e w' ⟨rfl, rfl⟩
    go_wp2_with fail
    refine (HF.out _ _ _ s0 s1).mono ?_
    rintro e w' ⟨rfl, rfl⟩
    replace hu := hu.gr gW
    replace g := g.trans gW
    clear s0 s1 hWW gW
    go_wp2_with fail
    refine (HLe.out _).mono ?_
    rintro e w' ⟨rfl, rfl⟩
    go_wp2_with fail
    go_ret
    exact ⟨rfl, g⟩
end Go.Proofs.YtlcbdgmclhdofaaGreatDoor
