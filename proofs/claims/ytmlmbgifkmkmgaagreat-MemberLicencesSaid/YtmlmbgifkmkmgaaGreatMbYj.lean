/- MemberLicences: the law, walked. -/
import Derived.Test.YtmlmbgifkmkmgaaGreatGMbT
import Derived.Test.YtmlmbgifkmkmgaaGreatMbS
import Derived.Test.YtmlmbgifkmkmgaaGreatMbJ
namespace Go.Proofs.YtmlmbgifkmkmgaaGreat
open Go.RowKit Go.Lib
set_option linter.unusedSimpArgs false
set_option linter.unusedVariables false
set_option maxHeartbeats 4000000 in
set_option maxRecDepth 100000 in
theorem lawLic_c (xs : List CatR) (v : Value) (nm : ByteArray) (d t : Int) (w : World) (hv : CatAts w v xs) (hb : xs.length * 32 ≤ 140737488355328) (hA : AwakeOK w) :
    Calls Tryz.prog 4 #[v, .string nm, .agg #[.int .i64 d, .int .i64 t]] w fun e w' => e = .returned (.bool true) ∧ Gr w w' := by
  obtain ⟨W, hW, g0, a0, a1⟩ := bx2 w (.int .i64 d) (.int .i64 t) 53
  have HA := Lib.hid hA
  have HCv := Lib.hid (lics_c (hv.gr g0) hb)
  have HCk := Lib.hid (fun W (g : Gr w W) => checkLics_c xs _ W (hv.gr g))
  have HLi := Lib.hid (fun W (g : Gr w W) => licensed_c nm d t (hv.gr g))
  have HLa := Lib.hid (fun W (g : Gr w W) => lapse_c nm d (hv.gr g))
  have HRng := Lib.hid (fun h => @lic_range xs h)
  have HZ0 := Lib.hid (fun h => @lapE_zero xs nm d h)
  have HRC := Lib.hid (fun W u (h : CatAts W u xs) => refLics_c h)
  have HRL := Lib.hid (fun W u (h : CatAts W u xs) (h0 : lapE xs nm d = 0) => refLapse_c nm d h (by have := (lic_range (lapE_zero h0).1).1; omega) (lapE_zero h0).2.2.1 (by have := (lapE_zero h0).2.2.2; omega) (lic_range (lapE_zero h0).1).2)
  have HRI := Lib.hid (fun W u (h : CatAts W u xs) (h0 : lapE xs nm d = 0) => refLicensed_c nm d t h (by have := (lic_range (lapE_zero h0).1).1; omega) (lapE_zero h0).2.2.1 (by have := (lapE_zero h0).2.2.2; omega) (lic_range (lapE_zero h0).1).2)
  have HN0 := Lib.hid (fun W => refIsName_c nm W)
  obtain ⟨e2, h2', H2⟩ := when_e (!decide (Nm nm)) 8
  obtain ⟨e3, h3', H3⟩ := lawDay_e d
  obtain ⟨e4, h4', H4⟩ := lawDay_e t
  obtain ⟨e5, h5', H5⟩ := when_e (decide (t < d)) 11
  have hF1 := lawFirst_three (listE 256 (licE xs) xs) e2 e3
  rw [h2', h3', ← nmE_when, show firstE [listE 256 (licE xs) xs, nmE nm, outE d 0 99999] = lapE xs nm d from rfl, nmE_when, ← h2', ← h3'] at hF1
  have hF2 := lawFirst_three (lapE xs nm d) e4 e5
  rw [h4', h5', ← licd_eq, ← h4', ← h5'] at hF2
  have hone : lapE xs nm d ≠ 0 → licdE xs nm d t ≠ 0 := fun h => by rw [licd_of_lap h]; exact h
  clear h2' h3' h4' h5' HRng HZ0
  obtain ⟨inB, hin, HLi2⟩ : ∃ b, b = (if licdE xs nm d t = 0 then decide (t < lapD xs nm d) else false) ∧ ∀ W (g : Gr w W), Calls Tryz.prog 30 #[v, .string nm, .int .i64 d, .int .i64 t] W fun e w' => e = .returned (.tuple #[.bool b, .int .i64 (licdE xs nm d t)]) ∧ Gr W w' := ⟨_, rfl, HLi.out⟩
  obtain ⟨D2, hD2, HLa2⟩ : ∃ b, b = (if lapE xs nm d = 0 then lapD xs nm d else 0) ∧ ∀ W (g : Gr w W), Calls Tryz.prog 31 #[v, .string nm, .int .i64 d] W fun e w' => e = .returned (.tuple #[.int .i64 b, .int .i64 (lapE xs nm d)]) ∧ Gr W w' := ⟨_, rfl, HLa.out⟩
  clear HLi HLa
  generalize listE 256 (licE xs) xs = z at *
  generalize decide (Nm nm) = nb at *
  generalize lapD xs nm d = L at *
  generalize lapE xs nm d = two at *
  generalize licdE xs nm d t = one at *
  have HWN := Lib.hid H2
  have HD0 := Lib.hid H3
  have HD1 := Lib.hid H4
  have HWT := Lib.hid H5
  have HF1 := Lib.hid hF1
  have HF2 := Lib.hid hF2
  have HW := Lib.hid hW
  have HO := Lib.hid hone
  have HLi := Lib.hid HLi2
  have HLa := Lib.hid HLa2
  have HIN := Lib.hid hin
  have HD2 := Lib.hid hD2
  obtain ⟨p, n, cap, rfl, hn⟩ : ∃ p n cap, v = .slice p n cap ∧ n = xs.length := by
    obtain ⟨⟨p, cap, rfl, _⟩⟩ := hv
    exact ⟨p, _, cap, rfl, rfl⟩
  have HN := Lib.hid hn
  clear hA hv hb hn hF1 hF2 hW H2 H3 H4 H5 hone HLi2 HLa2 hin hD2
  go_enter Tryz.func4, Tryz.ntmps4
  go_wp2_with fail
  rw [HW.out]
  generalize w.heap.size = Bx at *
  clear HW
  refine HCv.out.mono ?_
  rintro e W1 ⟨u, rfl, hu, hg⟩
  have HU := Lib.hid hu
  replace a0 := hg.cell a0
  replace a1 := hg.cell a1
  have g := g0.trans hg
  clear hu hg HCv g0
  go_wp2_with fail
  refine (HA.out _ g).mono ?_
  rintro e W2 ⟨rfl, hg⟩
  replace g := g.trans hg
  replace HU := Lib.hid (HU.out.gr hg)
  replace a0 := hg.cell a0
  replace a1 := hg.cell a1
  clear hg
  go_wp2_with fail
  refine (shortLics_c HU.out).mono ?_
  rintro e W2' ⟨⟨r, rfl, hr⟩, rfl⟩
  clear hr
  cases hq : decide ((40 : Int) < nm.size)
  case true =>
    cases r
    all_goals
      go_wp2_with fail
      refine (HA.out _ g).mono ?_
      rintro e W4 ⟨rfl, g4⟩
      go_wp2_with fail
      go_ret
      exact ⟨rfl, g.trans g4⟩
  cases r
  · go_wp2_with fail
    refine (HA.out _ g).mono ?_
    rintro e W4 ⟨rfl, g4⟩
    go_wp2_with fail
    go_ret
    exact ⟨rfl, g.trans g4⟩
  go_wp2_with fail
  refine (HRC.out _ _ HU.out).mono ?_
  rintro e W3 ⟨rfl, hg⟩
  replace g := g.trans hg
  replace HU := Lib.hid (HU.out.gr hg)
  replace a0 := hg.cell a0
  replace a1 := hg.cell a1
  clear hg
  go_wp2_with fail
  refine (HCk.out _ g).mono ?_
  rintro e W4 ⟨rfl, hg⟩
  replace g := g.trans hg
  replace HU := Lib.hid (HU.out.gr hg)
  replace a0 := hg.cell a0
  replace a1 := hg.cell a1
  clear hg
  cases hz : (z == 0)
  case true =>
    cases h40 : decide ((40 : Int) < n)
    case true =>
      go_wp2_with fail
      go_ret
      exact ⟨rfl, g⟩
    go_wp2_with fail
    refine (HLi.out _ g).mono ?_
    rintro e W5 ⟨rfl, hg⟩
    replace g := g.trans hg
    replace HU := Lib.hid (HU.out.gr hg)
    replace a0 := hg.cell a0
    replace a1 := hg.cell a1
    clear hg
    go_wp2_with fail
    refine (HLa.out _ g).mono ?_
    rintro e WA ⟨rfl, hg⟩
    replace g := g.trans hg
    replace HU := Lib.hid (HU.out.gr hg)
    replace a0 := hg.cell a0
    replace a1 := hg.cell a1
    clear hg
    go_wp2_with fail
    have gd := (Gr.refl WA).drew
    replace a0 := gd.cell a0
    replace a1 := gd.cell a1
    have gc := gd
    clear gd
    refine wp_region_held_drew (S := (fun w' => w'.cell? ⟨Bx, 0, none⟩ = some (.int .i64 d) ∧ w'.cell? ⟨Bx, 1, none⟩ = some (.int .i64 t))) (by kernel_rfl) ⟨a0, a1⟩ (fun hHeld => ?_)
    generalize WA.drew = V at *
    refine wpAnyH_take (i := 0) (v := (.int .i64 z)) (op_at rfl) (by kernel_rfl) (by kernel_rfl) (by kernel_rfl) (fun _ _ _ h => h) (Or.inl ⟨rfl, fun w hSw => ?_⟩) (by assumption) ?_
    · (try dsimp only at hSw); go_simp; try with_reducible rfl
    (try simp only [Act.put, List.setIfInBounds_toArray, List.set_cons_zero, List.set_cons_succ])
    refine wpAnyH_take (i := 1) (v := (.string nm)) (op_at rfl) (by kernel_rfl) (by kernel_rfl) (by kernel_rfl) (fun _ _ _ h => h) (Or.inl ⟨rfl, fun w hSw => ?_⟩) (by assumption) ?_
    · (try dsimp only at hSw); go_simp; try with_reducible rfl
    (try simp only [Act.put, List.setIfInBounds_toArray, List.set_cons_zero, List.set_cons_succ])
    refine wpAnyH_take (i := 5) (v := (.pointer (some ⟨Bx, 0, none⟩))) (op_at rfl) (by kernel_rfl) (by kernel_rfl) (by kernel_rfl) (fun _ _ _ h => h) (Or.inl ⟨rfl, fun w hSw => ?_⟩) (by assumption) ?_
    · (try dsimp only at hSw); go_simp; try with_reducible rfl
    (try simp only [Act.put, List.setIfInBounds_toArray, List.set_cons_zero, List.set_cons_succ])
    refine wpAnyH_take (i := 6) (v := (.int .i64 d)) (op_at rfl) (by kernel_rfl) (by kernel_rfl) (by kernel_rfl) (fun _ _ _ h => h) (Or.inl ⟨rfl, fun w hSw => ?_⟩) (by assumption) ?_
    · (try dsimp only at hSw); go_simp; try with_reducible rfl
    (try simp only [Act.put, List.setIfInBounds_toArray, List.set_cons_zero, List.set_cons_succ])
    refine wpAnyH_ready (rs := [2]) (by kernel_rfl) (by simp) (AllReadyH.cons (op_at rfl) (fun K hK => ?_) AllReadyH.nil)
    go_simp
    (refine (HN0.out _).mono ?_; rintro e w' ⟨rfl, rfl⟩)
    go_wp2_with fail
    refine hK.out _ _ ⟨a0, a1⟩ (fun hHeld => ?_)
    clear hK K
    (try simp only [Act.put, List.setIfInBounds_toArray, List.set_cons_zero, List.set_cons_succ])
    refine wpAnyH_take (i := 3) (v := (.bool (!nb))) (op_at rfl) (by kernel_rfl) (by kernel_rfl) (by kernel_rfl) (fun _ _ _ h => h) (Or.inl ⟨rfl, fun w hSw => ?_⟩) (by assumption) ?_
    · (try dsimp only at hSw); go_simp; try with_reducible rfl
    (try simp only [Act.put, List.setIfInBounds_toArray, List.set_cons_zero, List.set_cons_succ])
    refine wpAnyH_ready (rs := [4]) (by kernel_rfl) (by simp) (AllReadyH.cons (op_at rfl) (fun K hK => ?_) AllReadyH.nil)
    go_simp
    (refine (HWN.out _).mono ?_; rintro e w' ⟨rfl, rfl⟩)
    go_wp2_with fail
    refine hK.out _ _ ⟨a0, a1⟩ (fun hHeld => ?_)
    clear hK K
    (try simp only [Act.put, List.setIfInBounds_toArray, List.set_cons_zero, List.set_cons_succ])
    refine wpAnyH_ready (rs := [7]) (by kernel_rfl) (by simp) (AllReadyH.cons (op_at rfl) (fun K hK => ?_) AllReadyH.nil)
    go_simp
    (refine (HD0.out _).mono ?_; rintro e w' ⟨rfl, rfl⟩)
    go_wp2_with fail
    refine hK.out _ _ ⟨a0, a1⟩ (fun hHeld => ?_)
    clear hK K
    (try simp only [Act.put, List.setIfInBounds_toArray, List.set_cons_zero, List.set_cons_succ])
    refine wpAnyH_ready (rs := [8]) (by kernel_rfl) (by simp) (AllReadyH.cons (op_at rfl) (fun K hK => ?_) AllReadyH.nil)
    go_simp
    obtain ⟨WW, hWW, gW, s0, s1, s2⟩ := box3 V (.int .i64 z) (.int .i64 e2) (.int .i64 e3) 3
    rw [hWW]
    clear hWW
    replace a0 := gW.cell a0
    replace a1 := gW.cell a1
    replace gc := gc.trans gW
    refine hK.out _ _ ⟨a0, a1⟩ (fun hHeld => ?_)
    clear hK K
    (try simp only [Act.put, List.setIfInBounds_toArray, List.set_cons_zero, List.set_cons_succ])
    refine wpAnyH_ready (rs := [9]) (by kernel_rfl) (by simp) (AllReadyH.cons (op_at rfl) (fun K hK => ?_) AllReadyH.nil)
    go_simp
    (refine (HF1.out _ _ WW s0 s1 s2).mono ?_; rintro e w8 ⟨rfl, rfl⟩)
    go_wp2_with fail
    refine hK.out _ _ ⟨a0, a1⟩ (fun hHeld => ?_)
    clear hK K
    (try simp only [Act.put, List.setIfInBounds_toArray, List.set_cons_zero, List.set_cons_succ])
    refine wpAnyH_take (i := 10) (v := (.int .i64 two)) (op_at rfl) (by kernel_rfl) (by kernel_rfl) (by kernel_rfl) (fun _ _ _ h => h) (Or.inl ⟨rfl, fun w hSw => ?_⟩) (by assumption) ?_
    · (try dsimp only at hSw); go_simp; try with_reducible rfl
    (try simp only [Act.put, List.setIfInBounds_toArray, List.set_cons_zero, List.set_cons_succ])
    refine wpAnyH_done (by kernel_rfl) ?_ _
    go_wp2_with fail
    have hg := gc
    clear gc
    replace g := g.trans hg
    replace HU := Lib.hid (HU.out.gr hg)
    clear hg
    have gd := (Gr.refl WW).drew
    replace a0 := gd.cell a0
    replace a1 := gd.cell a1
    have gc := gd
    clear gd
    refine wp_region_held_drew (S := (fun w' => w'.cell? ⟨Bx, 0, none⟩ = some (.int .i64 d) ∧ w'.cell? ⟨Bx, 1, none⟩ = some (.int .i64 t))) (by kernel_rfl) ⟨a0, a1⟩ (fun hHeld => ?_)
    generalize WW.drew = V at *
    refine wpAnyH_take (i := 0) (v := (.int .i64 two)) (op_at rfl) (by kernel_rfl) (by kernel_rfl) (by kernel_rfl) (fun _ _ _ h => h) (Or.inl ⟨rfl, fun w hSw => ?_⟩) (by assumption) ?_
    · (try dsimp only at hSw); go_simp; try with_reducible rfl
    (try simp only [Act.put, List.setIfInBounds_toArray, List.set_cons_zero, List.set_cons_succ])
    refine wpAnyH_take (i := 1) (v := (.pointer (some ⟨Bx, 1, none⟩))) (op_at rfl) (by kernel_rfl) (by kernel_rfl) (by kernel_rfl) (fun _ _ _ h => h) (Or.inl ⟨rfl, fun w hSw => ?_⟩) (by assumption) ?_
    · (try dsimp only at hSw); go_simp; try with_reducible rfl
    (try simp only [Act.put, List.setIfInBounds_toArray, List.set_cons_zero, List.set_cons_succ])
    refine wpAnyH_take (i := 2) (v := (.int .i64 t)) (op_at rfl) (by kernel_rfl) (by kernel_rfl) (by kernel_rfl) (fun _ _ _ h => h) (Or.inl ⟨rfl, fun w hSw => ?_⟩) (by assumption) ?_
    · (try dsimp only at hSw); go_simp; try with_reducible rfl
    (try simp only [Act.put, List.setIfInBounds_toArray, List.set_cons_zero, List.set_cons_succ])
    refine wpAnyH_take (i := 4) (v := (.pointer (some ⟨Bx, 0, none⟩))) (op_at rfl) (by kernel_rfl) (by kernel_rfl) (by kernel_rfl) (fun _ _ _ h => h) (Or.inl ⟨rfl, fun w hSw => ?_⟩) (by assumption) ?_
    · (try dsimp only at hSw); go_simp; try with_reducible rfl
    (try simp only [Act.put, List.setIfInBounds_toArray, List.set_cons_zero, List.set_cons_succ])
    refine wpAnyH_take (i := 5) (v := (.int .i64 d)) (op_at rfl) (by kernel_rfl) (by kernel_rfl) (by kernel_rfl) (fun _ _ _ h => h) (Or.inl ⟨rfl, fun w hSw => ?_⟩) (by assumption) ?_
    · (try dsimp only at hSw); go_simp; try with_reducible rfl
    (try simp only [Act.put, List.setIfInBounds_toArray, List.set_cons_zero, List.set_cons_succ])
    refine wpAnyH_take (i := 6) (v := (.pointer (some ⟨Bx, 1, none⟩))) (op_at rfl) (by kernel_rfl) (by kernel_rfl) (by kernel_rfl) (fun _ _ _ h => h) (Or.inl ⟨rfl, fun w hSw => ?_⟩) (by assumption) ?_
    · (try dsimp only at hSw); go_simp; try with_reducible rfl
    (try simp only [Act.put, List.setIfInBounds_toArray, List.set_cons_zero, List.set_cons_succ])
    refine wpAnyH_take (i := 7) (v := (.int .i64 t)) (op_at rfl) (by kernel_rfl) (by kernel_rfl) (by kernel_rfl) (fun _ _ _ h => h) (Or.inl ⟨rfl, fun w hSw => ?_⟩) (by assumption) ?_
    · (try dsimp only at hSw); go_simp; try with_reducible rfl
    (try simp only [Act.put, List.setIfInBounds_toArray, List.set_cons_zero, List.set_cons_succ])
    refine wpAnyH_take (i := 8) (v := (.bool (decide (t < d)))) (op_at rfl) (by kernel_rfl) (by kernel_rfl) (by kernel_rfl) (fun _ _ _ h => h) (Or.inl ⟨rfl, fun w hSw => ?_⟩) (by assumption) ?_
    · (try dsimp only at hSw); go_simp; try with_reducible rfl
    (try simp only [Act.put, List.setIfInBounds_toArray, List.set_cons_zero, List.set_cons_succ])
    refine wpAnyH_ready (rs := [3]) (by kernel_rfl) (by simp) (AllReadyH.cons (op_at rfl) (fun K hK => ?_) AllReadyH.nil)
    go_simp
    (refine (HD1.out _).mono ?_; rintro e w' ⟨rfl, rfl⟩)
    go_wp2_with fail
    refine hK.out _ _ ⟨a0, a1⟩ (fun hHeld => ?_)
    clear hK K
    (try simp only [Act.put, List.setIfInBounds_toArray, List.set_cons_zero, List.set_cons_succ])
    refine wpAnyH_ready (rs := [9]) (by kernel_rfl) (by simp) (AllReadyH.cons (op_at rfl) (fun K hK => ?_) AllReadyH.nil)
    go_simp
    (refine (HWT.out _).mono ?_; rintro e w' ⟨rfl, rfl⟩)
    go_wp2_with fail
    refine hK.out _ _ ⟨a0, a1⟩ (fun hHeld => ?_)
    clear hK K
    (try simp only [Act.put, List.setIfInBounds_toArray, List.set_cons_zero, List.set_cons_succ])
    refine wpAnyH_ready (rs := [10]) (by kernel_rfl) (by simp) (AllReadyH.cons (op_at rfl) (fun K hK => ?_) AllReadyH.nil)
    go_simp
    obtain ⟨WW, hWW, gW, s0, s1, s2⟩ := box3 V (.int .i64 two) (.int .i64 e4) (.int .i64 e5) 3
    rw [hWW]
    clear hWW
    replace a0 := gW.cell a0
    replace a1 := gW.cell a1
    replace gc := gc.trans gW
    refine hK.out _ _ ⟨a0, a1⟩ (fun hHeld => ?_)
    clear hK K
    (try simp only [Act.put, List.setIfInBounds_toArray, List.set_cons_zero, List.set_cons_succ])
    refine wpAnyH_ready (rs := [11]) (by kernel_rfl) (by simp) (AllReadyH.cons (op_at rfl) (fun K hK => ?_) AllReadyH.nil)
    go_simp
    (refine (HF2.out _ _ WW s0 s1 s2).mono ?_; rintro e w8 ⟨rfl, rfl⟩)
    go_wp2_with fail
    refine hK.out _ _ ⟨a0, a1⟩ (fun hHeld => ?_)
    clear hK K
    (try simp only [Act.put, List.setIfInBounds_toArray, List.set_cons_zero, List.set_cons_succ])
    refine wpAnyH_take (i := 12) (v := (.int .i64 one)) (op_at rfl) (by kernel_rfl) (by kernel_rfl) (by kernel_rfl) (fun _ _ _ h => h) (Or.inl ⟨rfl, fun w hSw => ?_⟩) (by assumption) ?_
    · (try dsimp only at hSw); go_simp; try with_reducible rfl
    (try simp only [Act.put, List.setIfInBounds_toArray, List.set_cons_zero, List.set_cons_succ])
    refine wpAnyH_done (by kernel_rfl) ?_ _
    replace g := g.trans gc
    replace HU := Lib.hid (HU.out.gr gc)
    clear gc
    by_cases h2 : two = 0
    · subst h2
      have HR1 := Lib.hid (fun W u h => HRL.out W u h (by first | rfl | trivial))
      have HR2 := Lib.hid (fun W u h => HRI.out W u h (by first | rfl | trivial))
      obtain rfl : D2 = L := by have := HD2.out; simpa using this
      by_cases h1 : one = 0
      · subst h1
        obtain rfl : inB = decide (t < D2) := by have := HIN.out; simpa using this
        go_wp2_with fail
        refine (HR2.out _ _ HU.out).mono ?_
        rintro e W6 ⟨rfl, hg⟩
        replace g := g.trans hg
        replace HU := Lib.hid (HU.out.gr hg)
        replace a0 := hg.cell a0
        replace a1 := hg.cell a1
        clear hg
        go_wp2_with fail
        refine (HR1.out _ _ HU.out).mono ?_
        rintro e W7 ⟨rfl, hg⟩
        replace g := g.trans hg
        clear hg
        generalize decide (t < D2) = bb at *
        go_wp2_with fail
        refine (truth_good bb _).mono ?_
        rintro e W8 ⟨rfl, rfl⟩
        go_wp2_with fail
        refine (integer_good _ _).mono ?_
        rintro e W9 ⟨rfl, rfl⟩
        go_wp2_with fail
        go_ret
        exact ⟨rfl, g⟩
      · have q1 : (one == 0) = false := by simpa using h1
        obtain rfl : inB = false := by have := HIN.out; simpa [h1] using this
        go_wp2_with fail
        refine (HR1.out _ _ HU.out).mono ?_
        rintro e W7 ⟨rfl, hg⟩
        replace g := g.trans hg
        clear hg
        go_wp2_with fail
        refine (truth_bad one _ h1 _).mono ?_
        rintro e W8 ⟨rfl, rfl⟩
        go_wp2_with fail
        refine (integer_good _ _).mono ?_
        rintro e W9 ⟨rfl, rfl⟩
        go_wp2_with fail
        go_ret
        exact ⟨rfl, g⟩
    · have h1 := HO.out h2
      have q1 : (one == 0) = false := by simpa using h1
      have q2 : (two == 0) = false := by simpa using h2
      obtain rfl : inB = false := by have := HIN.out; simpa [h1] using this
      obtain rfl : D2 = 0 := by have := HD2.out; simpa [h2] using this
      go_wp2_with fail
      refine (truth_bad one _ h1 _).mono ?_
      rintro e W8 ⟨rfl, rfl⟩
      go_wp2_with fail
      refine (integer_bad two _ h2 _).mono ?_
      rintro e W9 ⟨rfl, rfl⟩
      go_wp2_with fail
      go_ret
      exact ⟨rfl, g⟩
  go_wp2_with fail
  refine (HLi.out _ g).mono ?_
  rintro e W5 ⟨rfl, hg⟩
  replace g := g.trans hg
  replace HU := Lib.hid (HU.out.gr hg)
  replace a0 := hg.cell a0
  replace a1 := hg.cell a1
  clear hg
  go_wp2_with fail
  refine (HLa.out _ g).mono ?_
  rintro e WA ⟨rfl, hg⟩
  replace g := g.trans hg
  replace HU := Lib.hid (HU.out.gr hg)
  replace a0 := hg.cell a0
  replace a1 := hg.cell a1
  clear hg
  go_wp2_with fail
  have gd := (Gr.refl WA).drew
  replace a0 := gd.cell a0
  replace a1 := gd.cell a1
  have gc := gd
  clear gd
  refine wp_region_held_drew (S := (fun w' => w'.cell? ⟨Bx, 0, none⟩ = some (.int .i64 d) ∧ w'.cell? ⟨Bx, 1, none⟩ = some (.int .i64 t))) (by kernel_rfl) ⟨a0, a1⟩ (fun hHeld => ?_)
  generalize WA.drew = V at *
  refine wpAnyH_take (i := 0) (v := (.int .i64 z)) (op_at rfl) (by kernel_rfl) (by kernel_rfl) (by kernel_rfl) (fun _ _ _ h => h) (Or.inl ⟨rfl, fun w hSw => ?_⟩) (by assumption) ?_
  · (try dsimp only at hSw); go_simp; try with_reducible rfl
  (try simp only [Act.put, List.setIfInBounds_toArray, List.set_cons_zero, List.set_cons_succ])
  refine wpAnyH_take (i := 1) (v := (.string nm)) (op_at rfl) (by kernel_rfl) (by kernel_rfl) (by kernel_rfl) (fun _ _ _ h => h) (Or.inl ⟨rfl, fun w hSw => ?_⟩) (by assumption) ?_
  · (try dsimp only at hSw); go_simp; try with_reducible rfl
  (try simp only [Act.put, List.setIfInBounds_toArray, List.set_cons_zero, List.set_cons_succ])
  refine wpAnyH_take (i := 5) (v := (.pointer (some ⟨Bx, 0, none⟩))) (op_at rfl) (by kernel_rfl) (by kernel_rfl) (by kernel_rfl) (fun _ _ _ h => h) (Or.inl ⟨rfl, fun w hSw => ?_⟩) (by assumption) ?_
  · (try dsimp only at hSw); go_simp; try with_reducible rfl
  (try simp only [Act.put, List.setIfInBounds_toArray, List.set_cons_zero, List.set_cons_succ])
  refine wpAnyH_take (i := 6) (v := (.int .i64 d)) (op_at rfl) (by kernel_rfl) (by kernel_rfl) (by kernel_rfl) (fun _ _ _ h => h) (Or.inl ⟨rfl, fun w hSw => ?_⟩) (by assumption) ?_
  · (try dsimp only at hSw); go_simp; try with_reducible rfl
  (try simp only [Act.put, List.setIfInBounds_toArray, List.set_cons_zero, List.set_cons_succ])
  refine wpAnyH_ready (rs := [2]) (by kernel_rfl) (by simp) (AllReadyH.cons (op_at rfl) (fun K hK => ?_) AllReadyH.nil)
  go_simp
  (refine (HN0.out _).mono ?_; rintro e w' ⟨rfl, rfl⟩)
  go_wp2_with fail
  refine hK.out _ _ ⟨a0, a1⟩ (fun hHeld => ?_)
  clear hK K
  (try simp only [Act.put, List.setIfInBounds_toArray, List.set_cons_zero, List.set_cons_succ])
  refine wpAnyH_take (i := 3) (v := (.bool (!nb))) (op_at rfl) (by kernel_rfl) (by kernel_rfl) (by kernel_rfl) (fun _ _ _ h => h) (Or.inl ⟨rfl, fun w hSw => ?_⟩) (by assumption) ?_
  · (try dsimp only at hSw); go_simp; try with_reducible rfl
  (try simp only [Act.put, List.setIfInBounds_toArray, List.set_cons_zero, List.set_cons_succ])
  refine wpAnyH_ready (rs := [4]) (by kernel_rfl) (by simp) (AllReadyH.cons (op_at rfl) (fun K hK => ?_) AllReadyH.nil)
  go_simp
  (refine (HWN.out _).mono ?_; rintro e w' ⟨rfl, rfl⟩)
  go_wp2_with fail
  refine hK.out _ _ ⟨a0, a1⟩ (fun hHeld => ?_)
  clear hK K
  (try simp only [Act.put, List.setIfInBounds_toArray, List.set_cons_zero, List.set_cons_succ])
  refine wpAnyH_ready (rs := [7]) (by kernel_rfl) (by simp) (AllReadyH.cons (op_at rfl) (fun K hK => ?_) AllReadyH.nil)
  go_simp
  (refine (HD0.out _).mono ?_; rintro e w' ⟨rfl, rfl⟩)
  go_wp2_with fail
  refine hK.out _ _ ⟨a0, a1⟩ (fun hHeld => ?_)
  clear hK K
  (try simp only [Act.put, List.setIfInBounds_toArray, List.set_cons_zero, List.set_cons_succ])
  refine wpAnyH_ready (rs := [8]) (by kernel_rfl) (by simp) (AllReadyH.cons (op_at rfl) (fun K hK => ?_) AllReadyH.nil)
  go_simp
  obtain ⟨WW, hWW, gW, s0, s1, s2⟩ := box3 V (.int .i64 z) (.int .i64 e2) (.int .i64 e3) 3
  rw [hWW]
  clear hWW
  replace a0 := gW.cell a0
  replace a1 := gW.cell a1
  replace gc := gc.trans gW
  refine hK.out _ _ ⟨a0, a1⟩ (fun hHeld => ?_)
  clear hK K
  (try simp only [Act.put, List.setIfInBounds_toArray, List.set_cons_zero, List.set_cons_succ])
  refine wpAnyH_ready (rs := [9]) (by kernel_rfl) (by simp) (AllReadyH.cons (op_at rfl) (fun K hK => ?_) AllReadyH.nil)
  go_simp
  (refine (HF1.out _ _ WW s0 s1 s2).mono ?_; rintro e w8 ⟨rfl, rfl⟩)
  go_wp2_with fail
  refine hK.out _ _ ⟨a0, a1⟩ (fun hHeld => ?_)
  clear hK K
  (try simp only [Act.put, List.setIfInBounds_toArray, List.set_cons_zero, List.set_cons_succ])
  refine wpAnyH_take (i := 10) (v := (.int .i64 two)) (op_at rfl) (by kernel_rfl) (by kernel_rfl) (by kernel_rfl) (fun _ _ _ h => h) (Or.inl ⟨rfl, fun w hSw => ?_⟩) (by assumption) ?_
  · (try dsimp only at hSw); go_simp; try with_reducible rfl
  (try simp only [Act.put, List.setIfInBounds_toArray, List.set_cons_zero, List.set_cons_succ])
  refine wpAnyH_done (by kernel_rfl) ?_ _
  go_wp2_with fail
  have hg := gc
  clear gc
  replace g := g.trans hg
  replace HU := Lib.hid (HU.out.gr hg)
  clear hg
  have gd := (Gr.refl WW).drew
  replace a0 := gd.cell a0
  replace a1 := gd.cell a1
  have gc := gd
  clear gd
  refine wp_region_held_drew (S := (fun w' => w'.cell? ⟨Bx, 0, none⟩ = some (.int .i64 d) ∧ w'.cell? ⟨Bx, 1, none⟩ = some (.int .i64 t))) (by kernel_rfl) ⟨a0, a1⟩ (fun hHeld => ?_)
  generalize WW.drew = V at *
  refine wpAnyH_take (i := 0) (v := (.int .i64 two)) (op_at rfl) (by kernel_rfl) (by kernel_rfl) (by kernel_rfl) (fun _ _ _ h => h) (Or.inl ⟨rfl, fun w hSw => ?_⟩) (by assumption) ?_
  · (try dsimp only at hSw); go_simp; try with_reducible rfl
  (try simp only [Act.put, List.setIfInBounds_toArray, List.set_cons_zero, List.set_cons_succ])
  refine wpAnyH_take (i := 1) (v := (.pointer (some ⟨Bx, 1, none⟩))) (op_at rfl) (by kernel_rfl) (by kernel_rfl) (by kernel_rfl) (fun _ _ _ h => h) (Or.inl ⟨rfl, fun w hSw => ?_⟩) (by assumption) ?_
  · (try dsimp only at hSw); go_simp; try with_reducible rfl
  (try simp only [Act.put, List.setIfInBounds_toArray, List.set_cons_zero, List.set_cons_succ])
  refine wpAnyH_take (i := 2) (v := (.int .i64 t)) (op_at rfl) (by kernel_rfl) (by kernel_rfl) (by kernel_rfl) (fun _ _ _ h => h) (Or.inl ⟨rfl, fun w hSw => ?_⟩) (by assumption) ?_
  · (try dsimp only at hSw); go_simp; try with_reducible rfl
  (try simp only [Act.put, List.setIfInBounds_toArray, List.set_cons_zero, List.set_cons_succ])
  refine wpAnyH_take (i := 4) (v := (.pointer (some ⟨Bx, 0, none⟩))) (op_at rfl) (by kernel_rfl) (by kernel_rfl) (by kernel_rfl) (fun _ _ _ h => h) (Or.inl ⟨rfl, fun w hSw => ?_⟩) (by assumption) ?_
  · (try dsimp only at hSw); go_simp; try with_reducible rfl
  (try simp only [Act.put, List.setIfInBounds_toArray, List.set_cons_zero, List.set_cons_succ])
  refine wpAnyH_take (i := 5) (v := (.int .i64 d)) (op_at rfl) (by kernel_rfl) (by kernel_rfl) (by kernel_rfl) (fun _ _ _ h => h) (Or.inl ⟨rfl, fun w hSw => ?_⟩) (by assumption) ?_
  · (try dsimp only at hSw); go_simp; try with_reducible rfl
  (try simp only [Act.put, List.setIfInBounds_toArray, List.set_cons_zero, List.set_cons_succ])
  refine wpAnyH_take (i := 6) (v := (.pointer (some ⟨Bx, 1, none⟩))) (op_at rfl) (by kernel_rfl) (by kernel_rfl) (by kernel_rfl) (fun _ _ _ h => h) (Or.inl ⟨rfl, fun w hSw => ?_⟩) (by assumption) ?_
  · (try dsimp only at hSw); go_simp; try with_reducible rfl
  (try simp only [Act.put, List.setIfInBounds_toArray, List.set_cons_zero, List.set_cons_succ])
  refine wpAnyH_take (i := 7) (v := (.int .i64 t)) (op_at rfl) (by kernel_rfl) (by kernel_rfl) (by kernel_rfl) (fun _ _ _ h => h) (Or.inl ⟨rfl, fun w hSw => ?_⟩) (by assumption) ?_
  · (try dsimp only at hSw); go_simp; try with_reducible rfl
  (try simp only [Act.put, List.setIfInBounds_toArray, List.set_cons_zero, List.set_cons_succ])
  refine wpAnyH_take (i := 8) (v := (.bool (decide (t < d)))) (op_at rfl) (by kernel_rfl) (by kernel_rfl) (by kernel_rfl) (fun _ _ _ h => h) (Or.inl ⟨rfl, fun w hSw => ?_⟩) (by assumption) ?_
  · (try dsimp only at hSw); go_simp; try with_reducible rfl
  (try simp only [Act.put, List.setIfInBounds_toArray, List.set_cons_zero, List.set_cons_succ])
  refine wpAnyH_ready (rs := [3]) (by kernel_rfl) (by simp) (AllReadyH.cons (op_at rfl) (fun K hK => ?_) AllReadyH.nil)
  go_simp
  (refine (HD1.out _).mono ?_; rintro e w' ⟨rfl, rfl⟩)
  go_wp2_with fail
  refine hK.out _ _ ⟨a0, a1⟩ (fun hHeld => ?_)
  clear hK K
  (try simp only [Act.put, List.setIfInBounds_toArray, List.set_cons_zero, List.set_cons_succ])
  refine wpAnyH_ready (rs := [9]) (by kernel_rfl) (by simp) (AllReadyH.cons (op_at rfl) (fun K hK => ?_) AllReadyH.nil)
  go_simp
  (refine (HWT.out _).mono ?_; rintro e w' ⟨rfl, rfl⟩)
  go_wp2_with fail
  refine hK.out _ _ ⟨a0, a1⟩ (fun hHeld => ?_)
  clear hK K
  (try simp only [Act.put, List.setIfInBounds_toArray, List.set_cons_zero, List.set_cons_succ])
  refine wpAnyH_ready (rs := [10]) (by kernel_rfl) (by simp) (AllReadyH.cons (op_at rfl) (fun K hK => ?_) AllReadyH.nil)
  go_simp
  obtain ⟨WW, hWW, gW, s0, s1, s2⟩ := box3 V (.int .i64 two) (.int .i64 e4) (.int .i64 e5) 3
  rw [hWW]
  clear hWW
  replace a0 := gW.cell a0
  replace a1 := gW.cell a1
  replace gc := gc.trans gW
  refine hK.out _ _ ⟨a0, a1⟩ (fun hHeld => ?_)
  clear hK K
  (try simp only [Act.put, List.setIfInBounds_toArray, List.set_cons_zero, List.set_cons_succ])
  refine wpAnyH_ready (rs := [11]) (by kernel_rfl) (by simp) (AllReadyH.cons (op_at rfl) (fun K hK => ?_) AllReadyH.nil)
  go_simp
  (refine (HF2.out _ _ WW s0 s1 s2).mono ?_; rintro e w8 ⟨rfl, rfl⟩)
  go_wp2_with fail
  refine hK.out _ _ ⟨a0, a1⟩ (fun hHeld => ?_)
  clear hK K
  (try simp only [Act.put, List.setIfInBounds_toArray, List.set_cons_zero, List.set_cons_succ])
  refine wpAnyH_take (i := 12) (v := (.int .i64 one)) (op_at rfl) (by kernel_rfl) (by kernel_rfl) (by kernel_rfl) (fun _ _ _ h => h) (Or.inl ⟨rfl, fun w hSw => ?_⟩) (by assumption) ?_
  · (try dsimp only at hSw); go_simp; try with_reducible rfl
  (try simp only [Act.put, List.setIfInBounds_toArray, List.set_cons_zero, List.set_cons_succ])
  refine wpAnyH_done (by kernel_rfl) ?_ _
  replace g := g.trans gc
  replace HU := Lib.hid (HU.out.gr gc)
  clear gc
  by_cases h2 : two = 0
  · subst h2
    have HR1 := Lib.hid (fun W u h => HRL.out W u h (by first | rfl | trivial))
    have HR2 := Lib.hid (fun W u h => HRI.out W u h (by first | rfl | trivial))
    obtain rfl : D2 = L := by have := HD2.out; simpa using this
    by_cases h1 : one = 0
    · subst h1
      obtain rfl : inB = decide (t < D2) := by have := HIN.out; simpa using this
      go_wp2_with fail
      refine (HR2.out _ _ HU.out).mono ?_
      rintro e W6 ⟨rfl, hg⟩
      replace g := g.trans hg
      replace HU := Lib.hid (HU.out.gr hg)
      replace a0 := hg.cell a0
      replace a1 := hg.cell a1
      clear hg
      go_wp2_with fail
      refine (HR1.out _ _ HU.out).mono ?_
      rintro e W7 ⟨rfl, hg⟩
      replace g := g.trans hg
      clear hg
      generalize decide (t < D2) = bb at *
      go_wp2_with fail
      refine (truth_good bb _).mono ?_
      rintro e W8 ⟨rfl, rfl⟩
      go_wp2_with fail
      refine (integer_good _ _).mono ?_
      rintro e W9 ⟨rfl, rfl⟩
      go_wp2_with fail
      go_ret
      exact ⟨rfl, g⟩
    · have q1 : (one == 0) = false := by simpa using h1
      obtain rfl : inB = false := by have := HIN.out; simpa [h1] using this
      go_wp2_with fail
      refine (HR1.out _ _ HU.out).mono ?_
      rintro e W7 ⟨rfl, hg⟩
      replace g := g.trans hg
      clear hg
      go_wp2_with fail
      refine (truth_bad one _ h1 _).mono ?_
      rintro e W8 ⟨rfl, rfl⟩
      go_wp2_with fail
      refine (integer_good _ _).mono ?_
      rintro e W9 ⟨rfl, rfl⟩
      go_wp2_with fail
      go_ret
      exact ⟨rfl, g⟩
  · have h1 := HO.out h2
    have q1 : (one == 0) = false := by simpa using h1
    have q2 : (two == 0) = false := by simpa using h2
    obtain rfl : inB = false := by have := HIN.out; simpa [h1] using this
    obtain rfl : D2 = 0 := by have := HD2.out; simpa [h2] using this
    go_wp2_with fail
    refine (truth_bad one _ h1 _).mono ?_
    rintro e W8 ⟨rfl, rfl⟩
    go_wp2_with fail
    refine (integer_bad two _ h2 _).mono ?_
    rintro e W9 ⟨rfl, rfl⟩
    go_wp2_with fail
    go_ret
    exact ⟨rfl, g⟩
end Go.Proofs.YtmlmbgifkmkmgaaGreat
