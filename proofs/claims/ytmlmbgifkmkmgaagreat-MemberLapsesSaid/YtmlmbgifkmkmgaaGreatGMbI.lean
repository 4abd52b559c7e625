/- Members: the reference checks climbers. -/
import Derived.Test.YtmlmbgifkmkmgaaGreatGMbE
import Derived.Test.YtmlmbgifkmkmgaaGreatGMbA
namespace Go.Proofs.YtmlmbgifkmkmgaaGreat
open Go.RowKit Go.Lib
set_option linter.unusedSimpArgs false
set_option linter.unusedVariables false
theorem cliE_eq (xs : List CliR) (i : Nat) (x : CliR) : cliE xs i x = if (!decide (Nm x.nm) || !decide (Nm x.na) || !decide (Nm x.ct)) = true then 8 else if dupN (fun y : CliR => y.nm) xs i x.nm = true then 9 else if (outB x.bn 0 99999) = true then 3 else 0 := by
  unfold cliE nmE outE
  by_cases q0 : Nm x.nm <;> by_cases q1 : Nm x.na <;> by_cases q2 : Nm x.ct <;> cases dupN (fun y : CliR => y.nm) xs i x.nm <;> cases outB x.bn 0 99999 <;> simp [firstE, q0, q1, q2]
set_option maxHeartbeats 1000000 in
set_option maxRecDepth 100000 in
theorem refClis_pos (xs : List CliR) (n b off cap : Nat) (w : World) (hn : xs.length = n) (h1 : n ≤ 160) (hc : ∀ i x, xs[i]? = some x → CliAt w b (off + i * 4) x) :
    Calls Tryz.prog 13 #[.slice (some ⟨b, off, none⟩) n cap] w fun e w' => e = .returned (.int .i64 (errG (cliE xs) xs n 0)) ∧ Gr w w' := by
  have HC := Lib.hid hc
  have HN := Lib.hid hn
  clear hc hn
  have hz2 : decide ((160 : Int) < n) = false := by simp; omega
  go_enter Tryz.func13, Tryz.ntmps13
  go_wp2_with fail
  go_loopg [3] n (fun gk s3 wr => ∃ i : Nat, s3 = .int .i64 i ∧ gk + i = n ∧ Gr w wr ∧ Hid (errG (cliE xs) xs (n - i) i = errG (cliE xs) xs n 0))
  case atStart => exact ⟨0, rfl, by omega, Gr.refl _, by simp [Hid]⟩
  case round =>
    obtain ⟨i, rfl, hi, hg, HF⟩ := hrel
    obtain ⟨gO, rfl⟩ : ∃ q, q = gk := ⟨gk, rfl⟩
    by_cases hlt : i < n
    · obtain ⟨x, hx⟩ : ∃ x, xs[i]? = some x := ⟨xs[i]'(by have := HN.out; omega), List.getElem?_eq_getElem _⟩
      have hcell := HC.out i x hx
      obtain ⟨c0, c1, c2, c3⟩ := hcell.gr hg
      have hf := errG_step (E := cliE xs) hlt hx
      rw [cliE_eq] at hf
      have hi2 : (i : Int) < n := by omega
      have hN0 := fun W => refIsName_c x.nm W
      have hN1 := fun W => refIsName_c x.na W
      have hN2 := fun W => refIsName_c x.ct W
      have hO0 := fun W => refOutside_c x.bn 0 99999 W
      clear hx hcell
      generalize decide (Nm x.nm) = n0 at hf hN0
      generalize decide (Nm x.na) = n1 at hf hN1
      generalize decide (Nm x.ct) = n2 at hf hN2
      generalize outB x.bn 0 99999 = o0 at hf hO0
      replace hN0 := Lib.hid hN0
      replace hN1 := Lib.hid hN1
      replace hN2 := Lib.hid hN2
      replace hO0 := Lib.hid hO0
      have HF0 := Lib.hid hf
      clear hf
      cases n0
      · have HF1 := HF0.out
        simp only [Bool.not_true, Bool.not_false, Bool.false_or, Bool.true_or, Bool.or_true, if_true, show ¬ (8 : Int) = 0 by decide, if_false] at HF1
        have HF2 := Lib.hid HF1
        clear HF1 HF0
        go_wp2_with fail
        repeat (first | ((with_reducible refine (hN0.out _).mono ?_); rintro e w4 ⟨rfl, rfl⟩; go_wp2_with fail) | ((with_reducible refine (hN1.out _).mono ?_); rintro e w4 ⟨rfl, rfl⟩; go_wp2_with fail) | ((with_reducible refine (hN2.out _).mono ?_); rintro e w4 ⟨rfl, rfl⟩; go_wp2_with fail))
        go_ret
        exact ⟨by rw [← HF.out, HF2.out]; rfl, by first | exact hg | exact hg.drewN _⟩
      cases n1
      · have HF1 := HF0.out
        simp only [Bool.not_true, Bool.not_false, Bool.false_or, Bool.true_or, Bool.or_true, if_true, show ¬ (8 : Int) = 0 by decide, if_false] at HF1
        have HF2 := Lib.hid HF1
        clear HF1 HF0
        go_wp2_with fail
        repeat (first | ((with_reducible refine (hN0.out _).mono ?_); rintro e w4 ⟨rfl, rfl⟩; go_wp2_with fail) | ((with_reducible refine (hN1.out _).mono ?_); rintro e w4 ⟨rfl, rfl⟩; go_wp2_with fail) | ((with_reducible refine (hN2.out _).mono ?_); rintro e w4 ⟨rfl, rfl⟩; go_wp2_with fail))
        go_ret
        exact ⟨by rw [← HF.out, HF2.out]; rfl, by first | exact hg | exact hg.drewN _⟩
      cases n2
      · have HF1 := HF0.out
        simp only [Bool.not_true, Bool.not_false, Bool.false_or, Bool.true_or, Bool.or_true, if_true, show ¬ (8 : Int) = 0 by decide, if_false] at HF1
        have HF2 := Lib.hid HF1
        clear HF1 HF0
        go_wp2_with fail
        repeat (first | ((with_reducible refine (hN0.out _).mono ?_); rintro e w4 ⟨rfl, rfl⟩; go_wp2_with fail) | ((with_reducible refine (hN1.out _).mono ?_); rintro e w4 ⟨rfl, rfl⟩; go_wp2_with fail) | ((with_reducible refine (hN2.out _).mono ?_); rintro e w4 ⟨rfl, rfl⟩; go_wp2_with fail))
        go_ret
        exact ⟨by rw [← HF.out, HF2.out]; rfl, by first | exact hg | exact hg.drewN _⟩
      have HF1 := HF0.out
      simp only [Bool.not_true, Bool.or_self, Bool.false_eq_true, if_false] at HF1
      have HF2 := Lib.hid HF1
      clear HF1 HF0
      go_wp2_with fail
      repeat (first | ((with_reducible refine (hN0.out _).mono ?_); rintro e w4 ⟨rfl, rfl⟩; go_wp2_with fail) | ((with_reducible refine (hN1.out _).mono ?_); rintro e w4 ⟨rfl, rfl⟩; go_wp2_with fail) | ((with_reducible refine (hN2.out _).mono ?_); rintro e w4 ⟨rfl, rfl⟩; go_wp2_with fail))
      go_loopg [4] i (fun g2 s5 wr2 => ∃ k : Nat, s5 = .int .i64 k ∧ g2 + k = i ∧ Gr wr wr2 ∧ Hid (dupN (fun y : CliR => y.nm) xs k x.nm = false))
      case atStart => exact ⟨0, rfl, by omega, Gr.refl _, by simp [Hid, dupN]⟩
      case round =>
        obtain ⟨k, rfl, hk, hg2, HD⟩ := hrel
        replace c0 := hg2.cell c0
        replace c1 := hg2.cell c1
        replace c2 := hg2.cell c2
        replace c3 := hg2.cell c3
        replace hg := hg.trans hg2
        by_cases hlk : k < i
        · obtain ⟨y, hy⟩ : ∃ y, xs[k]? = some y := ⟨xs[k]'(by have := HN.out; omega), List.getElem?_eq_getElem _⟩
          have d0 := ((HC.out k y hy).gr hg).nm
          have hk2 : (k : Int) < i := by omega
          have hk3 : (k : Int) < n := by omega
          have hdp := dupN_succ (fun y : CliR => y.nm) hy x.nm
          rw [HD.out, Bool.false_or] at hdp
          clear hy
          cases e2 : (y.nm.toList == x.nm.toList)
          · simp only [e2] at hdp
            have HD2 := Lib.hid hdp
            clear hdp
            go_wp2_with fail
            go_big_quiet (fail)
            go_wp2_with fail
            go_roundg (gk - 1)
            case measure => omega
            case rel => exact ⟨k + 1, by go_num, by omega, hg2.drewN _, HD2⟩
          · simp only [e2] at hdp
            have HD2 := Lib.hid (dupN_le (fun y : CliR => y.nm) (i := i) (by omega) hdp)
            clear hdp
            rw [if_pos HD2.out, if_neg (by decide)] at HF2
            go_wp2_with fail
            go_big_quiet (fail)
            go_wp2_with fail
            go_ret
            exact ⟨by rw [← HF.out, HF2.out]; rfl, hg.drewN _⟩
        · have hki : k = i := by omega
          subst hki
          have HF3 := HF2.out
          rw [HD.out] at HF3
          simp only [Bool.false_eq_true, if_false] at HF3
          clear HF2
          have HF2 := Lib.hid HF3
          clear HF3
          cases o0
          all_goals
            have HF3 := HF2.out
            simp only [Bool.or_self, Bool.or_true, Bool.true_or, Bool.or_false, Bool.false_or, Bool.false_eq_true, if_true, if_false, show ¬ (3 : Int) = 0 by decide, show ¬ (11 : Int) = 0 by decide, ite_self] at HF3
            clear HF2
            have HF2 := Lib.hid HF3
            clear HF3
            go_wp2_with fail
            repeat (first | ((with_reducible refine (hO0.out _).mono ?_); rintro e w4 ⟨rfl, rfl⟩; go_wp2_with fail))
            first
              | (go_ret
                 exact ⟨by rw [← HF.out, HF2.out]; rfl, by first | exact hg | exact hg.drewN _⟩)
              | (go_roundg (gO - 1)
                 case measure => omega
                 case rel => exact ⟨k + 1, by go_num, by omega, by first | exact hg | exact hg.drewN _, by unfold Hid; rw [← HF2.out, HF.out]⟩)
    · have hin : i = n := by omega
      have HE2 : Hid (errG (cliE xs) xs (n - i) i = 0) := by unfold Hid; rw [hin, Nat.sub_self]; rfl
      have hi2 : (n : Int) ≤ i := by omega
      clear hin
      go_wp2_with fail
      go_ret
      exact ⟨by rw [← HF.out, HE2.out]; rfl, hg⟩
theorem refClis_c {v : Value} {xs : List CliR} {w : World} (h : CliAts w v xs) :
    Calls Tryz.prog 13 #[v] w fun e w' => e = .returned (.int .i64 (listE 160 (cliE xs) xs)) ∧ Gr w w' := by
  obtain ⟨⟨p, cap, rfl, _, hh⟩⟩ := h
  rcases Nat.lt_or_ge 160 xs.length with hl | hl
  · have HE : Hid (listE 160 (cliE xs) xs = 5) := by unfold Hid listE; rw [if_pos hl]
    have hz2 : decide ((160 : Int) < xs.length) = true := decide_eq_true (by omega)
    clear hh
    go_enter Tryz.func13, Tryz.ntmps13
    go_wp2_with fail
    go_ret
    exact ⟨by rw [HE.out]; rfl, Gr.refl _⟩
  · have HE : listE 160 (cliE xs) xs = errG (cliE xs) xs xs.length 0 := by unfold listE; rw [if_neg (by omega)]
    rw [HE]
    rcases Nat.eq_zero_or_pos xs.length with h0 | h0
    · have hx : xs = [] := List.eq_nil_of_length_eq_zero h0
      subst hx
      go_enter Tryz.func13, Tryz.ntmps13
      go_wp2_with fail
      refine wp_loop_rounds 2 ?_
      rw [rounds_succ]
      go_wp2_with fail
      go_ret
      exact ⟨rfl, Gr.refl _⟩
    · obtain ⟨b, off, rfl, hc⟩ := hh h0
      exact refClis_pos xs _ b off cap w rfl hl hc
end Go.Proofs.YtmlmbgifkmkmgaaGreat
namespace Go.Proofs.YtmlmbgifkmkmgaaGreat
open Go.RowKit Go.Lib
set_option linter.unusedSimpArgs false
set_option linter.unusedVariables false
theorem cli_one {W : World} {Bq : Nat} {x : CliR} (h0 : W.cell? ⟨Bq, 0, none⟩ = some (.string x.nm)) (h1 : W.cell? ⟨Bq, 1, none⟩ = some (.string x.na)) (h2 : W.cell? ⟨Bq, 2, none⟩ = some (.int .i64 x.bn)) (h3 : W.cell? ⟨Bq, 3, none⟩ = some (.string x.ct)) :
    CliAts W (.slice (some ⟨Bq, 0, none⟩) 1 1) [x] :=
  ⟨_, 1, rfl, ⟨by simp, by unfold maxLen; omega⟩, fun _ => ⟨Bq, 0, rfl, fun i y hy => by
    rcases i with _ | i
    · simp at hy; subst hy; exact ⟨h0, h1, h2, h3⟩
    · simp at hy⟩⟩
/-- the error of a climber and a day -/
def ageE (x : CliR) (d : Int) : Int := firstE [listE 160 (cliE [x]) [x], outE d 0 99999, if decide (d < x.bn) then 11 else 0]
set_option maxHeartbeats 1000000 in
set_option maxRecDepth 100000 in
theorem checkAge_c (x : CliR) (d : Int) (w : World) :
    Calls Tryz.prog 63 #[cliV x, .int .i64 d] w fun e w' => e = .returned (.int .i64 (ageE x d)) ∧ Gr w w' := by
  have hR : ageE x d = firstE [listE 160 (cliE [x]) [x], outE d 0 99999, if decide (d < x.bn) then 11 else 0] := rfl
  have HC := Lib.hid (fun (Bq : Nat) (W : World) h0 h1 h2 h3 => checkClis_c [x] (.slice (some ⟨Bq, 0, none⟩) 1 1) W (cli_one h0 h1 h2 h3))
  generalize listE 160 (cliE [x]) [x] = e1 at *
  obtain ⟨e2, h2', H2⟩ := day_e d
  obtain ⟨e3, h3', H3⟩ := if_e (decide (d < x.bn)) 11
  rw [← h2', ← h3'] at hR
  have hF := first_three e1 e2 e3
  rw [← hR] at hF
  generalize ageE x d = err at *
  replace H2 := Lib.hid H2
  replace H3 := Lib.hid H3
  have HF := Lib.hid hF
  unfold cliV
  obtain ⟨W, hW, g, a0, a1, a2, a3⟩ := box4 w (.string x.nm) (.string x.na) (.int .i64 x.bn) (.string x.ct) 42
  have HW := Lib.hid hW
  clear hW hF hR h2' h3'
  go_enter Tryz.func63, Tryz.ntmps63
  go_wp2_with fail
  rw [HW.out]
  generalize w.heap.size = Bx at *
  clear HW
  have gd := (Gr.refl W).drew
  replace a0 := gd.cell a0
  replace a1 := gd.cell a1
  replace a2 := gd.cell a2
  replace a3 := gd.cell a3
  replace g := g.trans gd
  clear gd
  refine wp_region_held_drew (S := (fun w' => w'.cell? ⟨Bx, 0, none⟩ = some (.string x.nm) ∧ w'.cell? ⟨Bx, 1, none⟩ = some (.string x.na) ∧ w'.cell? ⟨Bx, 2, none⟩ = some (.int .i64 x.bn) ∧ w'.cell? ⟨Bx, 3, none⟩ = some (.string x.ct))) (by kernel_rfl) ⟨a0, a1, a2, a3⟩ (fun hHeld => ?_)
  generalize W.drew = V at *
  refine wpAnyH_take (i := 0) (v := (.agg #[.string x.nm, .string x.na, .int .i64 x.bn, .string x.ct])) (op_at rfl) (by kernel_rfl) (by kernel_rfl) (by kernel_rfl) (fun _ _ _ h => h) (Or.inl ⟨rfl, fun w hSw => ?_⟩) (by assumption) ?_
  · (try dsimp only at hSw); go_simp; try with_reducible rfl
  (try simp only [Act.put, List.setIfInBounds_toArray, List.set_cons_zero, List.set_cons_succ])
  refine wpAnyH_take (i := 3) (v := (.int .i64 d)) (op_at rfl) (by kernel_rfl) (by kernel_rfl) (by kernel_rfl) (fun _ _ _ h => h) (Or.inl ⟨rfl, fun w hSw => ?_⟩) (by assumption) ?_
  · (try dsimp only at hSw); go_simp; try with_reducible rfl
  (try simp only [Act.put, List.setIfInBounds_toArray, List.set_cons_zero, List.set_cons_succ])
  refine wpAnyH_take (i := 5) (v := (.pointer (some ⟨Bx, 2, none⟩))) (op_at rfl) (by kernel_rfl) (by kernel_rfl) (by kernel_rfl) (fun _ _ _ h => h) (Or.inl ⟨rfl, fun w hSw => ?_⟩) (by assumption) ?_
  · (try dsimp only at hSw); go_simp; try with_reducible rfl
  (try simp only [Act.put, List.setIfInBounds_toArray, List.set_cons_zero, List.set_cons_succ])
  refine wpAnyH_take (i := 6) (v := (.int .i64 x.bn)) (op_at rfl) (by kernel_rfl) (by kernel_rfl) (by kernel_rfl) (fun _ _ _ h => h) (Or.inl ⟨rfl, fun w hSw => ?_⟩) (by assumption) ?_
  · (try dsimp only at hSw); go_simp; try with_reducible rfl
  (try simp only [Act.put, List.setIfInBounds_toArray, List.set_cons_zero, List.set_cons_succ])
  refine wpAnyH_take (i := 7) (v := (.int .i64 d)) (op_at rfl) (by kernel_rfl) (by kernel_rfl) (by kernel_rfl) (fun _ _ _ h => h) (Or.inl ⟨rfl, fun w hSw => ?_⟩) (by assumption) ?_
  · (try dsimp only at hSw); go_simp; try with_reducible rfl
  (try simp only [Act.put, List.setIfInBounds_toArray, List.set_cons_zero, List.set_cons_succ])
  refine wpAnyH_take (i := 8) (v := (.bool (decide (d < x.bn)))) (op_at rfl) (by kernel_rfl) (by kernel_rfl) (by kernel_rfl) (fun _ _ _ h => h) (Or.inl ⟨rfl, fun w hSw => ?_⟩) (by assumption) ?_
  · (try dsimp only at hSw); go_simp; try with_reducible rfl
  (try simp only [Act.put, List.setIfInBounds_toArray, List.set_cons_zero, List.set_cons_succ])
  refine wpAnyH_ready (rs := [1]) (by kernel_rfl) (by simp) (AllReadyH.cons (op_at rfl) (fun K hK => ?_) AllReadyH.nil)
  go_simp
  obtain ⟨WS, hWS, gS, t0, t1, t2, t3⟩ := box4 V (.string x.nm) (.string x.na) (.int .i64 x.bn) (.string x.ct) 42
  rw [hWS]
  clear hWS
  replace a0 := gS.cell a0
  replace a1 := gS.cell a1
  replace a2 := gS.cell a2
  replace a3 := gS.cell a3
  replace g := g.trans gS
  refine hK.out _ _ ⟨a0, a1, a2, a3⟩ (fun hHeld => ?_)
  clear hK K
  (try simp only [Act.put, List.setIfInBounds_toArray, List.set_cons_zero, List.set_cons_succ])
  refine wpAnyH_ready (rs := [2]) (by kernel_rfl) (by simp) (AllReadyH.cons (op_at rfl) (fun K hK => ?_) AllReadyH.nil)
  go_simp
  (refine (HC.out V.heap.size _ t0 t1 t2 t3).mono ?_; rintro e W1 ⟨rfl, hg⟩; replace a0 := hg.cell a0; replace a1 := hg.cell a1; replace a2 := hg.cell a2; replace a3 := hg.cell a3; replace g := g.trans hg; clear hg)
  go_wp2_with fail
  refine hK.out _ _ ⟨a0, a1, a2, a3⟩ (fun hHeld => ?_)
  clear hK K
  (try simp only [Act.put, List.setIfInBounds_toArray, List.set_cons_zero, List.set_cons_succ])
  refine wpAnyH_ready (rs := [4]) (by kernel_rfl) (by simp) (AllReadyH.cons (op_at rfl) (fun K hK => ?_) AllReadyH.nil)
  go_simp
  (refine (H2.out _).mono ?_; rintro e w' ⟨rfl, rfl⟩)
  go_wp2_with fail
  refine hK.out _ _ ⟨a0, a1, a2, a3⟩ (fun hHeld => ?_)
  clear hK K
  (try simp only [Act.put, List.setIfInBounds_toArray, List.set_cons_zero, List.set_cons_succ])
  refine wpAnyH_ready (rs := [9]) (by kernel_rfl) (by simp) (AllReadyH.cons (op_at rfl) (fun K hK => ?_) AllReadyH.nil)
  go_simp
  (refine (H3.out _).mono ?_; rintro e w' ⟨rfl, rfl⟩)
  go_wp2_with fail
  refine hK.out _ _ ⟨a0, a1, a2, a3⟩ (fun hHeld => ?_)
  clear hK K
  (try simp only [Act.put, List.setIfInBounds_toArray, List.set_cons_zero, List.set_cons_succ])
  refine wpAnyH_ready (rs := [10]) (by kernel_rfl) (by simp) (AllReadyH.cons (op_at rfl) (fun K hK => ?_) AllReadyH.nil)
  go_simp
  obtain ⟨WW, hWW, gW, s0, s1, s2⟩ := box3 W1 (.int .i64 e1) (.int .i64 e2) (.int .i64 e3) 30
  rw [hWW]
  clear hWW
  replace a0 := gW.cell a0
  replace a1 := gW.cell a1
  replace a2 := gW.cell a2
  replace a3 := gW.cell a3
  replace g := g.trans gW
  refine hK.out _ _ ⟨a0, a1, a2, a3⟩ (fun hHeld => ?_)
  clear hK K
  (try simp only [Act.put, List.setIfInBounds_toArray, List.set_cons_zero, List.set_cons_succ])
  refine wpAnyH_ready (rs := [11]) (by kernel_rfl) (by simp) (AllReadyH.cons (op_at rfl) (fun K hK => ?_) AllReadyH.nil)
  go_simp
  (refine (HF.out _ _ WW s0 s1 s2).mono ?_; rintro e w8 ⟨rfl, rfl⟩)
  go_wp2_with fail
  refine hK.out _ _ ⟨a0, a1, a2, a3⟩ (fun hHeld => ?_)
  clear hK K
  (try simp only [Act.put, List.setIfInBounds_toArray, List.set_cons_zero, List.set_cons_succ])
  refine wpAnyH_take (i := 12) (v := (.int .i64 err)) (op_at rfl) (by kernel_rfl) (by kernel_rfl) (by kernel_rfl) (fun _ _ _ h => h) (Or.inl ⟨rfl, fun w hSw => ?_⟩) (by assumption) ?_
  · (try dsimp only at hSw); go_simp; try with_reducible rfl
  (try simp only [Act.put, List.setIfInBounds_toArray, List.set_cons_zero, List.set_cons_succ])
  refine wpAnyH_done (by kernel_rfl) ?_ _
  go_wp2_with fail
  go_ret
  exact ⟨rfl, g⟩
theorem ageE_eq (x : CliR) (d : Int) : ageE x d = if listE 160 (cliE [x]) [x] = 0 then (if outB d 0 99999 = true then 3 else if decide (d < x.bn) = true then 11 else 0) else listE 160 (cliE [x]) [x] := by
  unfold ageE outE
  by_cases h : listE 160 (cliE [x]) [x] = 0 <;> cases outB d 0 99999 <;> cases decide (d < x.bn) <;> simp [firstE, h]
set_option maxHeartbeats 1000000 in
set_option maxRecDepth 100000 in
theorem refCheckAge_c (x : CliR) (d : Int) (w : World) :
    Calls Tryz.prog 20 #[cliV x, .int .i64 d] w fun e w' => e = .returned (.int .i64 (ageE x d)) ∧ Gr w w' := by
  have hR := ageE_eq x d
  have HC := Lib.hid (fun (Bq : Nat) (W : World) h0 h1 h2 h3 => refClis_c (v := .slice (some ⟨Bq, 0, none⟩) 1 1) (cli_one (x := x) (W := W) h0 h1 h2 h3))
  have HO := Lib.hid (fun W => refOutside_c d 0 99999 W)
  generalize listE 160 (cliE [x]) [x] = e1 at *
  generalize outB d 0 99999 = o at *
  generalize ageE x d = err at *
  unfold cliV
  obtain ⟨W, hW, g, a0, a1, a2, a3⟩ := box4 w (.string x.nm) (.string x.na) (.int .i64 x.bn) (.string x.ct) 42
  obtain ⟨WS, hWS, gS, t0, t1, t2, t3⟩ := box4 W (.string x.nm) (.string x.na) (.int .i64 x.bn) (.string x.ct) 42
  have HW := Lib.hid hW
  have HWS := Lib.hid hWS
  have hgS := g.trans gS
  have hsz : W.heap.size = w.heap.size + 1 := by rw [← hW]; simp
  have b2 := gS.cell a2
  rw [hsz] at t0 t1 t2 t3
  have HSZ := Lib.hid hsz
  clear hW hWS hsz
  by_cases h1 : e1 = 0
  · rw [if_pos h1] at hR
    cases o <;> cases hd : decide (d < x.bn)
    all_goals
      rw [hd] at hR
      simp only [Bool.false_eq_true, if_false, if_true] at hR
      have HR := Lib.hid hR
      rw [h1] at HC
      clear hR
      go_enter Tryz.func20, Tryz.ntmps20
      go_wp2_with fail
      rw [HW.out, HWS.out]
      refine (HC.out (w.heap.size + 1) _ t0 t1 t2 t3).mono ?_
      rintro e W1 ⟨rfl, hg⟩
      have k2 := hg.cell b2
      go_wp2_with fail
      refine (HO.out _).mono ?_
      rintro e w5 ⟨rfl, rfl⟩
      go_wp2_with fail
      go_ret
      exact ⟨by rw [HR.out]; rfl, hgS.trans hg⟩
  · rw [if_neg h1] at hR
    have HR := Lib.hid hR
    have q1 : (e1 == 0) = false := by simpa using h1
    have q2 : (e1 != 0) = true := by simpa [bne] using q1
    clear hR
    go_enter Tryz.func20, Tryz.ntmps20
    go_wp2_with fail
    rw [HW.out, HWS.out]
    refine (HC.out (w.heap.size + 1) _ t0 t1 t2 t3).mono ?_
    rintro e W1 ⟨rfl, hg⟩
    go_wp2_with fail
    go_ret
    exact ⟨by rw [HR.out]; rfl, hgS.trans hg⟩
theorem ageE_zero {x : CliR} {d : Int} (h : ageE x d = 0) : 0 ≤ x.bn ∧ x.bn ≤ d ∧ d ≤ 99999 := by
  unfold ageE at h
  have h1 := firstE_zero h _ (List.mem_cons_self ..)
  have h2 := firstE_zero h (outE d 0 99999) (by simp)
  have h3 := firstE_zero h (if decide (d < x.bn) then 11 else 0) (by simp)
  have h4 : cliE [x] 0 x = 0 := by
    unfold listE at h1
    rw [if_neg (by simp)] at h1
    exact errG_zero 1 0 (by simpa using h1) (by simp) 0 x (by omega) (by omega) rfl
  unfold cliE at h4
  have h5 := firstE_zero h4 (outE x.bn 0 99999) (by simp)
  rw [outE_zero] at h2 h5
  have h6 : ¬ d < x.bn := by
    intro h7
    rw [if_pos (by simpa using h7)] at h3
    cases h3
  omega
theorem ageOf_c (x : CliR) (d : Int) (w : World) (h0 : 0 ≤ x.bn) (h1 : x.bn ≤ d) (h2 : d ≤ 99999) :
    Calls Tryz.prog 64 #[cliV x, .int .i64 d] w fun e w' => e = .returned (.int .i64 ((d - x.bn) / 365)) ∧ Gr w w' := by
  unfold cliV
  have h3 : 0 ≤ d - x.bn := by omega
  have h4 : d - x.bn ≤ 99999 := by omega
  go_enter Tryz.func64, Tryz.ntmps64
  go_wp2_with fail
  go_ret
  exact ⟨rfl, (Gr.refl w).alloc _⟩
theorem refAge_c (x : CliR) (d : Int) (w : World) (h0 : 0 ≤ x.bn) (h1 : x.bn ≤ d) (h2 : d ≤ 99999) :
    Calls Tryz.prog 21 #[cliV x, .int .i64 d] w fun e w' => e = .returned (.int .i64 ((d - x.bn) / 365)) ∧ Gr w w' := by
  unfold cliV
  have h3 : 0 ≤ d - x.bn := by omega
  have h4 : d - x.bn ≤ 99999 := by omega
  go_enter Tryz.func21, Tryz.ntmps21
  go_wp2_with fail
  go_ret
  exact ⟨rfl, (Gr.refl w).alloc _⟩
set_option maxHeartbeats 1000000 in
set_option maxRecDepth 100000 in
theorem age_ok (x : CliR) (d : Int) (w : World) (h : ageE x d = 0) :
    Calls Tryz.prog 18 #[cliV x, .int .i64 d] w fun e w' => e = .returned (.tuple #[.int .i64 ((d - x.bn) / 365), .int .i64 0]) ∧ Gr w w' := by
  obtain ⟨b0, b1, b2⟩ := ageE_zero h
  have HC := Lib.hid (fun W => checkAge_c x d W)
  have HA := Lib.hid (fun W => ageOf_c x d W b0 b1 b2)
  rw [h] at HC
  unfold cliV at *
  obtain ⟨W, hW, g, a0, a1, a2, a3⟩ := box4 w (.string x.nm) (.string x.na) (.int .i64 x.bn) (.string x.ct) 42
  have HW := Lib.hid hW
  generalize (d - x.bn) / 365 = q at *
  clear hW h b0 b1 b2
  go_enter Tryz.func18, Tryz.ntmps18
  go_wp2_with fail
  rw [HW.out]
  refine (HC.out _).mono ?_
  rintro e W1 ⟨rfl, hg⟩
  replace a0 := hg.cell a0
  replace a1 := hg.cell a1
  replace a2 := hg.cell a2
  replace a3 := hg.cell a3
  go_wp2_with fail
  refine (HA.out _).mono ?_
  rintro e W2 ⟨rfl, hg2⟩
  go_wp2_with fail
  exact bodyPost_ret (v := .tuple #[.int .i64 q, .int .i64 0]) (by simp [results, Tryz.results18, go_sem]) rfl ⟨rfl, (g.trans hg).trans hg2⟩
theorem age_bad (x : CliR) (d : Int) (w : World) (h : ageE x d ≠ 0) :
    Calls Tryz.prog 18 #[cliV x, .int .i64 d] w fun e w' => e = .returned (.tuple #[.int .i64 0, .int .i64 (ageE x d)]) ∧ Gr w w' := by
  have HC := Lib.hid (fun W => checkAge_c x d W)
  generalize ageE x d = z at *
  have q1 : (z == 0) = false := by simpa using h
  have q2 : (z != 0) = true := by simpa [bne] using q1
  unfold cliV at *
  obtain ⟨W, hW, g, a0, a1, a2, a3⟩ := box4 w (.string x.nm) (.string x.na) (.int .i64 x.bn) (.string x.ct) 42
  have HW := Lib.hid hW
  clear hW
  go_enter Tryz.func18, Tryz.ntmps18
  go_wp2_with fail
  rw [HW.out]
  refine (HC.out _).mono ?_
  rintro e W1 ⟨rfl, hg⟩
  go_wp2_with fail
  exact bodyPost_ret (v := .tuple #[.int .i64 0, .int .i64 z]) (by simp [results, Tryz.results18, go_sem]) rfl ⟨rfl, g.trans hg⟩
end Go.Proofs.YtmlmbgifkmkmgaaGreat
