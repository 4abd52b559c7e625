/- Members: climbers, as the program checks them. -/
import Derived.Test.YtenkbeeiblhnjaaGreatGMbA
namespace Go.Proofs.YtenkbeeiblhnjaaGreat
open Go.RowKit Go.Lib
set_option linter.unusedSimpArgs false
set_option linter.unusedVariables false
structure CliR where
  nm : ByteArray
  na : ByteArray
  bn : Int
  ct : ByteArray
/-- the cells of one at a place -/
structure CliAt (w : World) (b off : Nat) (x : CliR) : Prop where
  nm : w.cell? ⟨b, off, none⟩ = some (.string x.nm)
  na : w.cell? ⟨b, off + 1, none⟩ = some (.string x.na)
  bn : w.cell? ⟨b, off + 2, none⟩ = some (.int .i64 x.bn)
  ct : w.cell? ⟨b, off + 3, none⟩ = some (.string x.ct)
theorem CliAt.gr {w w' : World} {b off : Nat} {x : CliR} (h : CliAt w b off x) (k : Gr w w') : CliAt w' b off x := ⟨k.cell h.nm, k.cell h.na, k.cell h.bn, k.cell h.ct⟩
def cliV (x : CliR) : Value := .agg #[.string x.nm, .string x.na, .int .i64 x.bn, .string x.ct]
/-- the slice v reads as these -/
structure CliAts (w : World) (v : Value) (xs : List CliR) : Prop where
  mk' ::
  out : ∃ p cap, v = .slice p xs.length cap ∧ (xs.length ≤ cap ∧ cap ≤ maxLen) ∧ (0 < xs.length → ∃ b off, p = some ⟨b, off, none⟩ ∧ ∀ i x, xs[i]? = some x → CliAt w b (off + i * 4) x)
theorem CliAts.gr {w w' : World} {v : Value} {xs : List CliR} (h : CliAts w v xs) (k : Gr w w') : CliAts w' v xs := by
  obtain ⟨⟨p, cap, rfl, hcap, hh⟩⟩ := h
  refine ⟨p, cap, rfl, hcap, fun h0 => ?_⟩
  obtain ⟨b, off, h1, h2⟩ := hh h0
  exact ⟨b, off, h1, fun i x hx => (h2 i x hx).gr k⟩
/-- the error of one -/
def cliE (xs : List CliR) (i : Nat) (x : CliR) : Int :=
  firstE [nmE x.nm, nmE x.na, nmE x.ct, if dupN (fun y : CliR => y.nm) xs i x.nm then 9 else 0, outE x.bn 0 99999]
theorem sameCli_c (y : CliR) (B : Nat) (nm : ByteArray) (w : World) (h : w.cell? ⟨B, 0, none⟩ = some (.string nm)) :
    Calls Tryz.prog 146 #[cliV y, .pointer (some ⟨B, 0, none⟩)] w fun e w' => e = .returned (.bool (isN (fun y : CliR => y.nm) nm y)) ∧ Gr w w' := by
  unfold cliV isN
  obtain ⟨W, hW, g, a0, a1, a2, a3⟩ := box4 w (.string y.nm) (.string y.na) (.int .i64 y.bn) (.string y.ct) 74
  have hB := g.cell h
  rw [← hW] at hB
  have HG := Lib.hid (show Gr w (w.alloc (.cells #[.string y.nm, .string y.na, .int .i64 y.bn, .string y.ct] 74)) from (Gr.refl w).alloc _)
  clear hW h g a0 a1 a2 a3
  go_enter Tryz.func146, Tryz.ntmps146
  go_wp2_with fail
  go_ret
  exact ⟨rfl, HG.out⟩
set_option maxHeartbeats 1000000 in
set_option maxRecDepth 100000 in
theorem indexCli_pos (xs : List CliR) (n b off cap : Nat) (B : Nat) (nm : ByteArray) (w : World) (hn : n ≤ xs.length) (h1 : n ≤ 1000) (hc : ∀ i x, xs[i]? = some x → CliAt w b (off + i * 4) x) (hB : w.cell? ⟨B, 0, none⟩ = some (.string nm)) :
    Calls Tryz.prog 161 #[.slice (some ⟨b, off, none⟩) n cap, .func (.func 146) #[] #[.pointer (some ⟨B, 0, none⟩)]] w fun e w' => e = .returned (.int .i64 (idxQ (isN (fun y : CliR => y.nm) nm) xs n 0)) ∧ Gr w w' := by
  have HC := Lib.hid hc
  have HN := Lib.hid hn
  have HE : Hid (idxQ (isN (fun y : CliR => y.nm) nm) xs n 0 = idxQ (isN (fun y : CliR => y.nm) nm) xs (n - 0) 0) := rfl
  clear hc hn
  go_enter Tryz.func161, Tryz.ntmps161
  go_wp2_with fail
  go_loopg [8] n (fun gk s8 wr => ∃ i : Nat, s8 = .int .i64 i ∧ gk + i = n ∧ Gr w wr ∧ Hid (idxQ (isN (fun y : CliR => y.nm) nm) xs (n - i) i = idxQ (isN (fun y : CliR => y.nm) nm) xs (n - 0) 0))
  case atStart => exact ⟨0, rfl, by omega, Gr.refl _, rfl⟩
  case round =>
    obtain ⟨i, rfl, hi, hg, HF⟩ := hrel
    by_cases hlt : i < n
    · obtain ⟨x, hx⟩ : ∃ x, xs[i]? = some x := ⟨xs[i]'(by have := HN.out; omega), List.getElem?_eq_getElem _⟩
      obtain ⟨c0, c1, c2, c3⟩ := (HC.out i x hx).gr hg
      have hf := idxQ_step (Q := (isN (fun y : CliR => y.nm) nm)) hx hlt
      have hi2 : (i : Int) < n := by omega
      have HT := Lib.hid (sameCli_c x B nm wr (hg.cell hB))
      clear hx
      try unfold cliV at HT
      cases e1 : (isN (fun y : CliR => y.nm) nm) x
      · rw [e1] at hf HT
        simp only [Bool.false_eq_true, if_false] at hf
        have HF2 := Lib.hid hf
        clear hf e1
        go_wp2_with (refine HT.out.mono ?_; rintro e w4 ⟨rfl, hg2⟩)
        go_roundg (gk - 1)
        case measure => omega
        case rel => exact ⟨i + 1, by go_num, by omega, hg.trans hg2, by unfold Hid; rw [← HF2.out, HF.out]⟩
      · rw [e1] at hf HT
        simp only [if_true] at hf
        have HF2 := Lib.hid hf
        clear hf e1
        go_wp2_with (refine HT.out.mono ?_; rintro e w4 ⟨rfl, hg2⟩)
        go_ret
        exact ⟨by rw [HE.out, ← HF.out, HF2.out]; rfl, hg.trans hg2⟩
    · have HE2 := Lib.hid (idxQ_end (Q := (isN (fun y : CliR => y.nm) nm)) (xs := xs) (i := i) (n := n) (by omega))
      have hi2 : (n : Int) ≤ i := by omega
      go_wp2_with fail
      go_ret
      exact ⟨by rw [HE.out, ← HF.out, HE2.out]; rfl, hg⟩
theorem containsCli_pos (xs : List CliR) (n b off cap : Nat) (B : Nat) (nm : ByteArray) (w : World) (hn : n ≤ xs.length) (h1 : n ≤ 1000) (hc : ∀ i x, xs[i]? = some x → CliAt w b (off + i * 4) x) (hB : w.cell? ⟨B, 0, none⟩ = some (.string nm)) :
    Calls Tryz.prog 147 #[.slice (some ⟨b, off, none⟩) n cap, .func (.func 146) #[] #[.pointer (some ⟨B, 0, none⟩)]] w fun e w' => e = .returned (.bool (dupN (fun y : CliR => y.nm) xs n nm)) ∧ Gr w w' := by
  have HI := Lib.hid (indexCli_pos xs n b off cap B nm w hn h1 hc hB)
  have HE : Hid ((dupN (fun y : CliR => y.nm) xs n nm) = decide (0 ≤ idxQ (isN (fun y : CliR => y.nm) nm) xs n 0)) := by
    unfold Hid
    rw [idxQ_any (isN (fun y : CliR => y.nm) nm) xs n 0 (by omega), List.drop_zero]
    rfl
  clear hc
  generalize idxQ (isN (fun y : CliR => y.nm) nm) xs n 0 = z at *
  go_enter Tryz.func147, Tryz.ntmps147
  go_wp2_with fail
  refine HI.out.mono ?_
  rintro e w4 ⟨rfl, hg⟩
  go_wp2_with fail
  go_ret
  exact ⟨by rw [HE.out]; rfl, hg⟩
set_option maxHeartbeats 1000000 in
set_option maxRecDepth 100000 in
theorem oneCli_c (xs : List CliR) (i b off cap : Nat) (x : CliR) (w : World) (hi : i ≤ xs.length) (h1 : xs.length ≤ 1000) (hc : ∀ i x, xs[i]? = some x → CliAt w b (off + i * 4) x) :
    Calls Tryz.prog 145 #[.slice (some ⟨b, off, none⟩) i cap, cliV x] w fun e w' => e = .returned (.int .i64 (cliE xs i x)) ∧ Gr w w' := by
  have hR : cliE xs i x = firstE [nmE x.nm, nmE x.na, nmE x.ct, if dupN (fun y : CliR => y.nm) xs i x.nm then 9 else 0, outE x.bn 0 99999] := rfl
  have HD := Lib.hid (fun (Bx : Nat) (W : World) (g : Gr w W) hB => containsCli_pos xs i b off cap Bx x.nm W hi (by omega) (fun i x hx => (hc i x hx).gr g) hB)
  generalize dupN (fun y : CliR => y.nm) xs i x.nm = d at *
  obtain ⟨e1, h1', H1⟩ := name_e x.nm
  obtain ⟨e2, h2', H2⟩ := name_e x.na
  obtain ⟨e3, h3', H3⟩ := name_e x.ct
  obtain ⟨e4, h4', H4⟩ := if_e d 9
  obtain ⟨e5, h5', H5⟩ := range_e x.bn 0 99999
  rw [← h1', ← h2', ← h3', ← h4', ← h5'] at hR
  have hF := fst5 e1 e2 e3 e4 e5
  rw [← hR] at hF
  generalize cliE xs i x = err at *
  replace H1 := Lib.hid (fun W (_ : Gr w W) => H1 W)
  replace H2 := Lib.hid (fun W (_ : Gr w W) => H2 W)
  replace H3 := Lib.hid (fun W (_ : Gr w W) => H3 W)
  replace H4 := Lib.hid H4
  replace H5 := Lib.hid H5
  have HF := Lib.hid hF
  unfold cliV
  obtain ⟨W, hW, g, a0, a1, a2, a3⟩ := box4 w (.string x.nm) (.string x.na) (.int .i64 x.bn) (.string x.ct) 74
  have HW := Lib.hid hW
  clear hW hc hF hR h1' h2' h3' h4' h5'
  go_enter Tryz.func145, Tryz.ntmps145
  go_wp2_with fail
  rw [HW.out]
  generalize w.heap.size = Bx at *
  clear HW
  have gd := (Gr.refl W).drew
  replace a0 := gd.cell a0
  replace a1 := gd.cell a1
  replace a2 := gd.cell a2
  replace a3 := gd.cell a3
  replace g := g.trans gd
  clear gd
  refine wp_region_held_drew (S := (fun w' => w'.cell? ⟨Bx, 0, none⟩ = some (.string x.nm) ∧ w'.cell? ⟨Bx, 1, none⟩ = some (.string x.na) ∧ w'.cell? ⟨Bx, 2, none⟩ = some (.int .i64 x.bn) ∧ w'.cell? ⟨Bx, 3, none⟩ = some (.string x.ct))) (by kernel_rfl) ⟨a0, a1, a2, a3⟩ (fun hHeld => ?_)
  generalize W.drew = V at *
  refine wpAnyH_take (i := 0) (v := (.pointer (some ⟨Bx, 0, none⟩))) (op_at rfl) (by kernel_rfl) (by kernel_rfl) (by kernel_rfl) (fun _ _ _ h => h) (Or.inl ⟨rfl, fun w hSw => ?_⟩) (by assumption) ?_
  · (try dsimp only at hSw); go_simp; try with_reducible rfl
  (try simp only [Act.put, List.setIfInBounds_toArray, List.set_cons_zero, List.set_cons_succ])
  refine wpAnyH_take (i := 1) (v := (.string x.nm)) (op_at rfl) (by kernel_rfl) (by kernel_rfl) (by kernel_rfl) (fun _ _ _ h => h) (Or.inl ⟨rfl, fun w hSw => ?_⟩) (by assumption) ?_
  · (try dsimp only at hSw); go_simp; try with_reducible rfl
  (try simp only [Act.put, List.setIfInBounds_toArray, List.set_cons_zero, List.set_cons_succ])
  refine wpAnyH_take (i := 3) (v := (.pointer (some ⟨Bx, 1, none⟩))) (op_at rfl) (by kernel_rfl) (by kernel_rfl) (by kernel_rfl) (fun _ _ _ h => h) (Or.inl ⟨rfl, fun w hSw => ?_⟩) (by assumption) ?_
  · (try dsimp only at hSw); go_simp; try with_reducible rfl
  (try simp only [Act.put, List.setIfInBounds_toArray, List.set_cons_zero, List.set_cons_succ])
  refine wpAnyH_take (i := 4) (v := (.string x.na)) (op_at rfl) (by kernel_rfl) (by kernel_rfl) (by kernel_rfl) (fun _ _ _ h => h) (Or.inl ⟨rfl, fun w hSw => ?_⟩) (by assumption) ?_
  · (try dsimp only at hSw); go_simp; try with_reducible rfl
  (try simp only [Act.put, List.setIfInBounds_toArray, List.set_cons_zero, List.set_cons_succ])
  refine wpAnyH_take (i := 6) (v := (.pointer (some ⟨Bx, 3, none⟩))) (op_at rfl) (by kernel_rfl) (by kernel_rfl) (by kernel_rfl) (fun _ _ _ h => h) (Or.inl ⟨rfl, fun w hSw => ?_⟩) (by assumption) ?_
  · (try dsimp only at hSw); go_simp; try with_reducible rfl
  (try simp only [Act.put, List.setIfInBounds_toArray, List.set_cons_zero, List.set_cons_succ])
  refine wpAnyH_take (i := 7) (v := (.string x.ct)) (op_at rfl) (by kernel_rfl) (by kernel_rfl) (by kernel_rfl) (fun _ _ _ h => h) (Or.inl ⟨rfl, fun w hSw => ?_⟩) (by assumption) ?_
  · (try dsimp only at hSw); go_simp; try with_reducible rfl
  (try simp only [Act.put, List.setIfInBounds_toArray, List.set_cons_zero, List.set_cons_succ])
  refine wpAnyH_take (i := 9) (v := (.slice (some ⟨b, off, none⟩) i cap)) (op_at rfl) (by kernel_rfl) (by kernel_rfl) (by kernel_rfl) (fun _ _ _ h => h) (Or.inl ⟨rfl, fun w hSw => ?_⟩) (by assumption) ?_
  · (try dsimp only at hSw); go_simp; try with_reducible rfl
  (try simp only [Act.put, List.setIfInBounds_toArray, List.set_cons_zero, List.set_cons_succ])
  refine wpAnyH_take (i := 10) (v := (.func (.func 146) #[] #[.pointer (some ⟨Bx, 0, none⟩)])) (op_at rfl) (by kernel_rfl) (by kernel_rfl) (by kernel_rfl) (fun _ _ _ h => h) (Or.inl ⟨rfl, fun w hSw => ?_⟩) (by assumption) ?_
  · (try dsimp only at hSw); go_simp; try with_reducible rfl
  (try simp only [Act.put, List.setIfInBounds_toArray, List.set_cons_zero, List.set_cons_succ])
  refine wpAnyH_take (i := 13) (v := (.pointer (some ⟨Bx, 2, none⟩))) (op_at rfl) (by kernel_rfl) (by kernel_rfl) (by kernel_rfl) (fun _ _ _ h => h) (Or.inl ⟨rfl, fun w hSw => ?_⟩) (by assumption) ?_
  · (try dsimp only at hSw); go_simp; try with_reducible rfl
  (try simp only [Act.put, List.setIfInBounds_toArray, List.set_cons_zero, List.set_cons_succ])
  refine wpAnyH_take (i := 14) (v := (.int .i64 x.bn)) (op_at rfl) (by kernel_rfl) (by kernel_rfl) (by kernel_rfl) (fun _ _ _ h => h) (Or.inl ⟨rfl, fun w hSw => ?_⟩) (by assumption) ?_
  · (try dsimp only at hSw); go_simp; try with_reducible rfl
  (try simp only [Act.put, List.setIfInBounds_toArray, List.set_cons_zero, List.set_cons_succ])
  refine wpAnyH_ready (rs := [2]) (by kernel_rfl) (by simp) (AllReadyH.cons (op_at rfl) (fun K hK => ?_) AllReadyH.nil)
  go_simp
  (refine (H1.out _ g).mono ?_; rintro e W1 ⟨rfl, hg⟩; replace a0 := hg.cell a0; replace a1 := hg.cell a1; replace a2 := hg.cell a2; replace a3 := hg.cell a3; replace g := g.trans hg; clear hg)
  go_wp2_with fail
  refine hK.out _ _ ⟨a0, a1, a2, a3⟩ (fun hHeld => ?_)
  clear hK K
  (try simp only [Act.put, List.setIfInBounds_toArray, List.set_cons_zero, List.set_cons_succ])
  refine wpAnyH_ready (rs := [5]) (by kernel_rfl) (by simp) (AllReadyH.cons (op_at rfl) (fun K hK => ?_) AllReadyH.nil)
  go_simp
  (refine (H2.out _ g).mono ?_; rintro e W2 ⟨rfl, hg⟩; replace a0 := hg.cell a0; replace a1 := hg.cell a1; replace a2 := hg.cell a2; replace a3 := hg.cell a3; replace g := g.trans hg; clear hg)
  go_wp2_with fail
  refine hK.out _ _ ⟨a0, a1, a2, a3⟩ (fun hHeld => ?_)
  clear hK K
  (try simp only [Act.put, List.setIfInBounds_toArray, List.set_cons_zero, List.set_cons_succ])
  refine wpAnyH_ready (rs := [8]) (by kernel_rfl) (by simp) (AllReadyH.cons (op_at rfl) (fun K hK => ?_) AllReadyH.nil)
  go_simp
  (refine (H3.out _ g).mono ?_; rintro e W3 ⟨rfl, hg⟩; replace a0 := hg.cell a0; replace a1 := hg.cell a1; replace a2 := hg.cell a2; replace a3 := hg.cell a3; replace g := g.trans hg; clear hg)
  go_wp2_with fail
  refine hK.out _ _ ⟨a0, a1, a2, a3⟩ (fun hHeld => ?_)
  clear hK K
  (try simp only [Act.put, List.setIfInBounds_toArray, List.set_cons_zero, List.set_cons_succ])
  refine wpAnyH_ready (rs := [11]) (by kernel_rfl) (by simp) (AllReadyH.cons (op_at rfl) (fun K hK => ?_) AllReadyH.nil)
  go_simp
  (refine (HD.out Bx _ g a0).mono ?_; rintro e W4 ⟨rfl, hg⟩; replace a0 := hg.cell a0; replace a1 := hg.cell a1; replace a2 := hg.cell a2; replace a3 := hg.cell a3; replace g := g.trans hg; clear hg)
  go_wp2_with fail
  refine hK.out _ _ ⟨a0, a1, a2, a3⟩ (fun hHeld => ?_)
  clear hK K
  (try simp only [Act.put, List.setIfInBounds_toArray, List.set_cons_zero, List.set_cons_succ])
  refine wpAnyH_ready (rs := [12]) (by kernel_rfl) (by simp) (AllReadyH.cons (op_at rfl) (fun K hK => ?_) AllReadyH.nil)
  go_simp
  (refine (H4.out _).mono ?_; rintro e w' ⟨rfl, rfl⟩)
  go_wp2_with fail
  refine hK.out _ _ ⟨a0, a1, a2, a3⟩ (fun hHeld => ?_)
  clear hK K
  (try simp only [Act.put, List.setIfInBounds_toArray, List.set_cons_zero, List.set_cons_succ])
  refine wpAnyH_ready (rs := [15]) (by kernel_rfl) (by simp) (AllReadyH.cons (op_at rfl) (fun K hK => ?_) AllReadyH.nil)
  go_simp
  (refine (H5.out _).mono ?_; rintro e w' ⟨rfl, rfl⟩)
  go_wp2_with fail
  refine hK.out _ _ ⟨a0, a1, a2, a3⟩ (fun hHeld => ?_)
  clear hK K
  (try simp only [Act.put, List.setIfInBounds_toArray, List.set_cons_zero, List.set_cons_succ])
  refine wpAnyH_ready (rs := [16]) (by kernel_rfl) (by simp) (AllReadyH.cons (op_at rfl) (fun K hK => ?_) AllReadyH.nil)
  go_simp
  obtain ⟨WW, hWW, gW, s0, s1, s2, s3, s4⟩ := bx5 W4 (.int .i64 e1) (.int .i64 e2) (.int .i64 e3) (.int .i64 e4) (.int .i64 e5) 32
  rw [hWW]
  clear hWW
  replace a0 := gW.cell a0
  replace a1 := gW.cell a1
  replace a2 := gW.cell a2
  replace a3 := gW.cell a3
  replace g := g.trans gW
  refine hK.out _ _ ⟨a0, a1, a2, a3⟩ (fun hHeld => ?_)
  clear hK K
  (try simp only [Act.put, List.setIfInBounds_toArray, List.set_cons_zero, List.set_cons_succ])
  refine wpAnyH_ready (rs := [17]) (by kernel_rfl) (by simp) (AllReadyH.cons (op_at rfl) (fun K hK => ?_) AllReadyH.nil)
  go_simp
  (refine (HF.out _ _ WW s0 s1 s2 s3 s4).mono ?_; rintro e w8 ⟨rfl, rfl⟩)
  go_wp2_with fail
  refine hK.out _ _ ⟨a0, a1, a2, a3⟩ (fun hHeld => ?_)
  clear hK K
  (try simp only [Act.put, List.setIfInBounds_toArray, List.set_cons_zero, List.set_cons_succ])
  refine wpAnyH_take (i := 18) (v := (.int .i64 err)) (op_at rfl) (by kernel_rfl) (by kernel_rfl) (by kernel_rfl) (fun _ _ _ h => h) (Or.inl ⟨rfl, fun w hSw => ?_⟩) (by assumption) ?_
  · (try dsimp only at hSw); go_simp; try with_reducible rfl
  (try simp only [Act.put, List.setIfInBounds_toArray, List.set_cons_zero, List.set_cons_succ])
  refine wpAnyH_done (by kernel_rfl) ?_ _
  go_wp2_with fail
  go_ret
  exact ⟨rfl, g⟩
end Go.Proofs.YtenkbeeiblhnjaaGreat
