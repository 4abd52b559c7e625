/- Juries: posts, as the program checks them. -/
import Derived.Test.YtjojbcgppkfidaaGreatGNmsC
import Derived.Test.YtjojbcgppkfidaaGreatGOpN
namespace Go.Proofs.YtjojbcgppkfidaaGreat
open Go.RowKit Go.Lib
set_option linter.unusedSimpArgs false
set_option linter.unusedVariables false
structure PoR where
  nm : ByteArray
  ro : ByteArray
  hr : Int
  u : Value
  ns : List ByteArray
/-- the cells of one at a place, and its list -/
structure PoAt (w : World) (b off : Nat) (x : PoR) : Prop where
  nm : w.cell? ⟨b, off, none⟩ = some (.string x.nm)
  ro : w.cell? ⟨b, off + 1, none⟩ = some (.string x.ro)
  hr : w.cell? ⟨b, off + 2, none⟩ = some (.int .i64 x.hr)
  u : w.cell? ⟨b, off + 3, none⟩ = some (x.u)
  ns : StrAts w x.u x.ns
theorem PoAt.gr {w w' : World} {b off : Nat} {x : PoR} (h : PoAt w b off x) (k : Gr w w') : PoAt w' b off x := ⟨k.cell h.nm, k.cell h.ro, k.cell h.hr, k.cell h.u, h.ns.gr k⟩
def poV (x : PoR) : Value := .agg #[.string x.nm, .string x.ro, .int .i64 x.hr, x.u]
/-- the slice v reads as these -/
structure PoAts (w : World) (v : Value) (xs : List PoR) : Prop where
  mk' ::
  out : ∃ p cap, v = .slice p xs.length cap ∧ (xs.length ≤ cap ∧ cap ≤ maxLen) ∧ (0 < xs.length → ∃ b off, p = some ⟨b, off, none⟩ ∧ ∀ i x, xs[i]? = some x → PoAt w b (off + i * 4) x)
theorem PoAts.gr {w w' : World} {v : Value} {xs : List PoR} (h : PoAts w v xs) (k : Gr w w') : PoAts w' v xs := by
  obtain ⟨⟨p, cap, rfl, hcap, hh⟩⟩ := h
  refine ⟨p, cap, rfl, hcap, fun h0 => ?_⟩
  obtain ⟨b, off, h1, h2⟩ := hh h0
  exact ⟨b, off, h1, fun i x hx => (h2 i x hx).gr k⟩
theorem samePst_c (y : PoR) (B : Nat) (nm : ByteArray) (w : World) (h : w.cell? ⟨B, 0, none⟩ = some (.string nm)) :
    Calls Tryz.prog 85 #[poV y, .pointer (some ⟨B, 0, none⟩)] w fun e w' => e = .returned (.bool (isN (fun y : PoR => y.nm) nm y)) ∧ Gr w w' := by
  unfold poV isN
  obtain ⟨W, hW, g, a0, a1, a2, a3⟩ := box4 w (.string y.nm) (.string y.ro) (.int .i64 y.hr) (y.u) 53
  have hB := g.cell h
  rw [← hW] at hB
  have HG := Lib.hid (show Gr w (w.alloc (.cells #[.string y.nm, .string y.ro, .int .i64 y.hr, y.u] 53)) from (Gr.refl w).alloc _)
  clear hW h g a0 a1 a2 a3
  go_enter Tryz.func85, Tryz.ntmps85
  go_wp2_with fail
  go_ret
  exact ⟨rfl, HG.out⟩
set_option maxHeartbeats 1000000 in
set_option maxRecDepth 100000 in
theorem indexPst_pos (xs : List PoR) (n b off cap : Nat) (B : Nat) (nm : ByteArray) (w : World) (hn : n ≤ xs.length) (h1 : n ≤ 1000) (hc : ∀ i x, xs[i]? = some x → PoAt w b (off + i * 4) x) (hB : w.cell? ⟨B, 0, none⟩ = some (.string nm)) :
    Calls Tryz.prog 118 #[.slice (some ⟨b, off, none⟩) n cap, .func (.func 85) #[] #[.pointer (some ⟨B, 0, none⟩)]] w fun e w' => e = .returned (.int .i64 (idxQ (isN (fun y : PoR => y.nm) nm) xs n 0)) ∧ Gr w w' := by
  have HC := Lib.hid hc
  have HN := Lib.hid hn
  have HE : Hid (idxQ (isN (fun y : PoR => y.nm) nm) xs n 0 = idxQ (isN (fun y : PoR => y.nm) nm) xs (n - 0) 0) := rfl
  clear hc hn
  go_enter Tryz.func118, Tryz.ntmps118
  go_wp2_with fail
  go_loopg [8] n (fun gk s8 wr => ∃ i : Nat, s8 = .int .i64 i ∧ gk + i = n ∧ Gr w wr ∧ Hid (idxQ (isN (fun y : PoR => y.nm) nm) xs (n - i) i = idxQ (isN (fun y : PoR => y.nm) nm) xs (n - 0) 0))
  case atStart => exact ⟨0, rfl, by omega, Gr.refl _, rfl⟩
  case round =>
    obtain ⟨i, rfl, hi, hg, HF⟩ := hrel
    by_cases hlt : i < n
    · obtain ⟨x, hx⟩ : ∃ x, xs[i]? = some x := ⟨xs[i]'(by have := HN.out; omega), List.getElem?_eq_getElem _⟩
      obtain ⟨c0, c1, c2, c3, -⟩ := (HC.out i x hx).gr hg
      have hf := idxQ_step (Q := (isN (fun y : PoR => y.nm) nm)) hx hlt
      have hi2 : (i : Int) < n := by omega
      have HT := Lib.hid (samePst_c x B nm wr (hg.cell hB))
      clear hx
      try unfold poV at HT
      cases e1 : (isN (fun y : PoR => y.nm) nm) x
      · rw [e1] at hf HT
        simp only [Bool.false_eq_true, if_false] at hf
        have HF2 := Lib.hid hf
        clear hf e1
        go_wp2_with (refine HT.out.mono ?_; rintro e w4 ⟨rfl, hg2⟩)
        go_roundg (gk - 1)
        case measure => omega
        case rel => exact ⟨i + 1, by go_num, by omega, hg.trans hg2, by unfold Hid; rw [← HF2.out, HF.out]⟩
      · rw [e1] at hf HT
        simp only [if_true] at hf
        have HF2 := Lib.hid hf
        clear hf e1
        go_wp2_with (refine HT.out.mono ?_; rintro e w4 ⟨rfl, hg2⟩)
        go_ret
        exact ⟨by rw [HE.out, ← HF.out, HF2.out]; rfl, hg.trans hg2⟩
    · have HE2 := Lib.hid (idxQ_end (Q := (isN (fun y : PoR => y.nm) nm)) (xs := xs) (i := i) (n := n) (by omega))
      have hi2 : (n : Int) ≤ i := by omega
      go_wp2_with fail
      go_ret
      exact ⟨by rw [HE.out, ← HF.out, HE2.out]; rfl, hg⟩
theorem containsPst_pos (xs : List PoR) (n b off cap : Nat) (B : Nat) (nm : ByteArray) (w : World) (hn : n ≤ xs.length) (h1 : n ≤ 1000) (hc : ∀ i x, xs[i]? = some x → PoAt w b (off + i * 4) x) (hB : w.cell? ⟨B, 0, none⟩ = some (.string nm)) :
    Calls Tryz.prog 86 #[.slice (some ⟨b, off, none⟩) n cap, .func (.func 85) #[] #[.pointer (some ⟨B, 0, none⟩)]] w fun e w' => e = .returned (.bool (dupN (fun y : PoR => y.nm) xs n nm)) ∧ Gr w w' := by
  have HI := Lib.hid (indexPst_pos xs n b off cap B nm w hn h1 hc hB)
  have HE : Hid ((dupN (fun y : PoR => y.nm) xs n nm) = decide (0 ≤ idxQ (isN (fun y : PoR => y.nm) nm) xs n 0)) := by
    unfold Hid
    rw [idxQ_any (isN (fun y : PoR => y.nm) nm) xs n 0 (by omega), List.drop_zero]
    all_goals rfl
  clear hc
  generalize idxQ (isN (fun y : PoR => y.nm) nm) xs n 0 = z at *
  go_enter Tryz.func86, Tryz.ntmps86
  go_wp2_with fail
  refine HI.out.mono ?_
  rintro e w4 ⟨rfl, hg⟩
  go_wp2_with fail
  go_ret
  exact ⟨by rw [HE.out]; rfl, hg⟩
/-- the error of one -/
def poE (xs : List PoR) (i : Nat) (x : PoR) : Int := firstE [nmE x.nm, nmE x.ro, if dupN (fun y : PoR => y.nm) xs i x.nm then 9 else 0, outE x.hr 0 99999, listE 160 (strE x.ns) x.ns]
set_option maxHeartbeats 1000000 in
set_option maxRecDepth 100000 in
theorem onePst_c (xs : List PoR) (i b off cap : Nat) (x : PoR) (w : World) (hi : i ≤ xs.length) (hx : StrAts w x.u x.ns) (h1 : xs.length ≤ 1000) (hc : ∀ i x, xs[i]? = some x → PoAt w b (off + i * 4) x) :
    Calls Tryz.prog 41 #[.slice (some ⟨b, off, none⟩) i cap, poV x] w fun e w' => e = .returned (.int .i64 (poE xs i x)) ∧ Gr w w' := by
  have hR : poE xs i x = firstE [nmE x.nm, nmE x.ro, if dupN (fun y : PoR => y.nm) xs i x.nm then 9 else 0, outE x.hr 0 99999, listE 160 (strE x.ns) x.ns] := rfl
  have HD := Lib.hid (fun (Bx : Nat) (W : World) (g : Gr w W) hB => containsPst_pos xs i b off cap Bx x.nm W (by omega) (by omega) (fun i x hx => (hc i x hx).gr g) hB)
  obtain ⟨e1, h1', H1⟩ := name_e x.nm
  obtain ⟨e2, h2', H2⟩ := name_e x.ro
  obtain ⟨e3, h3', H3⟩ := if_e (dupN (fun y : PoR => y.nm) xs i x.nm) 9
  obtain ⟨e4, h4', H4⟩ := day_e x.hr
  obtain ⟨e5, h5'⟩ : ∃ z, z = listE 160 (strE x.ns) x.ns := ⟨_, rfl⟩
  have HL5 := Lib.hid (fun W (g : Gr w W) => checkNms_c x.ns 160 x.u W (by omega) (hx.gr g))
  rw [← h5'] at HL5
  rw [← h1', ← h2', ← h3', ← h4', ← h5'] at hR
  have hF := fst5 e1 e2 e3 e4 e5
  rw [← hR] at hF
  generalize poE xs i x = err at *
  generalize dupN (fun y : PoR => y.nm) xs i x.nm = d at *
  replace H1 := Lib.hid (fun W (_ : Gr w W) => H1 W)
  replace H2 := Lib.hid (fun W (_ : Gr w W) => H2 W)
  replace H3 := Lib.hid H3
  replace H4 := Lib.hid H4
  have HF := Lib.hid hF
  obtain ⟨pu, nu, cu, hu⟩ : ∃ p n c, x.u = .slice p n c := by
    obtain ⟨⟨p, cap, e, _⟩⟩ := hx
    exact ⟨p, _, cap, e⟩
  unfold poV
  obtain ⟨W, hW, g, a0, a1, a2, a3⟩ := box4 w (.string x.nm) (.string x.ro) (.int .i64 x.hr) (x.u) 53
  have HW := Lib.hid hW
  clear hW hc hF hR h1' h2' h3' h4' h5' hx hu
  go_enter Tryz.func41, Tryz.ntmps41
  go_wp2_with fail
  rw [HW.out]
  generalize w.heap.size = Bx at *
  clear HW
  have gd := (Gr.refl W).drew
  replace a0 := gd.cell a0
  replace a1 := gd.cell a1
  replace a2 := gd.cell a2
  replace a3 := gd.cell a3
  replace g := g.trans gd
  clear gd
  refine wp_region_held_drew (S := (fun w' => w'.cell? ⟨Bx, 0, none⟩ = some (.string x.nm) ∧ w'.cell? ⟨Bx, 1, none⟩ = some (.string x.ro) ∧ w'.cell? ⟨Bx, 2, none⟩ = some (.int .i64 x.hr) ∧ w'.cell? ⟨Bx, 3, none⟩ = some x.u)) (by kernel_rfl) ⟨a0, a1, a2, a3⟩ (fun hHeld => ?_)
  generalize W.drew = V at *
  refine wpAnyH_take (i := 0) (v := (.pointer (some ⟨Bx, 0, none⟩))) (op_at rfl) (by kernel_rfl) (by kernel_rfl) (by kernel_rfl) (fun _ _ _ h => h) (Or.inl ⟨rfl, fun w hSw => ?_⟩) (by assumption) ?_
  · (try dsimp only at hSw); go_simp; try with_reducible rfl
  (try simp only [Act.put, List.setIfInBounds_toArray, List.set_cons_zero, List.set_cons_succ])
  refine wpAnyH_take (i := 1) (v := (.string x.nm)) (op_at rfl) (by kernel_rfl) (by kernel_rfl) (by kernel_rfl) (fun _ _ _ h => h) (Or.inl ⟨rfl, fun w hSw => ?_⟩) (by assumption) ?_
  · (try dsimp only at hSw); go_simp; try with_reducible rfl
  (try simp only [Act.put, List.setIfInBounds_toArray, List.set_cons_zero, List.set_cons_succ])
  refine wpAnyH_take (i := 3) (v := (.pointer (some ⟨Bx, 1, none⟩))) (op_at rfl) (by kernel_rfl) (by kernel_rfl) (by kernel_rfl) (fun _ _ _ h => h) (Or.inl ⟨rfl, fun w hSw => ?_⟩) (by assumption) ?_
  · (try dsimp only at hSw); go_simp; try with_reducible rfl
  (try simp only [Act.put, List.setIfInBounds_toArray, List.set_cons_zero, List.set_cons_succ])
  refine wpAnyH_take (i := 4) (v := (.string x.ro)) (op_at rfl) (by kernel_rfl) (by kernel_rfl) (by kernel_rfl) (fun _ _ _ h => h) (Or.inl ⟨rfl, fun w hSw => ?_⟩) (by assumption) ?_
  · (try dsimp only at hSw); go_simp; try with_reducible rfl
  (try simp only [Act.put, List.setIfInBounds_toArray, List.set_cons_zero, List.set_cons_succ])
  refine wpAnyH_take (i := 6) (v := (.slice (some ⟨b, off, none⟩) i cap)) (op_at rfl) (by kernel_rfl) (by kernel_rfl) (by kernel_rfl) (fun _ _ _ h => h) (Or.inl ⟨rfl, fun w hSw => ?_⟩) (by assumption) ?_
  · (try dsimp only at hSw); go_simp; try with_reducible rfl
  (try simp only [Act.put, List.setIfInBounds_toArray, List.set_cons_zero, List.set_cons_succ])
  refine wpAnyH_take (i := 7) (v := (.func (.func 85) #[] #[.pointer (some ⟨Bx, 0, none⟩)])) (op_at rfl) (by kernel_rfl) (by kernel_rfl) (by kernel_rfl) (fun _ _ _ h => h) (Or.inl ⟨rfl, fun w hSw => ?_⟩) (by assumption) ?_
  · (try dsimp only at hSw); go_simp; try with_reducible rfl
  (try simp only [Act.put, List.setIfInBounds_toArray, List.set_cons_zero, List.set_cons_succ])
  refine wpAnyH_take (i := 10) (v := (.pointer (some ⟨Bx, 2, none⟩))) (op_at rfl) (by kernel_rfl) (by kernel_rfl) (by kernel_rfl) (fun _ _ _ h => h) (Or.inl ⟨rfl, fun w hSw => ?_⟩) (by assumption) ?_
  · (try dsimp only at hSw); go_simp; try with_reducible rfl
  (try simp only [Act.put, List.setIfInBounds_toArray, List.set_cons_zero, List.set_cons_succ])
  refine wpAnyH_take (i := 11) (v := (.int .i64 x.hr)) (op_at rfl) (by kernel_rfl) (by kernel_rfl) (by kernel_rfl) (fun _ _ _ h => h) (Or.inl ⟨rfl, fun w hSw => ?_⟩) (by assumption) ?_
  · (try dsimp only at hSw); go_simp; try with_reducible rfl
  (try simp only [Act.put, List.setIfInBounds_toArray, List.set_cons_zero, List.set_cons_succ])
  refine wpAnyH_take (i := 13) (v := (.pointer (some ⟨Bx, 3, none⟩))) (op_at rfl) (by kernel_rfl) (by kernel_rfl) (by kernel_rfl) (fun _ _ _ h => h) (Or.inl ⟨rfl, fun w hSw => ?_⟩) (by assumption) ?_
  · (try dsimp only at hSw); go_simp; try with_reducible rfl
  (try simp only [Act.put, List.setIfInBounds_toArray, List.set_cons_zero, List.set_cons_succ])
  refine wpAnyH_take (i := 14) (v := x.u) (op_at rfl) (by kernel_rfl) (by kernel_rfl) (by kernel_rfl) (fun _ _ _ h => h) (Or.inl ⟨rfl, fun w hSw => ?_⟩) (by assumption) ?_
  · (try dsimp only at hSw); go_simp; try with_reducible rfl
  (try simp only [Act.put, List.setIfInBounds_toArray, List.set_cons_zero, List.set_cons_succ])
  refine wpAnyH_ready (rs := [2]) (by kernel_rfl) (by simp) (AllReadyH.cons (op_at rfl) (fun K hK => ?_) AllReadyH.nil)
  go_simp
  (refine (H1.out _ g).mono ?_; rintro e W1 ⟨rfl, hg⟩; replace a0 := hg.cell a0; replace a1 := hg.cell a1; replace a2 := hg.cell a2; replace a3 := hg.cell a3; replace g := g.trans hg; clear hg)
  go_wp2_with fail
  refine hK.out _ _ ⟨a0, a1, a2, a3⟩ (fun hHeld => ?_)
  clear hK K
  (try simp only [Act.put, List.setIfInBounds_toArray, List.set_cons_zero, List.set_cons_succ])
  refine wpAnyH_ready (rs := [5]) (by kernel_rfl) (by simp) (AllReadyH.cons (op_at rfl) (fun K hK => ?_) AllReadyH.nil)
  go_simp
  (refine (H2.out _ g).mono ?_; rintro e W2 ⟨rfl, hg⟩; replace a0 := hg.cell a0; replace a1 := hg.cell a1; replace a2 := hg.cell a2; replace a3 := hg.cell a3; replace g := g.trans hg; clear hg)
  go_wp2_with fail
  refine hK.out _ _ ⟨a0, a1, a2, a3⟩ (fun hHeld => ?_)
  clear hK K
  (try simp only [Act.put, List.setIfInBounds_toArray, List.set_cons_zero, List.set_cons_succ])
  refine wpAnyH_ready (rs := [8]) (by kernel_rfl) (by simp) (AllReadyH.cons (op_at rfl) (fun K hK => ?_) AllReadyH.nil)
  go_simp
  (refine (HD.out Bx _ g a0).mono ?_; rintro e W3 ⟨rfl, hg⟩; replace a0 := hg.cell a0; replace a1 := hg.cell a1; replace a2 := hg.cell a2; replace a3 := hg.cell a3; replace g := g.trans hg; clear hg)
  go_wp2_with fail
  refine hK.out _ _ ⟨a0, a1, a2, a3⟩ (fun hHeld => ?_)
  clear hK K
  (try simp only [Act.put, List.setIfInBounds_toArray, List.set_cons_zero, List.set_cons_succ])
  refine wpAnyH_ready (rs := [9]) (by kernel_rfl) (by simp) (AllReadyH.cons (op_at rfl) (fun K hK => ?_) AllReadyH.nil)
  go_simp
  (refine (H3.out _).mono ?_; rintro e w' ⟨rfl, rfl⟩)
  go_wp2_with fail
  refine hK.out _ _ ⟨a0, a1, a2, a3⟩ (fun hHeld => ?_)
  clear hK K
  (try simp only [Act.put, List.setIfInBounds_toArray, List.set_cons_zero, List.set_cons_succ])
  refine wpAnyH_ready (rs := [12]) (by kernel_rfl) (by simp) (AllReadyH.cons (op_at rfl) (fun K hK => ?_) AllReadyH.nil)
  go_simp
  (refine (H4.out _).mono ?_; rintro e w' ⟨rfl, rfl⟩)
  go_wp2_with fail
  refine hK.out _ _ ⟨a0, a1, a2, a3⟩ (fun hHeld => ?_)
  clear hK K
  (try simp only [Act.put, List.setIfInBounds_toArray, List.set_cons_zero, List.set_cons_succ])
  refine wpAnyH_ready (rs := [15]) (by kernel_rfl) (by simp) (AllReadyH.cons (op_at rfl) (fun K hK => ?_) AllReadyH.nil)
  go_simp
  (refine (HL5.out _ g).mono ?_; rintro e W4 ⟨rfl, hg⟩; replace a0 := hg.cell a0; replace a1 := hg.cell a1; replace a2 := hg.cell a2; replace a3 := hg.cell a3; replace g := g.trans hg; clear hg)
  go_wp2_with fail
  refine hK.out _ _ ⟨a0, a1, a2, a3⟩ (fun hHeld => ?_)
  clear hK K
  (try simp only [Act.put, List.setIfInBounds_toArray, List.set_cons_zero, List.set_cons_succ])
  refine wpAnyH_ready (rs := [16]) (by kernel_rfl) (by simp) (AllReadyH.cons (op_at rfl) (fun K hK => ?_) AllReadyH.nil)
  go_simp
  obtain ⟨WW, hWW, gW, s0, s1, s2, s3, s4⟩ := bx5 W4 (.int .i64 e1) (.int .i64 e2) (.int .i64 e3) (.int .i64 e4) (.int .i64 e5) 36
  rw [hWW]
  clear hWW
  replace a0 := gW.cell a0
  replace a1 := gW.cell a1
  replace a2 := gW.cell a2
  replace a3 := gW.cell a3
  replace g := g.trans gW
  refine hK.out _ _ ⟨a0, a1, a2, a3⟩ (fun hHeld => ?_)
  clear hK K
  (try simp only [Act.put, List.setIfInBounds_toArray, List.set_cons_zero, List.set_cons_succ])
  refine wpAnyH_ready (rs := [17]) (by kernel_rfl) (by simp) (AllReadyH.cons (op_at rfl) (fun K hK => ?_) AllReadyH.nil)
  go_simp
  (refine (HF.out _ _ WW s0 s1 s2 s3 s4).mono ?_; rintro e w8 ⟨rfl, rfl⟩)
  go_wp2_with fail
  refine hK.out _ _ ⟨a0, a1, a2, a3⟩ (fun hHeld => ?_)
  clear hK K
  (try simp only [Act.put, List.setIfInBounds_toArray, List.set_cons_zero, List.set_cons_succ])
  refine wpAnyH_take (i := 18) (v := (.int .i64 err)) (op_at rfl) (by kernel_rfl) (by kernel_rfl) (by kernel_rfl) (fun _ _ _ h => h) (Or.inl ⟨rfl, fun w hSw => ?_⟩) (by assumption) ?_
  · (try dsimp only at hSw); go_simp; try with_reducible rfl
  (try simp only [Act.put, List.setIfInBounds_toArray, List.set_cons_zero, List.set_cons_succ])
  refine wpAnyH_done (by kernel_rfl) ?_ _
  go_wp2_with fail
  go_ret
  exact ⟨rfl, g⟩
end Go.Proofs.YtjojbcgppkfidaaGreat
namespace Go.Proofs.YtjojbcgppkfidaaGreat
open Go.RowKit Go.Lib
set_option linter.unusedSimpArgs false
set_option linter.unusedVariables false
set_option maxHeartbeats 1000000 in
set_option maxRecDepth 100000 in
theorem wrapPst_c (z : Int) (i n b off cap Ef L : Nat) (x : PoR) (w : World) (hi : i < n) (hcap : n ≤ cap) (hmx : cap ≤ maxLen)
    (ho : ∀ W, Gr w W → Calls Tryz.prog 41 #[.slice (some ⟨b, off, none⟩) i cap, poV x] W fun e w' => e = .returned (.int .i64 z) ∧ Gr W w')
    (hE : w.cell? ⟨Ef, 0, none⟩ = some (.func (.func 41) #[] #[])) (hL : w.cell? ⟨L, 0, none⟩ = some (.slice (some ⟨b, off, none⟩) n cap)) :
    Calls Tryz.prog 84 #[.int .i64 i, poV x, .pointer (some ⟨Ef, 0, none⟩), .pointer (some ⟨L, 0, none⟩)] w fun e w' => e = .returned (.int .i64 z) ∧ Gr w w' := by
  have HO := Lib.hid ho
  unfold poV at HO
  unfold poV
  obtain ⟨W, hW, g, a0, a1, a2, a3⟩ := box4 w (.string x.nm) (.string x.ro) (.int .i64 x.hr) (x.u) 53
  have e0 := g.cell hE
  have l0 := g.cell hL
  have HW := Lib.hid hW
  have hi1 : (i : Int) ≤ cap := by omega
  have hi0 : (0 : Int) ≤ i := by omega
  clear hW ho hE hL
  go_enter Tryz.func84, Tryz.ntmps84
  go_wp2_with fail
  rw [HW.out]
  generalize w.heap.size = Bx at *
  clear HW
  have gd := (Gr.refl W).drew
  replace a0 := gd.cell a0
  replace a1 := gd.cell a1
  replace a2 := gd.cell a2
  replace a3 := gd.cell a3
  replace e0 := gd.cell e0
  replace l0 := gd.cell l0
  replace g := g.trans gd
  clear gd
  refine wp_region_held_drew (S := (fun w' => (w'.cell? ⟨Bx, 0, none⟩ = some (.string x.nm) ∧ w'.cell? ⟨Bx, 1, none⟩ = some (.string x.ro) ∧ w'.cell? ⟨Bx, 2, none⟩ = some (.int .i64 x.hr) ∧ w'.cell? ⟨Bx, 3, none⟩ = some x.u) ∧ w'.cell? ⟨Ef, 0, none⟩ = some (.func (.func 41) #[] #[]) ∧ w'.cell? ⟨L, 0, none⟩ = some (.slice (some ⟨b, off, none⟩) n cap))) (by kernel_rfl) ⟨⟨a0, a1, a2, a3⟩, e0, l0⟩ (fun hHeld => ?_)
  generalize W.drew = V at *
  refine wpAnyH_take (i := 0) (v := (.func (.func 41) #[] #[])) (op_at rfl) (by kernel_rfl) (by kernel_rfl) (by kernel_rfl) (fun _ _ _ h => h) (Or.inl ⟨rfl, fun w hSw => ?_⟩) (by assumption) ?_
  · (try dsimp only at hSw); go_simp; try with_reducible rfl
  (try simp only [Act.put, List.setIfInBounds_toArray, List.set_cons_zero, List.set_cons_succ])
  refine wpAnyH_take (i := 1) (v := (.slice (some ⟨b, off, none⟩) n cap)) (op_at rfl) (by kernel_rfl) (by kernel_rfl) (by kernel_rfl) (fun _ _ _ h => h) (Or.inl ⟨rfl, fun w hSw => ?_⟩) (by assumption) ?_
  · (try dsimp only at hSw); go_simp; try with_reducible rfl
  (try simp only [Act.put, List.setIfInBounds_toArray, List.set_cons_zero, List.set_cons_succ])
  refine wpAnyH_take (i := 2) (v := (.int .i64 i)) (op_at rfl) (by kernel_rfl) (by kernel_rfl) (by kernel_rfl) (fun _ _ _ h => h) (Or.inl ⟨rfl, fun w hSw => ?_⟩) (by assumption) ?_
  · (try dsimp only at hSw); go_simp; try with_reducible rfl
  (try simp only [Act.put, List.setIfInBounds_toArray, List.set_cons_zero, List.set_cons_succ])
  refine wpAnyH_take (i := 3) (v := (.slice (some ⟨b, off, none⟩) i cap)) (op_at rfl) (by kernel_rfl) (by kernel_rfl) (by kernel_rfl) (fun _ _ _ h => h) (Or.inl ⟨rfl, fun w hSw => ?_⟩) (by assumption) ?_
  · (try dsimp only at hSw); go_simp; try with_reducible rfl
  (try simp only [Act.put, List.setIfInBounds_toArray, List.set_cons_zero, List.set_cons_succ])
  refine wpAnyH_take (i := 4) (v := (.agg #[.string x.nm, .string x.ro, .int .i64 x.hr, x.u])) (op_at rfl) (by kernel_rfl) (by kernel_rfl) (by kernel_rfl) (fun _ _ _ h => h) (Or.inl ⟨rfl, fun w hSw => ?_⟩) (by assumption) ?_
  · (try dsimp only at hSw); go_simp; try with_reducible rfl
  (try simp only [Act.put, List.setIfInBounds_toArray, List.set_cons_zero, List.set_cons_succ])
  refine wpAnyH_ready (rs := [5]) (by kernel_rfl) (by simp) (AllReadyH.cons (op_at rfl) (fun K hK => ?_) AllReadyH.nil)
  go_simp
  (refine (HO.out _ g).mono ?_; rintro e W1 ⟨rfl, hg⟩; replace a0 := hg.cell a0; replace a1 := hg.cell a1; replace a2 := hg.cell a2; replace a3 := hg.cell a3; replace e0 := hg.cell e0; replace l0 := hg.cell l0; replace g := g.trans hg; clear hg)
  go_wp2_with fail
  refine hK.out _ _ ⟨⟨a0, a1, a2, a3⟩, e0, l0⟩ (fun hHeld => ?_)
  clear hK K
  (try simp only [Act.put, List.setIfInBounds_toArray, List.set_cons_zero, List.set_cons_succ])
  refine wpAnyH_take (i := 6) (v := (.int .i64 z)) (op_at rfl) (by kernel_rfl) (by kernel_rfl) (by kernel_rfl) (fun _ _ _ h => h) (Or.inl ⟨rfl, fun w hSw => ?_⟩) (by assumption) ?_
  · (try dsimp only at hSw); go_simp; try with_reducible rfl
  (try simp only [Act.put, List.setIfInBounds_toArray, List.set_cons_zero, List.set_cons_succ])
  refine wpAnyH_done (by kernel_rfl) ?_ _
  go_wp2_with fail
  go_ret
  exact ⟨rfl, g⟩
set_option maxHeartbeats 1000000 in
set_option maxRecDepth 100000 in
theorem findPst_pos (E : Nat → PoR → Int) (xs : List PoR) (n b off cap Ef L : Nat) (w : World) (hn : xs.length = n) (h1 : n ≤ 1000) (hcap : n ≤ cap) (hmx : cap ≤ maxLen)
    (hc : ∀ i x, xs[i]? = some x → PoAt w b (off + i * 4) x) (ho : ∀ (i : Nat) (x : PoR) (W : World), i < n → xs[i]? = some x → Gr w W → Calls Tryz.prog 41 #[.slice (some ⟨b, off, none⟩) i cap, poV x] W fun e w' => e = .returned (.int .i64 (E i x)) ∧ Gr W w') (hE : w.cell? ⟨Ef, 0, none⟩ = some (.func (.func 41) #[] #[])) (hL : w.cell? ⟨L, 0, none⟩ = some (.slice (some ⟨b, off, none⟩) n cap)) :
    Calls Tryz.prog 117 #[.slice (some ⟨b, off, none⟩) n cap, .func (.func 84) #[] #[.pointer (some ⟨Ef, 0, none⟩), .pointer (some ⟨L, 0, none⟩)]] w fun e w' => (∃ i : Int, e = .returned (.tuple #[.int .i64 i, .int .i64 (errG E xs n 0)])) ∧ Gr w w' := by
  have HC := Lib.hid hc
  have HN := Lib.hid hn
  have HO := Lib.hid (fun (i : Nat) (x : PoR) (W : World) (hi : i < n) (hx : xs[i]? = some x) (hg : Gr w W) => wrapPst_c (E i x) i n b off cap Ef L x W hi hcap hmx (fun W2 hg2 => ho i x W2 hi hx (hg.trans hg2)) (hg.cell hE) (hg.cell hL))
  clear hc hL hn hE ho
  go_enter Tryz.func117, Tryz.ntmps117
  go_wp2_with fail
  go_loopg [11] n (fun gk s11 wr => ∃ i : Nat, s11 = .int .i64 i ∧ gk + i = n ∧ Gr w wr ∧ Hid (errG E xs (n - i) i = errG E xs n 0))
  case atStart => exact ⟨0, rfl, by omega, Gr.refl _, rfl⟩
  case round =>
    obtain ⟨i, rfl, hi, hg, HF⟩ := hrel
    by_cases hlt : i < n
    · obtain ⟨x, hx⟩ : ∃ x, xs[i]? = some x := ⟨xs[i]'(by have := HN.out; omega), List.getElem?_eq_getElem _⟩
      obtain ⟨c0, c1, c2, c3, -⟩ := (HC.out i x hx).gr hg
      obtain ⟨⟨pu, cu, hu, -⟩⟩ := (HC.out i x hx).ns
      rw [hu] at c3
      have hf := errG_step (E := E) hlt hx
      have hi2 : (i : Int) < n := by omega
      have hT := fun W hg2 => HO.out i x W hlt hx hg2
      unfold poV at hT
      simp only [hu] at hT
      clear hx
      obtain ⟨W, hW, g, a0, a1, a2, a3⟩ := box4 wr (.string x.nm) (.string x.ro) (.int .i64 x.hr) (.slice pu x.ns.length cu) 53
      have gW := hg.trans g
      have HW := Lib.hid hW
      by_cases h0 : E i x = 0
      · rw [h0] at hT hf
        rw [if_pos rfl] at hf
        have HT := Lib.hid hT
        have HF2 := Lib.hid hf
        clear hT hf h0 hW
        go_wp2_with fail
        rw [HW.out]
        refine (HT.out _ gW).mono ?_
        rintro e w4 ⟨rfl, hg2⟩
        go_wp2_with fail
        go_roundg (gk - 1)
        case measure => omega
        case rel => exact ⟨i + 1, by go_num, by omega, gW.trans hg2, by unfold Hid; rw [← HF2.out, HF.out]⟩
      · rw [if_neg h0] at hf
        generalize E i x = z at *
        have q1 : (z == 0) = false := by simpa using h0
        have q2 : (z != 0) = true := by simpa [bne] using q1
        have HT := Lib.hid hT
        have HF2 := Lib.hid hf
        clear hT hf hW
        go_wp2_with fail
        rw [HW.out]
        refine (HT.out _ gW).mono ?_
        rintro e w4 ⟨rfl, hg2⟩
        go_wp2_with fail
        exact bodyPost_ret (v := .tuple #[.int .i64 i, .int .i64 z]) (by simp [results, Tryz.results117, go_sem]) rfl ⟨⟨i, by rw [← HF.out, HF2.out]⟩, gW.trans hg2⟩
    · have hin : i = n := by omega
      have HE2 : Hid (errG E xs (n - i) i = 0) := by unfold Hid; rw [hin, Nat.sub_self]; rfl
      have hi2 : (n : Int) ≤ i := by omega
      clear hin
      go_wp2_with fail
      exact bodyPost_ret (v := .tuple #[.int .i64 0, .int .i64 0]) (by simp [results, Tryz.results117, go_sem]) rfl ⟨⟨0, by rw [← HF.out, HE2.out]⟩, hg⟩
theorem eachPst_pos (E : Nat → PoR → Int) (xs : List PoR) (n b off cap Ef L : Nat) (w : World) (hn : xs.length = n) (h1 : n ≤ 1000) (hcap : n ≤ cap) (hmx : cap ≤ maxLen)
    (hc : ∀ i x, xs[i]? = some x → PoAt w b (off + i * 4) x) (ho : ∀ (i : Nat) (x : PoR) (W : World), i < n → xs[i]? = some x → Gr w W → Calls Tryz.prog 41 #[.slice (some ⟨b, off, none⟩) i cap, poV x] W fun e w' => e = .returned (.int .i64 (E i x)) ∧ Gr W w') (hE : w.cell? ⟨Ef, 0, none⟩ = some (.func (.func 41) #[] #[])) (hL : w.cell? ⟨L, 0, none⟩ = some (.slice (some ⟨b, off, none⟩) n cap)) :
    Calls Tryz.prog 83 #[.slice (some ⟨b, off, none⟩) n cap, .func (.func 84) #[] #[.pointer (some ⟨Ef, 0, none⟩), .pointer (some ⟨L, 0, none⟩)]] w fun e w' => e = .returned (.int .i64 (errG E xs n 0)) ∧ Gr w w' := by
  have HF := Lib.hid (findPst_pos E xs n b off cap Ef L w hn h1 hcap hmx hc ho hE hL)
  generalize errG E xs n 0 = z at *
  clear hc hL hn hE ho
  go_enter Tryz.func83, Tryz.ntmps83
  go_wp2_with fail
  refine HF.out.mono ?_
  rintro e w4 ⟨⟨i, rfl⟩, hg⟩
  go_wp2_with fail
  go_ret
  exact ⟨rfl, hg⟩
theorem findPst_nil (p : Option Addr) (cap Ef L : Nat) (w : World) :
    Calls Tryz.prog 117 #[.slice p 0 cap, .func (.func 84) #[] #[.pointer (some ⟨Ef, 0, none⟩), .pointer (some ⟨L, 0, none⟩)]] w fun e w' => (∃ i : Int, e = .returned (.tuple #[.int .i64 i, .int .i64 0])) ∧ w = w' := by
  go_enter Tryz.func117, Tryz.ntmps117
  go_wp2_with fail
  refine wp_loop_rounds 2 ?_
  rw [rounds_succ]
  go_wp2_with fail
  exact bodyPost_ret (v := .tuple #[.int .i64 0, .int .i64 0]) (by simp [results, Tryz.results117, go_sem]) rfl ⟨⟨0, rfl⟩, rfl⟩
theorem eachPst_nil (p : Option Addr) (cap Ef L : Nat) (w : World) :
    Calls Tryz.prog 83 #[.slice p 0 cap, .func (.func 84) #[] #[.pointer (some ⟨Ef, 0, none⟩), .pointer (some ⟨L, 0, none⟩)]] w fun e w' => e = .returned (.int .i64 0) ∧ w = w' := by
  have HF := Lib.hid (findPst_nil p cap Ef L w)
  go_enter Tryz.func83, Tryz.ntmps83
  go_wp2_with fail
  refine HF.out.mono ?_
  rintro e w4 ⟨⟨i, rfl⟩, rfl⟩
  go_wp2_with fail
  go_ret
  exact ⟨rfl, rfl⟩
set_option maxHeartbeats 1000000 in
set_option maxRecDepth 100000 in
theorem listPst_c (E : Nat → PoR → Int) (xs : List PoR) (m : Nat) (v : Value) (w : World) (hm : m ≤ 1000) (hv : PoAts w v xs)
    (ho : ∀ (p : Option Addr) (b off cap : Nat), v = .slice (some ⟨b, off, none⟩) xs.length cap → xs.length ≤ m → ∀ (i : Nat) (x : PoR) (W : World), i < xs.length → xs[i]? = some x → Gr w W → Calls Tryz.prog 41 #[.slice (some ⟨b, off, none⟩) i cap, poV x] W fun e w' => e = .returned (.int .i64 (E i x)) ∧ Gr W w') :
    Calls Tryz.prog 40 #[v, .int .i64 m, .func (.func 41) #[] #[]] w fun e w' => e = .returned (.int .i64 (listE m E xs)) ∧ Gr w w' := by
  obtain ⟨⟨p, cap, rfl, ⟨hcap, hmx⟩, hh⟩⟩ := hv
  rcases Nat.lt_or_ge m xs.length with hl | hl
  · have HE : Hid (listE m E xs = 5) := by unfold Hid listE; rw [if_pos hl]
    have hl2 : decide ((m : Int) < (xs.length : Int)) = true := decide_eq_true (by omega)
    have hl3 : (m : Int) < (xs.length : Int) := by omega
    generalize xs.length = n at *
    obtain ⟨W, hW, g, a0, e0⟩ := box_two w (.slice p n cap) (.func (.func 41) #[] #[]) 23 94
    have HW := Lib.hid hW
    clear hW hh ho
    go_enter Tryz.func40, Tryz.ntmps40
    go_wp2_with fail
    all_goals
      go_ret
      exact ⟨by rw [HE.out]; rfl, by rw [HW.out]; exact g⟩
  · have HE : Hid (listE m E xs = errG E xs xs.length 0) := by unfold Hid listE; rw [if_neg (by omega)]
    have hl2 : decide ((m : Int) < (xs.length : Int)) = false := decide_eq_false (by omega)
    have hl3 : ¬ (m : Int) < (xs.length : Int) := by omega
    rcases Nat.eq_zero_or_pos xs.length with h0 | h0
    · have HE2 : Hid (errG E xs xs.length 0 = 0) := by unfold Hid; rw [h0]; rfl
      rw [h0] at hl2 hl3 ⊢
      obtain ⟨W, hW, g, a0, e0⟩ := box_two w (.slice p 0 cap) (.func (.func 41) #[] #[]) 23 94
      have HW := Lib.hid hW
      have HK := Lib.hid (fun W => eachPst_nil p cap (w.heap.size + 1) w.heap.size W)
      clear hW hh ho h0
      go_enter Tryz.func40, Tryz.ntmps40
      go_wp2_with fail
      refine (HK.out _).mono ?_
      rintro e w4 ⟨rfl, rfl⟩
      go_wp2_with fail
      go_ret
      exact ⟨by rw [HE.out, HE2.out]; rfl, by rw [HW.out]; exact g⟩
    · obtain ⟨b, off, rfl, hc⟩ := hh h0
      obtain ⟨W, hW, g, a0, e0⟩ := box_two w (.slice (some ⟨b, off, none⟩) xs.length cap) (.func (.func 41) #[] #[]) 23 94
      have HW := Lib.hid hW
      have HK := Lib.hid (eachPst_pos E xs xs.length b off cap (w.heap.size + 1) w.heap.size W rfl (by omega) hcap hmx (fun i x hx => (hc i x hx).gr g) (fun i x W2 hi hx hg => ho none b off cap rfl hl i x W2 hi hx (g.trans hg)) e0 a0)
      rw [← HE.out] at HK
      generalize listE m E xs = z at *
      generalize xs.length = n at *
      clear hW hh ho hc HE
      go_enter Tryz.func40, Tryz.ntmps40
      go_wp2_with fail
      rw [HW.out]
      refine HK.out.mono ?_
      rintro e w4 ⟨rfl, hg⟩
      go_wp2_with fail
      go_ret
      exact ⟨rfl, g.trans hg⟩
end Go.Proofs.YtjojbcgppkfidaaGreat
namespace Go.Proofs.YtjojbcgppkfidaaGreat
open Go.RowKit Go.Lib
set_option linter.unusedSimpArgs false
set_option linter.unusedVariables false
theorem ofList_c (xs : List OfR) (v : Value) (w : World) (hv : OfAts w v xs) :
    Calls Tryz.prog 38 #[v, .int .i64 24, .func (.func 39) #[] #[]] w fun e w' => e = .returned (.int .i64 (listE 24 (ofE xs) xs)) ∧ Gr w w' :=
  listOfi_c (ofE xs) xs 24 v w (by omega) hv (fun p b off cap hp hl i x W hi hx hg => by
    obtain ⟨⟨p', cap', h1, h2, h3⟩⟩ := hv
    obtain ⟨b', off', h4, h5⟩ := h3 (by omega)
    rw [hp] at h1
    subst h4
    simp only [Value.slice.injEq, Option.some.injEq, Addr.mk.injEq, and_true, true_and] at h1
    obtain ⟨⟨rfl, rfl⟩, rfl⟩ := h1
    exact oneOfi_c xs i b off cap x W (by omega) ((h5 i x hx).gr hg).rs (by omega) (fun i x hx => (h5 i x hx).gr hg))
theorem poList_c (xs : List PoR) (v : Value) (w : World) (hv : PoAts w v xs) :
    Calls Tryz.prog 40 #[v, .int .i64 24, .func (.func 41) #[] #[]] w fun e w' => e = .returned (.int .i64 (listE 24 (poE xs) xs)) ∧ Gr w w' :=
  listPst_c (poE xs) xs 24 v w (by omega) hv (fun p b off cap hp hl i x W hi hx hg => by
    obtain ⟨⟨p', cap', h1, h2, h3⟩⟩ := hv
    obtain ⟨b', off', h4, h5⟩ := h3 (by omega)
    rw [hp] at h1
    subst h4
    simp only [Value.slice.injEq, Option.some.injEq, Addr.mk.injEq, and_true, true_and] at h1
    obtain ⟨⟨rfl, rfl⟩, rfl⟩ := h1
    exact onePst_c xs i b off cap x W (by omega) ((h5 i x hx).gr hg).ns (by omega) (fun i x hx => (h5 i x hx).gr hg))
/-- the error of a jury -/
def juryE (os : List OfR) (ps : List PoR) : Int := firstE [listE 24 (ofE os) os, listE 24 (poE ps) ps]
set_option maxHeartbeats 1000000 in
set_option maxRecDepth 100000 in
theorem checkJury_c (os : List OfR) (ps : List PoR) (vo vp : Value) (w : World) (ho : OfAts w vo os) (hp : PoAts w vp ps) :
    Calls Tryz.prog 8 #[.agg #[vo, vp]] w fun e w' => e = .returned (.int .i64 (juryE os ps)) ∧ Gr w w' := by
  have H1 := Lib.hid (fun W (g : Gr w W) => ofList_c os vo W (ho.gr g))
  have H2 := Lib.hid (fun W (g : Gr w W) => poList_c ps vp W (hp.gr g))
  have hE : firstE [listE 24 (ofE os) os, listE 24 (poE ps) ps] = juryE os ps := rfl
  generalize listE 24 (ofE os) os = e1 at *
  generalize listE 24 (poE ps) ps = e2 at *
  have hF := first_pair e1 e2
  rw [hE] at hF
  generalize juryE os ps = err at *
  have HF := Lib.hid hF
  obtain ⟨W, hW, g, a0, a1⟩ := box2 w vo vp 25
  have HW := Lib.hid hW
  clear hW hF hE ho hp
  go_enter Tryz.func8, Tryz.ntmps8
  go_wp2_with fail
  rw [HW.out]
  generalize w.heap.size = Bx at *
  clear HW
  have gd := (Gr.refl W).drew
  replace a0 := gd.cell a0
  replace a1 := gd.cell a1
  replace g := g.trans gd
  clear gd
  refine wp_region_held_drew (S := (fun w' => w'.cell? ⟨Bx, 0, none⟩ = some vo ∧ w'.cell? ⟨Bx, 1, none⟩ = some vp)) (by kernel_rfl) ⟨a0, a1⟩ (fun hHeld => ?_)
  generalize W.drew = V at *
  refine wpAnyH_take (i := 0) (v := (.pointer (some ⟨Bx, 0, none⟩))) (op_at rfl) (by kernel_rfl) (by kernel_rfl) (by kernel_rfl) (fun _ _ _ h => h) (Or.inl ⟨rfl, fun w hSw => ?_⟩) (by assumption) ?_
  · (try dsimp only at hSw); go_simp; try with_reducible rfl
  (try simp only [Act.put, List.setIfInBounds_toArray, List.set_cons_zero, List.set_cons_succ])
  refine wpAnyH_take (i := 1) (v := vo) (op_at rfl) (by kernel_rfl) (by kernel_rfl) (by kernel_rfl) (fun _ _ _ h => h) (Or.inl ⟨rfl, fun w hSw => ?_⟩) (by assumption) ?_
  · (try dsimp only at hSw); go_simp; try with_reducible rfl
  (try simp only [Act.put, List.setIfInBounds_toArray, List.set_cons_zero, List.set_cons_succ])
  refine wpAnyH_take (i := 3) (v := (.pointer (some ⟨Bx, 1, none⟩))) (op_at rfl) (by kernel_rfl) (by kernel_rfl) (by kernel_rfl) (fun _ _ _ h => h) (Or.inl ⟨rfl, fun w hSw => ?_⟩) (by assumption) ?_
  · (try dsimp only at hSw); go_simp; try with_reducible rfl
  (try simp only [Act.put, List.setIfInBounds_toArray, List.set_cons_zero, List.set_cons_succ])
  refine wpAnyH_take (i := 4) (v := vp) (op_at rfl) (by kernel_rfl) (by kernel_rfl) (by kernel_rfl) (fun _ _ _ h => h) (Or.inl ⟨rfl, fun w hSw => ?_⟩) (by assumption) ?_
  · (try dsimp only at hSw); go_simp; try with_reducible rfl
  (try simp only [Act.put, List.setIfInBounds_toArray, List.set_cons_zero, List.set_cons_succ])
  refine wpAnyH_ready (rs := [2]) (by kernel_rfl) (by simp) (AllReadyH.cons (op_at rfl) (fun K hK => ?_) AllReadyH.nil)
  go_simp
  (refine (H1.out _ g).mono ?_; rintro e W1 ⟨rfl, hg⟩; replace a0 := hg.cell a0; replace a1 := hg.cell a1; replace g := g.trans hg; clear hg)
  go_wp2_with fail
  refine hK.out _ _ ⟨a0, a1⟩ (fun hHeld => ?_)
  clear hK K
  (try simp only [Act.put, List.setIfInBounds_toArray, List.set_cons_zero, List.set_cons_succ])
  refine wpAnyH_ready (rs := [5]) (by kernel_rfl) (by simp) (AllReadyH.cons (op_at rfl) (fun K hK => ?_) AllReadyH.nil)
  go_simp
  (refine (H2.out _ g).mono ?_; rintro e W2 ⟨rfl, hg⟩; replace a0 := hg.cell a0; replace a1 := hg.cell a1; replace g := g.trans hg; clear hg)
  go_wp2_with fail
  refine hK.out _ _ ⟨a0, a1⟩ (fun hHeld => ?_)
  clear hK K
  (try simp only [Act.put, List.setIfInBounds_toArray, List.set_cons_zero, List.set_cons_succ])
  refine wpAnyH_ready (rs := [6]) (by kernel_rfl) (by simp) (AllReadyH.cons (op_at rfl) (fun K hK => ?_) AllReadyH.nil)
  go_simp
  obtain ⟨WW, hWW, gW, s0, s1⟩ := box2 W2 (.int .i64 e1) (.int .i64 e2) 36
  rw [hWW]
  clear hWW
  replace a0 := gW.cell a0
  replace a1 := gW.cell a1
  replace g := g.trans gW
  refine hK.out _ _ ⟨a0, a1⟩ (fun hHeld => ?_)
  clear hK K
  (try simp only [Act.put, List.setIfInBounds_toArray, List.set_cons_zero, List.set_cons_succ])
  refine wpAnyH_ready (rs := [7]) (by kernel_rfl) (by simp) (AllReadyH.cons (op_at rfl) (fun K hK => ?_) AllReadyH.nil)
  go_simp
  (refine (HF.out _ _ WW s0 s1).mono ?_; rintro e w8 ⟨rfl, rfl⟩)
  go_wp2_with fail
  refine hK.out _ _ ⟨a0, a1⟩ (fun hHeld => ?_)
  clear hK K
  (try simp only [Act.put, List.setIfInBounds_toArray, List.set_cons_zero, List.set_cons_succ])
  refine wpAnyH_take (i := 8) (v := (.int .i64 err)) (op_at rfl) (by kernel_rfl) (by kernel_rfl) (by kernel_rfl) (fun _ _ _ h => h) (Or.inl ⟨rfl, fun w hSw => ?_⟩) (by assumption) ?_
  · (try dsimp only at hSw); go_simp; try with_reducible rfl
  (try simp only [Act.put, List.setIfInBounds_toArray, List.set_cons_zero, List.set_cons_succ])
  refine wpAnyH_done (by kernel_rfl) ?_ _
  go_wp2_with fail
  go_ret
  exact ⟨rfl, g⟩
/-- the error of a number that is none of a list -/
def noneE (n : Nat) (i : Int) : Int := if decide (i < 0) || decide ((n : Int) ≤ i) then 10 else 0
theorem noneE_zero {n : Nat} {i : Int} (h : noneE n i = 0) : 0 ≤ i ∧ i < n := by
  unfold noneE at h
  split at h
  · cases h
  · rename_i hh
    simp at hh
    omega
theorem noneE_of {n i : Nat} (h : i < n) : noneE n i = 0 := by
  unfold noneE
  rw [if_neg (by simp; omega)]
set_option maxHeartbeats 1000000 in
set_option maxRecDepth 100000 in
theorem oneOfO_c (p : Option Addr) (n cap : Nat) (i : Int) (w : World) :
    Calls Tryz.prog 42 #[.slice p n cap, .int .i64 i] w fun e w' => e = .returned (.int .i64 (noneE n i)) ∧ w = w' := by
  obtain ⟨z, hz, H1⟩ := if_e (decide (i < 0) || decide ((n : Int) ≤ i)) 10
  have HZ : Hid (z = noneE n i) := hz
  have H1 := Lib.hid H1
  clear hz
  cases h1 : decide (i < 0) <;> cases h2 : decide ((n : Int) ≤ i)
  all_goals
    rw [h1, h2] at H1
    go_enter Tryz.func42, Tryz.ntmps42
    go_wp2_with fail
    refine (H1.out _).mono ?_
    rintro e w' ⟨rfl, rfl⟩
    go_wp2_with fail
    go_ret
    exact ⟨by rw [← HZ.out]; rfl, rfl⟩
set_option maxHeartbeats 1000000 in
set_option maxRecDepth 100000 in
theorem oneOfP_c (p : Option Addr) (n cap : Nat) (i : Int) (w : World) :
    Calls Tryz.prog 43 #[.slice p n cap, .int .i64 i] w fun e w' => e = .returned (.int .i64 (noneE n i)) ∧ w = w' := by
  obtain ⟨z, hz, H1⟩ := if_e (decide (i < 0) || decide ((n : Int) ≤ i)) 10
  have HZ : Hid (z = noneE n i) := hz
  have H1 := Lib.hid H1
  clear hz
  cases h1 : decide (i < 0) <;> cases h2 : decide ((n : Int) ≤ i)
  all_goals
    rw [h1, h2] at H1
    go_enter Tryz.func43, Tryz.ntmps43
    go_wp2_with fail
    refine (H1.out _).mono ?_
    rintro e w' ⟨rfl, rfl⟩
    go_wp2_with fail
    go_ret
    exact ⟨by rw [← HZ.out]; rfl, rfl⟩
theorem containsAny_c {v : Value} {l : List ByteArray} {w : World} (h : StrAts w v l) (h1 : l.length ≤ 1000) (s : ByteArray) :
    Calls Tryz.prog 87 #[v, .string s] w fun e w' => e = .returned (.bool (hasS l s)) ∧ w = w' := by
  obtain ⟨⟨p, cap, rfl, _, hh⟩⟩ := h
  rcases Nat.eq_zero_or_pos l.length with h0 | h0
  · have hl : l = [] := List.eq_nil_of_length_eq_zero h0
    subst hl
    exact containsS_nil p cap s w
  · obtain ⟨b, off, rfl, hc⟩ := hh h0
    have := containsS_pos l l.length b off cap s w (Nat.le_refl _) h1 (fun i t ht => (hc i t ht).nm)
    rwa [List.take_length] at this
/-- whether an official may have a post -/
def mayB (x : OfR) (y : PoR) : Bool := hasS x.rs y.ro && !hasS y.ns x.na
set_option maxHeartbeats 1000000 in
set_option maxRecDepth 100000 in
theorem mayHave_c (x : OfR) (y : PoR) (w : World) (hx : StrAts w x.u x.rs) (hy : StrAts w y.u y.ns) (h1 : x.rs.length ≤ 1000) (h2 : y.ns.length ≤ 1000) :
    Calls Tryz.prog 44 #[ofV x, poV y] w fun e w' => e = .returned (.bool (mayB x y)) ∧ Gr w w' := by
  have HR : Hid (mayB x y = (hasS x.rs y.ro && !hasS y.ns x.na)) := rfl
  have H1 := Lib.hid (fun W (g : Gr w W) => containsAny_c (hx.gr g) h1 y.ro)
  have H2 := Lib.hid (fun W (g : Gr w W) => containsAny_c (hy.gr g) h2 x.na)
  generalize mayB x y = res at *
  obtain ⟨pu, nu, cu, hu⟩ : ∃ p n c, x.u = .slice p n c := by
    obtain ⟨⟨p, cap, e, _⟩⟩ := hx
    exact ⟨p, _, cap, e⟩
  obtain ⟨pv, nv, cv, hv⟩ : ∃ p n c, y.u = .slice p n c := by
    obtain ⟨⟨p, cap, e, _⟩⟩ := hy
    exact ⟨p, _, cap, e⟩
  unfold ofV poV
  rw [hu] at H1 ⊢
  rw [hv] at H2 ⊢
  obtain ⟨W1, hW1, g1, a0, a1, a2, a3⟩ := box4 w (.string x.nm) (.string x.na) (.slice pu nu cu) (.int .i64 x.ld) 50
  obtain ⟨W2, hW2, g2, b0, b1, b2, b3⟩ := box4 W1 (.string y.nm) (.string y.ro) (.int .i64 y.hr) (.slice pv nv cv) 53
  replace a0 := g2.cell a0
  replace a1 := g2.cell a1
  replace a2 := g2.cell a2
  have HG := Lib.hid (g1.trans g2)
  have hsz : W1.heap.size = w.heap.size + 1 := by rw [← hW1]; simp
  rw [hsz] at b0 b1 b2 b3
  have HW1 := Lib.hid hW1
  have HW2 := Lib.hid hW2
  clear hW1 hW2 hx hy hu hv g1 g2 hsz a3 b0 b2 a0
  cases h3 : hasS x.rs y.ro
  · rw [h3] at H1 HR
    go_enter Tryz.func44, Tryz.ntmps44
    go_wp2_with fail
    rw [HW1.out, HW2.out]
    refine (H1.out _ HG.out).mono ?_
    rintro e w' ⟨rfl, rfl⟩
    go_wp2_with fail
    go_ret
    exact ⟨by rw [HR.out]; rfl, HG.out⟩
  · cases h4 : hasS y.ns x.na
    all_goals
      rw [h3] at H1
      rw [h4] at H2
      rw [h3, h4] at HR
      go_enter Tryz.func44, Tryz.ntmps44
      go_wp2_with fail
      rw [HW1.out, HW2.out]
      refine (H1.out _ HG.out).mono ?_
      rintro e w' ⟨rfl, rfl⟩
      go_wp2_with fail
      refine (H2.out _ HG.out).mono ?_
      rintro e w' ⟨rfl, rfl⟩
      go_wp2_with fail
      go_ret
      exact ⟨by rw [HR.out]; rfl, HG.out⟩
end Go.Proofs.YtjojbcgppkfidaaGreat
