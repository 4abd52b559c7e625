/- Members: tests, as the program checks them. -/
import Derived.Test.YtenkbeeiblhnjaaGreatGMbA
namespace Go.Proofs.YtenkbeeiblhnjaaGreat
open Go.RowKit Go.Lib
set_option linter.unusedSimpArgs false
set_option linter.unusedVariables false
structure TstR where
  nm : ByteArray
  dy : Int
/-- the cells of one at a place -/
structure TstAt (w : World) (b off : Nat) (x : TstR) : Prop where
  nm : w.cell? ⟨b, off, none⟩ = some (.string x.nm)
  dy : w.cell? ⟨b, off + 1, none⟩ = some (.int .i64 x.dy)
theorem TstAt.gr {w w' : World} {b off : Nat} {x : TstR} (h : TstAt w b off x) (k : Gr w w') : TstAt w' b off x := ⟨k.cell h.nm, k.cell h.dy⟩
def tstV (x : TstR) : Value := .agg #[.string x.nm, .int .i64 x.dy]
/-- the slice v reads as these -/
structure TstAts (w : World) (v : Value) (xs : List TstR) : Prop where
  mk' ::
  out : ∃ p cap, v = .slice p xs.length cap ∧ (xs.length ≤ cap ∧ cap ≤ maxLen) ∧ (0 < xs.length → ∃ b off, p = some ⟨b, off, none⟩ ∧ ∀ i x, xs[i]? = some x → TstAt w b (off + i * 2) x)
theorem TstAts.gr {w w' : World} {v : Value} {xs : List TstR} (h : TstAts w v xs) (k : Gr w w') : TstAts w' v xs := by
  obtain ⟨⟨p, cap, rfl, hcap, hh⟩⟩ := h
  refine ⟨p, cap, rfl, hcap, fun h0 => ?_⟩
  obtain ⟨b, off, h1, h2⟩ := hh h0
  exact ⟨b, off, h1, fun i x hx => (h2 i x hx).gr k⟩
/-- the error of one -/
def tstE (xs : List TstR) (i : Nat) (x : TstR) : Int :=
  firstE [nmE x.nm, outE x.dy 0 99999]
set_option maxHeartbeats 1000000 in
set_option maxRecDepth 100000 in
theorem oneTst_c (xs : List TstR) (i b off cap : Nat) (x : TstR) (w : World) (hi : i ≤ xs.length) (h1 : xs.length ≤ 1000) (hc : ∀ i x, xs[i]? = some x → TstAt w b (off + i * 2) x) :
    Calls Tryz.prog 48 #[.slice (some ⟨b, off, none⟩) i cap, tstV x] w fun e w' => e = .returned (.int .i64 (tstE xs i x)) ∧ Gr w w' := by
  have hR : tstE xs i x = firstE [nmE x.nm, outE x.dy 0 99999] := rfl
  obtain ⟨e1, h1', H1⟩ := name_e x.nm
  obtain ⟨e2, h2', H2⟩ := day_e x.dy
  rw [← h1', ← h2'] at hR
  have hF := first_pair e1 e2
  rw [← hR] at hF
  generalize tstE xs i x = err at *
  replace H1 := Lib.hid (fun W (_ : Gr w W) => H1 W)
  replace H2 := Lib.hid H2
  have HF := Lib.hid hF
  unfold tstV
  obtain ⟨W, hW, g, a0, a1⟩ := box2 w (.string x.nm) (.int .i64 x.dy) 71
  have HW := Lib.hid hW
  clear hW hc hF hR h1' h2'
  go_enter Tryz.func48, Tryz.ntmps48
  go_wp2_with fail
  rw [HW.out]
  generalize w.heap.size = Bx at *
  clear HW
  have gd := (Gr.refl W).drew
  replace a0 := gd.cell a0
  replace a1 := gd.cell a1
  replace g := g.trans gd
  clear gd
  refine wp_region_held_drew (S := (fun w' => w'.cell? ⟨Bx, 0, none⟩ = some (.string x.nm) ∧ w'.cell? ⟨Bx, 1, none⟩ = some (.int .i64 x.dy))) (by kernel_rfl) ⟨a0, a1⟩ (fun hHeld => ?_)
  generalize W.drew = V at *
  refine wpAnyH_take (i := 0) (v := (.pointer (some ⟨Bx, 0, none⟩))) (op_at rfl) (by kernel_rfl) (by kernel_rfl) (by kernel_rfl) (fun _ _ _ h => h) (Or.inl ⟨rfl, fun w hSw => ?_⟩) (by assumption) ?_
  · (try dsimp only at hSw); go_simp; try with_reducible rfl
  (try simp only [Act.put, List.setIfInBounds_toArray, List.set_cons_zero, List.set_cons_succ])
  refine wpAnyH_take (i := 1) (v := (.string x.nm)) (op_at rfl) (by kernel_rfl) (by kernel_rfl) (by kernel_rfl) (fun _ _ _ h => h) (Or.inl ⟨rfl, fun w hSw => ?_⟩) (by assumption) ?_
  · (try dsimp only at hSw); go_simp; try with_reducible rfl
  (try simp only [Act.put, List.setIfInBounds_toArray, List.set_cons_zero, List.set_cons_succ])
  refine wpAnyH_take (i := 3) (v := (.pointer (some ⟨Bx, 1, none⟩))) (op_at rfl) (by kernel_rfl) (by kernel_rfl) (by kernel_rfl) (fun _ _ _ h => h) (Or.inl ⟨rfl, fun w hSw => ?_⟩) (by assumption) ?_
  · (try dsimp only at hSw); go_simp; try with_reducible rfl
  (try simp only [Act.put, List.setIfInBounds_toArray, List.set_cons_zero, List.set_cons_succ])
  refine wpAnyH_take (i := 4) (v := (.int .i64 x.dy)) (op_at rfl) (by kernel_rfl) (by kernel_rfl) (by kernel_rfl) (fun _ _ _ h => h) (Or.inl ⟨rfl, fun w hSw => ?_⟩) (by assumption) ?_
  · (try dsimp only at hSw); go_simp; try with_reducible rfl
  (try simp only [Act.put, List.setIfInBounds_toArray, List.set_cons_zero, List.set_cons_succ])
  refine wpAnyH_ready (rs := [2]) (by kernel_rfl) (by simp) (AllReadyH.cons (op_at rfl) (fun K hK => ?_) AllReadyH.nil)
  go_simp
  (refine (H1.out _ g).mono ?_; rintro e W1 ⟨rfl, hg⟩; replace a0 := hg.cell a0; replace a1 := hg.cell a1; replace g := g.trans hg; clear hg)
  go_wp2_with fail
  refine hK.out _ _ ⟨a0, a1⟩ (fun hHeld => ?_)
  clear hK K
  (try simp only [Act.put, List.setIfInBounds_toArray, List.set_cons_zero, List.set_cons_succ])
  refine wpAnyH_ready (rs := [5]) (by kernel_rfl) (by simp) (AllReadyH.cons (op_at rfl) (fun K hK => ?_) AllReadyH.nil)
  go_simp
  (refine (H2.out _).mono ?_; rintro e w' ⟨rfl, rfl⟩)
  go_wp2_with fail
  refine hK.out _ _ ⟨a0, a1⟩ (fun hHeld => ?_)
  clear hK K
  (try simp only [Act.put, List.setIfInBounds_toArray, List.set_cons_zero, List.set_cons_succ])
  refine wpAnyH_ready (rs := [6]) (by kernel_rfl) (by simp) (AllReadyH.cons (op_at rfl) (fun K hK => ?_) AllReadyH.nil)
  go_simp
  obtain ⟨WW, hWW, gW, s0, s1⟩ := box2 W1 (.int .i64 e1) (.int .i64 e2) 32
  rw [hWW]
  clear hWW
  replace a0 := gW.cell a0
  replace a1 := gW.cell a1
  replace g := g.trans gW
  refine hK.out _ _ ⟨a0, a1⟩ (fun hHeld => ?_)
  clear hK K
  (try simp only [Act.put, List.setIfInBounds_toArray, List.set_cons_zero, List.set_cons_succ])
  refine wpAnyH_ready (rs := [7]) (by kernel_rfl) (by simp) (AllReadyH.cons (op_at rfl) (fun K hK => ?_) AllReadyH.nil)
  go_simp
  (refine (HF.out _ _ WW s0 s1).mono ?_; rintro e w8 ⟨rfl, rfl⟩)
  go_wp2_with fail
  refine hK.out _ _ ⟨a0, a1⟩ (fun hHeld => ?_)
  clear hK K
  (try simp only [Act.put, List.setIfInBounds_toArray, List.set_cons_zero, List.set_cons_succ])
  refine wpAnyH_take (i := 8) (v := (.int .i64 err)) (op_at rfl) (by kernel_rfl) (by kernel_rfl) (by kernel_rfl) (fun _ _ _ h => h) (Or.inl ⟨rfl, fun w hSw => ?_⟩) (by assumption) ?_
  · (try dsimp only at hSw); go_simp; try with_reducible rfl
  (try simp only [Act.put, List.setIfInBounds_toArray, List.set_cons_zero, List.set_cons_succ])
  refine wpAnyH_done (by kernel_rfl) ?_ _
  go_wp2_with fail
  go_ret
  exact ⟨rfl, g⟩
set_option maxHeartbeats 1000000 in
set_option maxRecDepth 100000 in
theorem wrapTst_c (z : Int) (i n b off cap Ef L : Nat) (x : TstR) (w : World) (hi : i < n) (hcap : n ≤ cap) (hmx : cap ≤ maxLen)
    (ho : ∀ W, Gr w W → Calls Tryz.prog 48 #[.slice (some ⟨b, off, none⟩) i cap, tstV x] W fun e w' => e = .returned (.int .i64 z) ∧ Gr W w')
    (hE : w.cell? ⟨Ef, 0, none⟩ = some (.func (.func 48) #[] #[])) (hL : w.cell? ⟨L, 0, none⟩ = some (.slice (some ⟨b, off, none⟩) n cap)) :
    Calls Tryz.prog 95 #[.int .i64 i, tstV x, .pointer (some ⟨Ef, 0, none⟩), .pointer (some ⟨L, 0, none⟩)] w fun e w' => e = .returned (.int .i64 z) ∧ Gr w w' := by
  have HO := Lib.hid ho
  unfold tstV at HO
  unfold tstV
  obtain ⟨W, hW, g, a0, a1⟩ := box2 w (.string x.nm) (.int .i64 x.dy) 71
  have e0 := g.cell hE
  have l0 := g.cell hL
  have HW := Lib.hid hW
  have hi1 : (i : Int) ≤ cap := by omega
  have hi0 : (0 : Int) ≤ i := by omega
  clear hW ho hE hL
  go_enter Tryz.func95, Tryz.ntmps95
  go_wp2_with fail
  rw [HW.out]
  generalize w.heap.size = Bx at *
  clear HW
  have gd := (Gr.refl W).drew
  replace a0 := gd.cell a0
  replace a1 := gd.cell a1
  replace e0 := gd.cell e0
  replace l0 := gd.cell l0
  replace g := g.trans gd
  clear gd
  refine wp_region_held_drew (S := (fun w' => (w'.cell? ⟨Bx, 0, none⟩ = some (.string x.nm) ∧ w'.cell? ⟨Bx, 1, none⟩ = some (.int .i64 x.dy)) ∧ w'.cell? ⟨Ef, 0, none⟩ = some (.func (.func 48) #[] #[]) ∧ w'.cell? ⟨L, 0, none⟩ = some (.slice (some ⟨b, off, none⟩) n cap))) (by kernel_rfl) ⟨⟨a0, a1⟩, e0, l0⟩ (fun hHeld => ?_)
  generalize W.drew = V at *
  refine wpAnyH_take (i := 0) (v := (.func (.func 48) #[] #[])) (op_at rfl) (by kernel_rfl) (by kernel_rfl) (by kernel_rfl) (fun _ _ _ h => h) (Or.inl ⟨rfl, fun w hSw => ?_⟩) (by assumption) ?_
  · (try dsimp only at hSw); go_simp; try with_reducible rfl
  (try simp only [Act.put, List.setIfInBounds_toArray, List.set_cons_zero, List.set_cons_succ])
  refine wpAnyH_take (i := 1) (v := (.slice (some ⟨b, off, none⟩) n cap)) (op_at rfl) (by kernel_rfl) (by kernel_rfl) (by kernel_rfl) (fun _ _ _ h => h) (Or.inl ⟨rfl, fun w hSw => ?_⟩) (by assumption) ?_
  · (try dsimp only at hSw); go_simp; try with_reducible rfl
  (try simp only [Act.put, List.setIfInBounds_toArray, List.set_cons_zero, List.set_cons_succ])
  refine wpAnyH_take (i := 2) (v := (.int .i64 i)) (op_at rfl) (by kernel_rfl) (by kernel_rfl) (by kernel_rfl) (fun _ _ _ h => h) (Or.inl ⟨rfl, fun w hSw => ?_⟩) (by assumption) ?_
  · (try dsimp only at hSw); go_simp; try with_reducible rfl
  (try simp only [Act.put, List.setIfInBounds_toArray, List.set_cons_zero, List.set_cons_succ])
  refine wpAnyH_take (i := 3) (v := (.slice (some ⟨b, off, none⟩) i cap)) (op_at rfl) (by kernel_rfl) (by kernel_rfl) (by kernel_rfl) (fun _ _ _ h => h) (Or.inl ⟨rfl, fun w hSw => ?_⟩) (by assumption) ?_
  · (try dsimp only at hSw); go_simp; try with_reducible rfl
  (try simp only [Act.put, List.setIfInBounds_toArray, List.set_cons_zero, List.set_cons_succ])
  refine wpAnyH_take (i := 4) (v := (.agg #[.string x.nm, .int .i64 x.dy])) (op_at rfl) (by kernel_rfl) (by kernel_rfl) (by kernel_rfl) (fun _ _ _ h => h) (Or.inl ⟨rfl, fun w hSw => ?_⟩) (by assumption) ?_
  · (try dsimp only at hSw); go_simp; try with_reducible rfl
  (try simp only [Act.put, List.setIfInBounds_toArray, List.set_cons_zero, List.set_cons_succ])
  refine wpAnyH_ready (rs := [5]) (by kernel_rfl) (by simp) (AllReadyH.cons (op_at rfl) (fun K hK => ?_) AllReadyH.nil)
  go_simp
  (refine (HO.out _ g).mono ?_; rintro e W1 ⟨rfl, hg⟩; replace a0 := hg.cell a0; replace a1 := hg.cell a1; replace e0 := hg.cell e0; replace l0 := hg.cell l0; replace g := g.trans hg; clear hg)
  go_wp2_with fail
  refine hK.out _ _ ⟨⟨a0, a1⟩, e0, l0⟩ (fun hHeld => ?_)
  clear hK K
  (try simp only [Act.put, List.setIfInBounds_toArray, List.set_cons_zero, List.set_cons_succ])
  refine wpAnyH_take (i := 6) (v := (.int .i64 z)) (op_at rfl) (by kernel_rfl) (by kernel_rfl) (by kernel_rfl) (fun _ _ _ h => h) (Or.inl ⟨rfl, fun w hSw => ?_⟩) (by assumption) ?_
  · (try dsimp only at hSw); go_simp; try with_reducible rfl
  (try simp only [Act.put, List.setIfInBounds_toArray, List.set_cons_zero, List.set_cons_succ])
  refine wpAnyH_done (by kernel_rfl) ?_ _
  go_wp2_with fail
  go_ret
  exact ⟨rfl, g⟩
set_option maxHeartbeats 1000000 in
set_option maxRecDepth 100000 in
theorem findTst_pos (E : Nat → TstR → Int) (xs : List TstR) (n b off cap Ef L : Nat) (w : World) (hn : xs.length = n) (h1 : n ≤ 1000) (hcap : n ≤ cap) (hmx : cap ≤ maxLen)
    (hc : ∀ i x, xs[i]? = some x → TstAt w b (off + i * 2) x) (ho : ∀ (i : Nat) (x : TstR) (W : World), i < n → xs[i]? = some x → Gr w W → Calls Tryz.prog 48 #[.slice (some ⟨b, off, none⟩) i cap, tstV x] W fun e w' => e = .returned (.int .i64 (E i x)) ∧ Gr W w') (hE : w.cell? ⟨Ef, 0, none⟩ = some (.func (.func 48) #[] #[])) (hL : w.cell? ⟨L, 0, none⟩ = some (.slice (some ⟨b, off, none⟩) n cap)) :
    Calls Tryz.prog 131 #[.slice (some ⟨b, off, none⟩) n cap, .func (.func 95) #[] #[.pointer (some ⟨Ef, 0, none⟩), .pointer (some ⟨L, 0, none⟩)]] w fun e w' => (∃ i : Int, e = .returned (.tuple #[.int .i64 i, .int .i64 (errG E xs n 0)])) ∧ Gr w w' := by
  have HC := Lib.hid hc
  have HN := Lib.hid hn
  have HO := Lib.hid (fun (i : Nat) (x : TstR) (W : World) (hi : i < n) (hx : xs[i]? = some x) (hg : Gr w W) => wrapTst_c (E i x) i n b off cap Ef L x W hi hcap hmx (fun W2 hg2 => ho i x W2 hi hx (hg.trans hg2)) (hg.cell hE) (hg.cell hL))
  clear hc hL hn hE ho
  go_enter Tryz.func131, Tryz.ntmps131
  go_wp2_with fail
  go_loopg [11] n (fun gk s11 wr => ∃ i : Nat, s11 = .int .i64 i ∧ gk + i = n ∧ Gr w wr ∧ Hid (errG E xs (n - i) i = errG E xs n 0))
  case atStart => exact ⟨0, rfl, by omega, Gr.refl _, rfl⟩
  case round =>
    obtain ⟨i, rfl, hi, hg, HF⟩ := hrel
    by_cases hlt : i < n
    · obtain ⟨x, hx⟩ : ∃ x, xs[i]? = some x := ⟨xs[i]'(by have := HN.out; omega), List.getElem?_eq_getElem _⟩
      obtain ⟨c0, c1⟩ := (HC.out i x hx).gr hg
      have hf := errG_step (E := E) hlt hx
      have hi2 : (i : Int) < n := by omega
      have hT := fun W hg2 => HO.out i x W hlt hx hg2
      unfold tstV at hT
      clear hx
      obtain ⟨W, hW, g, a0, a1⟩ := box2 wr (.string x.nm) (.int .i64 x.dy) 71
      have gW := hg.trans g
      have HW := Lib.hid hW
      by_cases h0 : E i x = 0
      · rw [h0] at hT hf
        rw [if_pos rfl] at hf
        have HT := Lib.hid hT
        have HF2 := Lib.hid hf
        clear hT hf h0 hW
        go_wp2_with fail
        rw [HW.out]
        refine (HT.out _ gW).mono ?_
        rintro e w4 ⟨rfl, hg2⟩
        go_wp2_with fail
        go_roundg (gk - 1)
        case measure => omega
        case rel => exact ⟨i + 1, by go_num, by omega, gW.trans hg2, by unfold Hid; rw [← HF2.out, HF.out]⟩
      · rw [if_neg h0] at hf
        generalize E i x = z at *
        have q1 : (z == 0) = false := by simpa using h0
        have q2 : (z != 0) = true := by simpa [bne] using q1
        have HT := Lib.hid hT
        have HF2 := Lib.hid hf
        clear hT hf hW
        go_wp2_with fail
        rw [HW.out]
        refine (HT.out _ gW).mono ?_
        rintro e w4 ⟨rfl, hg2⟩
        go_wp2_with fail
        exact bodyPost_ret (v := .tuple #[.int .i64 i, .int .i64 z]) (by simp [results, Tryz.results131, go_sem]) rfl ⟨⟨i, by rw [← HF.out, HF2.out]⟩, gW.trans hg2⟩
    · have hin : i = n := by omega
      have HE2 : Hid (errG E xs (n - i) i = 0) := by unfold Hid; rw [hin, Nat.sub_self]; rfl
      have hi2 : (n : Int) ≤ i := by omega
      clear hin
      go_wp2_with fail
      exact bodyPost_ret (v := .tuple #[.int .i64 0, .int .i64 0]) (by simp [results, Tryz.results131, go_sem]) rfl ⟨⟨0, by rw [← HF.out, HE2.out]⟩, hg⟩
theorem eachTst_pos (E : Nat → TstR → Int) (xs : List TstR) (n b off cap Ef L : Nat) (w : World) (hn : xs.length = n) (h1 : n ≤ 1000) (hcap : n ≤ cap) (hmx : cap ≤ maxLen)
    (hc : ∀ i x, xs[i]? = some x → TstAt w b (off + i * 2) x) (ho : ∀ (i : Nat) (x : TstR) (W : World), i < n → xs[i]? = some x → Gr w W → Calls Tryz.prog 48 #[.slice (some ⟨b, off, none⟩) i cap, tstV x] W fun e w' => e = .returned (.int .i64 (E i x)) ∧ Gr W w') (hE : w.cell? ⟨Ef, 0, none⟩ = some (.func (.func 48) #[] #[])) (hL : w.cell? ⟨L, 0, none⟩ = some (.slice (some ⟨b, off, none⟩) n cap)) :
    Calls Tryz.prog 94 #[.slice (some ⟨b, off, none⟩) n cap, .func (.func 95) #[] #[.pointer (some ⟨Ef, 0, none⟩), .pointer (some ⟨L, 0, none⟩)]] w fun e w' => e = .returned (.int .i64 (errG E xs n 0)) ∧ Gr w w' := by
  have HF := Lib.hid (findTst_pos E xs n b off cap Ef L w hn h1 hcap hmx hc ho hE hL)
  generalize errG E xs n 0 = z at *
  clear hc hL hn hE ho
  go_enter Tryz.func94, Tryz.ntmps94
  go_wp2_with fail
  refine HF.out.mono ?_
  rintro e w4 ⟨⟨i, rfl⟩, hg⟩
  go_wp2_with fail
  go_ret
  exact ⟨rfl, hg⟩
theorem findTst_nil (p : Option Addr) (cap Ef L : Nat) (w : World) :
    Calls Tryz.prog 131 #[.slice p 0 cap, .func (.func 95) #[] #[.pointer (some ⟨Ef, 0, none⟩), .pointer (some ⟨L, 0, none⟩)]] w fun e w' => (∃ i : Int, e = .returned (.tuple #[.int .i64 i, .int .i64 0])) ∧ w = w' := by
  go_enter Tryz.func131, Tryz.ntmps131
  go_wp2_with fail
  refine wp_loop_rounds 2 ?_
  rw [rounds_succ]
  go_wp2_with fail
  exact bodyPost_ret (v := .tuple #[.int .i64 0, .int .i64 0]) (by simp [results, Tryz.results131, go_sem]) rfl ⟨⟨0, rfl⟩, rfl⟩
theorem eachTst_nil (p : Option Addr) (cap Ef L : Nat) (w : World) :
    Calls Tryz.prog 94 #[.slice p 0 cap, .func (.func 95) #[] #[.pointer (some ⟨Ef, 0, none⟩), .pointer (some ⟨L, 0, none⟩)]] w fun e w' => e = .returned (.int .i64 0) ∧ w = w' := by
  have HF := Lib.hid (findTst_nil p cap Ef L w)
  go_enter Tryz.func94, Tryz.ntmps94
  go_wp2_with fail
  refine HF.out.mono ?_
  rintro e w4 ⟨⟨i, rfl⟩, rfl⟩
  go_wp2_with fail
  go_ret
  exact ⟨rfl, rfl⟩
set_option maxHeartbeats 1000000 in
set_option maxRecDepth 100000 in
theorem listTst_c (E : Nat → TstR → Int) (xs : List TstR) (m : Nat) (v : Value) (w : World) (hm : m ≤ 1000) (hv : TstAts w v xs)
    (ho : ∀ (p : Option Addr) (b off cap : Nat), v = .slice (some ⟨b, off, none⟩) xs.length cap → xs.length ≤ m → ∀ (i : Nat) (x : TstR) (W : World), i < xs.length → xs[i]? = some x → Gr w W → Calls Tryz.prog 48 #[.slice (some ⟨b, off, none⟩) i cap, tstV x] W fun e w' => e = .returned (.int .i64 (E i x)) ∧ Gr W w') :
    Calls Tryz.prog 47 #[v, .int .i64 m, .func (.func 48) #[] #[]] w fun e w' => e = .returned (.int .i64 (listE m E xs)) ∧ Gr w w' := by
  obtain ⟨⟨p, cap, rfl, ⟨hcap, hmx⟩, hh⟩⟩ := hv
  rcases Nat.lt_or_ge m xs.length with hl | hl
  · have HE : Hid (listE m E xs = 5) := by unfold Hid listE; rw [if_pos hl]
    have hl2 : decide ((m : Int) < (xs.length : Int)) = true := decide_eq_true (by omega)
    have hl3 : (m : Int) < (xs.length : Int) := by omega
    generalize xs.length = n at *
    obtain ⟨W, hW, g, a0, e0⟩ := box_two w (.slice p n cap) (.func (.func 48) #[] #[]) 23 104
    have HW := Lib.hid hW
    clear hW hh ho
    go_enter Tryz.func47, Tryz.ntmps47
    go_wp2_with fail
    all_goals
      go_ret
      exact ⟨by rw [HE.out]; rfl, by rw [HW.out]; exact g⟩
  · have HE : Hid (listE m E xs = errG E xs xs.length 0) := by unfold Hid listE; rw [if_neg (by omega)]
    have hl2 : decide ((m : Int) < (xs.length : Int)) = false := decide_eq_false (by omega)
    have hl3 : ¬ (m : Int) < (xs.length : Int) := by omega
    rcases Nat.eq_zero_or_pos xs.length with h0 | h0
    · have HE2 : Hid (errG E xs xs.length 0 = 0) := by unfold Hid; rw [h0]; rfl
      rw [h0] at hl2 hl3 ⊢
      obtain ⟨W, hW, g, a0, e0⟩ := box_two w (.slice p 0 cap) (.func (.func 48) #[] #[]) 23 104
      have HW := Lib.hid hW
      have HK := Lib.hid (fun W => eachTst_nil p cap (w.heap.size + 1) w.heap.size W)
      clear hW hh ho h0
      go_enter Tryz.func47, Tryz.ntmps47
      go_wp2_with fail
      refine (HK.out _).mono ?_
      rintro e w4 ⟨rfl, rfl⟩
      go_wp2_with fail
      go_ret
      exact ⟨by rw [HE.out, HE2.out]; rfl, by rw [HW.out]; exact g⟩
    · obtain ⟨b, off, rfl, hc⟩ := hh h0
      obtain ⟨W, hW, g, a0, e0⟩ := box_two w (.slice (some ⟨b, off, none⟩) xs.length cap) (.func (.func 48) #[] #[]) 23 104
      have HW := Lib.hid hW
      have HK := Lib.hid (eachTst_pos E xs xs.length b off cap (w.heap.size + 1) w.heap.size W rfl (by omega) hcap hmx (fun i x hx => (hc i x hx).gr g) (fun i x W2 hi hx hg => ho none b off cap rfl hl i x W2 hi hx (g.trans hg)) e0 a0)
      rw [← HE.out] at HK
      generalize listE m E xs = z at *
      generalize xs.length = n at *
      clear hW hh ho hc HE
      go_enter Tryz.func47, Tryz.ntmps47
      go_wp2_with fail
      rw [HW.out]
      refine HK.out.mono ?_
      rintro e w4 ⟨rfl, hg⟩
      go_wp2_with fail
      go_ret
      exact ⟨rfl, g.trans hg⟩
theorem checkTsts_c (xs : List TstR) (v : Value) (w : World) (hv : TstAts w v xs) :
    Calls Tryz.prog 9 #[v] w fun e w' => e = .returned (.int .i64 (listE 256 (tstE xs) xs)) ∧ Gr w w' := by
  have HL := Lib.hid (listTst_c (tstE xs) xs 256 v w (by omega) hv (fun p b off cap hp hl i x W hi hx hg => by
    obtain ⟨⟨p', cap', h1, h2, h3⟩⟩ := hv
    obtain ⟨b', off', h4, h5⟩ := h3 (by omega)
    rw [hp] at h1
    subst h4
    simp only [Value.slice.injEq, Option.some.injEq, Addr.mk.injEq, and_true, true_and] at h1
    obtain ⟨⟨rfl, rfl⟩, rfl⟩ := h1
    exact oneTst_c xs i b off cap x W (by omega) (by omega) (fun i x hx => (h5 i x hx).gr hg)))
  generalize listE 256 (tstE xs) xs = z at *
  obtain ⟨⟨p, cap, rfl, _⟩⟩ := hv
  go_enter Tryz.func9, Tryz.ntmps9
  go_wp2_with fail
  refine HL.out.mono ?_
  rintro e w4 ⟨rfl, hg⟩
  go_wp2_with fail
  go_ret
  exact ⟨rfl, hg⟩
end Go.Proofs.YtenkbeeiblhnjaaGreat
