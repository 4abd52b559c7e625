/- Brackets: names checked by the program and by the reference; Meet with an error. -/
import Derived.Test.YtgjcbiobedhjaaaGreatDoorGIsA
import Derived.BigQuiet
namespace Go.Proofs.YtgjcbiobedhjaaaGreatDoor
open Go.RowKit Go.Lib
set_option linter.unusedSimpArgs false
set_option linter.unusedVariables false
set_option maxHeartbeats 4000000 in
set_option maxRecDepth 100000 in
theorem twiceS_c (ns : List ByteArray) (n b off cap j : Nat) (s : ByteArray) (w : World) (hn : ns.length = n) (h1 : n ≤ 160) (hcap : n ≤ cap) (hmx : cap ≤ maxLen) (hs : ns[j]? = some s) (hc : ∀ i t, ns[i]? = some t → w.cell? ⟨b, off + i, none⟩ = some (.string t)) :
    Calls Tryz.prog 109 #[.slice (some ⟨b, off, none⟩) n cap, .int .i64 j] w fun e w' => e = .returned (.int .i64 (if hasS (ns.take j) s = true then 9 else 0)) ∧ Gr w w' := by
  have hjn := (List.getElem?_eq_some_iff.1 hs).1
  have HC := Lib.hid (fun (W : World) (g : Gr w W) => containsS_pos ns j b off cap s W (by omega) (by omega) (fun i t ht => g.cell (hc i t ht)))
  generalize hasS (ns.take j) s = tB at *
  have H9 := Lib.hid (fun (W : World) => if_c tB 9 W)
  generalize (if tB = true then (9 : Int) else 0) = e9 at *
  have hs0 := hc j s hs
  have hj1 : (j : Int) ≤ cap := by omega
  have hj0 : (0 : Int) ≤ j := by omega
  have hj2 : (j : Int) < n := by omega
  clear hc hs hn
  go_enter Tryz.func109, Tryz.ntmps109
  go_wp2_with fail
  have g := (Gr.refl w).drew
  have c0 := g.cell hs0
  refine wp_region_held_drew (S := (fun w' => w'.cell? ⟨b, off + j, none⟩ = some (.string s))) (by kernel_rfl) c0 (fun hHeld => ?_)
  generalize w.drew = V at *
  refine wpAnyH_take (i := 0) (v := (.slice (some ⟨b, off, none⟩) n cap)) (op_at rfl) (by kernel_rfl) (by kernel_rfl) (by kernel_rfl) (fun _ _ _ h => h) (Or.inl ⟨rfl, fun w hSw => ?_⟩) (by assumption) ?_
  · (try dsimp only at hSw); go_simp; try with_reducible rfl
  (try simp only [Act.put, List.setIfInBounds_toArray, List.set_cons_zero, List.set_cons_succ])
  refine wpAnyH_take (i := 1) (v := (.int .i64 j)) (op_at rfl) (by kernel_rfl) (by kernel_rfl) (by kernel_rfl) (fun _ _ _ h => h) (Or.inl ⟨rfl, fun w hSw => ?_⟩) (by assumption) ?_
  · (try dsimp only at hSw); go_simp; try with_reducible rfl
  (try simp only [Act.put, List.setIfInBounds_toArray, List.set_cons_zero, List.set_cons_succ])
  refine wpAnyH_take (i := 2) (v := (.slice (some ⟨b, off, none⟩) j cap)) (op_at rfl) (by kernel_rfl) (by kernel_rfl) (by kernel_rfl) (fun _ _ _ h => h) (Or.inl ⟨rfl, fun w hSw => ?_⟩) (by assumption) ?_
  · (try dsimp only at hSw); go_simp; try with_reducible rfl
  (try simp only [Act.put, List.setIfInBounds_toArray, List.set_cons_zero, List.set_cons_succ])
  refine wpAnyH_take (i := 3) (v := (.slice (some ⟨b, off, none⟩) n cap)) (op_at rfl) (by kernel_rfl) (by kernel_rfl) (by kernel_rfl) (fun _ _ _ h => h) (Or.inl ⟨rfl, fun w hSw => ?_⟩) (by assumption) ?_
  · (try dsimp only at hSw); go_simp; try with_reducible rfl
  (try simp only [Act.put, List.setIfInBounds_toArray, List.set_cons_zero, List.set_cons_succ])
  refine wpAnyH_take (i := 4) (v := (.int .i64 j)) (op_at rfl) (by kernel_rfl) (by kernel_rfl) (by kernel_rfl) (fun _ _ _ h => h) (Or.inl ⟨rfl, fun w hSw => ?_⟩) (by assumption) ?_
  · (try dsimp only at hSw); go_simp; try with_reducible rfl
  (try simp only [Act.put, List.setIfInBounds_toArray, List.set_cons_zero, List.set_cons_succ])
  refine wpAnyH_take (i := 5) (v := (.pointer (some ⟨b, off + j, none⟩))) (op_at rfl) (by kernel_rfl) (by kernel_rfl) (by kernel_rfl) (fun _ _ _ h => h) (Or.inl ⟨rfl, fun w hSw => ?_⟩) (by assumption) ?_
  · (try dsimp only at hSw); go_simp; try with_reducible rfl
  (try simp only [Act.put, List.setIfInBounds_toArray, List.set_cons_zero, List.set_cons_succ])
  refine wpAnyH_take (i := 6) (v := (.string s)) (op_at rfl) (by kernel_rfl) (by kernel_rfl) (by kernel_rfl) (fun _ _ _ h => h) (Or.inl ⟨rfl, fun w hSw => ?_⟩) (by assumption) ?_
  · (try dsimp only at hSw); go_simp; try with_reducible rfl
  (try simp only [Act.put, List.setIfInBounds_toArray, List.set_cons_zero, List.set_cons_succ])
  refine wpAnyH_ready (rs := [7]) (by kernel_rfl) (by simp) (AllReadyH.cons (op_at rfl) (fun K hK => ?_) AllReadyH.nil)
  go_simp
  (refine (HC.out _ g).mono ?_; rintro e w' ⟨rfl, rfl⟩)
  go_wp2_with fail
  refine hK.out _ _ c0 (fun hHeld => ?_)
  clear hK K
  (try simp only [Act.put, List.setIfInBounds_toArray, List.set_cons_zero, List.set_cons_succ])
  refine wpAnyH_ready (rs := [8]) (by kernel_rfl) (by simp) (AllReadyH.cons (op_at rfl) (fun K hK => ?_) AllReadyH.nil)
  go_simp
  (refine (H9.out _).mono ?_; rintro e w' ⟨rfl, rfl⟩)
  go_wp2_with fail
  refine hK.out _ _ c0 (fun hHeld => ?_)
  clear hK K
  (try simp only [Act.put, List.setIfInBounds_toArray, List.set_cons_zero, List.set_cons_succ])
  refine wpAnyH_take (i := 9) (v := (.int .i64 e9)) (op_at rfl) (by kernel_rfl) (by kernel_rfl) (by kernel_rfl) (fun _ _ _ h => h) (Or.inl ⟨rfl, fun w hSw => ?_⟩) (by assumption) ?_
  · (try dsimp only at hSw); go_simp; try with_reducible rfl
  (try simp only [Act.put, List.setIfInBounds_toArray, List.set_cons_zero, List.set_cons_succ])
  refine wpAnyH_done (by kernel_rfl) ?_ _
  go_wp2_with fail
  go_ret
  exact ⟨rfl, g⟩
theorem nmE_not (nm : ByteArray) : nmE nm = if (!decide (Nm nm)) then 8 else 0 := by
  unfold nmE
  by_cases h : Nm nm <;> simp [h]
set_option maxHeartbeats 4000000 in
set_option maxRecDepth 100000 in
theorem oneNm_c (xs : List ByteArray) (i n b off cap B : Nat) (x : ByteArray) (w : World) (hn : xs.length = n) (h1 : n ≤ 160) (hcap : n ≤ cap) (hmx : cap ≤ maxLen) (hc : ∀ i x, xs[i]? = some x → StrAt w b (off + i) x) (hx : xs[i]? = some x)
    (hC : w.cell? ⟨B, 0, none⟩ = some (.slice (some ⟨b, off, none⟩) n cap)) :
    Calls Tryz.prog 108 #[.int .i64 i, .string x, .pointer (some ⟨B, 0, none⟩)] w fun e w' => e = .returned (.int .i64 (strE xs i x)) ∧ Gr w w' := by
  have hR : firstE [nmE x, if hasS (xs.take i) x then 9 else 0] = strE xs i x := rfl
  have HN := Lib.hid (fun W (g : Gr w W) => isName_c x W)
  have HT := Lib.hid (fun W (g : Gr w W) => twiceS_c xs n b off cap i x W hn h1 hcap hmx hx (fun i t ht => g.cell (hc i t ht).nm))
  obtain ⟨e2, he2⟩ : ∃ z, z = (if hasS (xs.take i) x = true then (9 : Int) else 0) := ⟨_, rfl⟩
  rw [← he2] at HT
  rw [show (if hasS (xs.take i) x then (9 : Int) else 0) = e2 from he2.symm, nmE_not] at hR
  generalize decide (Nm x) = nb at *
  obtain ⟨e1, he1, H1⟩ := if_e (!nb) 8
  rw [← he1] at hR
  have hF := first_pair e1 e2
  rw [hR] at hF
  generalize strE xs i x = err at *
  have HF := Lib.hid hF
  replace H1 := Lib.hid H1
  have g := (Gr.refl w).drew
  have a0 := g.cell hC
  clear hc hx hR he1 he2 hF hC hn
  go_enter Tryz.func108, Tryz.ntmps108
  go_wp2_with fail
  refine wp_region_held_drew (S := (fun w' => w'.cell? ⟨B, 0, none⟩ = some (.slice (some ⟨b, off, none⟩) n cap))) (by kernel_rfl) a0 (fun hHeld => ?_)
  generalize w.drew = V at *
  refine wpAnyH_take (i := 0) (v := (.string x)) (op_at rfl) (by kernel_rfl) (by kernel_rfl) (by kernel_rfl) (fun _ _ _ h => h) (Or.inl ⟨rfl, fun w hSw => ?_⟩) (by assumption) ?_
  · (try dsimp only at hSw); go_simp; try with_reducible rfl
  (try simp only [Act.put, List.setIfInBounds_toArray, List.set_cons_zero, List.set_cons_succ])
  refine wpAnyH_take (i := 4) (v := (.slice (some ⟨b, off, none⟩) n cap)) (op_at rfl) (by kernel_rfl) (by kernel_rfl) (by kernel_rfl) (fun _ _ _ h => h) (Or.inl ⟨rfl, fun w hSw => ?_⟩) (by assumption) ?_
  · (try dsimp only at hSw); go_simp; try with_reducible rfl
  (try simp only [Act.put, List.setIfInBounds_toArray, List.set_cons_zero, List.set_cons_succ])
  refine wpAnyH_take (i := 5) (v := (.int .i64 (i : Int))) (op_at rfl) (by kernel_rfl) (by kernel_rfl) (by kernel_rfl) (fun _ _ _ h => h) (Or.inl ⟨rfl, fun w hSw => ?_⟩) (by assumption) ?_
  · (try dsimp only at hSw); go_simp; try with_reducible rfl
  (try simp only [Act.put, List.setIfInBounds_toArray, List.set_cons_zero, List.set_cons_succ])
  refine wpAnyH_ready (rs := [1]) (by kernel_rfl) (by simp) (AllReadyH.cons (op_at rfl) (fun K hK => ?_) AllReadyH.nil)
  go_simp
  (refine (HN.out _ g).mono ?_; rintro e W1 ⟨rfl, hg⟩; replace a0 := hg.cell a0; replace g := g.trans hg; clear hg)
  go_wp2_with fail
  refine hK.out _ _ a0 (fun hHeld => ?_)
  clear hK K
  (try simp only [Act.put, List.setIfInBounds_toArray, List.set_cons_zero, List.set_cons_succ])
  refine wpAnyH_take (i := 2) (v := (.bool (!nb))) (op_at rfl) (by kernel_rfl) (by kernel_rfl) (by kernel_rfl) (fun _ _ _ h => h) (Or.inl ⟨rfl, fun w hSw => ?_⟩) (by assumption) ?_
  · (try dsimp only at hSw); go_simp; try with_reducible rfl
  (try simp only [Act.put, List.setIfInBounds_toArray, List.set_cons_zero, List.set_cons_succ])
  refine wpAnyH_ready (rs := [3]) (by kernel_rfl) (by simp) (AllReadyH.cons (op_at rfl) (fun K hK => ?_) AllReadyH.nil)
  go_simp
  (refine (H1.out _).mono ?_; rintro e w' ⟨rfl, rfl⟩)
  go_wp2_with fail
  refine hK.out _ _ a0 (fun hHeld => ?_)
  clear hK K
  (try simp only [Act.put, List.setIfInBounds_toArray, List.set_cons_zero, List.set_cons_succ])
  refine wpAnyH_ready (rs := [6]) (by kernel_rfl) (by simp) (AllReadyH.cons (op_at rfl) (fun K hK => ?_) AllReadyH.nil)
  go_simp
  (refine (HT.out _ g).mono ?_; rintro e W2 ⟨rfl, hg⟩; replace a0 := hg.cell a0; replace g := g.trans hg; clear hg)
  go_wp2_with fail
  refine hK.out _ _ a0 (fun hHeld => ?_)
  clear hK K
  (try simp only [Act.put, List.setIfInBounds_toArray, List.set_cons_zero, List.set_cons_succ])
  refine wpAnyH_ready (rs := [7]) (by kernel_rfl) (by simp) (AllReadyH.cons (op_at rfl) (fun K hK => ?_) AllReadyH.nil)
  go_simp
  obtain ⟨WW, hWW, gW, s0, s1⟩ := box2 W2 (.int .i64 e1) (.int .i64 e2) 28
  rw [hWW]
  clear hWW
  replace a0 := gW.cell a0
  replace g := g.trans gW
  refine hK.out _ _ a0 (fun hHeld => ?_)
  clear hK K
  (try simp only [Act.put, List.setIfInBounds_toArray, List.set_cons_zero, List.set_cons_succ])
  refine wpAnyH_ready (rs := [8]) (by kernel_rfl) (by simp) (AllReadyH.cons (op_at rfl) (fun K hK => ?_) AllReadyH.nil)
  go_simp
  (refine (HF.out _ _ WW s0 s1).mono ?_; rintro e w8 ⟨rfl, rfl⟩)
  go_wp2_with fail
  refine hK.out _ _ a0 (fun hHeld => ?_)
  clear hK K
  (try simp only [Act.put, List.setIfInBounds_toArray, List.set_cons_zero, List.set_cons_succ])
  refine wpAnyH_take (i := 9) (v := (.int .i64 err)) (op_at rfl) (by kernel_rfl) (by kernel_rfl) (by kernel_rfl) (fun _ _ _ h => h) (Or.inl ⟨rfl, fun w hSw => ?_⟩) (by assumption) ?_
  · (try dsimp only at hSw); go_simp; try with_reducible rfl
  (try simp only [Act.put, List.setIfInBounds_toArray, List.set_cons_zero, List.set_cons_succ])
  refine wpAnyH_done (by kernel_rfl) ?_ _
  go_wp2_with fail
  go_ret
  exact ⟨rfl, g⟩
set_option maxHeartbeats 1000000 in
set_option maxRecDepth 100000 in
theorem findNm6_pos (E : Nat → ByteArray → Int) (xs : List ByteArray) (n b off cap L : Nat) (w : World) (hn : xs.length = n) (h1 : n ≤ 1000) (hcap : n ≤ cap) (hmx : cap ≤ maxLen)
    (hc : ∀ i x, xs[i]? = some x → StrAt w b (off + i) x) (ho : ∀ (i : Nat) (x : ByteArray) (W : World), i < n → xs[i]? = some x → Gr w W → Calls Tryz.prog 108 #[.int .i64 i, .string x, .pointer (some ⟨L, 0, none⟩)] W fun e w' => e = .returned (.int .i64 (E i x)) ∧ Gr W w') (hL : w.cell? ⟨L, 0, none⟩ = some (.slice (some ⟨b, off, none⟩) n cap)) :
    Calls Tryz.prog 142 #[.slice (some ⟨b, off, none⟩) n cap, .func (.func 108) #[] #[.pointer (some ⟨L, 0, none⟩)]] w fun e w' => (∃ i : Int, e = .returned (.tuple #[.int .i64 i, .int .i64 (errG E xs n 0)])) ∧ Gr w w' := by
  have HC := Lib.hid hc
  have HN := Lib.hid hn
  have HO := Lib.hid ho
  clear hc hL hn ho
  go_enter Tryz.func142, Tryz.ntmps142
  go_wp2_with fail
  go_loopg [11] n (fun gk s11 wr => ∃ i : Nat, s11 = .int .i64 i ∧ gk + i = n ∧ Gr w wr ∧ Hid (errG E xs (n - i) i = errG E xs n 0))
  case atStart => exact ⟨0, rfl, by omega, Gr.refl _, rfl⟩
  case round =>
    obtain ⟨i, rfl, hi, hg, HF⟩ := hrel
    by_cases hlt : i < n
    · obtain ⟨x, hx⟩ : ∃ x, xs[i]? = some x := ⟨xs[i]'(by have := HN.out; omega), List.getElem?_eq_getElem _⟩
      obtain ⟨c0⟩ := (HC.out i x hx).gr hg
      have hf := errG_step (E := E) hlt hx
      have hi2 : (i : Int) < n := by omega
      have hT := fun W hg2 => HO.out i x W hlt hx hg2
      clear hx
      have gW := hg
      by_cases h0 : E i x = 0
      · rw [h0] at hT hf
        rw [if_pos rfl] at hf
        have HT := Lib.hid hT
        have HF2 := Lib.hid hf
        clear hT hf h0
        go_wp2_with fail
        refine (HT.out _ gW).mono ?_
        rintro e w4 ⟨rfl, hg2⟩
        go_wp2_with fail
        go_roundg (gk - 1)
        case measure => omega
        case rel => exact ⟨i + 1, by go_num, by omega, gW.trans hg2, by unfold Hid; rw [← HF2.out, HF.out]⟩
      · rw [if_neg h0] at hf
        generalize E i x = z at *
        have q1 : (z == 0) = false := by simpa using h0
        have q2 : (z != 0) = true := by simpa [bne] using q1
        have HT := Lib.hid hT
        have HF2 := Lib.hid hf
        clear hT hf
        go_wp2_with fail
        refine (HT.out _ gW).mono ?_
        rintro e w4 ⟨rfl, hg2⟩
        go_wp2_with fail
        exact bodyPost_ret (v := .tuple #[.int .i64 i, .int .i64 z]) (by simp [results, Tryz.results142, go_sem]) rfl ⟨⟨i, by rw [← HF.out, HF2.out]⟩, gW.trans hg2⟩
    · have hin : i = n := by omega
      have HE2 : Hid (errG E xs (n - i) i = 0) := by unfold Hid; rw [hin, Nat.sub_self]; rfl
      have hi2 : (n : Int) ≤ i := by omega
      clear hin
      go_wp2_with fail
      exact bodyPost_ret (v := .tuple #[.int .i64 0, .int .i64 0]) (by simp [results, Tryz.results142, go_sem]) rfl ⟨⟨0, by rw [← HF.out, HE2.out]⟩, hg⟩
theorem eachNm6_pos (E : Nat → ByteArray → Int) (xs : List ByteArray) (n b off cap L : Nat) (w : World) (hn : xs.length = n) (h1 : n ≤ 1000) (hcap : n ≤ cap) (hmx : cap ≤ maxLen)
    (hc : ∀ i x, xs[i]? = some x → StrAt w b (off + i) x) (ho : ∀ (i : Nat) (x : ByteArray) (W : World), i < n → xs[i]? = some x → Gr w W → Calls Tryz.prog 108 #[.int .i64 i, .string x, .pointer (some ⟨L, 0, none⟩)] W fun e w' => e = .returned (.int .i64 (E i x)) ∧ Gr W w') (hL : w.cell? ⟨L, 0, none⟩ = some (.slice (some ⟨b, off, none⟩) n cap)) :
    Calls Tryz.prog 107 #[.slice (some ⟨b, off, none⟩) n cap, .func (.func 108) #[] #[.pointer (some ⟨L, 0, none⟩)]] w fun e w' => e = .returned (.int .i64 (errG E xs n 0)) ∧ Gr w w' := by
  have HF := Lib.hid (findNm6_pos E xs n b off cap L w hn h1 hcap hmx hc ho hL)
  generalize errG E xs n 0 = z at *
  clear hc hL hn ho
  go_enter Tryz.func107, Tryz.ntmps107
  go_wp2_with fail
  refine HF.out.mono ?_
  rintro e w4 ⟨⟨i, rfl⟩, hg⟩
  go_wp2_with fail
  go_ret
  exact ⟨rfl, hg⟩
theorem findNm6_nil (p : Option Addr) (cap L : Nat) (w : World) :
    Calls Tryz.prog 142 #[.slice p 0 cap, .func (.func 108) #[] #[.pointer (some ⟨L, 0, none⟩)]] w fun e w' => (∃ i : Int, e = .returned (.tuple #[.int .i64 i, .int .i64 0])) ∧ w = w' := by
  go_enter Tryz.func142, Tryz.ntmps142
  go_wp2_with fail
  refine wp_loop_rounds 2 ?_
  rw [rounds_succ]
  go_wp2_with fail
  exact bodyPost_ret (v := .tuple #[.int .i64 0, .int .i64 0]) (by simp [results, Tryz.results142, go_sem]) rfl ⟨⟨0, rfl⟩, rfl⟩
theorem eachNm6_nil (p : Option Addr) (cap L : Nat) (w : World) :
    Calls Tryz.prog 107 #[.slice p 0 cap, .func (.func 108) #[] #[.pointer (some ⟨L, 0, none⟩)]] w fun e w' => e = .returned (.int .i64 0) ∧ w = w' := by
  have HF := Lib.hid (findNm6_nil p cap L w)
  go_enter Tryz.func107, Tryz.ntmps107
  go_wp2_with fail
  refine HF.out.mono ?_
  rintro e w4 ⟨⟨i, rfl⟩, rfl⟩
  go_wp2_with fail
  go_ret
  exact ⟨rfl, rfl⟩
/-- the error of the names of a bracket -/
def namesE (xs : List ByteArray) : Int := if xs.length = 0 then 12 else if 64 < xs.length then 5 else errG (strE xs) xs xs.length 0
set_option maxHeartbeats 4000000 in
set_option maxRecDepth 100000 in
theorem checkNm6_c (xs : List ByteArray) (v : Value) (w : World) (hv : StrAts w v xs) :
    Calls Tryz.prog 69 #[v] w fun e w' => e = .returned (.int .i64 (namesE xs)) ∧ Gr w w' := by
  obtain ⟨⟨p, cap, rfl, ⟨hcap, hmx⟩, hh⟩⟩ := hv
  obtain ⟨W, hW, g, l0⟩ := box1 w (.slice p xs.length cap) 62
  have HW := Lib.hid hW
  rcases Nat.eq_zero_or_pos xs.length with h0 | h0
  · have HE : Hid (namesE xs = 12) := by unfold Hid namesE; rw [if_pos h0]
    clear hW hh l0
    rw [h0] at HW ⊢
    go_enter Tryz.func69, Tryz.ntmps69
    go_wp2_with fail
    go_ret
    exact ⟨by rw [HE.out]; rfl, by rw [HW.out]; exact g⟩
  have hz : ((xs.length : Int) == 0) = false := beq_eq_false_iff_ne.2 (by omega)
  rcases Nat.lt_or_ge 64 xs.length with hl | hl
  · have HE : Hid (namesE xs = 5) := by unfold Hid namesE; rw [if_neg (by omega), if_pos hl]
    have hl2 : decide ((64 : Int) < (xs.length : Int)) = true := decide_eq_true (by omega)
    have hl3 : ¬ (xs.length : Int) = 0 := by omega
    clear hW hh l0
    generalize xs.length = n at *
    go_enter Tryz.func69, Tryz.ntmps69
    go_wp2_with fail
    go_ret
    exact ⟨by rw [HE.out]; rfl, by rw [HW.out]; exact g⟩
  · have HE : Hid (namesE xs = errG (strE xs) xs xs.length 0) := by unfold Hid namesE; rw [if_neg (by omega), if_neg (by omega)]
    have hl2 : decide ((64 : Int) < (xs.length : Int)) = false := decide_eq_false (by omega)
    have hl3 : ¬ (xs.length : Int) = 0 := by omega
    have HK : Hid (∀ W2, Gr W W2 → Calls Tryz.prog 107 #[.slice p xs.length cap, .func (.func 108) #[] #[.pointer (some ⟨w.heap.size, 0, none⟩)]] W2 fun e w' => e = .returned (.int .i64 (errG (strE xs) xs xs.length 0)) ∧ Gr W2 w') := by
      intro W2 g2
      obtain ⟨b, off, rfl, hc⟩ := hh h0
      exact eachNm6_pos (strE xs) xs xs.length b off cap w.heap.size W2 rfl (by omega) hcap hmx (fun i x hx => (hc i x hx).gr (g.trans g2)) (fun i x W3 hi hx hg => oneNm_c xs i xs.length b off cap w.heap.size x W3 rfl (by omega) hcap hmx (fun i x hx => (hc i x hx).gr ((g.trans g2).trans hg)) hx ((g2.trans hg).cell l0)) (g2.cell l0)
    rw [HE.out]
    generalize errG (strE xs) xs xs.length 0 = z at *
    clear hW hh HE
    generalize xs.length = n at *
    go_enter Tryz.func69, Tryz.ntmps69
    go_wp2_with fail
    rw [HW.out]
    refine (HK.out _ (Gr.refl _)).mono ?_
    rintro e w4 ⟨rfl, hg⟩
    go_wp2_with fail
    go_ret
    exact ⟨rfl, g.trans hg⟩
end Go.Proofs.YtgjcbiobedhjaaaGreatDoor
namespace Go.Proofs.YtgjcbiobedhjaaaGreatDoor
open Go.RowKit Go.Lib
set_option linter.unusedSimpArgs false
set_option linter.unusedVariables false
theorem hasS_not {a : List ByteArray} {i : Nat} {x : ByteArray} (h : ∀ (j : Nat) (z : ByteArray), j < i → a[j]? = some z → (z.toList == x.toList) = false) : hasS (a.take i) x = false := by
  unfold hasS
  rw [List.any_eq_false]
  intro z hz
  obtain ⟨j, hj⟩ := List.mem_iff_getElem?.1 hz
  rw [List.getElem?_take] at hj
  split at hj
  · rename_i hji
    have := h j z hji hj
    first
      | (rw [this]; simp)
      | (have e := this; rw [Bool.beq_comm] at e; rw [e]; simp)
      | (simp at this ⊢; exact this)
      | (simp at this ⊢; exact fun q => this q.symm)
  · cases hj
theorem hasS_yes {a : List ByteArray} {i k : Nat} {x z : ByteArray} (hk : k < i) (hz : a[k]? = some z) (h : (z.toList == x.toList) = true) : hasS (a.take i) x = true := by
  unfold hasS
  rw [List.any_eq_true]
  refine ⟨z, List.mem_iff_getElem?.2 ⟨k, by rw [List.getElem?_take, if_pos hk]; exact hz⟩, ?_⟩
  first
    | exact h
    | (rw [Bool.beq_comm]; exact h)
    | (simp at h ⊢; exact h)
    | (simp at h ⊢; exact h.symm)
set_option maxHeartbeats 4000000 in
set_option maxRecDepth 100000 in
theorem refNm6_c (xs : List ByteArray) (v : Value) (w : World) (hv : StrAts w v xs) :
    Calls Tryz.prog 28 #[v] w fun e w' => e = .returned (.int .i64 (namesE xs)) ∧ Gr w w' := by
  obtain ⟨⟨p, cap, rfl, _, hh⟩⟩ := hv
  obtain ⟨m, hm⟩ : ∃ m, m = xs.length := ⟨_, rfl⟩
  have HH := Lib.hid hh
  rw [← hm] at HH ⊢
  have HL := Lib.hid hm
  clear hh
  rcases Nat.eq_zero_or_pos m with h0 | h0
  · have HE : Hid (namesE xs = 12) := by unfold Hid namesE; rw [if_pos (by omega)]
    subst h0
    clear hm
    go_enter Tryz.func28, Tryz.ntmps28
    go_wp2_with fail
    go_ret
    exact ⟨by rw [HE.out]; rfl, Gr.refl _⟩
  have hz : ((m : Int) == 0) = false := beq_eq_false_iff_ne.2 (by omega)
  have hz0 : ¬ (m : Int) = 0 := by omega
  by_cases hl : 64 < m
  · have HE : Hid (namesE xs = 5) := by unfold Hid namesE; rw [if_neg (by omega), if_pos (by omega)]
    have hl2 : (64 : Int) < (m : Int) := by omega
    clear hm
    go_enter Tryz.func28, Tryz.ntmps28
    go_wp2_with fail
    go_ret
    exact ⟨by rw [HE.out]; rfl, Gr.refl _⟩
  have HE : Hid (namesE xs = errG (strE xs) xs m 0) := by unfold Hid namesE; rw [if_neg (by omega), if_neg (by omega), ← hm]
  have hl2 : ¬ (64 : Int) < (m : Int) := by omega
  have HNM := Lib.hid (fun (s : ByteArray) W => refIsName_c s W)
  clear hm
  go_enter Tryz.func28, Tryz.ntmps28
  go_wp2_with fail
  go_loopg [3, 4] m (fun gk s3 s4 wr => ∃ i : Nat, s3 = .int .i64 (i : Int) ∧ gk + i = m ∧ Hid (Gr w wr) ∧ Hid (errG (strE xs) xs (m - i) i = errG (strE xs) xs m 0))
  case atStart => exact ⟨0, rfl, by omega, Gr.refl _, rfl⟩
  case round =>
    obtain ⟨i, rfl, hgk, HG, HF⟩ := hrel
    obtain ⟨GK, rfl⟩ : ∃ G, G = gk := ⟨gk, rfl⟩
    by_cases hlt : i < m
    · obtain ⟨x, hx⟩ : ∃ x, xs[i]? = some x := ⟨xs[i]'(by have := HL.out; omega), List.getElem?_eq_getElem _⟩
      obtain ⟨b, off, rfl, hc⟩ := HH.out (by omega)
      have c0 := HG.out.cell (hc i x hx).nm
      have hii : (i : Int) < m := by omega
      have hst := errG_step (E := strE xs) hlt hx
      rw [HF.out] at hst
      have HC := Lib.hid hc
      have HX := Lib.hid hx
      have HNx := Lib.hid (HNM.out x)
      by_cases hn : Nm x
      case neg =>
        have n1 : decide (Nm x) = false := decide_eq_false hn
        rw [n1] at HNx
        have HR : Hid (errG (strE xs) xs m 0 = 8) := by
          unfold Hid
          have e1 : strE xs i x = 8 := by unfold strE nmE; rw [if_neg hn]; rfl
          rw [hst, e1, if_neg (by decide)]
        clear hst hc hx hn n1
        go_wp2_with fail
        refine (HNx.out _).mono ?_
        rintro e w9 ⟨rfl, rfl⟩
        go_wp2_with fail
        go_ret
        exact ⟨by rw [HE.out, HR.out]; rfl, HG.out⟩
      have n1 : decide (Nm x) = true := decide_eq_true hn
      rw [n1] at HNx
      have he1 : strE xs i x = if hasS (xs.take i) x then 9 else 0 := by unfold strE nmE; rw [if_pos hn]; cases hasS (xs.take i) x <;> rfl
      rw [he1] at hst
      have HST := Lib.hid hst
      clear hst hc hx he1 hn n1
      go_wp2_with fail
      refine (HNx.out _).mono ?_
      rintro e w9 ⟨rfl, rfl⟩
      go_wp2_with fail
      go_loopg [4] i (fun gk s4 wr => ∃ k : Nat, s4 = .int .i64 (k : Int) ∧ gk + k = i ∧ Hid (Gr w wr) ∧ Hid (∀ (j : Nat) (z : ByteArray), j < k → xs[j]? = some z → (z.toList == x.toList) = false))
      case atStart => exact ⟨0, rfl, by omega, HG.out, fun j z h => absurd h (by omega)⟩
      case round =>
        clear c0 HG
        obtain ⟨k, rfl, hgk2, HG, HN⟩ := hrel
        by_cases hki : k < i
        · obtain ⟨y, hy⟩ : ∃ y, xs[k]? = some y := ⟨xs[k]'(by have := HL.out; omega), List.getElem?_eq_getElem _⟩
          have c0 := HG.out.cell (HC.out i x HX.out).nm
          have c1 := HG.out.cell (HC.out k y hy).nm
          have hkk : (k : Int) < i := by omega
          have hkm : (k : Int) < m := by omega
          cases hb : (y.toList == x.toList)
          · have hb' : (x.toList == y.toList) = false := by rw [← hb]; exact Bool.beq_comm
            have HN2 : Hid (∀ (j : Nat) (z : ByteArray), j < k + 1 → xs[j]? = some z → (z.toList == x.toList) = false) := fun j z hj hz => by
              by_cases e : j = k
              · subst e
                rw [hy] at hz
                cases hz
                exact hb
              · exact HN.out j z (by omega) hz
            clear hy
            go_wp2_with fail
            go_big_quiet (fail)
            go_wp2_with fail
            go_roundg (gk - 1)
            case measure => omega
            case rel => exact ⟨k + 1, by go_num, by omega, HG.out.drewN _, HN2.out⟩
          · have hb' : (x.toList == y.toList) = true := by rw [← hb]; exact Bool.beq_comm
            have HR : Hid (errG (strE xs) xs m 0 = 9) := by
              unfold Hid
              rw [HST.out, hasS_yes hki hy hb]
              rfl
            clear hy
            go_wp2_with fail
            go_big_quiet (fail)
            go_wp2_with fail
            go_ret
            exact ⟨by rw [HE.out, HR.out]; rfl, HG.out.drewN _⟩
        · obtain rfl : k = i := by omega
          have hkk : (k : Int) ≤ k := by omega
          have HF2 : Hid (errG (strE xs) xs (m - (k + 1)) (k + 1) = errG (strE xs) xs m 0) := by
            unfold Hid
            rw [HST.out, hasS_not HN.out]
            rfl
          go_wp2_with fail
          go_roundg (GK - 1)
          case measure => omega
          case rel => exact ⟨k + 1, by go_num, by omega, HG.out, HF2.out⟩
    · obtain rfl : i = m := by omega
      have hii : (i : Int) ≤ i := by omega
      have HR : Hid (errG (strE xs) xs i 0 = 0) := by
        unfold Hid
        rw [← HF.out, Nat.sub_self]
        rfl
      go_wp2_with fail
      go_ret
      exact ⟨by rw [HE.out, HR.out]; rfl, HG.out⟩
theorem nil_str : (⟨#[]⟩ : ByteArray).toList = [] := by rw [ByteArray.toList_eq]
end Go.Proofs.YtgjcbiobedhjaaaGreatDoor
namespace Go.Proofs.YtgjcbiobedhjaaaGreatDoor
open Go.RowKit Go.Lib
set_option linter.unusedSimpArgs false
set_option linter.unusedVariables false
/-- who wins from the beginning -/
def walkW (a b : ByteArray) : Int := if a.toList = [] then (if b.toList = [] then 3 else 2) else if b.toList = [] then 1 else 0
/-- a race of two names -/
structure RaR where
  a : ByteArray
  b : ByteArray
  w : Int
def raV (r : RaR) : Value := .agg #[.string r.a, .string r.b, .int .i64 r.w]
def raC (r : RaR) : List Value := [.string r.a, .string r.b, .int .i64 r.w]
def raCs (l : List RaR) : List Value := l.flatMap raC
/-- the race of two names at its beginning -/
def raB (a b : ByteArray) : RaR := ⟨a, b, walkW a b⟩
set_option maxRecDepth 100000 in
theorem walk_c (a b : ByteArray) (w : World) : Calls Tryz.prog 50 #[.string a, .string b] w fun e w' => e = .returned (.int .i64 (walkW a b)) ∧ w = w' := by
  have HE : Hid (walkW a b = if a.toList = [] then (if b.toList = [] then 3 else 2) else if b.toList = [] then 1 else 0) := rfl
  have HA : (a.toList = [] ∧ a.toList.isEmpty = true) ∨ (¬ a.toList = [] ∧ a.toList.isEmpty = false) := by cases a.toList <;> simp
  have HB : (b.toList = [] ∧ b.toList.isEmpty = true) ∨ (¬ b.toList = [] ∧ b.toList.isEmpty = false) := by cases b.toList <;> simp
  rcases HA with ⟨ha, ha2⟩ | ⟨ha, ha2⟩ <;> rcases HB with ⟨hb, hb2⟩ | ⟨hb, hb2⟩
  all_goals
    simp only [ha, hb, if_true, if_false] at HE
    go_enter Tryz.func50, Tryz.ntmps50
    go_wp2_with fail
    go_ret
    exact ⟨by rw [HE.out]; rfl, rfl⟩
set_option maxHeartbeats 4000000 in
set_option maxRecDepth 100000 in
theorem raceOf_c (a b : ByteArray) (w : World) : Calls Tryz.prog 58 #[.string a, .string b] w fun e w' => e = .returned (raV (raB a b)) ∧ Gr w w' := by
  have HE : Hid (walkW a b = if a.toList = [] then (if b.toList = [] then 3 else 2) else if b.toList = [] then 1 else 0) := rfl
  unfold raV raB
  have HA : (a.toList = [] ∧ a.toList.isEmpty = true) ∨ (¬ a.toList = [] ∧ a.toList.isEmpty = false) := by cases a.toList <;> simp
  have HB : (b.toList = [] ∧ b.toList.isEmpty = true) ∨ (¬ b.toList = [] ∧ b.toList.isEmpty = false) := by cases b.toList <;> simp
  rcases HA with ⟨ha, ha2⟩ | ⟨ha, ha2⟩ <;> rcases HB with ⟨hb, hb2⟩ | ⟨hb, hb2⟩
  all_goals
    simp only [ha, hb, if_true, if_false] at HE
    go_enter Tryz.func58, Tryz.ntmps58
    go_wp2_with fail
    first
      | (obtain ⟨W1, hW1, g1, z0, z1, z2⟩ := box3 w (.string a) (.string b) (.int .i64 3) 33; rw [hW1]; have g2 := (Gr.refl W1).alloc (.cells #[.string a, .string b, .int .i64 3] 33); replace z0 := g2.cell z0; replace z1 := g2.cell z1; replace z2 := g2.cell z2; exact bodyPost_ret (v := .agg #[.string a, .string b, .int .i64 3]) (by simp [results, Tryz.results58, go_sem, z0, z1, z2]) rfl ⟨by rw [HE.out], g1.trans g2⟩)
      | (obtain ⟨W1, hW1, g1, z0, z1, z2⟩ := box3 w (.string a) (.string b) (.int .i64 2) 33; rw [hW1]; have g2 := (Gr.refl W1).alloc (.cells #[.string a, .string b, .int .i64 2] 33); replace z0 := g2.cell z0; replace z1 := g2.cell z1; replace z2 := g2.cell z2; exact bodyPost_ret (v := .agg #[.string a, .string b, .int .i64 2]) (by simp [results, Tryz.results58, go_sem, z0, z1, z2]) rfl ⟨by rw [HE.out], g1.trans g2⟩)
      | (obtain ⟨W1, hW1, g1, z0, z1, z2⟩ := box3 w (.string a) (.string b) (.int .i64 1) 33; rw [hW1]; have g2 := (Gr.refl W1).alloc (.cells #[.string a, .string b, .int .i64 1] 33); replace z0 := g2.cell z0; replace z1 := g2.cell z1; replace z2 := g2.cell z2; exact bodyPost_ret (v := .agg #[.string a, .string b, .int .i64 1]) (by simp [results, Tryz.results58, go_sem, z0, z1, z2]) rfl ⟨by rw [HE.out], g1.trans g2⟩)
      | (obtain ⟨W1, hW1, g1, z0, z1, z2⟩ := box3 w (.string a) (.string b) (.int .i64 0) 33; rw [hW1]; have g2 := (Gr.refl W1).alloc (.cells #[.string a, .string b, .int .i64 0] 33); replace z0 := g2.cell z0; replace z1 := g2.cell z1; replace z2 := g2.cell z2; exact bodyPost_ret (v := .agg #[.string a, .string b, .int .i64 0]) (by simp [results, Tryz.results58, go_sem, z0, z1, z2]) rfl ⟨by rw [HE.out], g1.trans g2⟩)
/-- the name of a seed -/
def nmS (ns : List ByteArray) (s : Int) : ByteArray := if s = 0 then ⟨#[]⟩ else ns.getD (s.toNat - 1) ⟨#[]⟩
set_option maxRecDepth 100000 in
theorem seedIn_c (ns : List ByteArray) (v : Value) (s : Int) (w : World) (hv : StrAts w v ns) (h0 : 0 ≤ s) (h1 : s ≤ ns.length) (h2 : ns.length ≤ 1000) :
    Calls Tryz.prog 72 #[v, .int .i64 s] w fun e w' => e = .returned (.string (nmS ns s)) ∧ w = w' := by
  obtain ⟨⟨p, cap, rfl, _, hh⟩⟩ := hv
  by_cases hs : s = 0
  · have HE : Hid (nmS ns s = ⟨#[]⟩) := by unfold Hid nmS; rw [if_pos hs]
    have z1 : (s == 0) = true := by simpa using hs
    clear hh
    go_enter Tryz.func72, Tryz.ntmps72
    go_wp2_with fail
    go_ret
    exact ⟨by rw [HE.out]; rfl, rfl⟩
  · obtain ⟨k, rfl⟩ : ∃ k : Nat, s = ((k + 1 : Nat) : Int) := ⟨s.toNat - 1, by omega⟩
    have hk : k < ns.length := by omega
    obtain ⟨x, hx⟩ : ∃ x, ns[k]? = some x := ⟨ns[k], List.getElem?_eq_getElem hk⟩
    have HE : Hid (nmS ns ((k + 1 : Nat) : Int) = x) := by
      unfold Hid nmS
      rw [if_neg hs]
      simp [List.getD_eq_getElem?_getD, hx]
    obtain ⟨b, off, rfl, hc⟩ := hh (by omega)
    have c0 := (hc k x hx).nm
    have z1 : (((k + 1 : Nat) : Int) == 0) = false := beq_eq_false_iff_ne.2 hs
    have e1 : ((k + 1 : Nat) : Int) - 1 = (k : Int) := by omega
    have e2 : (k : Int) < (ns.length : Int) := by omega
    generalize ((k + 1 : Nat) : Int) = s at *
    clear hc hx h0 h1
    generalize ns.length = n at *
    go_enter Tryz.func72, Tryz.ntmps72
    go_wp2_with fail
    go_ret
    exact ⟨by rw [HE.out]; rfl, rfl⟩
end Go.Proofs.YtgjcbiobedhjaaaGreatDoor
