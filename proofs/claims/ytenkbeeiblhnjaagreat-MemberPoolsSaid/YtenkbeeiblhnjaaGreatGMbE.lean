/- Members: climbers, as the program checks them, whole. -/
import Derived.Test.YtenkbeeiblhnjaaGreatMbD
import Derived.Test.YtenkbeeiblhnjaaGreatGSyA
namespace Go.Proofs.YtenkbeeiblhnjaaGreat
open Go.RowKit Go.Lib
set_option linter.unusedSimpArgs false
set_option linter.unusedVariables false
set_option maxHeartbeats 1000000 in
set_option maxRecDepth 100000 in
theorem wrapCli_c (z : Int) (i n b off cap Ef L : Nat) (x : CliR) (w : World) (hi : i < n) (hcap : n ≤ cap) (hmx : cap ≤ maxLen)
    (ho : ∀ W, Gr w W → Calls Tryz.prog 145 #[.slice (some ⟨b, off, none⟩) i cap, cliV x] W fun e w' => e = .returned (.int .i64 z) ∧ Gr W w')
    (hE : w.cell? ⟨Ef, 0, none⟩ = some (.func (.func 145) #[] #[])) (hL : w.cell? ⟨L, 0, none⟩ = some (.slice (some ⟨b, off, none⟩) n cap)) :
    Calls Tryz.prog 160 #[.int .i64 i, cliV x, .pointer (some ⟨Ef, 0, none⟩), .pointer (some ⟨L, 0, none⟩)] w fun e w' => e = .returned (.int .i64 z) ∧ Gr w w' := by
  have HO := Lib.hid ho
  unfold cliV at HO
  unfold cliV
  obtain ⟨W, hW, g, a0, a1, a2, a3⟩ := box4 w (.string x.nm) (.string x.na) (.int .i64 x.bn) (.string x.ct) 74
  have e0 := g.cell hE
  have l0 := g.cell hL
  have HW := Lib.hid hW
  have hi1 : (i : Int) ≤ cap := by omega
  have hi0 : (0 : Int) ≤ i := by omega
  clear hW ho hE hL
  go_enter Tryz.func160, Tryz.ntmps160
  go_wp2_with fail
  rw [HW.out]
  generalize w.heap.size = Bx at *
  clear HW
  have gd := (Gr.refl W).drew
  replace a0 := gd.cell a0
  replace a1 := gd.cell a1
  replace a2 := gd.cell a2
  replace a3 := gd.cell a3
  replace e0 := gd.cell e0
  replace l0 := gd.cell l0
  replace g := g.trans gd
  clear gd
  refine wp_region_held_drew (S := (fun w' => (w'.cell? ⟨Bx, 0, none⟩ = some (.string x.nm) ∧ w'.cell? ⟨Bx, 1, none⟩ = some (.string x.na) ∧ w'.cell? ⟨Bx, 2, none⟩ = some (.int .i64 x.bn) ∧ w'.cell? ⟨Bx, 3, none⟩ = some (.string x.ct)) ∧ w'.cell? ⟨Ef, 0, none⟩ = some (.func (.func 145) #[] #[]) ∧ w'.cell? ⟨L, 0, none⟩ = some (.slice (some ⟨b, off, none⟩) n cap))) (by kernel_rfl) ⟨⟨a0, a1, a2, a3⟩, e0, l0⟩ (fun hHeld => ?_)
  generalize W.drew = V at *
  refine wpAnyH_take (i := 0) (v := (.func (.func 145) #[] #[])) (op_at rfl) (by kernel_rfl) (by kernel_rfl) (by kernel_rfl) (fun _ _ _ h => h) (Or.inl ⟨rfl, fun w hSw => ?_⟩) (by assumption) ?_
  · (try dsimp only at hSw); go_simp; try with_reducible rfl
  (try simp only [Act.put, List.setIfInBounds_toArray, List.set_cons_zero, List.set_cons_succ])
  refine wpAnyH_take (i := 1) (v := (.slice (some ⟨b, off, none⟩) n cap)) (op_at rfl) (by kernel_rfl) (by kernel_rfl) (by kernel_rfl) (fun _ _ _ h => h) (Or.inl ⟨rfl, fun w hSw => ?_⟩) (by assumption) ?_
  · (try dsimp only at hSw); go_simp; try with_reducible rfl
  (try simp only [Act.put, List.setIfInBounds_toArray, List.set_cons_zero, List.set_cons_succ])
  refine wpAnyH_take (i := 2) (v := (.int .i64 i)) (op_at rfl) (by kernel_rfl) (by kernel_rfl) (by kernel_rfl) (fun _ _ _ h => h) (Or.inl ⟨rfl, fun w hSw => ?_⟩) (by assumption) ?_
  · (try dsimp only at hSw); go_simp; try with_reducible rfl
  (try simp only [Act.put, List.setIfInBounds_toArray, List.set_cons_zero, List.set_cons_succ])
  refine wpAnyH_take (i := 3) (v := (.slice (some ⟨b, off, none⟩) i cap)) (op_at rfl) (by kernel_rfl) (by kernel_rfl) (by kernel_rfl) (fun _ _ _ h => h) (Or.inl ⟨rfl, fun w hSw => ?_⟩) (by assumption) ?_
  · (try dsimp only at hSw); go_simp; try with_reducible rfl
  (try simp only [Act.put, List.setIfInBounds_toArray, List.set_cons_zero, List.set_cons_succ])
  refine wpAnyH_take (i := 4) (v := (.agg #[.string x.nm, .string x.na, .int .i64 x.bn, .string x.ct])) (op_at rfl) (by kernel_rfl) (by kernel_rfl) (by kernel_rfl) (fun _ _ _ h => h) (Or.inl ⟨rfl, fun w hSw => ?_⟩) (by assumption) ?_
  · (try dsimp only at hSw); go_simp; try with_reducible rfl
  (try simp only [Act.put, List.setIfInBounds_toArray, List.set_cons_zero, List.set_cons_succ])
  refine wpAnyH_ready (rs := [5]) (by kernel_rfl) (by simp) (AllReadyH.cons (op_at rfl) (fun K hK => ?_) AllReadyH.nil)
  go_simp
  (refine (HO.out _ g).mono ?_; rintro e W1 ⟨rfl, hg⟩; replace a0 := hg.cell a0; replace a1 := hg.cell a1; replace a2 := hg.cell a2; replace a3 := hg.cell a3; replace e0 := hg.cell e0; replace l0 := hg.cell l0; replace g := g.trans hg; clear hg)
  go_wp2_with fail
  refine hK.out _ _ ⟨⟨a0, a1, a2, a3⟩, e0, l0⟩ (fun hHeld => ?_)
  clear hK K
  (try simp only [Act.put, List.setIfInBounds_toArray, List.set_cons_zero, List.set_cons_succ])
  refine wpAnyH_take (i := 6) (v := (.int .i64 z)) (op_at rfl) (by kernel_rfl) (by kernel_rfl) (by kernel_rfl) (fun _ _ _ h => h) (Or.inl ⟨rfl, fun w hSw => ?_⟩) (by assumption) ?_
  · (try dsimp only at hSw); go_simp; try with_reducible rfl
  (try simp only [Act.put, List.setIfInBounds_toArray, List.set_cons_zero, List.set_cons_succ])
  refine wpAnyH_done (by kernel_rfl) ?_ _
  go_wp2_with fail
  go_ret
  exact ⟨rfl, g⟩
set_option maxHeartbeats 1000000 in
set_option maxRecDepth 100000 in
theorem findCli_pos (E : Nat → CliR → Int) (xs : List CliR) (n b off cap Ef L : Nat) (w : World) (hn : xs.length = n) (h1 : n ≤ 1000) (hcap : n ≤ cap) (hmx : cap ≤ maxLen)
    (hc : ∀ i x, xs[i]? = some x → CliAt w b (off + i * 4) x) (ho : ∀ (i : Nat) (x : CliR) (W : World), i < n → xs[i]? = some x → Gr w W → Calls Tryz.prog 145 #[.slice (some ⟨b, off, none⟩) i cap, cliV x] W fun e w' => e = .returned (.int .i64 (E i x)) ∧ Gr W w') (hE : w.cell? ⟨Ef, 0, none⟩ = some (.func (.func 145) #[] #[])) (hL : w.cell? ⟨L, 0, none⟩ = some (.slice (some ⟨b, off, none⟩) n cap)) :
    Calls Tryz.prog 169 #[.slice (some ⟨b, off, none⟩) n cap, .func (.func 160) #[] #[.pointer (some ⟨Ef, 0, none⟩), .pointer (some ⟨L, 0, none⟩)]] w fun e w' => (∃ i : Int, e = .returned (.tuple #[.int .i64 i, .int .i64 (errG E xs n 0)])) ∧ Gr w w' := by
  have HC := Lib.hid hc
  have HN := Lib.hid hn
  have HO := Lib.hid (fun (i : Nat) (x : CliR) (W : World) (hi : i < n) (hx : xs[i]? = some x) (hg : Gr w W) => wrapCli_c (E i x) i n b off cap Ef L x W hi hcap hmx (fun W2 hg2 => ho i x W2 hi hx (hg.trans hg2)) (hg.cell hE) (hg.cell hL))
  clear hc hL hn hE ho
  go_enter Tryz.func169, Tryz.ntmps169
  go_wp2_with fail
  go_loopg [11] n (fun gk s11 wr => ∃ i : Nat, s11 = .int .i64 i ∧ gk + i = n ∧ Gr w wr ∧ Hid (errG E xs (n - i) i = errG E xs n 0))
  case atStart => exact ⟨0, rfl, by omega, Gr.refl _, rfl⟩
  case round =>
    obtain ⟨i, rfl, hi, hg, HF⟩ := hrel
    by_cases hlt : i < n
    · obtain ⟨x, hx⟩ : ∃ x, xs[i]? = some x := ⟨xs[i]'(by have := HN.out; omega), List.getElem?_eq_getElem _⟩
      obtain ⟨c0, c1, c2, c3⟩ := (HC.out i x hx).gr hg
      have hf := errG_step (E := E) hlt hx
      have hi2 : (i : Int) < n := by omega
      have hT := fun W hg2 => HO.out i x W hlt hx hg2
      unfold cliV at hT
      clear hx
      obtain ⟨W, hW, g, a0, a1, a2, a3⟩ := box4 wr (.string x.nm) (.string x.na) (.int .i64 x.bn) (.string x.ct) 74
      have gW := hg.trans g
      have HW := Lib.hid hW
      by_cases h0 : E i x = 0
      · rw [h0] at hT hf
        rw [if_pos rfl] at hf
        have HT := Lib.hid hT
        have HF2 := Lib.hid hf
        clear hT hf h0 hW
        go_wp2_with fail
        rw [HW.out]
        refine (HT.out _ gW).mono ?_
        rintro e w4 ⟨rfl, hg2⟩
        go_wp2_with fail
        go_roundg (gk - 1)
        case measure => omega
        case rel => exact ⟨i + 1, by go_num, by omega, gW.trans hg2, by unfold Hid; rw [← HF2.out, HF.out]⟩
      · rw [if_neg h0] at hf
        generalize E i x = z at *
        have q1 : (z == 0) = false := by simpa using h0
        have q2 : (z != 0) = true := by simpa [bne] using q1
        have HT := Lib.hid hT
        have HF2 := Lib.hid hf
        clear hT hf hW
        go_wp2_with fail
        rw [HW.out]
        refine (HT.out _ gW).mono ?_
        rintro e w4 ⟨rfl, hg2⟩
        go_wp2_with fail
        exact bodyPost_ret (v := .tuple #[.int .i64 i, .int .i64 z]) (by simp [results, Tryz.results169, go_sem]) rfl ⟨⟨i, by rw [← HF.out, HF2.out]⟩, gW.trans hg2⟩
    · have hin : i = n := by omega
      have HE2 : Hid (errG E xs (n - i) i = 0) := by unfold Hid; rw [hin, Nat.sub_self]; rfl
      have hi2 : (n : Int) ≤ i := by omega
      clear hin
      go_wp2_with fail
      exact bodyPost_ret (v := .tuple #[.int .i64 0, .int .i64 0]) (by simp [results, Tryz.results169, go_sem]) rfl ⟨⟨0, by rw [← HF.out, HE2.out]⟩, hg⟩
theorem eachCli_pos (E : Nat → CliR → Int) (xs : List CliR) (n b off cap Ef L : Nat) (w : World) (hn : xs.length = n) (h1 : n ≤ 1000) (hcap : n ≤ cap) (hmx : cap ≤ maxLen)
    (hc : ∀ i x, xs[i]? = some x → CliAt w b (off + i * 4) x) (ho : ∀ (i : Nat) (x : CliR) (W : World), i < n → xs[i]? = some x → Gr w W → Calls Tryz.prog 145 #[.slice (some ⟨b, off, none⟩) i cap, cliV x] W fun e w' => e = .returned (.int .i64 (E i x)) ∧ Gr W w') (hE : w.cell? ⟨Ef, 0, none⟩ = some (.func (.func 145) #[] #[])) (hL : w.cell? ⟨L, 0, none⟩ = some (.slice (some ⟨b, off, none⟩) n cap)) :
    Calls Tryz.prog 159 #[.slice (some ⟨b, off, none⟩) n cap, .func (.func 160) #[] #[.pointer (some ⟨Ef, 0, none⟩), .pointer (some ⟨L, 0, none⟩)]] w fun e w' => e = .returned (.int .i64 (errG E xs n 0)) ∧ Gr w w' := by
  have HF := Lib.hid (findCli_pos E xs n b off cap Ef L w hn h1 hcap hmx hc ho hE hL)
  generalize errG E xs n 0 = z at *
  clear hc hL hn hE ho
  go_enter Tryz.func159, Tryz.ntmps159
  go_wp2_with fail
  refine HF.out.mono ?_
  rintro e w4 ⟨⟨i, rfl⟩, hg⟩
  go_wp2_with fail
  go_ret
  exact ⟨rfl, hg⟩
theorem findCli_nil (p : Option Addr) (cap Ef L : Nat) (w : World) :
    Calls Tryz.prog 169 #[.slice p 0 cap, .func (.func 160) #[] #[.pointer (some ⟨Ef, 0, none⟩), .pointer (some ⟨L, 0, none⟩)]] w fun e w' => (∃ i : Int, e = .returned (.tuple #[.int .i64 i, .int .i64 0])) ∧ w = w' := by
  go_enter Tryz.func169, Tryz.ntmps169
  go_wp2_with fail
  refine wp_loop_rounds 2 ?_
  rw [rounds_succ]
  go_wp2_with fail
  exact bodyPost_ret (v := .tuple #[.int .i64 0, .int .i64 0]) (by simp [results, Tryz.results169, go_sem]) rfl ⟨⟨0, rfl⟩, rfl⟩
theorem eachCli_nil (p : Option Addr) (cap Ef L : Nat) (w : World) :
    Calls Tryz.prog 159 #[.slice p 0 cap, .func (.func 160) #[] #[.pointer (some ⟨Ef, 0, none⟩), .pointer (some ⟨L, 0, none⟩)]] w fun e w' => e = .returned (.int .i64 0) ∧ w = w' := by
  have HF := Lib.hid (findCli_nil p cap Ef L w)
  go_enter Tryz.func159, Tryz.ntmps159
  go_wp2_with fail
  refine HF.out.mono ?_
  rintro e w4 ⟨⟨i, rfl⟩, rfl⟩
  go_wp2_with fail
  go_ret
  exact ⟨rfl, rfl⟩
set_option maxHeartbeats 1000000 in
set_option maxRecDepth 100000 in
theorem listCli_c (E : Nat → CliR → Int) (xs : List CliR) (m : Nat) (v : Value) (w : World) (hm : m ≤ 1000) (hv : CliAts w v xs)
    (ho : ∀ (p : Option Addr) (b off cap : Nat), v = .slice (some ⟨b, off, none⟩) xs.length cap → xs.length ≤ m → ∀ (i : Nat) (x : CliR) (W : World), i < xs.length → xs[i]? = some x → Gr w W → Calls Tryz.prog 145 #[.slice (some ⟨b, off, none⟩) i cap, cliV x] W fun e w' => e = .returned (.int .i64 (E i x)) ∧ Gr W w') :
    Calls Tryz.prog 144 #[v, .int .i64 m, .func (.func 145) #[] #[]] w fun e w' => e = .returned (.int .i64 (listE m E xs)) ∧ Gr w w' := by
  obtain ⟨⟨p, cap, rfl, ⟨hcap, hmx⟩, hh⟩⟩ := hv
  rcases Nat.lt_or_ge m xs.length with hl | hl
  · have HE : Hid (listE m E xs = 5) := by unfold Hid listE; rw [if_pos hl]
    have hl2 : decide ((m : Int) < (xs.length : Int)) = true := decide_eq_true (by omega)
    have hl3 : (m : Int) < (xs.length : Int) := by omega
    generalize xs.length = n at *
    obtain ⟨W, hW, g, a0, e0⟩ := box_two w (.slice p n cap) (.func (.func 145) #[] #[]) 168 198
    have HW := Lib.hid hW
    clear hW hh ho
    go_enter Tryz.func144, Tryz.ntmps144
    go_wp2_with fail
    all_goals
      go_ret
      exact ⟨by rw [HE.out]; rfl, by rw [HW.out]; exact g⟩
  · have HE : Hid (listE m E xs = errG E xs xs.length 0) := by unfold Hid listE; rw [if_neg (by omega)]
    have hl2 : decide ((m : Int) < (xs.length : Int)) = false := decide_eq_false (by omega)
    have hl3 : ¬ (m : Int) < (xs.length : Int) := by omega
    rcases Nat.eq_zero_or_pos xs.length with h0 | h0
    · have HE2 : Hid (errG E xs xs.length 0 = 0) := by unfold Hid; rw [h0]; rfl
      rw [h0] at hl2 hl3 ⊢
      obtain ⟨W, hW, g, a0, e0⟩ := box_two w (.slice p 0 cap) (.func (.func 145) #[] #[]) 168 198
      have HW := Lib.hid hW
      have HK := Lib.hid (fun W => eachCli_nil p cap (w.heap.size + 1) w.heap.size W)
      clear hW hh ho h0
      go_enter Tryz.func144, Tryz.ntmps144
      go_wp2_with fail
      refine (HK.out _).mono ?_
      rintro e w4 ⟨rfl, rfl⟩
      go_wp2_with fail
      go_ret
      exact ⟨by rw [HE.out, HE2.out]; rfl, by rw [HW.out]; exact g⟩
    · obtain ⟨b, off, rfl, hc⟩ := hh h0
      obtain ⟨W, hW, g, a0, e0⟩ := box_two w (.slice (some ⟨b, off, none⟩) xs.length cap) (.func (.func 145) #[] #[]) 168 198
      have HW := Lib.hid hW
      have HK := Lib.hid (eachCli_pos E xs xs.length b off cap (w.heap.size + 1) w.heap.size W rfl (by omega) hcap hmx (fun i x hx => (hc i x hx).gr g) (fun i x W2 hi hx hg => ho none b off cap rfl hl i x W2 hi hx (g.trans hg)) e0 a0)
      rw [← HE.out] at HK
      generalize listE m E xs = z at *
      generalize xs.length = n at *
      clear hW hh ho hc HE
      go_enter Tryz.func144, Tryz.ntmps144
      go_wp2_with fail
      rw [HW.out]
      refine HK.out.mono ?_
      rintro e w4 ⟨rfl, hg⟩
      go_wp2_with fail
      go_ret
      exact ⟨rfl, g.trans hg⟩
theorem checkClis_c (xs : List CliR) (v : Value) (w : World) (hv : CliAts w v xs) :
    Calls Tryz.prog 115 #[v] w fun e w' => e = .returned (.int .i64 (listE 160 (cliE xs) xs)) ∧ Gr w w' := by
  have HL := Lib.hid (listCli_c (cliE xs) xs 160 v w (by omega) hv (fun p b off cap hp hl i x W hi hx hg => by
    obtain ⟨⟨p', cap', h1, h2, h3⟩⟩ := hv
    obtain ⟨b', off', h4, h5⟩ := h3 (by omega)
    rw [hp] at h1
    subst h4
    simp only [Value.slice.injEq, Option.some.injEq, Addr.mk.injEq, and_true, true_and] at h1
    obtain ⟨⟨rfl, rfl⟩, rfl⟩ := h1
    exact oneCli_c xs i b off cap x W (by omega) (by omega) (fun i x hx => (h5 i x hx).gr hg)))
  generalize listE 160 (cliE xs) xs = z at *
  obtain ⟨⟨p, cap, rfl, _⟩⟩ := hv
  go_enter Tryz.func115, Tryz.ntmps115
  go_wp2_with fail
  refine HL.out.mono ?_
  rintro e w4 ⟨rfl, hg⟩
  go_wp2_with fail
  go_ret
  exact ⟨rfl, hg⟩
end Go.Proofs.YtenkbeeiblhnjaaGreat
namespace Go.Proofs.YtenkbeeiblhnjaaGreat
open Go.RowKit Go.Lib
set_option linter.unusedSimpArgs false
set_option linter.unusedVariables false
theorem cliE_eq (xs : List CliR) (i : Nat) (x : CliR) : cliE xs i x = if (!decide (Nm x.nm) || !decide (Nm x.na) || !decide (Nm x.ct)) = true then 8 else if dupN (fun y : CliR => y.nm) xs i x.nm = true then 9 else if (outB x.bn 0 99999) = true then 3 else 0 := by
  unfold cliE nmE outE
  by_cases q0 : Nm x.nm <;> by_cases q1 : Nm x.na <;> by_cases q2 : Nm x.ct <;> cases dupN (fun y : CliR => y.nm) xs i x.nm <;> cases outB x.bn 0 99999 <;> simp [firstE, q0, q1, q2]
end Go.Proofs.YtenkbeeiblhnjaaGreat
