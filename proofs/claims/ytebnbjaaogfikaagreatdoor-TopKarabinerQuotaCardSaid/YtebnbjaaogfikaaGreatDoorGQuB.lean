/- Quotas: entries, as the program checks them, whole. -/
import Derived.Test.YtebnbjaaogfikaaGreatDoorGKaX
import Derived.Test.YtebnbjaaogfikaaGreatDoorQuF
namespace Go.Proofs.YtebnbjaaogfikaaGreatDoor
open Go.RowKit Go.Lib
set_option linter.unusedSimpArgs false
set_option linter.unusedVariables false
set_option maxHeartbeats 1000000 in
set_option maxRecDepth 100000 in
theorem findQen_pos (E : Nat → QenR → Int) (xs : List QenR) (n b off cap L : Nat) (w : World) (hn : xs.length = n) (h1 : n ≤ 1000) (hcap : n ≤ cap) (hmx : cap ≤ maxLen)
    (hc : ∀ i x, xs[i]? = some x → QenAt w b (off + i * 2) x) (ho : ∀ (i : Nat) (x : QenR) (W : World), i < n → xs[i]? = some x → Gr w W → Calls Tryz.prog 84 #[.int .i64 i, qenV x, .pointer (some ⟨L, 0, none⟩)] W fun e w' => e = .returned (.int .i64 (E i x)) ∧ Gr W w') (hL : w.cell? ⟨L, 0, none⟩ = some (.slice (some ⟨b, off, none⟩) n cap)) :
    Calls Tryz.prog 109 #[.slice (some ⟨b, off, none⟩) n cap, .func (.func 84) #[] #[.pointer (some ⟨L, 0, none⟩)]] w fun e w' => (∃ i : Int, e = .returned (.tuple #[.int .i64 i, .int .i64 (errG E xs n 0)])) ∧ Gr w w' := by
  have HC := Lib.hid hc
  have HN := Lib.hid hn
  have HO := Lib.hid ho
  clear hc hL hn ho
  go_enter Tryz.func109, Tryz.ntmps109
  go_wp2_with fail
  go_loopg [11] n (fun gk s11 wr => ∃ i : Nat, s11 = .int .i64 i ∧ gk + i = n ∧ Gr w wr ∧ Hid (errG E xs (n - i) i = errG E xs n 0))
  case atStart => exact ⟨0, rfl, by omega, Gr.refl _, rfl⟩
  case round =>
    obtain ⟨i, rfl, hi, hg, HF⟩ := hrel
    by_cases hlt : i < n
    · obtain ⟨x, hx⟩ : ∃ x, xs[i]? = some x := ⟨xs[i]'(by have := HN.out; omega), List.getElem?_eq_getElem _⟩
      obtain ⟨c0, c1⟩ := (HC.out i x hx).gr hg
      have hf := errG_step (E := E) hlt hx
      have hi2 : (i : Int) < n := by omega
      have hT := fun W hg2 => HO.out i x W hlt hx hg2
      unfold qenV at hT
      clear hx
      obtain ⟨W, hW, g, a0, a1⟩ := box2 wr (.string x.cl) (.string x.na) 42
      have gW := hg.trans g
      have HW := Lib.hid hW
      by_cases h0 : E i x = 0
      · rw [h0] at hT hf
        rw [if_pos rfl] at hf
        have HT := Lib.hid hT
        have HF2 := Lib.hid hf
        clear hT hf h0 hW
        go_wp2_with fail
        rw [HW.out]
        refine (HT.out _ gW).mono ?_
        rintro e w4 ⟨rfl, hg2⟩
        go_wp2_with fail
        go_roundg (gk - 1)
        case measure => omega
        case rel => exact ⟨i + 1, by go_num, by omega, gW.trans hg2, by unfold Hid; rw [← HF2.out, HF.out]⟩
      · rw [if_neg h0] at hf
        generalize E i x = z at *
        have q1 : (z == 0) = false := by simpa using h0
        have q2 : (z != 0) = true := by simpa [bne] using q1
        have HT := Lib.hid hT
        have HF2 := Lib.hid hf
        clear hT hf hW
        go_wp2_with fail
        rw [HW.out]
        refine (HT.out _ gW).mono ?_
        rintro e w4 ⟨rfl, hg2⟩
        go_wp2_with fail
        exact bodyPost_ret (v := .tuple #[.int .i64 i, .int .i64 z]) (by simp [results, Tryz.results109, go_sem]) rfl ⟨⟨i, by rw [← HF.out, HF2.out]⟩, gW.trans hg2⟩
    · have hin : i = n := by omega
      have HE2 : Hid (errG E xs (n - i) i = 0) := by unfold Hid; rw [hin, Nat.sub_self]; rfl
      have hi2 : (n : Int) ≤ i := by omega
      clear hin
      go_wp2_with fail
      exact bodyPost_ret (v := .tuple #[.int .i64 0, .int .i64 0]) (by simp [results, Tryz.results109, go_sem]) rfl ⟨⟨0, by rw [← HF.out, HE2.out]⟩, hg⟩
theorem eachQen_pos (E : Nat → QenR → Int) (xs : List QenR) (n b off cap L : Nat) (w : World) (hn : xs.length = n) (h1 : n ≤ 1000) (hcap : n ≤ cap) (hmx : cap ≤ maxLen)
    (hc : ∀ i x, xs[i]? = some x → QenAt w b (off + i * 2) x) (ho : ∀ (i : Nat) (x : QenR) (W : World), i < n → xs[i]? = some x → Gr w W → Calls Tryz.prog 84 #[.int .i64 i, qenV x, .pointer (some ⟨L, 0, none⟩)] W fun e w' => e = .returned (.int .i64 (E i x)) ∧ Gr W w') (hL : w.cell? ⟨L, 0, none⟩ = some (.slice (some ⟨b, off, none⟩) n cap)) :
    Calls Tryz.prog 83 #[.slice (some ⟨b, off, none⟩) n cap, .func (.func 84) #[] #[.pointer (some ⟨L, 0, none⟩)]] w fun e w' => e = .returned (.int .i64 (errG E xs n 0)) ∧ Gr w w' := by
  have HF := Lib.hid (findQen_pos E xs n b off cap L w hn h1 hcap hmx hc ho hL)
  generalize errG E xs n 0 = z at *
  clear hc hL hn ho
  go_enter Tryz.func83, Tryz.ntmps83
  go_wp2_with fail
  refine HF.out.mono ?_
  rintro e w4 ⟨⟨i, rfl⟩, hg⟩
  go_wp2_with fail
  go_ret
  exact ⟨rfl, hg⟩
theorem findQen_nil (p : Option Addr) (cap L : Nat) (w : World) :
    Calls Tryz.prog 109 #[.slice p 0 cap, .func (.func 84) #[] #[.pointer (some ⟨L, 0, none⟩)]] w fun e w' => (∃ i : Int, e = .returned (.tuple #[.int .i64 i, .int .i64 0])) ∧ w = w' := by
  go_enter Tryz.func109, Tryz.ntmps109
  go_wp2_with fail
  refine wp_loop_rounds 2 ?_
  rw [rounds_succ]
  go_wp2_with fail
  exact bodyPost_ret (v := .tuple #[.int .i64 0, .int .i64 0]) (by simp [results, Tryz.results109, go_sem]) rfl ⟨⟨0, rfl⟩, rfl⟩
theorem eachQen_nil (p : Option Addr) (cap L : Nat) (w : World) :
    Calls Tryz.prog 83 #[.slice p 0 cap, .func (.func 84) #[] #[.pointer (some ⟨L, 0, none⟩)]] w fun e w' => e = .returned (.int .i64 0) ∧ w = w' := by
  have HF := Lib.hid (findQen_nil p cap L w)
  go_enter Tryz.func83, Tryz.ntmps83
  go_wp2_with fail
  refine HF.out.mono ?_
  rintro e w4 ⟨⟨i, rfl⟩, rfl⟩
  go_wp2_with fail
  go_ret
  exact ⟨rfl, rfl⟩
set_option maxHeartbeats 1000000 in
set_option maxRecDepth 100000 in
theorem checkQens_c (xs : List QenR) (v : Value) (w : World) (hv : QenAts w v xs) :
    Calls Tryz.prog 59 #[v] w fun e w' => e = .returned (.int .i64 (listE 160 (qenE xs) xs)) ∧ Gr w w' := by
  obtain ⟨⟨p, cap, rfl, ⟨hcap, hmx⟩, hh⟩⟩ := hv
  obtain ⟨W, hW, g, l0⟩ := box1 w (.slice p xs.length cap) 35
  have HW := Lib.hid hW
  rcases Nat.lt_or_ge 160 xs.length with hl | hl
  · have HE : Hid (listE 160 (qenE xs) xs = 5) := by unfold Hid listE; rw [if_pos hl]
    have hl2 : decide ((160 : Int) < (xs.length : Int)) = true := decide_eq_true (by omega)
    clear hW hh l0
    generalize xs.length = n at *
    go_enter Tryz.func59, Tryz.ntmps59
    go_wp2_with fail
    go_ret
    exact ⟨by rw [HE.out]; rfl, by rw [HW.out]; exact g⟩
  · have HE : Hid (listE 160 (qenE xs) xs = errG (qenE xs) xs xs.length 0) := by unfold Hid listE; rw [if_neg (by omega)]
    have hl2 : decide ((160 : Int) < (xs.length : Int)) = false := decide_eq_false (by omega)
    have HK : Hid (∀ W2, Gr W W2 → Calls Tryz.prog 83 #[.slice p xs.length cap, .func (.func 84) #[] #[.pointer (some ⟨w.heap.size, 0, none⟩)]] W2 fun e w' => e = .returned (.int .i64 (errG (qenE xs) xs xs.length 0)) ∧ Gr W2 w') := by
      intro W2 g2
      rcases Nat.eq_zero_or_pos xs.length with h0 | h0
      · rw [h0]
        refine (eachQen_nil p cap w.heap.size W2).mono ?_
        rintro e w' ⟨rfl, rfl⟩
        exact ⟨rfl, Gr.refl _⟩
      · obtain ⟨b, off, rfl, hc⟩ := hh h0
        exact eachQen_pos (qenE xs) xs xs.length b off cap w.heap.size W2 rfl (by omega) hcap hmx (fun i x hx => (hc i x hx).gr (g.trans g2)) (fun i x W3 hi hx hg => oneQen_c xs i xs.length b off cap w.heap.size x W3 rfl hi (by omega) hcap hmx (fun i x hx => (hc i x hx).gr ((g.trans g2).trans hg)) ((g2.trans hg).cell l0)) (g2.cell l0)
    rw [HE.out]
    generalize errG (qenE xs) xs xs.length 0 = z at *
    clear hW hh HE
    generalize xs.length = n at *
    go_enter Tryz.func59, Tryz.ntmps59
    go_wp2_with fail
    rw [HW.out]
    refine (HK.out _ (Gr.refl _)).mono ?_
    rintro e w4 ⟨rfl, hg⟩
    go_wp2_with fail
    go_ret
    exact ⟨rfl, g.trans hg⟩
end Go.Proofs.YtebnbjaaogfikaaGreatDoor
namespace Go.Proofs.YtebnbjaaogfikaaGreatDoor
open Go.RowKit Go.Lib
set_option linter.unusedSimpArgs false
set_option linter.unusedVariables false
theorem sameQli_c (y : LiR) (B : Nat) (nm : ByteArray) (w : World) (h : w.cell? ⟨B, 0, none⟩ = some (.string nm)) :
    Calls Tryz.prog 56 #[liV y, .pointer (some ⟨B, 0, none⟩)] w fun e w' => e = .returned (.bool (isN (fun y : LiR => y.nm) nm y)) ∧ Gr w w' := by
  unfold liV isN
  obtain ⟨W, hW, g, a0, a1, a2⟩ := box3 w (.string y.nm) (.int .i64 y.ct) y.u 37
  have hB := g.cell h
  rw [← hW] at hB
  have HG := Lib.hid (show Gr w (w.alloc (.cells #[.string y.nm, .int .i64 y.ct, y.u] 37)) from (Gr.refl w).alloc _)
  clear hW h g a0 a1 a2
  go_enter Tryz.func56, Tryz.ntmps56
  go_wp2_with fail
  go_ret
  exact ⟨rfl, HG.out⟩
set_option maxHeartbeats 1000000 in
set_option maxRecDepth 100000 in
theorem indexQli_pos (xs : List LiR) (n b off cap : Nat) (B : Nat) (nm : ByteArray) (w : World) (hn : n ≤ xs.length) (h1 : n ≤ 1000) (hc : ∀ i x, xs[i]? = some x → LiAt w b (off + i * 3) x) (hB : w.cell? ⟨B, 0, none⟩ = some (.string nm)) :
    Calls Tryz.prog 82 #[.slice (some ⟨b, off, none⟩) n cap, .func (.func 56) #[] #[.pointer (some ⟨B, 0, none⟩)]] w fun e w' => e = .returned (.int .i64 (idxQ (isN (fun y : LiR => y.nm) nm) xs n 0)) ∧ Gr w w' := by
  have HC := Lib.hid hc
  have HN := Lib.hid hn
  have HE : Hid (idxQ (isN (fun y : LiR => y.nm) nm) xs n 0 = idxQ (isN (fun y : LiR => y.nm) nm) xs (n - 0) 0) := rfl
  clear hc hn
  go_enter Tryz.func82, Tryz.ntmps82
  go_wp2_with fail
  go_loopg [8] n (fun gk s8 wr => ∃ i : Nat, s8 = .int .i64 i ∧ gk + i = n ∧ Gr w wr ∧ Hid (idxQ (isN (fun y : LiR => y.nm) nm) xs (n - i) i = idxQ (isN (fun y : LiR => y.nm) nm) xs (n - 0) 0))
  case atStart => exact ⟨0, rfl, by omega, Gr.refl _, rfl⟩
  case round =>
    obtain ⟨i, rfl, hi, hg, HF⟩ := hrel
    by_cases hlt : i < n
    · obtain ⟨x, hx⟩ : ∃ x, xs[i]? = some x := ⟨xs[i]'(by have := HN.out; omega), List.getElem?_eq_getElem _⟩
      obtain ⟨c0, c1, c2, -⟩ := (HC.out i x hx).gr hg
      have hf := idxQ_step (Q := (isN (fun y : LiR => y.nm) nm)) hx hlt
      have hi2 : (i : Int) < n := by omega
      have HT := Lib.hid (sameQli_c x B nm wr (hg.cell hB))
      clear hx
      try unfold liV at HT
      cases e1 : (isN (fun y : LiR => y.nm) nm) x
      · rw [e1] at hf HT
        simp only [Bool.false_eq_true, if_false] at hf
        have HF2 := Lib.hid hf
        clear hf e1
        go_wp2_with (refine HT.out.mono ?_; rintro e w4 ⟨rfl, hg2⟩)
        go_roundg (gk - 1)
        case measure => omega
        case rel => exact ⟨i + 1, by go_num, by omega, hg.trans hg2, by unfold Hid; rw [← HF2.out, HF.out]⟩
      · rw [e1] at hf HT
        simp only [if_true] at hf
        have HF2 := Lib.hid hf
        clear hf e1
        go_wp2_with (refine HT.out.mono ?_; rintro e w4 ⟨rfl, hg2⟩)
        go_ret
        exact ⟨by rw [HE.out, ← HF.out, HF2.out]; rfl, hg.trans hg2⟩
    · have HE2 := Lib.hid (idxQ_end (Q := (isN (fun y : LiR => y.nm) nm)) (xs := xs) (i := i) (n := n) (by omega))
      have hi2 : (n : Int) ≤ i := by omega
      go_wp2_with fail
      go_ret
      exact ⟨by rw [HE.out, ← HF.out, HE2.out]; rfl, hg⟩
theorem containsQli_pos (xs : List LiR) (n b off cap : Nat) (B : Nat) (nm : ByteArray) (w : World) (hn : n ≤ xs.length) (h1 : n ≤ 1000) (hc : ∀ i x, xs[i]? = some x → LiAt w b (off + i * 3) x) (hB : w.cell? ⟨B, 0, none⟩ = some (.string nm)) :
    Calls Tryz.prog 58 #[.slice (some ⟨b, off, none⟩) n cap, .func (.func 56) #[] #[.pointer (some ⟨B, 0, none⟩)]] w fun e w' => e = .returned (.bool (dupN (fun y : LiR => y.nm) xs n nm)) ∧ Gr w w' := by
  have HI := Lib.hid (indexQli_pos xs n b off cap B nm w hn h1 hc hB)
  have HE : Hid ((dupN (fun y : LiR => y.nm) xs n nm) = decide (0 ≤ idxQ (isN (fun y : LiR => y.nm) nm) xs n 0)) := by
    unfold Hid
    rw [idxQ_any (isN (fun y : LiR => y.nm) nm) xs n 0 (by omega), List.drop_zero]
    all_goals rfl
  clear hc
  generalize idxQ (isN (fun y : LiR => y.nm) nm) xs n 0 = z at *
  go_enter Tryz.func58, Tryz.ntmps58
  go_wp2_with fail
  refine HI.out.mono ?_
  rintro e w4 ⟨rfl, hg⟩
  go_wp2_with fail
  go_ret
  exact ⟨by rw [HE.out]; rfl, hg⟩
/-- the error of a list of a quota -/
def liE (xs : List LiR) (i : Nat) (x : LiR) : Int := firstE [nmE x.nm, if dupN (fun y : LiR => y.nm) xs i x.nm then 9 else 0, outE x.ct 0 160, listE 160 (qenE x.es) x.es]
set_option maxHeartbeats 1000000 in
set_option maxRecDepth 100000 in
theorem oneQli_c (xs : List LiR) (i n b off cap L : Nat) (x : LiR) (w : World) (hn : xs.length = n) (hi : i < n) (hx : QenAts w x.u x.es) (h1 : n ≤ 1000) (hcap : n ≤ cap) (hmx : cap ≤ maxLen) (hc : ∀ i x, xs[i]? = some x → LiAt w b (off + i * 3) x) (hL : w.cell? ⟨L, 0, none⟩ = some (.slice (some ⟨b, off, none⟩) n cap)) :
    Calls Tryz.prog 55 #[.int .i64 i, liV x, .pointer (some ⟨L, 0, none⟩)] w fun e w' => e = .returned (.int .i64 (liE xs i x)) ∧ Gr w w' := by
  have hR : liE xs i x = firstE [nmE x.nm, if dupN (fun y : LiR => y.nm) xs i x.nm then 9 else 0, outE x.ct 0 160, listE 160 (qenE x.es) x.es] := rfl
  have HD := Lib.hid (fun (Bx : Nat) (W : World) (g : Gr w W) hB => containsQli_pos xs i b off cap Bx x.nm W (by omega) (by omega) (fun i x hx => (hc i x hx).gr g) hB)
  have HE4 := Lib.hid (fun W (g : Gr w W) => checkQens_c x.es x.u W (hx.gr g))
  generalize dupN (fun y : LiR => y.nm) xs i x.nm = d at *
  generalize listE 160 (qenE x.es) x.es = e4 at *
  obtain ⟨e1, h1', H1⟩ := seaName_e x.nm
  obtain ⟨e2, h2', H2⟩ := if_e d 9
  obtain ⟨e3, h3', H3⟩ := range_e x.ct 0 160
  rw [← h1', ← h2', ← h3'] at hR
  have hF := first_four e1 e2 e3 e4
  rw [← hR] at hF
  generalize liE xs i x = err at *
  have HN1 := Lib.hid H1
  replace H2 := Lib.hid H2
  replace H3 := Lib.hid H3
  have HF := Lib.hid hF
  unfold liV
  obtain ⟨W, hW, g, a0, a1, a2⟩ := box3 w (.string x.nm) (.int .i64 x.ct) x.u 37
  have l0 := g.cell hL
  have HW := Lib.hid hW
  have hi1 : (i : Int) ≤ cap := by omega
  have hi0 : (0 : Int) ≤ i := by omega
  clear hW hc hF hR h1' h2' h3' hL hn H1 hx
  go_enter Tryz.func55, Tryz.ntmps55
  go_wp2_with fail
  rw [HW.out]
  generalize w.heap.size = Bx at *
  clear HW
  have gd := (Gr.refl W).drew
  replace a0 := gd.cell a0
  replace a1 := gd.cell a1
  replace a2 := gd.cell a2
  replace l0 := gd.cell l0
  replace g := g.trans gd
  clear gd
  refine wp_region_held_drew (S := (fun w' => (w'.cell? ⟨Bx, 0, none⟩ = some (.string x.nm) ∧ w'.cell? ⟨Bx, 1, none⟩ = some (.int .i64 x.ct) ∧ w'.cell? ⟨Bx, 2, none⟩ = some x.u) ∧ w'.cell? ⟨L, 0, none⟩ = some (.slice (some ⟨b, off, none⟩) n cap))) (by kernel_rfl) ⟨⟨a0, a1, a2⟩, l0⟩ (fun hHeld => ?_)
  generalize W.drew = V at *
  refine wpAnyH_take (i := 0) (v := (.pointer (some ⟨Bx, 0, none⟩))) (op_at rfl) (by kernel_rfl) (by kernel_rfl) (by kernel_rfl) (fun _ _ _ h => h) (Or.inl ⟨rfl, fun w hSw => ?_⟩) (by assumption) ?_
  · (try dsimp only at hSw); go_simp; try with_reducible rfl
  (try simp only [Act.put, List.setIfInBounds_toArray, List.set_cons_zero, List.set_cons_succ])
  refine wpAnyH_take (i := 1) (v := (.string x.nm)) (op_at rfl) (by kernel_rfl) (by kernel_rfl) (by kernel_rfl) (fun _ _ _ h => h) (Or.inl ⟨rfl, fun w hSw => ?_⟩) (by assumption) ?_
  · (try dsimp only at hSw); go_simp; try with_reducible rfl
  (try simp only [Act.put, List.setIfInBounds_toArray, List.set_cons_zero, List.set_cons_succ])
  refine wpAnyH_take (i := 3) (v := (.pointer (some ⟨L, 0, none⟩))) (op_at rfl) (by kernel_rfl) (by kernel_rfl) (by kernel_rfl) (fun _ _ _ h => h) (Or.inl ⟨rfl, fun w hSw => ?_⟩) (by assumption) ?_
  · (try dsimp only at hSw); go_simp; try with_reducible rfl
  (try simp only [Act.put, List.setIfInBounds_toArray, List.set_cons_zero, List.set_cons_succ])
  refine wpAnyH_take (i := 4) (v := (.slice (some ⟨b, off, none⟩) n cap)) (op_at rfl) (by kernel_rfl) (by kernel_rfl) (by kernel_rfl) (fun _ _ _ h => h) (Or.inl ⟨rfl, fun w hSw => ?_⟩) (by assumption) ?_
  · (try dsimp only at hSw); go_simp; try with_reducible rfl
  (try simp only [Act.put, List.setIfInBounds_toArray, List.set_cons_zero, List.set_cons_succ])
  refine wpAnyH_take (i := 5) (v := (.int .i64 i)) (op_at rfl) (by kernel_rfl) (by kernel_rfl) (by kernel_rfl) (fun _ _ _ h => h) (Or.inl ⟨rfl, fun w hSw => ?_⟩) (by assumption) ?_
  · (try dsimp only at hSw); go_simp; try with_reducible rfl
  (try simp only [Act.put, List.setIfInBounds_toArray, List.set_cons_zero, List.set_cons_succ])
  refine wpAnyH_take (i := 6) (v := (.slice (some ⟨b, off, none⟩) i cap)) (op_at rfl) (by kernel_rfl) (by kernel_rfl) (by kernel_rfl) (fun _ _ _ h => h) (Or.inl ⟨rfl, fun w hSw => ?_⟩) (by assumption) ?_
  · (try dsimp only at hSw); go_simp; try with_reducible rfl
  (try simp only [Act.put, List.setIfInBounds_toArray, List.set_cons_zero, List.set_cons_succ])
  refine wpAnyH_take (i := 7) (v := (.func (.func 56) #[] #[.pointer (some ⟨Bx, 0, none⟩)])) (op_at rfl) (by kernel_rfl) (by kernel_rfl) (by kernel_rfl) (fun _ _ _ h => h) (Or.inl ⟨rfl, fun w hSw => ?_⟩) (by assumption) ?_
  · (try dsimp only at hSw); go_simp; try with_reducible rfl
  (try simp only [Act.put, List.setIfInBounds_toArray, List.set_cons_zero, List.set_cons_succ])
  refine wpAnyH_take (i := 10) (v := (.pointer (some ⟨Bx, 1, none⟩))) (op_at rfl) (by kernel_rfl) (by kernel_rfl) (by kernel_rfl) (fun _ _ _ h => h) (Or.inl ⟨rfl, fun w hSw => ?_⟩) (by assumption) ?_
  · (try dsimp only at hSw); go_simp; try with_reducible rfl
  (try simp only [Act.put, List.setIfInBounds_toArray, List.set_cons_zero, List.set_cons_succ])
  refine wpAnyH_take (i := 11) (v := (.int .i64 x.ct)) (op_at rfl) (by kernel_rfl) (by kernel_rfl) (by kernel_rfl) (fun _ _ _ h => h) (Or.inl ⟨rfl, fun w hSw => ?_⟩) (by assumption) ?_
  · (try dsimp only at hSw); go_simp; try with_reducible rfl
  (try simp only [Act.put, List.setIfInBounds_toArray, List.set_cons_zero, List.set_cons_succ])
  refine wpAnyH_take (i := 13) (v := (.pointer (some ⟨Bx, 2, none⟩))) (op_at rfl) (by kernel_rfl) (by kernel_rfl) (by kernel_rfl) (fun _ _ _ h => h) (Or.inl ⟨rfl, fun w hSw => ?_⟩) (by assumption) ?_
  · (try dsimp only at hSw); go_simp; try with_reducible rfl
  (try simp only [Act.put, List.setIfInBounds_toArray, List.set_cons_zero, List.set_cons_succ])
  refine wpAnyH_take (i := 14) (v := x.u) (op_at rfl) (by kernel_rfl) (by kernel_rfl) (by kernel_rfl) (fun _ _ _ h => h) (Or.inl ⟨rfl, fun w hSw => ?_⟩) (by assumption) ?_
  · (try dsimp only at hSw); go_simp; try with_reducible rfl
  (try simp only [Act.put, List.setIfInBounds_toArray, List.set_cons_zero, List.set_cons_succ])
  refine wpAnyH_ready (rs := [2]) (by kernel_rfl) (by simp) (AllReadyH.cons (op_at rfl) (fun K hK => ?_) AllReadyH.nil)
  go_simp
  (refine (HN1.out _).mono ?_; rintro e W1 ⟨rfl, hg⟩; replace a0 := hg.cell a0; replace a1 := hg.cell a1; replace a2 := hg.cell a2; replace l0 := hg.cell l0; replace g := g.trans hg; clear hg)
  go_wp2_with fail
  refine hK.out _ _ ⟨⟨a0, a1, a2⟩, l0⟩ (fun hHeld => ?_)
  clear hK K
  (try simp only [Act.put, List.setIfInBounds_toArray, List.set_cons_zero, List.set_cons_succ])
  refine wpAnyH_ready (rs := [8]) (by kernel_rfl) (by simp) (AllReadyH.cons (op_at rfl) (fun K hK => ?_) AllReadyH.nil)
  go_simp
  (refine (HD.out Bx _ g a0).mono ?_; rintro e W2 ⟨rfl, hg⟩; replace a0 := hg.cell a0; replace a1 := hg.cell a1; replace a2 := hg.cell a2; replace l0 := hg.cell l0; replace g := g.trans hg; clear hg)
  go_wp2_with fail
  refine hK.out _ _ ⟨⟨a0, a1, a2⟩, l0⟩ (fun hHeld => ?_)
  clear hK K
  (try simp only [Act.put, List.setIfInBounds_toArray, List.set_cons_zero, List.set_cons_succ])
  refine wpAnyH_ready (rs := [9]) (by kernel_rfl) (by simp) (AllReadyH.cons (op_at rfl) (fun K hK => ?_) AllReadyH.nil)
  go_simp
  (refine (H2.out _).mono ?_; rintro e w' ⟨rfl, rfl⟩)
  go_wp2_with fail
  refine hK.out _ _ ⟨⟨a0, a1, a2⟩, l0⟩ (fun hHeld => ?_)
  clear hK K
  (try simp only [Act.put, List.setIfInBounds_toArray, List.set_cons_zero, List.set_cons_succ])
  refine wpAnyH_ready (rs := [12]) (by kernel_rfl) (by simp) (AllReadyH.cons (op_at rfl) (fun K hK => ?_) AllReadyH.nil)
  go_simp
  (refine (H3.out _).mono ?_; rintro e w' ⟨rfl, rfl⟩)
  go_wp2_with fail
  refine hK.out _ _ ⟨⟨a0, a1, a2⟩, l0⟩ (fun hHeld => ?_)
  clear hK K
  (try simp only [Act.put, List.setIfInBounds_toArray, List.set_cons_zero, List.set_cons_succ])
  refine wpAnyH_ready (rs := [15]) (by kernel_rfl) (by simp) (AllReadyH.cons (op_at rfl) (fun K hK => ?_) AllReadyH.nil)
  go_simp
  (refine (HE4.out _ g).mono ?_; rintro e W3 ⟨rfl, hg⟩; replace a0 := hg.cell a0; replace a1 := hg.cell a1; replace a2 := hg.cell a2; replace l0 := hg.cell l0; replace g := g.trans hg; clear hg)
  go_wp2_with fail
  refine hK.out _ _ ⟨⟨a0, a1, a2⟩, l0⟩ (fun hHeld => ?_)
  clear hK K
  (try simp only [Act.put, List.setIfInBounds_toArray, List.set_cons_zero, List.set_cons_succ])
  refine wpAnyH_ready (rs := [16]) (by kernel_rfl) (by simp) (AllReadyH.cons (op_at rfl) (fun K hK => ?_) AllReadyH.nil)
  go_simp
  obtain ⟨WW, hWW, gW, s0, s1, s2, s3⟩ := box4 W3 (.int .i64 e1) (.int .i64 e2) (.int .i64 e3) (.int .i64 e4) 28
  rw [hWW]
  clear hWW
  replace a0 := gW.cell a0
  replace a1 := gW.cell a1
  replace a2 := gW.cell a2
  replace l0 := gW.cell l0
  replace g := g.trans gW
  refine hK.out _ _ ⟨⟨a0, a1, a2⟩, l0⟩ (fun hHeld => ?_)
  clear hK K
  (try simp only [Act.put, List.setIfInBounds_toArray, List.set_cons_zero, List.set_cons_succ])
  refine wpAnyH_ready (rs := [17]) (by kernel_rfl) (by simp) (AllReadyH.cons (op_at rfl) (fun K hK => ?_) AllReadyH.nil)
  go_simp
  (refine (HF.out _ _ WW s0 s1 s2 s3).mono ?_; rintro e w8 ⟨rfl, rfl⟩)
  go_wp2_with fail
  refine hK.out _ _ ⟨⟨a0, a1, a2⟩, l0⟩ (fun hHeld => ?_)
  clear hK K
  (try simp only [Act.put, List.setIfInBounds_toArray, List.set_cons_zero, List.set_cons_succ])
  refine wpAnyH_take (i := 18) (v := (.int .i64 err)) (op_at rfl) (by kernel_rfl) (by kernel_rfl) (by kernel_rfl) (fun _ _ _ h => h) (Or.inl ⟨rfl, fun w hSw => ?_⟩) (by assumption) ?_
  · (try dsimp only at hSw); go_simp; try with_reducible rfl
  (try simp only [Act.put, List.setIfInBounds_toArray, List.set_cons_zero, List.set_cons_succ])
  refine wpAnyH_done (by kernel_rfl) ?_ _
  go_wp2_with fail
  go_ret
  exact ⟨rfl, g⟩
set_option maxHeartbeats 1000000 in
set_option maxRecDepth 100000 in
theorem findQli_pos (E : Nat → LiR → Int) (xs : List LiR) (n b off cap L : Nat) (w : World) (hn : xs.length = n) (h1 : n ≤ 1000) (hcap : n ≤ cap) (hmx : cap ≤ maxLen)
    (hc : ∀ i x, xs[i]? = some x → LiAt w b (off + i * 3) x) (ho : ∀ (i : Nat) (x : LiR) (W : World), i < n → xs[i]? = some x → Gr w W → Calls Tryz.prog 55 #[.int .i64 i, liV x, .pointer (some ⟨L, 0, none⟩)] W fun e w' => e = .returned (.int .i64 (E i x)) ∧ Gr W w') (hL : w.cell? ⟨L, 0, none⟩ = some (.slice (some ⟨b, off, none⟩) n cap)) :
    Calls Tryz.prog 81 #[.slice (some ⟨b, off, none⟩) n cap, .func (.func 55) #[] #[.pointer (some ⟨L, 0, none⟩)]] w fun e w' => (∃ i : Int, e = .returned (.tuple #[.int .i64 i, .int .i64 (errG E xs n 0)])) ∧ Gr w w' := by
  have HC := Lib.hid hc
  have HN := Lib.hid hn
  have HO := Lib.hid ho
  clear hc hL hn ho
  go_enter Tryz.func81, Tryz.ntmps81
  go_wp2_with fail
  go_loopg [11] n (fun gk s11 wr => ∃ i : Nat, s11 = .int .i64 i ∧ gk + i = n ∧ Gr w wr ∧ Hid (errG E xs (n - i) i = errG E xs n 0))
  case atStart => exact ⟨0, rfl, by omega, Gr.refl _, rfl⟩
  case round =>
    obtain ⟨i, rfl, hi, hg, HF⟩ := hrel
    by_cases hlt : i < n
    · obtain ⟨x, hx⟩ : ∃ x, xs[i]? = some x := ⟨xs[i]'(by have := HN.out; omega), List.getElem?_eq_getElem _⟩
      obtain ⟨c0, c1, c2, -⟩ := (HC.out i x hx).gr hg
      obtain ⟨⟨pu, cu, hu, -⟩⟩ := (HC.out i x hx).es
      rw [hu] at c2
      have hf := errG_step (E := E) hlt hx
      have hi2 : (i : Int) < n := by omega
      have hT := fun W hg2 => HO.out i x W hlt hx hg2
      unfold liV at hT
      simp only [hu] at hT
      clear hx
      obtain ⟨W, hW, g, a0, a1, a2⟩ := box3 wr (.string x.nm) (.int .i64 x.ct) (.slice pu x.es.length cu) 37
      have gW := hg.trans g
      have HW := Lib.hid hW
      by_cases h0 : E i x = 0
      · rw [h0] at hT hf
        rw [if_pos rfl] at hf
        have HT := Lib.hid hT
        have HF2 := Lib.hid hf
        clear hT hf h0 hW
        go_wp2_with fail
        rw [HW.out]
        refine (HT.out _ gW).mono ?_
        rintro e w4 ⟨rfl, hg2⟩
        go_wp2_with fail
        go_roundg (gk - 1)
        case measure => omega
        case rel => exact ⟨i + 1, by go_num, by omega, gW.trans hg2, by unfold Hid; rw [← HF2.out, HF.out]⟩
      · rw [if_neg h0] at hf
        generalize E i x = z at *
        have q1 : (z == 0) = false := by simpa using h0
        have q2 : (z != 0) = true := by simpa [bne] using q1
        have HT := Lib.hid hT
        have HF2 := Lib.hid hf
        clear hT hf hW
        go_wp2_with fail
        rw [HW.out]
        refine (HT.out _ gW).mono ?_
        rintro e w4 ⟨rfl, hg2⟩
        go_wp2_with fail
        exact bodyPost_ret (v := .tuple #[.int .i64 i, .int .i64 z]) (by simp [results, Tryz.results81, go_sem]) rfl ⟨⟨i, by rw [← HF.out, HF2.out]⟩, gW.trans hg2⟩
    · have hin : i = n := by omega
      have HE2 : Hid (errG E xs (n - i) i = 0) := by unfold Hid; rw [hin, Nat.sub_self]; rfl
      have hi2 : (n : Int) ≤ i := by omega
      clear hin
      go_wp2_with fail
      exact bodyPost_ret (v := .tuple #[.int .i64 0, .int .i64 0]) (by simp [results, Tryz.results81, go_sem]) rfl ⟨⟨0, by rw [← HF.out, HE2.out]⟩, hg⟩
theorem eachQli_pos (E : Nat → LiR → Int) (xs : List LiR) (n b off cap L : Nat) (w : World) (hn : xs.length = n) (h1 : n ≤ 1000) (hcap : n ≤ cap) (hmx : cap ≤ maxLen)
    (hc : ∀ i x, xs[i]? = some x → LiAt w b (off + i * 3) x) (ho : ∀ (i : Nat) (x : LiR) (W : World), i < n → xs[i]? = some x → Gr w W → Calls Tryz.prog 55 #[.int .i64 i, liV x, .pointer (some ⟨L, 0, none⟩)] W fun e w' => e = .returned (.int .i64 (E i x)) ∧ Gr W w') (hL : w.cell? ⟨L, 0, none⟩ = some (.slice (some ⟨b, off, none⟩) n cap)) :
    Calls Tryz.prog 54 #[.slice (some ⟨b, off, none⟩) n cap, .func (.func 55) #[] #[.pointer (some ⟨L, 0, none⟩)]] w fun e w' => e = .returned (.int .i64 (errG E xs n 0)) ∧ Gr w w' := by
  have HF := Lib.hid (findQli_pos E xs n b off cap L w hn h1 hcap hmx hc ho hL)
  generalize errG E xs n 0 = z at *
  clear hc hL hn ho
  go_enter Tryz.func54, Tryz.ntmps54
  go_wp2_with fail
  refine HF.out.mono ?_
  rintro e w4 ⟨⟨i, rfl⟩, hg⟩
  go_wp2_with fail
  go_ret
  exact ⟨rfl, hg⟩
theorem findQli_nil (p : Option Addr) (cap L : Nat) (w : World) :
    Calls Tryz.prog 81 #[.slice p 0 cap, .func (.func 55) #[] #[.pointer (some ⟨L, 0, none⟩)]] w fun e w' => (∃ i : Int, e = .returned (.tuple #[.int .i64 i, .int .i64 0])) ∧ w = w' := by
  go_enter Tryz.func81, Tryz.ntmps81
  go_wp2_with fail
  refine wp_loop_rounds 2 ?_
  rw [rounds_succ]
  go_wp2_with fail
  exact bodyPost_ret (v := .tuple #[.int .i64 0, .int .i64 0]) (by simp [results, Tryz.results81, go_sem]) rfl ⟨⟨0, rfl⟩, rfl⟩
theorem eachQli_nil (p : Option Addr) (cap L : Nat) (w : World) :
    Calls Tryz.prog 54 #[.slice p 0 cap, .func (.func 55) #[] #[.pointer (some ⟨L, 0, none⟩)]] w fun e w' => e = .returned (.int .i64 0) ∧ w = w' := by
  have HF := Lib.hid (findQli_nil p cap L w)
  go_enter Tryz.func54, Tryz.ntmps54
  go_wp2_with fail
  refine HF.out.mono ?_
  rintro e w4 ⟨⟨i, rfl⟩, rfl⟩
  go_wp2_with fail
  go_ret
  exact ⟨rfl, rfl⟩
end Go.Proofs.YtebnbjaaogfikaaGreatDoor
namespace Go.Proofs.YtebnbjaaogfikaaGreatDoor
open Go.RowKit Go.Lib
set_option linter.unusedSimpArgs false
set_option linter.unusedVariables false
/-- the error of a quota -/
def quotaE (xs : List LiR) (cap : Int) : Int := if 16 < xs.length then 5 else firstE [errG (liE xs) xs xs.length 0, outE cap 1 160]
set_option maxHeartbeats 1000000 in
set_option maxRecDepth 100000 in
theorem checkQuota_c (xs : List LiR) (v : Value) (cp : Int) (w : World) (hv : LiAts w v xs) :
    Calls Tryz.prog 26 #[.agg #[v, .int .i64 cp]] w fun e w' => e = .returned (.int .i64 (quotaE xs cp)) ∧ Gr w w' := by
  obtain ⟨⟨p, cap, rfl, ⟨hcap, hmx⟩, hh⟩⟩ := hv
  obtain ⟨W, hW, g, l0, l1⟩ := box2 w (.slice p xs.length cap) (.int .i64 cp) 40
  have HW := Lib.hid hW
  rcases Nat.lt_or_ge 16 xs.length with hl | hl
  · have HE : Hid (quotaE xs cp = 5) := by unfold Hid quotaE; rw [if_pos hl]
    have hl2 : decide ((16 : Int) < (xs.length : Int)) = true := decide_eq_true (by omega)
    clear hW hh l0 l1
    generalize xs.length = n at *
    go_enter Tryz.func26, Tryz.ntmps26
    go_wp2_with fail
    go_ret
    exact ⟨by rw [HE.out]; rfl, by rw [HW.out]; exact g⟩
  · have hl2 : decide ((16 : Int) < (xs.length : Int)) = false := decide_eq_false (by omega)
    have HE : quotaE xs cp = firstE [errG (liE xs) xs xs.length 0, outE cp 1 160] := by unfold quotaE; rw [if_neg (by omega)]
    have HK : Hid (∀ W2, Gr W W2 → Calls Tryz.prog 54 #[.slice p xs.length cap, .func (.func 55) #[] #[.pointer (some ⟨w.heap.size, 0, none⟩)]] W2 fun e w' => e = .returned (.int .i64 (errG (liE xs) xs xs.length 0)) ∧ Gr W2 w') := by
      intro W2 g2
      rcases Nat.eq_zero_or_pos xs.length with h0 | h0
      · rw [h0]
        refine (eachQli_nil p cap w.heap.size W2).mono ?_
        rintro e w' ⟨rfl, rfl⟩
        exact ⟨rfl, Gr.refl _⟩
      · obtain ⟨b, off, rfl, hc⟩ := hh h0
        exact eachQli_pos (liE xs) xs xs.length b off cap w.heap.size W2 rfl (by omega) hcap hmx (fun i x hx => (hc i x hx).gr (g.trans g2)) (fun i x W3 hi hx hg => oneQli_c xs i xs.length b off cap w.heap.size x W3 rfl hi ((hc i x hx).gr ((g.trans g2).trans hg)).es (by omega) hcap hmx (fun i x hx => (hc i x hx).gr ((g.trans g2).trans hg)) ((g2.trans hg).cell l0)) (g2.cell l0)
    obtain ⟨e2, h2', H2⟩ := range_e cp 1 160
    rw [← h2'] at HE
    generalize errG (liE xs) xs xs.length 0 = z at *
    have HF := Lib.hid (fun b c W (s0 : W.cell? ⟨b, 0, none⟩ = some (.int .i64 z)) (s1 : W.cell? ⟨b, 1, none⟩ = some (.int .i64 e2)) => first_pair z e2 b c W s0 s1)
    rw [← HE] at HF
    generalize quotaE xs cp = T at *
    replace H2 := Lib.hid H2
    clear hW hh HE h2'
    generalize xs.length = n at *
    go_enter Tryz.func26, Tryz.ntmps26
    go_wp2_with fail
    rw [HW.out]
    refine (HK.out _ (Gr.refl _)).mono ?_
    rintro e W4 ⟨rfl, hg⟩
    replace l1 := hg.cell l1
    obtain ⟨WW, hWW, gW, s0, s1⟩ := box2 W4 (.int .i64 z) (.int .i64 e2) 28
    go_wp2_with fail
    refine (H2.out _).mono ?_
    rintro e w' ⟨rfl, rfl⟩
    go_wp2_with fail
    refine (HF.out _ _ _ s0 s1).mono ?_
    rintro e w' ⟨rfl, rfl⟩
    have g9 := (g.trans hg).trans gW
    clear hWW s0 s1
    go_wp2_with fail
    go_ret
    exact ⟨rfl, g9⟩
set_option maxHeartbeats 1000000 in
set_option maxRecDepth 100000 in
theorem awardOf_c {w : World} {lv vo : Value} {xs : List LiR} {out : List ByteArray} (cp : Int) (hl : LiAts w lv xs) (ho : StrAts w vo out) (hol : out.length ≤ 1000) (hn16 : xs.length ≤ 16)
    (hes : ∀ l ∈ xs, l.es.length ≤ 160 ∧ 0 ≤ l.ct ∧ l.ct ≤ 160 ∧ ∀ x ∈ l.es, x.cl.toList ≠ []) :
    Calls Tryz.prog 28 #[.agg #[lv, .int .i64 cp], vo] w fun e w' => ∃ B A mo mh mn pv, e = .returned (.pointer (some ⟨A, 0, none⟩)) ∧ AwAt w' B A lv cp out (giveQ out cp xs 0 []) mo mh mn pv ∧ Gr w w' := by
  obtain ⟨W0, hW0, g0, l0, l1⟩ := box2 w lv (.int .i64 cp) 40
  have HL := Lib.hid (hl.gr g0)
  have HG0 := Lib.hid g0
  obtain ⟨⟨p, co, rfl, ⟨hco, hmo⟩, hh⟩⟩ := ho
  obtain ⟨n, hn⟩ : ∃ n, n = out.length := ⟨_, rfl⟩
  rw [← hn] at hco hh hol ⊢
  have HN := Lib.hid hn
  have HH : Hid (0 < n → ∃ b off, p = some ⟨b, off, none⟩ ∧ ∀ i x, out[i]? = some x → StrAt W0 b (off + i) x) := fun h => by
    obtain ⟨b, off, e, h2⟩ := hh h
    exact ⟨b, off, e, fun i x hx => (h2 i x hx).gr g0⟩
  have hmm := @run_makeMap Tryz.prog
  have e0 : W0.heap.size = w.heap.size + 1 := by rw [← hW0]; simp
  have e1 : (W0.alloc (.map #[] 0)).heap.size = w.heap.size + 1 + 1 := by simp [e0]
  have e2 : ((W0.alloc (.map #[] 0)).alloc (.map #[] 0)).heap.size = w.heap.size + 1 + 1 + 1 := by simp [e0]
  have e3 : (((W0.alloc (.map #[] 0)).alloc (.map #[] 0)).alloc (.map #[] 0)).heap.size = w.heap.size + 1 + 1 + 1 + 1 := by simp [e0]
  have hA1 : ∃ W1, (((W0.alloc (.map #[] 0)).alloc (.map #[] 0)).alloc (.map #[] 0)).alloc (.cells #[lv, .int .i64 cp, .map (some (w.heap.size + 1)), .slice none 0 0, .map (some (w.heap.size + 1 + 1)), .map (some (w.heap.size + 1 + 1 + 1))] 71) = W1 ∧ AwAt W1 W0.heap.size (w.heap.size + 1 + 1 + 1 + 1) lv cp [] [] (w.heap.size + 1) (w.heap.size + 1 + 1) (w.heap.size + 1 + 1 + 1) (.slice none 0 0) ∧ Gr W0 W1 := by
    refine ⟨_, rfl, ⟨?_, ⟨[], ?_, OutF.nil⟩, ⟨[], ?_, HeldF.nil⟩, ⟨[], ?_, NatF.nil⟩, World.ownsRow_nil _ _ _ _, ?_, ?_⟩, ?_⟩
    · rw [← e3]; exact heap_alloc_new _ _
    · rw [← e0]; exact (((mapG_new W0).gr ((Gr.refl _).alloc _)).gr ((Gr.refl _).alloc _)).gr ((Gr.refl _).alloc _)
    · rw [← e1]; exact ((mapG_new (W0.alloc (.map #[] 0))).gr ((Gr.refl _).alloc _)).gr ((Gr.refl _).alloc _)
    · rw [← e2]; exact (mapG_new ((W0.alloc (.map #[] 0)).alloc (.map #[] 0))).gr ((Gr.refl _).alloc _)
    · omega
    · omega
    · exact ((((Gr.refl W0).alloc _).alloc _).alloc _).alloc _
  obtain ⟨W1, hW1, hAW, hG1⟩ := hA1
  have HAW := Lib.hid hAW
  have HG1 := Lib.hid hG1
  have HW0 := Lib.hid hW0
  have HW1 := Lib.hid hW1
  clear hW0 hW1 hAW hG1 g0 hl hh hn e0 e1 e2 e3 l0 l1
  go_enter Tryz.func28, Tryz.ntmps28
  go_wp2_with fail
  rw [HW0.out, HW1.out]
  clear HW0 HW1 hmm
  generalize w.heap.size + 1 + 1 + 1 + 1 = A at *
  generalize w.heap.size + 1 + 1 + 1 = mn at *
  generalize w.heap.size + 1 + 1 = mh at *
  generalize w.heap.size + 1 = mo at *
  go_loopg [7, 16] n (fun gk s7 s16 wr => ∃ i : Nat, s16 = .int .i64 i ∧ gk + i = n ∧ Hid (AwAt wr W0.heap.size A lv cp (out.take i) [] mo mh mn (.slice none 0 0)) ∧ Hid (Gr W0 wr))
  case atStart => exact ⟨0, rfl, by omega, HAW.out, HG1.out⟩
  case round =>
    obtain ⟨i, rfl, hi, HA, HG⟩ := hrel
    by_cases hlt : i < n
    · obtain ⟨s, hs⟩ : ∃ s, out[i]? = some s := ⟨out[i]'(by have := HN.out; omega), List.getElem?_eq_getElem _⟩
      obtain ⟨b, off, rfl, hc⟩ := HH.out (by omega)
      have c0 := HG.out.cell (hc i s hs).nm
      have c2 := HA.out.cells.2.2.1
      obtain ⟨ob, hput, h2⟩ := HA.out.out1 s
      have HTK : out.take (i + 1) = out.take i ++ [s] := by rw [List.take_add_one, hs]; rfl
      rw [← HTK] at h2
      have H2 := Lib.hid h2
      have H3 := Lib.hid (gr_putG (ob := ob) HG.out HA.out.low.2.1)
      have hii : (i : Int) < n := by omega
      clear hc hs h2 HTK
      go_wp2_with fail
      go_roundg (gk - 1)
      case measure => omega
      case rel => exact ⟨i + 1, by go_num, by omega, H2.out, H3.out⟩
    · obtain rfl : i = n := by omega
      have h2 := HA.out
      rw [List.take_of_length_le (by have := HN.out; omega)] at h2
      have HGV := Lib.hid (give_c h2 HG.out HL.out hn16 hes)
      clear h2
      go_wp2_with fail
      refine HGV.out.mono ?_
      rintro e W2 ⟨rfl, ⟨pv', hA⟩, hg⟩
      have HA2 := Lib.hid hA
      have HG2 := Lib.hid (HG0.out.trans hg)
      clear hA hg
      go_wp2_with fail
      go_ret
      exact ⟨_, A, mo, mh, mn, pv', rfl, HA2.out, HG2.out⟩
end Go.Proofs.YtebnbjaaogfikaaGreatDoor
