/- Quotas: names, as the program checks them. -/
import Derived.Test.YtebnbjaaogfikaaGreatDoorGKaX
import Derived.Test.YtebnbjaaogfikaaGreatDoorGThF
import Derived.Test.YtebnbjaaogfikaaGreatDoorGQuB
import Derived.Test.YtebnbjaaogfikaaGreatDoorGStJ
import Derived.Test.YtebnbjaaogfikaaGreatDoorGRoC
import Derived.Test.YtebnbjaaogfikaaGreatDoorGOpN
import Derived.Laws.AppendOwn
import Derived.Test.YtebnbjaaogfikaaGreatDoorGResB
namespace Go.Proofs.YtebnbjaaogfikaaGreatDoor
open Go.RowKit Go.Lib
set_option linter.unusedSimpArgs false
set_option linter.unusedVariables false
set_option maxHeartbeats 1000000 in
set_option maxRecDepth 100000 in
theorem oneWd_c (xs : List ByteArray) (i n b off cap L : Nat) (x : ByteArray) (w : World) (hn : xs.length = n) (hi : i < n) (h1 : n ≤ 1000) (hcap : n ≤ cap) (hmx : cap ≤ maxLen) (hc : ∀ i x, xs[i]? = some x → StrAt w b (off + i) x) (hL : w.cell? ⟨L, 0, none⟩ = some (.slice (some ⟨b, off, none⟩) n cap)) :
    Calls Tryz.prog 61 #[.int .i64 i, .string x, .pointer (some ⟨L, 0, none⟩)] w fun e w' => e = .returned (.int .i64 (strE xs i x)) ∧ Gr w w' := by
  have hR : strE xs i x = firstE [nmE x, if hasS (xs.take i) x then 9 else 0] := rfl
  have HD := Lib.hid (fun (W : World) (g : Gr w W) => (containsS_pos xs i b off cap x W (by omega) (by omega) (fun i x hx => ((hc i x hx).gr g).nm)).mono (R' := fun e w' => e = .returned (.bool (hasS (xs.take i) x)) ∧ Gr W w') (by rintro e w' ⟨rfl, rfl⟩; exact ⟨rfl, Gr.refl _⟩))
  generalize hasS (xs.take i) x = d at *
  obtain ⟨e1, h1', H1⟩ := seaName_e x
  obtain ⟨e2, h2', H2⟩ := if_e d 9
  rw [← h1', ← h2'] at hR
  have hF := first_pair e1 e2
  rw [← hR] at hF
  generalize strE xs i x = err at *
  have HN1 := Lib.hid H1
  replace H2 := Lib.hid H2
  have HF := Lib.hid hF
  have l0 := hL
  have g := Gr.refl w
  have hi1 : (i : Int) ≤ cap := by omega
  have hi0 : (0 : Int) ≤ i := by omega
  clear hc hF hR h1' h2' hL hn H1
  go_enter Tryz.func61, Tryz.ntmps61
  go_wp2_with fail
  have gd := (Gr.refl w).drew
  replace l0 := gd.cell l0
  replace g := g.trans gd
  clear gd
  refine wp_region_held_drew (S := (fun w' => w'.cell? ⟨L, 0, none⟩ = some (.slice (some ⟨b, off, none⟩) n cap))) (by kernel_rfl) l0 (fun hHeld => ?_)
  generalize w.drew = V at *
  refine wpAnyH_take (i := 0) (v := (.string x)) (op_at rfl) (by kernel_rfl) (by kernel_rfl) (by kernel_rfl) (fun _ _ _ h => h) (Or.inl ⟨rfl, fun w hSw => ?_⟩) (by assumption) ?_
  · (try dsimp only at hSw); go_simp; try with_reducible rfl
  (try simp only [Act.put, List.setIfInBounds_toArray, List.set_cons_zero, List.set_cons_succ])
  refine wpAnyH_take (i := 2) (v := (.slice (some ⟨b, off, none⟩) n cap)) (op_at rfl) (by kernel_rfl) (by kernel_rfl) (by kernel_rfl) (fun _ _ _ h => h) (Or.inl ⟨rfl, fun w hSw => ?_⟩) (by assumption) ?_
  · (try dsimp only at hSw); go_simp; try with_reducible rfl
  (try simp only [Act.put, List.setIfInBounds_toArray, List.set_cons_zero, List.set_cons_succ])
  refine wpAnyH_take (i := 3) (v := (.int .i64 i)) (op_at rfl) (by kernel_rfl) (by kernel_rfl) (by kernel_rfl) (fun _ _ _ h => h) (Or.inl ⟨rfl, fun w hSw => ?_⟩) (by assumption) ?_
  · (try dsimp only at hSw); go_simp; try with_reducible rfl
  (try simp only [Act.put, List.setIfInBounds_toArray, List.set_cons_zero, List.set_cons_succ])
  refine wpAnyH_take (i := 4) (v := (.slice (some ⟨b, off, none⟩) i cap)) (op_at rfl) (by kernel_rfl) (by kernel_rfl) (by kernel_rfl) (fun _ _ _ h => h) (Or.inl ⟨rfl, fun w hSw => ?_⟩) (by assumption) ?_
  · (try dsimp only at hSw); go_simp; try with_reducible rfl
  (try simp only [Act.put, List.setIfInBounds_toArray, List.set_cons_zero, List.set_cons_succ])
  refine wpAnyH_take (i := 5) (v := (.string x)) (op_at rfl) (by kernel_rfl) (by kernel_rfl) (by kernel_rfl) (fun _ _ _ h => h) (Or.inl ⟨rfl, fun w hSw => ?_⟩) (by assumption) ?_
  · (try dsimp only at hSw); go_simp; try with_reducible rfl
  (try simp only [Act.put, List.setIfInBounds_toArray, List.set_cons_zero, List.set_cons_succ])
  refine wpAnyH_ready (rs := [1]) (by kernel_rfl) (by simp) (AllReadyH.cons (op_at rfl) (fun K hK => ?_) AllReadyH.nil)
  go_simp
  (refine (HN1.out _).mono ?_; rintro e W1 ⟨rfl, hg⟩; replace l0 := hg.cell l0; replace g := g.trans hg; clear hg)
  go_wp2_with fail
  refine hK.out _ _ l0 (fun hHeld => ?_)
  clear hK K
  (try simp only [Act.put, List.setIfInBounds_toArray, List.set_cons_zero, List.set_cons_succ])
  refine wpAnyH_ready (rs := [6]) (by kernel_rfl) (by simp) (AllReadyH.cons (op_at rfl) (fun K hK => ?_) AllReadyH.nil)
  go_simp
  (refine (HD.out _ g).mono ?_; rintro e W2 ⟨rfl, hg⟩; replace l0 := hg.cell l0; replace g := g.trans hg; clear hg)
  go_wp2_with fail
  refine hK.out _ _ l0 (fun hHeld => ?_)
  clear hK K
  (try simp only [Act.put, List.setIfInBounds_toArray, List.set_cons_zero, List.set_cons_succ])
  refine wpAnyH_ready (rs := [7]) (by kernel_rfl) (by simp) (AllReadyH.cons (op_at rfl) (fun K hK => ?_) AllReadyH.nil)
  go_simp
  (refine (H2.out _).mono ?_; rintro e w' ⟨rfl, rfl⟩)
  go_wp2_with fail
  refine hK.out _ _ l0 (fun hHeld => ?_)
  clear hK K
  (try simp only [Act.put, List.setIfInBounds_toArray, List.set_cons_zero, List.set_cons_succ])
  refine wpAnyH_ready (rs := [8]) (by kernel_rfl) (by simp) (AllReadyH.cons (op_at rfl) (fun K hK => ?_) AllReadyH.nil)
  go_simp
  obtain ⟨WW, hWW, gW, s0, s1⟩ := box2 W2 (.int .i64 e1) (.int .i64 e2) 28
  rw [hWW]
  clear hWW
  replace l0 := gW.cell l0
  replace g := g.trans gW
  refine hK.out _ _ l0 (fun hHeld => ?_)
  clear hK K
  (try simp only [Act.put, List.setIfInBounds_toArray, List.set_cons_zero, List.set_cons_succ])
  refine wpAnyH_ready (rs := [9]) (by kernel_rfl) (by simp) (AllReadyH.cons (op_at rfl) (fun K hK => ?_) AllReadyH.nil)
  go_simp
  (refine (HF.out _ _ WW s0 s1).mono ?_; rintro e w8 ⟨rfl, rfl⟩)
  go_wp2_with fail
  refine hK.out _ _ l0 (fun hHeld => ?_)
  clear hK K
  (try simp only [Act.put, List.setIfInBounds_toArray, List.set_cons_zero, List.set_cons_succ])
  refine wpAnyH_take (i := 10) (v := (.int .i64 err)) (op_at rfl) (by kernel_rfl) (by kernel_rfl) (by kernel_rfl) (fun _ _ _ h => h) (Or.inl ⟨rfl, fun w hSw => ?_⟩) (by assumption) ?_
  · (try dsimp only at hSw); go_simp; try with_reducible rfl
  (try simp only [Act.put, List.setIfInBounds_toArray, List.set_cons_zero, List.set_cons_succ])
  refine wpAnyH_done (by kernel_rfl) ?_ _
  go_wp2_with fail
  go_ret
  exact ⟨rfl, g⟩
set_option maxHeartbeats 1000000 in
set_option maxRecDepth 100000 in
theorem findWd_pos (E : Nat → ByteArray → Int) (xs : List ByteArray) (n b off cap L : Nat) (w : World) (hn : xs.length = n) (h1 : n ≤ 1000) (hcap : n ≤ cap) (hmx : cap ≤ maxLen)
    (hc : ∀ i x, xs[i]? = some x → StrAt w b (off + i) x) (ho : ∀ (i : Nat) (x : ByteArray) (W : World), i < n → xs[i]? = some x → Gr w W → Calls Tryz.prog 61 #[.int .i64 i, .string x, .pointer (some ⟨L, 0, none⟩)] W fun e w' => e = .returned (.int .i64 (E i x)) ∧ Gr W w') (hL : w.cell? ⟨L, 0, none⟩ = some (.slice (some ⟨b, off, none⟩) n cap)) :
    Calls Tryz.prog 87 #[.slice (some ⟨b, off, none⟩) n cap, .func (.func 61) #[] #[.pointer (some ⟨L, 0, none⟩)]] w fun e w' => (∃ i : Int, e = .returned (.tuple #[.int .i64 i, .int .i64 (errG E xs n 0)])) ∧ Gr w w' := by
  have HC := Lib.hid hc
  have HN := Lib.hid hn
  have HO := Lib.hid ho
  clear hc hL hn ho
  go_enter Tryz.func87, Tryz.ntmps87
  go_wp2_with fail
  go_loopg [11] n (fun gk s11 wr => ∃ i : Nat, s11 = .int .i64 i ∧ gk + i = n ∧ Gr w wr ∧ Hid (errG E xs (n - i) i = errG E xs n 0))
  case atStart => exact ⟨0, rfl, by omega, Gr.refl _, rfl⟩
  case round =>
    obtain ⟨i, rfl, hi, hg, HF⟩ := hrel
    by_cases hlt : i < n
    · obtain ⟨x, hx⟩ : ∃ x, xs[i]? = some x := ⟨xs[i]'(by have := HN.out; omega), List.getElem?_eq_getElem _⟩
      obtain ⟨c0⟩ := (HC.out i x hx).gr hg
      have hf := errG_step (E := E) hlt hx
      have hi2 : (i : Int) < n := by omega
      have hT := fun W hg2 => HO.out i x W hlt hx hg2
      clear hx
      have gW := hg
      by_cases h0 : E i x = 0
      · rw [h0] at hT hf
        rw [if_pos rfl] at hf
        have HT := Lib.hid hT
        have HF2 := Lib.hid hf
        clear hT hf h0
        go_wp2_with fail
        refine (HT.out _ gW).mono ?_
        rintro e w4 ⟨rfl, hg2⟩
        go_wp2_with fail
        go_roundg (gk - 1)
        case measure => omega
        case rel => exact ⟨i + 1, by go_num, by omega, gW.trans hg2, by unfold Hid; rw [← HF2.out, HF.out]⟩
      · rw [if_neg h0] at hf
        generalize E i x = z at *
        have q1 : (z == 0) = false := by simpa using h0
        have q2 : (z != 0) = true := by simpa [bne] using q1
        have HT := Lib.hid hT
        have HF2 := Lib.hid hf
        clear hT hf
        go_wp2_with fail
        refine (HT.out _ gW).mono ?_
        rintro e w4 ⟨rfl, hg2⟩
        go_wp2_with fail
        exact bodyPost_ret (v := .tuple #[.int .i64 i, .int .i64 z]) (by simp [results, Tryz.results87, go_sem]) rfl ⟨⟨i, by rw [← HF.out, HF2.out]⟩, gW.trans hg2⟩
    · have hin : i = n := by omega
      have HE2 : Hid (errG E xs (n - i) i = 0) := by unfold Hid; rw [hin, Nat.sub_self]; rfl
      have hi2 : (n : Int) ≤ i := by omega
      clear hin
      go_wp2_with fail
      exact bodyPost_ret (v := .tuple #[.int .i64 0, .int .i64 0]) (by simp [results, Tryz.results87, go_sem]) rfl ⟨⟨0, by rw [← HF.out, HE2.out]⟩, hg⟩
theorem eachWd_pos (E : Nat → ByteArray → Int) (xs : List ByteArray) (n b off cap L : Nat) (w : World) (hn : xs.length = n) (h1 : n ≤ 1000) (hcap : n ≤ cap) (hmx : cap ≤ maxLen)
    (hc : ∀ i x, xs[i]? = some x → StrAt w b (off + i) x) (ho : ∀ (i : Nat) (x : ByteArray) (W : World), i < n → xs[i]? = some x → Gr w W → Calls Tryz.prog 61 #[.int .i64 i, .string x, .pointer (some ⟨L, 0, none⟩)] W fun e w' => e = .returned (.int .i64 (E i x)) ∧ Gr W w') (hL : w.cell? ⟨L, 0, none⟩ = some (.slice (some ⟨b, off, none⟩) n cap)) :
    Calls Tryz.prog 60 #[.slice (some ⟨b, off, none⟩) n cap, .func (.func 61) #[] #[.pointer (some ⟨L, 0, none⟩)]] w fun e w' => e = .returned (.int .i64 (errG E xs n 0)) ∧ Gr w w' := by
  have HF := Lib.hid (findWd_pos E xs n b off cap L w hn h1 hcap hmx hc ho hL)
  generalize errG E xs n 0 = z at *
  clear hc hL hn ho
  go_enter Tryz.func60, Tryz.ntmps60
  go_wp2_with fail
  refine HF.out.mono ?_
  rintro e w4 ⟨⟨i, rfl⟩, hg⟩
  go_wp2_with fail
  go_ret
  exact ⟨rfl, hg⟩
theorem findWd_nil (p : Option Addr) (cap L : Nat) (w : World) :
    Calls Tryz.prog 87 #[.slice p 0 cap, .func (.func 61) #[] #[.pointer (some ⟨L, 0, none⟩)]] w fun e w' => (∃ i : Int, e = .returned (.tuple #[.int .i64 i, .int .i64 0])) ∧ w = w' := by
  go_enter Tryz.func87, Tryz.ntmps87
  go_wp2_with fail
  refine wp_loop_rounds 2 ?_
  rw [rounds_succ]
  go_wp2_with fail
  exact bodyPost_ret (v := .tuple #[.int .i64 0, .int .i64 0]) (by simp [results, Tryz.results87, go_sem]) rfl ⟨⟨0, rfl⟩, rfl⟩
theorem eachWd_nil (p : Option Addr) (cap L : Nat) (w : World) :
    Calls Tryz.prog 60 #[.slice p 0 cap, .func (.func 61) #[] #[.pointer (some ⟨L, 0, none⟩)]] w fun e w' => e = .returned (.int .i64 0) ∧ w = w' := by
  have HF := Lib.hid (findWd_nil p cap L w)
  go_enter Tryz.func60, Tryz.ntmps60
  go_wp2_with fail
  refine HF.out.mono ?_
  rintro e w4 ⟨⟨i, rfl⟩, rfl⟩
  go_wp2_with fail
  go_ret
  exact ⟨rfl, rfl⟩
set_option maxHeartbeats 1000000 in
set_option maxRecDepth 100000 in
theorem checkWds_c (xs : List ByteArray) (v : Value) (w : World) (hv : StrAts w v xs) :
    Calls Tryz.prog 27 #[v] w fun e w' => e = .returned (.int .i64 (listE 256 (strE xs) xs)) ∧ Gr w w' := by
  obtain ⟨⟨p, cap, rfl, ⟨hcap, hmx⟩, hh⟩⟩ := hv
  obtain ⟨W, hW, g, l0⟩ := box1 w (.slice p xs.length cap) 23
  have HW := Lib.hid hW
  rcases Nat.lt_or_ge 256 xs.length with hl | hl
  · have HE : Hid (listE 256 (strE xs) xs = 5) := by unfold Hid listE; rw [if_pos hl]
    have hl2 : decide ((256 : Int) < (xs.length : Int)) = true := decide_eq_true (by omega)
    clear hW hh l0
    generalize xs.length = n at *
    go_enter Tryz.func27, Tryz.ntmps27
    go_wp2_with fail
    go_ret
    exact ⟨by rw [HE.out]; rfl, by rw [HW.out]; exact g⟩
  · have HE : Hid (listE 256 (strE xs) xs = errG (strE xs) xs xs.length 0) := by unfold Hid listE; rw [if_neg (by omega)]
    have hl2 : decide ((256 : Int) < (xs.length : Int)) = false := decide_eq_false (by omega)
    have HK : Hid (∀ W2, Gr W W2 → Calls Tryz.prog 60 #[.slice p xs.length cap, .func (.func 61) #[] #[.pointer (some ⟨w.heap.size, 0, none⟩)]] W2 fun e w' => e = .returned (.int .i64 (errG (strE xs) xs xs.length 0)) ∧ Gr W2 w') := by
      intro W2 g2
      rcases Nat.eq_zero_or_pos xs.length with h0 | h0
      · rw [h0]
        refine (eachWd_nil p cap w.heap.size W2).mono ?_
        rintro e w' ⟨rfl, rfl⟩
        exact ⟨rfl, Gr.refl _⟩
      · obtain ⟨b, off, rfl, hc⟩ := hh h0
        exact eachWd_pos (strE xs) xs xs.length b off cap w.heap.size W2 rfl (by omega) hcap hmx (fun i x hx => (hc i x hx).gr (g.trans g2)) (fun i x W3 hi hx hg => oneWd_c xs i xs.length b off cap w.heap.size x W3 rfl hi (by omega) hcap hmx (fun i x hx => (hc i x hx).gr ((g.trans g2).trans hg)) ((g2.trans hg).cell l0)) (g2.cell l0)
    rw [HE.out]
    generalize errG (strE xs) xs xs.length 0 = z at *
    clear hW hh HE
    generalize xs.length = n at *
    go_enter Tryz.func27, Tryz.ntmps27
    go_wp2_with fail
    rw [HW.out]
    refine (HK.out _ (Gr.refl _)).mono ?_
    rintro e w4 ⟨rfl, hg⟩
    go_wp2_with fail
    go_ret
    exact ⟨rfl, g.trans hg⟩
end Go.Proofs.YtebnbjaaogfikaaGreatDoor
namespace Go.Proofs.YtebnbjaaogfikaaGreatDoor
open Go.RowKit Go.Lib
set_option linter.unusedSimpArgs false
set_option linter.unusedVariables false
theorem nm_ne {s : ByteArray} (h : nmE s = 0) : s.toList ≠ [] := by
  unfold nmE at h
  split at h
  · rename_i hN
    intro e
    have h2 := hN.2.1
    rw [ByteArray.toList_eq] at e
    have h3 : s.data.toList.length = 0 := by rw [e]; rfl
    have h4 : s.size = s.data.toList.length := Array.length_toList.symm
    omega
  · cases h
theorem qens_ok {es : List QenR} (h : listE 160 (qenE es) es = 0) : es.length ≤ 160 ∧ ∀ x ∈ es, x.cl.toList ≠ [] := by
  unfold listE at h
  split at h
  · cases h
  · rename_i hl
    refine ⟨by omega, fun x hm => ?_⟩
    obtain ⟨i, hi, hx⟩ := List.mem_iff_getElem.1 hm
    have h0 := errG_zero es.length 0 h (by omega) i x (by omega) (by omega) (by rw [List.getElem?_eq_getElem hi, hx])
    unfold qenE at h0
    exact nm_ne (firstE_zero h0 (nmE x.cl) (by simp))
theorem quotaQ_ok {xs : List LiR} {cap : Int} (h : quotaE xs cap = 0) : xs.length ≤ 16 ∧ (1 ≤ cap ∧ cap ≤ 160) ∧ ∀ l ∈ xs, l.es.length ≤ 160 ∧ 0 ≤ l.ct ∧ l.ct ≤ 160 ∧ ∀ x ∈ l.es, x.cl.toList ≠ [] := by
  unfold quotaE at h
  split at h
  · cases h
  · rename_i hl
    refine ⟨by omega, outE_zero.1 (firstE_zero h (outE cap 1 160) (by simp)), fun l hm => ?_⟩
    obtain ⟨i, hi, hx⟩ := List.mem_iff_getElem.1 hm
    have h0 := errG_zero xs.length 0 (firstE_zero h (errG (liE xs) xs xs.length 0) (by simp)) (by omega) i l (by omega) (by omega) (by rw [List.getElem?_eq_getElem hi, hx])
    unfold liE at h0
    obtain ⟨c1, c2⟩ := outE_zero.1 (firstE_zero h0 (outE l.ct 0 160) (by simp))
    obtain ⟨e1, e2⟩ := qens_ok (firstE_zero h0 (listE 160 (qenE l.es) l.es) (by simp))
    exact ⟨e1, c1, c2, e2⟩
/-- the error of a quota and of those who have withdrawn -/
def plE (xs : List LiR) (cp : Int) (out : List ByteArray) : Int := firstE [quotaE xs cp, listE 256 (strE out) out]
set_option maxHeartbeats 1000000 in
set_option maxRecDepth 100000 in
theorem places_good {w : World} {lv vo : Value} {xs : List LiR} {out : List ByteArray} (cp : Int) (hl : LiAts w lv xs) (ho : StrAts w vo out) (h0 : plE xs cp out = 0) :
    Calls Tryz.prog 9 #[.agg #[lv, .int .i64 cp], vo] w fun e w' => ∃ B u, e = .returned (.tuple #[u, .int .i64 0]) ∧ w'.ownsRow B 48 2 u (giveQ out cp xs 0 []).length (pqCs (giveQ out cp xs 0 [])) ∧ Gr w w' := by
  obtain ⟨W0, hW0, g0, l0, l1⟩ := box2 w lv (.int .i64 cp) 40
  have HC := Lib.hid (checkQuota_c xs lv cp W0 (hl.gr g0))
  have HWd := Lib.hid (fun W (g : Gr W0 W) => checkWds_c out vo W ((ho.gr g0).gr g))
  have HF := Lib.hid (fun b c W (s0 : W.cell? ⟨b, 0, none⟩ = some (.int .i64 (quotaE xs cp))) (s1 : W.cell? ⟨b, 1, none⟩ = some (.int .i64 (listE 256 (strE out) out))) => first_pair _ _ b c W s0 s1)
  have HE : Hid (firstE [quotaE xs cp, listE 256 (strE out) out] = plE xs cp out) := rfl
  rw [HE.out] at HF
  have hq0 := firstE_zero h0 (quotaE xs cp) (by simp)
  have ho0 := firstE_zero h0 (listE 256 (strE out) out) (by simp)
  obtain ⟨hn16, -, hes⟩ := quotaQ_ok hq0
  have hol : out.length ≤ 1000 := by
    unfold listE at ho0
    split at ho0
    · cases ho0
    · omega
  have HAW := Lib.hid (fun W (g : Gr w W) => awardOf_c cp (hl.gr g) (ho.gr g) hol hn16 hes)
  rw [hq0] at HC HF
  rw [ho0] at HWd HF
  rw [h0] at HF
  have HL0 := Lib.hid hl
  have HZ : Hid ((quotaE xs cp) = 0 ∧ (listE 256 (strE out) out) = 0) := ⟨hq0, ho0⟩
  have HW0 := Lib.hid hW0
  have HG0 := Lib.hid g0
  obtain ⟨pl, nl, cl, rfl⟩ : ∃ p n c, lv = .slice p n c := by
    obtain ⟨⟨p, cap, rfl, _⟩⟩ := hl
    exact ⟨p, _, cap, rfl⟩
  obtain ⟨po, no, co, rfl⟩ : ∃ p n c, vo = .slice p n c := by
    obtain ⟨⟨p, cap, rfl, _⟩⟩ := ho
    exact ⟨p, _, cap, rfl⟩
  clear hW0 hl ho h0 g0 hq0 ho0 hes
  go_enter Tryz.func9, Tryz.ntmps9
  go_wp2_with fail
  rw [HW0.out]
  refine HC.out.mono ?_
  rintro e W1 ⟨rfl, hg⟩
  have hg1 := hg
  replace l0 := hg.cell l0
  replace l1 := hg.cell l1
  clear hg
  go_wp2_with fail
  refine (HWd.out _ hg1).mono ?_
  rintro e W2 ⟨rfl, hg⟩
  have hg2 := hg1.trans hg
  replace l0 := hg.cell l0
  replace l1 := hg.cell l1
  obtain ⟨WW, hWW, gW, s0, s1⟩ := box2 W2 (.int .i64 0) (.int .i64 0) 28
  replace l0 := gW.cell l0
  replace l1 := gW.cell l1
  replace hg2 := HG0.out.trans (hg2.trans gW)
  clear hg hg1
  go_wp2_with fail
  refine (HF.out _ _ _ s0 s1).mono ?_
  rintro e w' ⟨rfl, rfl⟩
  clear hWW s0 s1
  have HG3 := Lib.hid hg2
  go_wp2_with fail
  refine (HAW.out _ hg2).mono ?_
  rintro e W3 ⟨B, A, mo, mh, mn, pv, rfl, hA, hg⟩
  have c3 := hA.cells.2.2.2.1
  have HOW := Lib.hid hA.own
  have HG4 := Lib.hid (HG3.out.trans hg)
  clear hA hg hg2
  go_wp2_with fail
  exact bodyPost_ret (v := .tuple #[pv, .int .i64 0]) (by simp [results, Tryz.results9, go_sem]) rfl ⟨B, pv, rfl, HOW.out, HG4.out⟩
set_option maxHeartbeats 1000000 in
set_option maxRecDepth 100000 in
theorem places_bad {w : World} {lv vo : Value} {xs : List LiR} {out : List ByteArray} (cp : Int) (hl : LiAts w lv xs) (ho : StrAts w vo out) (h0 : plE xs cp out ≠ 0) :
    Calls Tryz.prog 9 #[.agg #[lv, .int .i64 cp], vo] w fun e w' => e = .returned (.tuple #[.slice none 0 0, .int .i64 (plE xs cp out)]) ∧ Gr w w' := by
  obtain ⟨W0, hW0, g0, l0, l1⟩ := box2 w lv (.int .i64 cp) 40
  have HC := Lib.hid (checkQuota_c xs lv cp W0 (hl.gr g0))
  have HWd := Lib.hid (fun W (g : Gr W0 W) => checkWds_c out vo W ((ho.gr g0).gr g))
  have HF := Lib.hid (fun b c W (s0 : W.cell? ⟨b, 0, none⟩ = some (.int .i64 (quotaE xs cp))) (s1 : W.cell? ⟨b, 1, none⟩ = some (.int .i64 (listE 256 (strE out) out))) => first_pair _ _ b c W s0 s1)
  have HE : Hid (firstE [quotaE xs cp, listE 256 (strE out) out] = plE xs cp out) := rfl
  rw [HE.out] at HF
  have HW0 := Lib.hid hW0
  have HG0 := Lib.hid g0
  obtain ⟨pl, nl, cl, rfl⟩ : ∃ p n c, lv = .slice p n c := by
    obtain ⟨⟨p, cap, rfl, _⟩⟩ := hl
    exact ⟨p, _, cap, rfl⟩
  obtain ⟨po, no, co, rfl⟩ : ∃ p n c, vo = .slice p n c := by
    obtain ⟨⟨p, cap, rfl, _⟩⟩ := ho
    exact ⟨p, _, cap, rfl⟩
  generalize plE xs cp out = T at *
  generalize quotaE xs cp = z1 at *
  generalize listE 256 (strE out) out = z2 at *
  have q1 : (T == 0) = false := by simpa using h0
  have q2 : (T != 0) = true := by simpa [bne] using q1
  clear hW0 hl ho h0 g0
  go_enter Tryz.func9, Tryz.ntmps9
  go_wp2_with fail
  rw [HW0.out]
  refine HC.out.mono ?_
  rintro e W1 ⟨rfl, hg⟩
  have hg1 := hg
  replace l0 := hg.cell l0
  replace l1 := hg.cell l1
  clear hg
  go_wp2_with fail
  refine (HWd.out _ hg1).mono ?_
  rintro e W2 ⟨rfl, hg⟩
  have hg2 := hg1.trans hg
  replace l0 := hg.cell l0
  replace l1 := hg.cell l1
  obtain ⟨WW, hWW, gW, s0, s1⟩ := box2 W2 (.int .i64 z1) (.int .i64 z2) 28
  replace l0 := gW.cell l0
  replace l1 := gW.cell l1
  replace hg2 := HG0.out.trans (hg2.trans gW)
  clear hg hg1
  go_wp2_with fail
  refine (HF.out _ _ _ s0 s1).mono ?_
  rintro e w' ⟨rfl, rfl⟩
  clear hWW s0 s1
  have HG3 := Lib.hid hg2
  clear hg2
  go_wp2_with fail
  exact bodyPost_ret (v := .tuple #[.slice none 0 0, .int .i64 T]) (by simp [results, Tryz.results9, go_sem]) rfl ⟨rfl, HG3.out⟩
end Go.Proofs.YtebnbjaaogfikaaGreatDoor
namespace Go.Proofs.YtebnbjaaogfikaaGreatDoor
open Go.RowKit Go.Lib
set_option linter.unusedSimpArgs false
set_option linter.unusedVariables false
theorem perm_eq {α : Type} {k : α → Int} : ∀ {l m : List α}, l.Perm m → l.Pairwise (fun a b => k a ≤ k b) → m.Pairwise (fun a b => k a < k b) → l = m
  | l, [], h, _, _ => h.eq_nil
  | [], y :: m, h, _, _ => absurd h.length_eq (by simp)
  | x :: l, y :: m, h, hl, hm => by
    rw [List.pairwise_cons] at hl hm
    have hx : x ∈ y :: m := h.subset (List.mem_cons_self ..)
    have hy : y ∈ x :: l := h.symm.subset (List.mem_cons_self ..)
    have hxy : x = y := by
      rcases List.mem_cons.1 hx with e | e
      · exact e
      · rcases List.mem_cons.1 hy with e2 | e2
        · exact e2.symm
        · have a := hl.1 y e2
          have b := hm.1 x e
          omega
    subst hxy
    rw [perm_eq (List.Perm.cons_inv h) hl.2 hm.2]
theorem filter_take {α : Type} {p : α → Bool} : ∀ (l : List α) (q : Nat), (∀ i x, l[i]? = some x → p x = decide (i < q)) → l.filter p = l.take q
  | [], q, _ => by simp
  | x :: l, 0, h => by
    have ih := filter_take l 0 (fun i y hy => by have := h (i + 1) y (by simpa using hy); simpa using this)
    have := h 0 x rfl
    rw [List.filter_cons_of_neg (by simpa using this), ih]
    simp
  | x :: l, q + 1, h => by
    have ih := filter_take l q (fun i y hy => by have := h (i + 1) y (by simpa using hy); simpa using this)
    have := h 0 x rfl
    rw [List.filter_cons_of_pos (by simpa using this), ih]
    rfl
theorem count_sorted {G : List Bare} (h : G.Pairwise fun a b => cmpB a b < 0) {i : Nat} {x : Bare} (hx : G[i]? = some x) : (G.countP fun c => decide (cmpB c x < 0)) = i := by
  obtain ⟨hi, hx2⟩ := List.getElem?_eq_some_iff.1 hx
  have hs : G = G.take i ++ x :: G.drop (i + 1) := by rw [← hx2, ← List.drop_eq_getElem_cons hi, List.take_append_drop]
  rw [hs] at h ⊢
  rw [List.pairwise_append, List.pairwise_cons] at h
  obtain ⟨_, ⟨h2, _⟩, h3⟩ := h
  rw [List.countP_append, List.countP_cons]
  have e1 : (G.take i).countP (fun c => decide (cmpB c x < 0)) = i := by
    rw [List.countP_eq_length.2 (fun c hc => decide_eq_true (h3 c hc x (List.mem_cons_self ..))), List.length_take]
    omega
  have e2 : (G.drop (i + 1)).countP (fun c => decide (cmpB c x < 0)) = 0 := by
    rw [List.countP_eq_zero]
    intro c hc
    have a := h2 c hc
    have b := cmpB_flip x c
    simp
    omega
  have e3 : decide (cmpB x x < 0) = false := by rw [cmpB_self]; rfl
  rw [e1, e2, e3]
  simp
/-- where nobody is tied: those who go on are the first ones of the sorted row -/
theorem thruB_sorted {bs G : List Bare} (hp : (fineB bs).Perm G) (h : G.Pairwise fun a b => cmpB a b < 0) (q : Nat) : thruB bs q = (G.take q).map fun b => b.nm := by
  have e0 : thruB bs q = goOn q (srtP ((fineB bs).map fun b => ⟨b.nm, rankB (fineB bs) b⟩)) := by
    unfold thruB ranksB
    rw [pls_map]
  have hf : ∀ b, rankB (fineB bs) b = rankB G b := fun b => rankB_perm hp b
  have e1 : srtP ((fineB bs).map fun b => (⟨b.nm, rankB (fineB bs) b⟩ : PlR)) = G.map fun b => ⟨b.nm, rankB G b⟩ := by
    refine perm_eq (k := PlR.rk) ?_ (srtP_pairwise _) ?_
    · refine (srtP_spec _).1.trans ?_
      simp only [hf]
      exact hp.map _
    · rw [List.pairwise_map]
      refine List.Pairwise.imp_of_mem ?_ h
      intro a b ha hb hab
      exact rankB_less ha hab
  rw [e0, e1]
  unfold goOn
  rw [List.filter_map, List.map_map]
  have e2 : G.filter ((fun p : PlR => decide (p.rk ≤ (q : Int))) ∘ fun b => (⟨b.nm, rankB G b⟩ : PlR)) = G.take q := by
    refine filter_take G q fun i x hx => ?_
    have := count_sorted h hx
    simp only [Function.comp_apply]
    unfold rankB
    rw [this]
    exact decide_eq_decide.2 (by omega)
  rw [e2]
  rfl
/-- the sorted row of those who can go on -/
theorem sorted_row {bs : List Bare} (hV : ValidB bs) (hD : ∀ (i j : Nat) (b c : Bare), j < i → bs[i]? = some b → bs[j]? = some c → b.st.toList.isEmpty = true → rankB bs b ≠ rankB bs c) : ∃ G : List Bare, (fineB bs).Perm G ∧ G.Pairwise fun a b => cmpB a b < 0 := by
  have hpw : bs.Pairwise fun c b => b.st.toList.isEmpty = true → rankB bs b ≠ rankB bs c := by
    rw [List.pairwise_iff_getElem]
    intro i j hi hj hij
    exact hD j i _ _ hij (List.getElem?_eq_getElem hj) (List.getElem?_eq_getElem hi)
  have hne : (fineB bs).Pairwise fun c b => rankB bs b ≠ rankB bs c := by
    refine List.Pairwise.imp_of_mem ?_ (hpw.sublist List.filter_sublist)
    intro a b ha hb hab
    exact hab (List.mem_filter.1 hb).2
  refine ⟨(fineB bs).mergeSort fun a b => decide (rankB bs a ≤ rankB bs b), (List.mergeSort_perm _ _).symm, ?_⟩
  have hp := List.mergeSort_perm (fineB bs) fun a b => decide (rankB bs a ≤ rankB bs b)
  have hs := List.pairwise_mergeSort (le := fun a b => decide (rankB bs a ≤ rankB bs b)) (fun a b c h1 h2 => by simp at *; omega) (fun a b => by simp; omega) (fineB bs)
  have hn2 : ((fineB bs).mergeSort fun a b => decide (rankB bs a ≤ rankB bs b)).Pairwise fun c b => rankB bs b ≠ rankB bs c := (hp.symm.pairwise_iff (fun {a b} h e => h e.symm)).1 hne
  refine List.Pairwise.imp_of_mem ?_ (List.pairwise_and_iff.2 ⟨hs, hn2⟩)
  rintro a b ha hb ⟨h1, h2⟩
  have ha2 := (List.mem_filter.1 (hp.subset ha)).1
  have hb2 := (List.mem_filter.1 (hp.subset hb)).1
  have h3 := (rankB_iff ha2 hb2).1
  have h4 : rankB bs a < rankB bs b := by
    have := of_decide_eq_true h1
    omega
  rw [decide_eq_true h4] at h3
  exact of_decide_eq_true h3
theorem fine_rest (ns : List ByteArray) (bs : List Bare) : fineB (restB ns bs) = (fineB bs).filter fun b => !hasS ns b.nm := by
  unfold fineB restB
  rw [List.filter_filter, List.filter_filter]
  congr 1
  funext b
  exact Bool.and_comm _ _
theorem thru_rest {bs G : List Bare} (ns : List ByteArray) (hp : (fineB bs).Perm G) (h : G.Pairwise fun a b => cmpB a b < 0) (q : Nat) : thruB (restB ns bs) q = ((G.filter fun b => !hasS ns b.nm).take q).map fun b => b.nm :=
  thruB_sorted (by rw [fine_rest]; exact hp.filter _) (h.sublist List.filter_sublist) q
/-- the entries of the one rule -/
def entA (s : ByteArray) : QenR := ⟨s, ⟨#[65]⟩⟩
theorem fold_give (out : List ByteArray) (cap : Int) : ∀ (es : List QenR) (q : Nat) (P : List PlQ), (es.map fun e => e.cl.toList).Nodup → (∀ e ∈ es, heldQ P e.cl = false) → ((P.length + es.length : Nat) : Int) < cap →
    (es.foldl (stepQ out cap 0) ((q : Int), P)).2 = P ++ ((es.filter fun e => !hasS out e.cl).take q).map fun e => (e, 0)
  | [], q, P, _, _, _ => by simp
  | e :: es, q, P, hn, hh, hc => by
    rw [List.map_cons, List.nodup_cons] at hn
    obtain ⟨hn1, hn2⟩ := hn
    have hne : ∀ e' ∈ es, (e.cl.toList == e'.cl.toList) = false := fun e' he => by
      simp only [beq_eq_false_iff_ne, ne_eq]
      intro q
      exact hn1 (List.mem_map.2 ⟨e', he, q.symm⟩)
    have hcap : decide ((natQ P e.na : Int) < cap) = true := decide_eq_true (by
      have := natQ_le P e.na
      rw [List.length_cons] at hc
      omega)
    rw [List.foldl_cons]
    rcases Nat.eq_zero_or_pos q with rfl | hq
    · rw [show stepQ out cap 0 (((0 : Nat) : Int), P) e = (((0 : Nat) : Int), P) from by unfold stepQ; rw [if_pos (show (((0 : Nat) : Int), P).1 = 0 from rfl)]]
      rw [fold_give out cap es 0 P hn2 (fun e' he => hh e' (List.mem_cons_of_mem _ he)) (by rw [List.length_cons] at hc; omega)]
      simp
    · obtain ⟨k, rfl⟩ : ∃ k, q = k + 1 := ⟨q - 1, by omega⟩
      have hs : stepQ out cap 0 (((k + 1 : Nat) : Int), P) e = if hasS out e.cl then (((k + 1 : Nat) : Int), P) else ((k : Int), P ++ [(e, 0)]) := by
        unfold stepQ permQ
        rw [if_neg (by simp; omega), hh e (List.mem_cons_self ..), hcap]
        cases hasS out e.cl
        · simp
        · simp
      rw [hs]
      cases ho : hasS out e.cl
      · rw [if_neg (by simp), fold_give out cap es k (P ++ [(e, 0)]) hn2 (fun e' he => by rw [heldQ_add, hh e' (List.mem_cons_of_mem _ he), hne e' he]; rfl) (by rw [List.length_append]; rw [List.length_cons] at hc; simp; omega)]
        rw [List.filter_cons_of_pos (by simp [ho])]
        simp
      · rw [if_pos rfl, fold_give out cap es (k + 1) P hn2 (fun e' he => hh e' (List.mem_cons_of_mem _ he)) (by rw [List.length_cons] at hc; omega)]
        rw [List.filter_cons_of_neg (by simp [ho])]
/-- the places of the one rule are those who go on -/
theorem give_names {bs G : List Bare} (ns : List ByteArray) (hV : ValidB bs) (hp : (fineB bs).Perm G) (h : G.Pairwise fun a b => cmpB a b < 0) (q : Nat) (u : Value) (nm : ByteArray) (hl : bs.length ≤ 10) :
    giveQ ns 160 [⟨nm, q, u, (thruB bs bs.length).map entA⟩] 0 [] = (thruB (restB ns bs) q).map fun s => (entA s, 0) := by
  have hGl : G.length ≤ bs.length := by rw [← hp.length_eq]; exact List.length_filter_le _ _
  have hall : thruB bs bs.length = G.map fun b => b.nm := by rw [thruB_sorted hp h, List.take_of_length_le hGl]
  have hnd : (G.map fun b => b.nm.toList).Nodup := (hp.map fun b => b.nm.toList).nodup_iff.1 (hV.apart.sublist (List.filter_sublist.map _))
  show ruleQ ns 160 0 ⟨nm, q, u, (thruB bs bs.length).map entA⟩ [] = _
  unfold ruleQ
  rw [hall, List.map_map]
  simp only []
  rw [fold_give ns 160 _ q [] (by simpa [List.map_map, Function.comp_def, entA] using hnd) (fun e _ => rfl) (by simp; omega), thru_rest ns hp h q]
  rw [List.filter_map, ← List.map_take, List.nil_append, List.map_map, List.map_map]
  rfl
end Go.Proofs.YtebnbjaaogfikaaGreatDoor
namespace Go.Proofs.YtebnbjaaogfikaaGreatDoor
open Go.RowKit Go.Lib
set_option linter.unusedSimpArgs false
set_option linter.unusedVariables false
set_option maxHeartbeats 1000000 in
set_option maxRecDepth 100000 in
theorem sameWords_pos (ns : List ByteArray) (n b b2 cap cap2 : Nat) (w : World) (hn : ns.length = n) (h1 : n ≤ 1000) (ha : ∀ i s, ns[i]? = some s → w.cell? ⟨b, i, none⟩ = some (.string s)) (hb : ∀ i s, ns[i]? = some s → w.cell? ⟨b2, i, none⟩ = some (.string s)) :
    Calls Tryz.prog 17 #[.slice (some ⟨b, 0, none⟩) n cap, .slice (some ⟨b2, 0, none⟩) n cap2] w fun e w' => e = .returned (.bool true) ∧ Gr w w' := by
  have HX := Lib.hid (fun k (h : k < n) => (show ∃ x, ns[k]? = some x from ⟨ns[k]'(by omega), List.getElem?_eq_getElem _⟩))
  have HA := Lib.hid ha
  have HB := Lib.hid hb
  clear ha hb hn
  go_enter Tryz.func17, Tryz.ntmps17
  go_wp2_with fail
  go_loopg [5] n (fun gk s5 wr => ∃ i : Nat, s5 = .int .i64 i ∧ gk + i = n ∧ Gr w wr)
  case atStart => exact ⟨0, rfl, by omega, Gr.refl _⟩
  case round =>
    obtain ⟨i, rfl, hi, hnx⟩ := hrel
    by_cases hlt : i < n
    · obtain ⟨x, hx⟩ := HX.out i hlt
      have c0 := hnx.cell (HA.out i x hx)
      have c1 := hnx.cell (HB.out i x hx)
      have hi2 : (i : Int) < n := by omega
      clear hx
      go_wp2_with fail
      go_quiet (fail)
      go_wp2_with fail
      go_roundg (gk - 1)
      case measure => omega
      case rel => exact ⟨i + 1, by go_num, by omega, hnx.drewN _⟩
    · obtain rfl : i = n := by omega
      go_wp2_with fail
      go_ret
      exact ⟨rfl, hnx⟩
theorem sameWords_nil (p p2 : Option Addr) (cap cap2 : Nat) (w : World) :
    Calls Tryz.prog 17 #[.slice p 0 cap, .slice p2 0 cap2] w fun e w' => e = .returned (.bool true) ∧ Gr w w' := by
  go_enter Tryz.func17, Tryz.ntmps17
  go_wp2_with fail
  refine wp_loop_rounds 2 ?_
  rw [rounds_succ]
  go_wp2_with fail
  go_ret
  exact ⟨rfl, Gr.refl _⟩
theorem sameWords_c {v v2 : Value} {ns : List ByteArray} {w : World} (h : StrsV w v ns) (h2 : StrsV w v2 ns) (hs : ns.length ≤ 1000) :
    Calls Tryz.prog 17 #[v, v2] w fun e w' => e = .returned (.bool true) ∧ Gr w w' := by
  obtain ⟨⟨p, cap, rfl, _, ha⟩⟩ := h
  obtain ⟨⟨p2, cap2, rfl, _, hb⟩⟩ := h2
  rcases ha with ⟨rfl, rfl, rfl⟩ | ⟨g, rfl, a⟩
  · exact sameWords_nil _ p2 _ cap2 w
  · rcases hb with ⟨rfl, rfl, rfl⟩ | ⟨g2, rfl, b⟩
    · exact sameWords_nil _ _ cap _ w
    · exact sameWords_pos ns _ g g2 cap cap2 w rfl hs a b
end Go.Proofs.YtebnbjaaogfikaaGreatDoor
namespace Go.Proofs.YtebnbjaaogfikaaGreatDoor
open Go.RowKit Go.Lib
set_option linter.unusedSimpArgs false
set_option linter.unusedVariables false
set_option maxHeartbeats 4000000
set_option maxRecDepth 100000
/-- the law's own test passes -/
def GoesOn (w : World) : Prop := ∀ W, Gr w W → Calls Tryz.prog 6 #[] W fun e w' => e = .returned (.bool true) ∧ Gr W w'
end Go.Proofs.YtebnbjaaogfikaaGreatDoor
namespace Go.Proofs.YtebnbjaaogfikaaGreatDoor
open Go.RowKit Go.Lib
set_option linter.unusedSimpArgs false
set_option linter.unusedVariables false
/-- the slice v reads as the integers xs -/
structure ReadsI (w : World) (v : Value) (xs : List Int) : Prop where
  mk' ::
  out : ∃ p cap, v = .slice p xs.length cap ∧ (0 < xs.length → ∃ g, p = some ⟨g, 0, none⟩ ∧ ∀ i x, xs[i]? = some x → w.cell? ⟨g, i, none⟩ = some (.int .i64 x))
theorem ReadsI.gr {w w' : World} {v : Value} {xs : List Int} (h : ReadsI w v xs) (k : Gr w w') : ReadsI w' v xs := by
  obtain ⟨⟨p, cap, rfl, hh⟩⟩ := h
  refine ⟨p, cap, rfl, fun h0 => ?_⟩
  obtain ⟨g, h1, h2⟩ := hh h0
  exact ⟨g, h1, fun i x hx => k.cell (h2 i x hx)⟩
theorem reads_of_owns {w : World} {base : Nat} {v : Value} {xs : List Int} (h : w.ownsRow base 3 1 v xs.length (ints xs)) : ReadsI w v xs := by
  rcases h.2 with ⟨rfl, h0⟩ | ⟨g, cap, cur, rfl, _⟩
  · exact ⟨none, 0, by rw [h0], fun h => by omega⟩
  · refine ⟨some ⟨g, 0, none⟩, cap, rfl, fun _ => ⟨g, rfl, fun i x hx => ?_⟩⟩
    have := h.cells (g := g) rfl i (.int .i64 x) (by simp [ints, hx])
    rwa [show (⟨g, 0, none⟩ : Addr).add i = ⟨g, i, none⟩ by unfold Addr.add; split <;> simp_all] at this
set_option maxHeartbeats 1000000 in
set_option maxRecDepth 100000 in
theorem same_pos (xs : List Int) (n g g2 c c2 : Nat) (w : World) (hn : xs.length = n) (ha : ∀ i x, xs[i]? = some x → w.cell? ⟨g, i, none⟩ = some (.int .i64 x)) (hb : ∀ i x, xs[i]? = some x → w.cell? ⟨g2, i, none⟩ = some (.int .i64 x)) (hs : n ≤ 1000) :
    Calls Tryz.prog 16 #[.slice (some ⟨g, 0, none⟩) n c, .slice (some ⟨g2, 0, none⟩) n c2] w fun e w' => e = .returned (.bool true) ∧ Gr w w' := by
  have HA := Lib.hid ha
  have HB := Lib.hid hb
  have HN := Lib.hid hn
  clear ha hb hn
  go_enter Tryz.func16, Tryz.ntmps16
  go_wp2_with fail
  go_loopg [5] n (fun gk s5 wr => ∃ k : Nat, s5 = .int .i64 k ∧ gk + k = n ∧ Gr w wr)
  case atStart => exact ⟨0, rfl, by omega, Gr.refl _⟩
  case round =>
    obtain ⟨k, rfl, hk, hg⟩ := hrel
    by_cases hlt : k < n
    · obtain ⟨x, hx⟩ : ∃ x, xs[k]? = some x := ⟨xs[k]'(by have := HN.out; omega), List.getElem?_eq_getElem _⟩
      have a0 : wr.cell? ⟨g, k, none⟩ = some (.int .i64 x) := hg.cell (HA.out k x hx)
      have b0 : wr.cell? ⟨g2, k, none⟩ = some (.int .i64 x) := hg.cell (HB.out k x hx)
      have hi : (k : Int) < (n : Int) := by omega
      clear hx
      go_wp2_with fail
      go_quiet (fail)
      go_wp2_with fail
      go_roundg (gk - 1)
      case measure => omega
      case rel => exact ⟨k + 1, by go_num, by omega, hg.drewN _⟩
    · have : k = n := by omega
      subst this
      go_wp2_with fail
      go_ret
      exact ⟨rfl, hg⟩
set_option maxRecDepth 100000 in
theorem same_nil (p p2 : Option Addr) (c c2 : Nat) (w : World) :
    Calls Tryz.prog 16 #[.slice p 0 c, .slice p2 0 c2] w fun e w' => e = .returned (.bool true) ∧ w = w' := by
  go_enter Tryz.func16, Tryz.ntmps16
  go_wp2_with fail
  refine wp_loop_rounds 1 ?_
  rw [rounds_succ]
  go_wp2_with fail
  go_ret
  exact ⟨rfl, rfl⟩
theorem same_c {xs : List Int} {v v2 : Value} {w : World} (h : ReadsI w v xs) (h2 : ReadsI w v2 xs) (hs : xs.length ≤ 1000) :
    Calls Tryz.prog 16 #[v, v2] w fun e w' => e = .returned (.bool true) ∧ Gr w w' := by
  obtain ⟨⟨p, cap, rfl, ha⟩⟩ := h
  obtain ⟨⟨p2, cap2, rfl, hb⟩⟩ := h2
  by_cases h0 : 0 < xs.length
  · obtain ⟨g, rfl, a⟩ := ha h0
    obtain ⟨g2, rfl, b⟩ := hb h0
    exact same_pos xs _ g g2 cap cap2 w rfl a b hs
  · rw [show xs.length = 0 by omega]
    refine (same_nil p p2 cap cap2 w).mono ?_
    rintro e w' ⟨rfl, rfl⟩
    exact ⟨rfl, Gr.refl _⟩
end Go.Proofs.YtebnbjaaogfikaaGreatDoor
namespace Go.Proofs.YtebnbjaaogfikaaGreatDoor
open Go.RowKit Go.Lib
set_option linter.unusedSimpArgs false
set_option linter.unusedVariables false
/-- how many of the first are better -/
def cntB (bs : List Bare) (b : Bare) (q : Nat) : Int := ((bs.take q).countP fun c => decide (cmpB c b < 0) : Nat)
theorem cntB_step {bs : List Bare} {b y : Bare} {k : Nat} (h : bs[k]? = some y) : cntB bs b (k + 1) = cntB bs b k + (if cmpB y b < 0 then 1 else 0) := by
  unfold cntB
  rw [List.take_add_one, h, List.countP_append]
  by_cases e : cmpB y b < 0 <;> simp [e]
theorem cntB_le (bs : List Bare) (b : Bare) (q : Nat) : 0 ≤ cntB bs b q ∧ cntB bs b q ≤ q := by
  unfold cntB
  have := List.countP_le_length (p := fun c => decide (cmpB c b < 0)) (l := bs.take q)
  rw [List.length_take] at this
  omega
theorem cntB_all {bs : List Bare} {b : Bare} {n : Nat} (h : bs.length = n) : cntB bs b n + 1 = rankB bs b := by
  unfold cntB rankB
  rw [List.take_of_length_le (by omega)]
  omega
end Go.Proofs.YtebnbjaaogfikaaGreatDoor
namespace Go.Proofs.YtebnbjaaogfikaaGreatDoor
open Go.RowKit Go.Lib
set_option linter.unusedSimpArgs false
set_option linter.unusedVariables false
theorem ints_take {l : List Int} {k : Nat} {x : Int} (h : l[k]? = some x) : ints (l.take (k + 1)) = ints (l.take k) ++ [.int .i64 x] := by
  rw [List.take_add_one, h]; simp [ints]
end Go.Proofs.YtebnbjaaogfikaaGreatDoor
namespace Go.Proofs.YtebnbjaaogfikaaGreatDoor
open Go.RowKit Go.Lib
set_option linter.unusedSimpArgs false
set_option linter.unusedVariables false
/-- the names at a rank among the first results -/
def atTake (bs : List Bare) (r : Int) (i : Nat) : List ByteArray := ((bs.take i).filter fun b => (rankB bs b == r) && b.st.toList.isEmpty).map fun b => b.nm
theorem atTake_step {bs : List Bare} {r : Int} {i : Nat} {b : Bare} (h : bs[i]? = some b) : atTake bs r (i + 1) = atTake bs r i ++ (if (rankB bs b == r) && b.st.toList.isEmpty then [b.nm] else []) := by
  unfold atTake
  rw [List.take_add_one, h, List.filter_append, List.map_append]
  cases hh : ((rankB bs b == r) && b.st.toList.isEmpty) <;> simp [hh]
theorem atTake_all {bs : List Bare} {r : Int} {n : Nat} (h : bs.length = n) : atTake bs r n = atB bs r := by
  unfold atTake atB
  rw [List.take_of_length_le (by omega)]
theorem atTake_len (bs : List Bare) (r : Int) (i : Nat) : (atTake bs r i).length ≤ i := by
  unfold atTake
  rw [List.length_map]
  have := List.length_filter_le (fun b => (rankB bs b == r) && b.st.toList.isEmpty) (bs.take i)
  rw [List.length_take] at this
  omega
end Go.Proofs.YtebnbjaaogfikaaGreatDoor
