/- Sheets (chapter 10): CheckEntry, as the program has it. -/
import Derived.Test.YtnihclhhbegjhaaGreatDoorOfF
import Derived.Test.YtnihclhhbegjhaaGreatDoorGNames
namespace Go.Proofs.YtnihclhhbegjhaaGreatDoor
open Go.RowKit Go.Lib
set_option linter.unusedSimpArgs false
set_option linter.unusedVariables false
def entryE (de : ByteArray) (nu ck : Int) (ro : ByteArray) (va : Int) (st : ByteArray) (xs : List RowR) : Int := firstE [nmE de, outE nu 1 1000, outE ck 1 1000000, sheetE ro va st xs]
set_option maxHeartbeats 4000000 in
set_option maxRecDepth 100000 in
theorem checkEntry_c {w : World} {xs : List RowR} {p : Option Addr} {n cap : Nat} (de : ByteArray) (nu ck : Int) (ro st : ByteArray) (va : Int) (hv : RowsV w (.slice p n cap) xs) :
    Calls Tryz.prog 54 #[.agg #[.string de, .int .i64 nu, .int .i64 ck, .string ro, .int .i64 va, .string st, .slice p n cap]] w fun e w' => e = .returned (.int .i64 (entryE de nu ck ro va st xs)) ∧ Gr w w' := by
  obtain ⟨e1, h1', H1⟩ := oname_e de
  obtain ⟨e2, h2', H2⟩ := range_e nu 1 1000
  obtain ⟨e3, h3', H3⟩ := range_e ck 1 1000000
  obtain ⟨W, hW, g, a0, a1, a2, a3, a4, a5, a6⟩ := bx7 w (.string de) (.int .i64 nu) (.int .i64 ck) (.string ro) (.int .i64 va) (.string st) (.slice p n cap) 77
  have HW := Lib.hid hW
  have H4 := Lib.hid (fun W' (k : Gr w W') => checkSheet_cO ro st va (hv.gr k))
  obtain ⟨e4, h4'⟩ : ∃ z, z = sheetE ro va st xs := ⟨_, rfl⟩
  rw [← h4'] at H4
  obtain ⟨err, hErr⟩ : ∃ z, z = entryE de nu ck ro va st xs := ⟨_, rfl⟩
  have HFz : Hid (firstE [e1, e2, e3, e4] = err) := by unfold Hid; rw [hErr, h1', h2', h3', h4']; rfl
  rw [← hErr]
  have HF := Lib.hid (fun b cap w => first_four e1 e2 e3 e4 b cap w)
  replace H1 := Lib.hid (fun W' (_ : Gr w W') => H1 W')
  replace H2 := Lib.hid H2
  replace H3 := Lib.hid H3
  clear hW hErr h1' h2' h3' h4' hv
  go_enter Tryz.func54, Tryz.ntmps54
  go_wp2_with fail
  rw [HW.out]
  clear HW
  generalize w.heap.size = L at *
  have gd := (Gr.refl W).drew
  replace a0 := gd.cell a0
  replace a1 := gd.cell a1
  replace a2 := gd.cell a2
  replace a3 := gd.cell a3
  replace a4 := gd.cell a4
  replace a5 := gd.cell a5
  replace a6 := gd.cell a6
  replace g := g.trans gd
  clear gd
  refine wp_region_held_drew (S := (fun w' => w'.cell? ⟨L, 0, none⟩ = some (.string de) ∧ w'.cell? ⟨L, 1, none⟩ = some (.int .i64 nu) ∧ w'.cell? ⟨L, 2, none⟩ = some (.int .i64 ck) ∧ w'.cell? ⟨L, 3, none⟩ = some (.string ro) ∧ w'.cell? ⟨L, 4, none⟩ = some (.int .i64 va) ∧ w'.cell? ⟨L, 5, none⟩ = some (.string st) ∧ w'.cell? ⟨L, 6, none⟩ = some (.slice p n cap))) (by kernel_rfl) ⟨a0, a1, a2, a3, a4, a5, a6⟩ (fun hHeld => ?_)
  generalize W.drew = V2 at *
  refine wpAnyH_take (i := 0) (v := (.pointer (some ⟨L, 0, none⟩))) (op_at rfl) (by kernel_rfl) (by kernel_rfl) (by kernel_rfl) (fun _ _ _ h => h) (Or.inl ⟨rfl, fun w hSw => ?_⟩) (by assumption) ?_
  · (try dsimp only at hSw); go_simp; try with_reducible rfl
  (try simp only [Act.put, tz0, tz1, tz2])
  refine wpAnyH_take (i := 1) (v := (.string de)) (op_at rfl) (by kernel_rfl) (by kernel_rfl) (by kernel_rfl) (fun _ _ _ h => h) (Or.inl ⟨rfl, fun w hSw => ?_⟩) (by assumption) ?_
  · (try dsimp only at hSw); go_simp; try with_reducible rfl
  (try simp only [Act.put, tz0, tz1, tz2])
  refine wpAnyH_take (i := 3) (v := (.pointer (some ⟨L, 1, none⟩))) (op_at rfl) (by kernel_rfl) (by kernel_rfl) (by kernel_rfl) (fun _ _ _ h => h) (Or.inl ⟨rfl, fun w hSw => ?_⟩) (by assumption) ?_
  · (try dsimp only at hSw); go_simp; try with_reducible rfl
  (try simp only [Act.put, tz0, tz1, tz2])
  refine wpAnyH_take (i := 4) (v := (.int .i64 nu)) (op_at rfl) (by kernel_rfl) (by kernel_rfl) (by kernel_rfl) (fun _ _ _ h => h) (Or.inl ⟨rfl, fun w hSw => ?_⟩) (by assumption) ?_
  · (try dsimp only at hSw); go_simp; try with_reducible rfl
  (try simp only [Act.put, tz0, tz1, tz2])
  refine wpAnyH_take (i := 6) (v := (.pointer (some ⟨L, 2, none⟩))) (op_at rfl) (by kernel_rfl) (by kernel_rfl) (by kernel_rfl) (fun _ _ _ h => h) (Or.inl ⟨rfl, fun w hSw => ?_⟩) (by assumption) ?_
  · (try dsimp only at hSw); go_simp; try with_reducible rfl
  (try simp only [Act.put, tz0, tz1, tz2])
  refine wpAnyH_take (i := 7) (v := (.int .i64 ck)) (op_at rfl) (by kernel_rfl) (by kernel_rfl) (by kernel_rfl) (fun _ _ _ h => h) (Or.inl ⟨rfl, fun w hSw => ?_⟩) (by assumption) ?_
  · (try dsimp only at hSw); go_simp; try with_reducible rfl
  (try simp only [Act.put, tz0, tz1, tz2])
  refine wpAnyH_take (i := 9) (v := (.pointer (some ⟨L, 3, none⟩))) (op_at rfl) (by kernel_rfl) (by kernel_rfl) (by kernel_rfl) (fun _ _ _ h => h) (Or.inl ⟨rfl, fun w hSw => ?_⟩) (by assumption) ?_
  · (try dsimp only at hSw); go_simp; try with_reducible rfl
  (try simp only [Act.put, tz0, tz1, tz2])
  refine wpAnyH_take (i := 10) (v := (.agg #[.string ro, .int .i64 va, .string st, .slice p n cap])) (op_at rfl) (by kernel_rfl) (by kernel_rfl) (by kernel_rfl) (fun _ _ _ h => h) (Or.inl ⟨rfl, fun w hSw => ?_⟩) (by assumption) ?_
  · (try dsimp only at hSw); go_simp; try with_reducible rfl
  (try simp only [Act.put, tz0, tz1, tz2])
  refine wpAnyH_ready (rs := [2]) (by kernel_rfl) (by simp) (AllReadyH.cons (op_at rfl) (fun K hK => ?_) AllReadyH.nil)
  go_simp
  (refine (H1.out _ g).mono ?_; rintro e W2 ⟨rfl, hg⟩; replace a0 := hg.cell a0; replace a1 := hg.cell a1; replace a2 := hg.cell a2; replace a3 := hg.cell a3; replace a4 := hg.cell a4; replace a5 := hg.cell a5; replace a6 := hg.cell a6; replace g := g.trans hg; clear hg)
  go_wp2_with fail
  refine hK.out _ _ ⟨a0, a1, a2, a3, a4, a5, a6⟩ (fun hHeld => ?_)
  clear hK K
  (try simp only [Act.put, tz0, tz1, tz2])
  refine wpAnyH_ready (rs := [5]) (by kernel_rfl) (by simp) (AllReadyH.cons (op_at rfl) (fun K hK => ?_) AllReadyH.nil)
  go_simp
  (refine (H2.out _).mono ?_; rintro e w' ⟨rfl, rfl⟩)
  go_wp2_with fail
  refine hK.out _ _ ⟨a0, a1, a2, a3, a4, a5, a6⟩ (fun hHeld => ?_)
  clear hK K
  (try simp only [Act.put, tz0, tz1, tz2])
  refine wpAnyH_ready (rs := [8]) (by kernel_rfl) (by simp) (AllReadyH.cons (op_at rfl) (fun K hK => ?_) AllReadyH.nil)
  go_simp
  (refine (H3.out _).mono ?_; rintro e w' ⟨rfl, rfl⟩)
  go_wp2_with fail
  refine hK.out _ _ ⟨a0, a1, a2, a3, a4, a5, a6⟩ (fun hHeld => ?_)
  clear hK K
  (try simp only [Act.put, tz0, tz1, tz2])
  refine wpAnyH_ready (rs := [11]) (by kernel_rfl) (by simp) (AllReadyH.cons (op_at rfl) (fun K hK => ?_) AllReadyH.nil)
  go_simp
  (refine (H4.out _ g).mono ?_; rintro e W3 ⟨rfl, hg⟩; replace a0 := hg.cell a0; replace a1 := hg.cell a1; replace a2 := hg.cell a2; replace a3 := hg.cell a3; replace a4 := hg.cell a4; replace a5 := hg.cell a5; replace a6 := hg.cell a6; replace g := g.trans hg; clear hg)
  go_wp2_with fail
  refine hK.out _ _ ⟨a0, a1, a2, a3, a4, a5, a6⟩ (fun hHeld => ?_)
  clear hK K
  (try simp only [Act.put, tz0, tz1, tz2])
  refine wpAnyH_ready (rs := [12]) (by kernel_rfl) (by simp) (AllReadyH.cons (op_at rfl) (fun K hK => ?_) AllReadyH.nil)
  go_simp
  obtain ⟨WW, hWW, gW, q0, q1, q2, q3⟩ := box4 W3 (.int .i64 e1) (.int .i64 e2) (.int .i64 e3) (.int .i64 e4) 37
  rw [hWW]
  clear hWW
  replace a0 := gW.cell a0
  replace a1 := gW.cell a1
  replace a2 := gW.cell a2
  replace a3 := gW.cell a3
  replace a4 := gW.cell a4
  replace a5 := gW.cell a5
  replace a6 := gW.cell a6
  replace g := g.trans gW
  refine hK.out _ _ ⟨a0, a1, a2, a3, a4, a5, a6⟩ (fun hHeld => ?_)
  clear hK K
  (try simp only [Act.put, tz0, tz1, tz2])
  refine wpAnyH_ready (rs := [13]) (by kernel_rfl) (by simp) (AllReadyH.cons (op_at rfl) (fun K hK => ?_) AllReadyH.nil)
  go_simp
  (refine (HF.out _ _ WW q0 q1 q2 q3).mono ?_; rintro e w8 ⟨rfl, rfl⟩; rw [HFz.out])
  go_wp2_with fail
  refine hK.out _ _ ⟨a0, a1, a2, a3, a4, a5, a6⟩ (fun hHeld => ?_)
  clear hK K
  (try simp only [Act.put, tz0, tz1, tz2])
  refine wpAnyH_take (i := 14) (v := (.int .i64 err)) (op_at rfl) (by kernel_rfl) (by kernel_rfl) (by kernel_rfl) (fun _ _ _ h => h) (Or.inl ⟨rfl, fun w hSw => ?_⟩) (by assumption) ?_
  · (try dsimp only at hSw); go_simp; try with_reducible rfl
  (try simp only [Act.put, tz0, tz1, tz2])
  refine wpAnyH_done (by kernel_rfl) ?_ _
  go_wp2_with fail
  go_ret
  exact ⟨by rfl, g⟩
end Go.Proofs.YtnihclhhbegjhaaGreatDoor
namespace Go.Proofs.YtnihclhhbegjhaaGreatDoor
open Go.RowKit Go.Lib
set_option linter.unusedSimpArgs false
set_option linter.unusedVariables false
end Go.Proofs.YtnihclhhbegjhaaGreatDoor
namespace Go.Proofs.YtnihclhhbegjhaaGreatDoor
open Go.RowKit Go.Lib
set_option linter.unusedSimpArgs false
set_option linter.unusedVariables false
end Go.Proofs.YtnihclhhbegjhaaGreatDoor
namespace Go.Proofs.YtnihclhhbegjhaaGreatDoor
open Go.RowKit Go.Lib
set_option linter.unusedSimpArgs false
set_option linter.unusedVariables false
end Go.Proofs.YtnihclhhbegjhaaGreatDoor
namespace Go.Proofs.YtnihclhhbegjhaaGreatDoor
open Go.RowKit Go.Lib
set_option linter.unusedSimpArgs false
set_option linter.unusedVariables false
theorem firstP_spec (Q : RowR → Bool) (xs : List RowR) : ∀ (k i : Nat), i + k ≤ xs.length →
    (firstP Q xs k i = -1 ∧ ∀ (j : Nat) (x : RowR), i ≤ j → j < i + k → xs[j]? = some x → Q x = false) ∨
    (∃ f : Nat, firstP Q xs k i = f ∧ i ≤ f ∧ f < i + k ∧ (∃ x, xs[f]? = some x ∧ Q x = true) ∧ ∀ (j : Nat) (x : RowR), i ≤ j → j < f → xs[j]? = some x → Q x = false)
  | 0, i, h => .inl ⟨rfl, fun j x h1 h2 => by omega⟩
  | k + 1, i, h => by
    have hi : i < xs.length := by omega
    have hx := List.getElem?_eq_getElem hi
    generalize xs[i] = x at hx
    simp only [firstP, hx]
    cases hq : Q x
    · rw [if_neg (by simp)]
      rcases firstP_spec Q xs k (i + 1) (by omega) with ⟨e, hh⟩ | ⟨f, e, h1, h2, h3, h4⟩
      · refine .inl ⟨e, fun j y hj1 hj2 hy => ?_⟩
        by_cases hji : j = i
        · subst hji; rw [hx] at hy; cases hy; exact hq
        · exact hh j y (by omega) (by omega) hy
      · refine .inr ⟨f, e, by omega, by omega, h3, fun j y hj1 hj2 hy => ?_⟩
        by_cases hji : j = i
        · subst hji; rw [hx] at hy; cases hy; exact hq
        · exact h4 j y (by omega) hj2 hy
    · rw [if_pos rfl]
      exact .inr ⟨i, rfl, Nat.le_refl _, by omega, ⟨x, hx, hq⟩, fun j y h1 h2 => by omega⟩
end Go.Proofs.YtnihclhhbegjhaaGreatDoor
namespace Go.Proofs.YtnihclhhbegjhaaGreatDoor
open Go.RowKit Go.Lib
set_option linter.unusedSimpArgs false
set_option linter.unusedVariables false
theorem refOut10_c (n l h : Int) (w : World) :
    Calls Tryz.prog 63 #[.int .i64 n, .int .i64 l, .int .i64 h] w fun e w' => e = .returned (.bool (outB n l h)) ∧ w = w' := by
  have HE : Hid (outB n l h = (decide (n < l) || decide (h < n))) := rfl
  cases h1 : decide (n < l) <;> cases h2 : decide (h < n)
  all_goals
    rw [h1, h2] at HE
    go_enter Tryz.func63, Tryz.ntmps63
    go_wp2_with fail
    go_ret
    exact ⟨by rw [HE.out]; rfl, rfl⟩
set_option maxHeartbeats 4000000 in
set_option maxRecDepth 100000 in
theorem refClass_c (s : ByteArray) (w : World) :
    Calls Tryz.prog 65 #[.string s] w fun e w' => e = .returned (.int .i64 (gradeZ s.toList)) ∧ Gr w w' := by
  have HG : ∀ z, gradeZ s.toList = z → Hid (gradeZ s.toList = z) := fun z h => h
  have t0 := st4_cells w 9 0 ⟨#[]⟩ rfl
  have t1 := st4_cells w 9 1 ⟨#[100, 110, 115]⟩ rfl
  have t2 := st4_cells w 9 2 ⟨#[100, 110, 102]⟩ rfl
  have t3 := st4_cells w 9 3 ⟨#[100, 115, 113]⟩ rfl
  simp only [Nat.zero_add] at t0 t1 t2 t3
  rcases grade_of s.toList with h | h | h | h | ⟨h0, h1, h2, h3⟩
  · replace HG := HG 0 (by rw [h]; rfl)
    go_enter Tryz.func65, Tryz.ntmps65
    go_wp2_with fail
    refine wp_loop_rounds 6 ?_
    rw [rounds_succ]
    go_wp2_with fail
    go_ret
    exact ⟨by rw [HG.out]; rfl, (Gr.refl w).alloc _⟩
  · replace HG := HG 1 (by rw [h]; rfl)
    go_enter Tryz.func65, Tryz.ntmps65
    go_wp2_with fail
    refine wp_loop_rounds 6 ?_
    rw [rounds_succ]
    go_wp2_with fail
    rw [rounds_succ]
    go_wp2_with fail
    go_ret
    exact ⟨by rw [HG.out]; rfl, (Gr.refl w).alloc _⟩
  · replace HG := HG 2 (by rw [h]; rfl)
    go_enter Tryz.func65, Tryz.ntmps65
    go_wp2_with fail
    refine wp_loop_rounds 6 ?_
    rw [rounds_succ]
    go_wp2_with fail
    rw [rounds_succ]
    go_wp2_with fail
    rw [rounds_succ]
    go_wp2_with fail
    go_ret
    exact ⟨by rw [HG.out]; rfl, (Gr.refl w).alloc _⟩
  · replace HG := HG 3 (by rw [h]; rfl)
    go_enter Tryz.func65, Tryz.ntmps65
    go_wp2_with fail
    refine wp_loop_rounds 6 ?_
    rw [rounds_succ]
    go_wp2_with fail
    rw [rounds_succ]
    go_wp2_with fail
    rw [rounds_succ]
    go_wp2_with fail
    rw [rounds_succ]
    go_wp2_with fail
    go_ret
    exact ⟨by rw [HG.out]; rfl, (Gr.refl w).alloc _⟩
  · replace HG := HG (-1) (gradeZ_other h0 h1 h2 h3)
    have e1 := beq_flip h1
    have e2 := beq_flip h2
    have e3 := beq_flip h3
    go_enter Tryz.func65, Tryz.ntmps65
    go_wp2_with fail
    refine wp_loop_rounds 6 ?_
    rw [rounds_succ]
    go_wp2_with fail
    rw [rounds_succ]
    go_wp2_with fail
    rw [rounds_succ]
    go_wp2_with fail
    rw [rounds_succ]
    go_wp2_with fail
    rw [rounds_succ]
    go_wp2_with fail
    go_ret
    exact ⟨by rw [HG.out]; rfl, (Gr.refl w).alloc _⟩
theorem gradeZ_neg10 (l : List UInt8) : decide (gradeZ l < 0) = (gradeZ l == -1) := by
  unfold gradeZ
  split
  · rfl
  split
  · rfl
  split
  · rfl
  split
  · rfl
  · rfl
set_option maxHeartbeats 4000000 in
set_option maxRecDepth 100000 in
theorem refClimber_pos (xs : List RowR) (n b off cap : Nat) (ro st : ByteArray) (va : Int) (nm : ByteArray) (w : World) (hn : n ≤ xs.length) (h1 : n ≤ 1000) (hc : ∀ i x, xs[i]? = some x → RowAt w b (off + i * 3) x) :
    Calls Tryz.prog 64 #[.agg #[.string ro, .int .i64 va, .string st, .slice (some ⟨b, off, none⟩) n cap], .string nm] w fun e w' => e = .returned (.int .i64 (firstP (isNm nm) xs n 0)) ∧ Gr w w' := by
  have HC := Lib.hid hc
  have HX := Lib.hid (fun k (h : k < n) => (show ∃ x, xs[k]? = some x from ⟨xs[k]'(by omega), List.getElem?_eq_getElem _⟩))
  have HS := Lib.hid (fun i x (h : xs[i]? = some x) (hi : i < n) => firstP_step (Q := isNm nm) h hi)
  have HE := Lib.hid (fun i (h : n ≤ i) => firstP_end (Q := isNm nm) (xs := xs) h)
  have HQ : Hid (∀ x : RowR, isNm nm x = (x.nm.toList == nm.toList)) := fun x => rfl
  obtain ⟨W, hW, gW, s0, s1, s2, s3⟩ := box4 w (.string ro) (.int .i64 va) (.string st) (.slice (some ⟨b, off, none⟩) n cap) 32
  have HW := Lib.hid hW
  clear hc hn hW s0 s1 s2
  generalize firstP (isNm nm) xs = F at *
  go_enter Tryz.func64, Tryz.ntmps64
  go_wp2_with fail
  rw [HW.out]
  clear HW
  generalize w.heap.size = L at *
  go_loopg [5] n (fun gk s5 wr => ∃ i : Nat, s5 = .int .i64 i ∧ gk + i = n ∧ wr = W ∧ Hid (F (n - i) i = F n 0))
  case atStart => exact ⟨0, rfl, by omega, rfl, by simp [Hid]⟩
  case round =>
    obtain ⟨i, rfl, hi, rfl, HF⟩ := hrel
    by_cases hlt : i < n
    · obtain ⟨x, hx⟩ := HX.out i hlt
      obtain ⟨c0, c1, c2, hv, _⟩ := (HC.out i x hx).gr gW
      have hst := HS.out i x hx hlt
      have hi2 : (i : Int) < n := by omega
      rw [HQ.out] at hst
      clear hx hv
      cases e1 : x.nm.toList == nm.toList
      · rw [e1, if_neg (by simp)] at hst
        have HF2 := Lib.hid hst
        clear hst
        go_wp2_with fail
        go_roundg (gk - 1)
        case measure => omega
        case rel => exact ⟨i + 1, by go_num, by omega, rfl, by unfold Hid; rw [← HF2.out, HF.out]⟩
      · rw [e1, if_pos rfl] at hst
        have e2 : x.nm.toList = nm.toList := by simpa using e1
        have HF2 := Lib.hid hst
        clear hst
        go_wp2_with fail
        go_ret
        exact ⟨by rw [← HF.out, HF2.out]; rfl, gW⟩
    · have hst := HE.out i (by omega)
      have hi2 : ¬ (i : Int) < n := by omega
      have HF2 := Lib.hid hst
      clear hst
      go_wp2_with fail
      go_ret
      exact ⟨by rw [← HF.out, HF2.out]; rfl, gW⟩
theorem firstP_dup {xs : List RowR} {n i : Nat} {x : RowR} (hn : n ≤ xs.length) (hi : i < n) (hx : xs[i]? = some x) : decide (firstP (isNm x.nm) xs n 0 < (i : Int)) = dupR xs i x.nm := by
  rcases firstP_spec (isNm x.nm) xs n 0 (by omega) with ⟨e, h⟩ | ⟨f, e, h0, h1, ⟨y, hy, hq⟩, h2⟩
  · have := h i x (by omega) (by omega) hx
    unfold isNm at this
    simp at this
  · have hfi : f ≤ i := by
      rcases Nat.lt_or_ge i f with h3 | h3
      · have := h2 i x (by omega) h3 hx
        unfold isNm at this
        simp at this
      · exact h3
    rw [e]
    by_cases hlt : f < i
    · rw [decide_eq_true (by omega)]
      symm
      unfold dupR
      rw [List.any_eq_true]
      refine ⟨y, ?_, hq⟩
      rw [List.mem_iff_getElem?]
      exact ⟨f, by rw [List.getElem?_take, if_pos hlt]; exact hy⟩
    · rw [decide_eq_false (by omega)]
      symm
      unfold dupR
      rw [List.any_eq_false]
      intro z hz
      rw [List.mem_iff_getElem?] at hz
      obtain ⟨j, hj⟩ := hz
      rw [List.getElem?_take] at hj
      split at hj
      · have := h2 j z (by omega) (by omega) hj
        unfold isNm at this
        simp [this]
      · cases hj
end Go.Proofs.YtnihclhhbegjhaaGreatDoor
namespace Go.Proofs.YtnihclhhbegjhaaGreatDoor
open Go.RowKit Go.Lib
set_option linter.unusedSimpArgs false
set_option linter.unusedVariables false
end Go.Proofs.YtnihclhhbegjhaaGreatDoor
namespace Go.Proofs.YtnihclhhbegjhaaGreatDoor
open Go.RowKit Go.Lib
set_option linter.unusedSimpArgs false
set_option linter.unusedVariables false
end Go.Proofs.YtnihclhhbegjhaaGreatDoor
