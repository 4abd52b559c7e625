/- Juries: integers checked one after another; whether an official serves. -/
import Derived.Test.YtjojbcgppkfidaaGreatGJuB
namespace Go.Proofs.YtjojbcgppkfidaaGreat
open Go.RowKit Go.Lib
set_option linter.unusedSimpArgs false
set_option linter.unusedVariables false
/-- the first error of integers, each by its place -/
def eachI (E : Nat → Int → Int) : List Int → Nat → Int
  | [], _ => 0
  | x :: l, k => if E k x = 0 then eachI E l (k + 1) else E k x
theorem eachI_step {E : Nat → Int → Int} {xs : List Int} {i : Nat} {x : Int} (h : xs[i]? = some x) : eachI E (xs.drop i) i = if E i x = 0 then eachI E (xs.drop (i + 1)) (i + 1) else E i x := by
  obtain ⟨hi, rfl⟩ := List.getElem?_eq_some_iff.1 h
  rw [List.drop_eq_getElem_cons hi]
  rfl
theorem eachI_end {E : Nat → Int → Int} {xs : List Int} {i : Nat} (h : xs.length ≤ i) : eachI E (xs.drop i) i = 0 := by
  rw [List.drop_of_length_le h]
  rfl
theorem eachI_zero {E : Nat → Int → Int} : ∀ {xs : List Int} {k : Nat}, eachI E xs k = 0 → ∀ (i : Nat) (x : Int), xs[i]? = some x → E (k + i) x = 0
  | [], _, _, i, x, hx => by simp at hx
  | y :: l, k, h, i, x, hx => by
    unfold eachI at h
    split at h
    · rename_i hy
      match i, hx with
      | 0, hx => simp at hx; subst hx; exact hy
      | i + 1, hx =>
        have := eachI_zero h i x (by simpa using hx)
        rw [show k + (i + 1) = k + 1 + i by omega]
        exact this
    · rename_i hy
      exact absurd h hy
set_option maxHeartbeats 1000000 in
set_option maxRecDepth 100000 in
theorem findOff_c (E : Nat → Int → Int) (xs : List Int) (n : Nat) (p : Option Addr) (cap : Nat) (vo vp : Value) (w : World) (hn : xs.length = n) (h1 : n ≤ 1000)
    (hd : 0 < n → ∃ b off, p = some ⟨b, off, none⟩ ∧ ∀ i y, xs[i]? = some y → w.cell? ⟨b, off + i, none⟩ = some (.int .i64 y))
    (hE : ∀ (i : Nat) (x : Int) W, xs[i]? = some x → Gr w W → Calls Tryz.prog 49 #[.agg #[vo, vp], .int .i64 (i : Int), .int .i64 x] W fun e w' => e = .returned (.int .i64 (E i x)) ∧ Gr W w') :
    Calls Tryz.prog 88 #[.slice p n cap, .func (.func 49) #[.agg #[vo, vp]] #[]] w fun e w' => (∃ i : Int, e = .returned (.tuple #[.int .i64 i, .int .i64 (eachI E xs 0)])) ∧ Gr w w' := by
  have HN := Lib.hid hn
  have HD := Lib.hid hd
  have HO := Lib.hid hE
  clear hE hn hd
  go_enter Tryz.func88, Tryz.ntmps88
  go_wp2_with fail
  go_loopg [11] n (fun gk s11 wr => ∃ i : Nat, s11 = .int .i64 i ∧ gk + i = n ∧ Gr w wr ∧ Hid (eachI E (xs.drop i) i = eachI E xs 0))
  case atStart => exact ⟨0, rfl, by omega, Gr.refl _, by rw [Hid, List.drop_zero]⟩
  case round =>
    obtain ⟨i, rfl, hi, hg, HF⟩ := hrel
    by_cases hlt : i < n
    · obtain ⟨x, hx⟩ : ∃ x, xs[i]? = some x := ⟨xs[i]'(by have := HN.out; omega), List.getElem?_eq_getElem _⟩
      obtain ⟨b, off, rfl, hd⟩ := HD.out (by omega)
      have d0 := hg.cell (hd i x hx)
      have hi2 : (i : Int) < n := by omega
      have hf := eachI_step (E := E) hx
      have hT := fun W hg2 => HO.out i x W hx hg2
      clear hx hd
      by_cases h0 : E i x = 0
      · rw [h0] at hT hf
        rw [if_pos rfl] at hf
        have HT := Lib.hid hT
        have HF2 := Lib.hid hf
        clear hT hf h0
        go_wp2_with fail
        refine (HT.out _ hg).mono ?_
        rintro e w4 ⟨rfl, hg2⟩
        go_wp2_with fail
        go_roundg (gk - 1)
        case measure => omega
        case rel => exact ⟨i + 1, by go_num, by omega, hg.trans hg2, by unfold Hid; rw [← HF2.out, HF.out]⟩
      · rw [if_neg h0] at hf
        generalize E i x = z at *
        have q1 : (z == 0) = false := by simpa using h0
        have q2 : (z != 0) = true := by simpa [bne] using q1
        have HT := Lib.hid hT
        have HF2 := Lib.hid hf
        clear hT hf
        go_wp2_with fail
        refine (HT.out _ hg).mono ?_
        rintro e w4 ⟨rfl, hg2⟩
        go_wp2_with fail
        exact bodyPost_ret (v := .tuple #[.int .i64 i, .int .i64 z]) (by simp [results, Tryz.results88, go_sem]) rfl ⟨⟨i, by rw [← HF.out, HF2.out]⟩, hg.trans hg2⟩
    · have HE2 : Hid (eachI E (xs.drop i) i = 0) := eachI_end (by have := HN.out; omega)
      have hi2 : (n : Int) ≤ i := by omega
      go_wp2_with fail
      exact bodyPost_ret (v := .tuple #[.int .i64 0, .int .i64 0]) (by simp [results, Tryz.results88, go_sem]) rfl ⟨⟨0, by rw [← HF.out, HE2.out]⟩, hg⟩
set_option maxHeartbeats 1000000 in
set_option maxRecDepth 100000 in
theorem eachOff_c (E : Nat → Int → Int) (xs : List Int) (n : Nat) (p : Option Addr) (cap : Nat) (vo vp : Value) (w : World) (hn : xs.length = n) (h1 : n ≤ 1000)
    (hd : 0 < n → ∃ b off, p = some ⟨b, off, none⟩ ∧ ∀ i y, xs[i]? = some y → w.cell? ⟨b, off + i, none⟩ = some (.int .i64 y))
    (hE : ∀ (i : Nat) (x : Int) W, xs[i]? = some x → Gr w W → Calls Tryz.prog 49 #[.agg #[vo, vp], .int .i64 (i : Int), .int .i64 x] W fun e w' => e = .returned (.int .i64 (E i x)) ∧ Gr W w') :
    Calls Tryz.prog 48 #[.slice p n cap, .func (.func 49) #[.agg #[vo, vp]] #[]] w fun e w' => e = .returned (.int .i64 (eachI E xs 0)) ∧ Gr w w' := by
  have HF := Lib.hid (findOff_c E xs n p cap vo vp w hn h1 hd hE)
  generalize eachI E xs 0 = z at *
  clear hE hn hd
  go_enter Tryz.func48, Tryz.ntmps48
  go_wp2_with fail
  refine HF.out.mono ?_
  rintro e w4 ⟨⟨i, rfl⟩, hg⟩
  go_wp2_with fail
  go_ret
  exact ⟨rfl, hg⟩
set_option maxHeartbeats 1000000 in
set_option maxRecDepth 100000 in
theorem findPst_c (E : Nat → Int → Int) (xs : List Int) (n : Nat) (p : Option Addr) (cap : Nat) (B C : Nat) (w : World) (hn : xs.length = n) (h1 : n ≤ 1000)
    (hd : 0 < n → ∃ b off, p = some ⟨b, off, none⟩ ∧ ∀ i y, xs[i]? = some y → w.cell? ⟨b, off + i, none⟩ = some (.int .i64 y))
    (hE : ∀ (i : Nat) (x : Int) W, xs[i]? = some x → Gr w W → Calls Tryz.prog 50 #[.int .i64 (i : Int), .int .i64 x, .pointer (some ⟨B, 0, none⟩), .pointer (some ⟨C, 0, none⟩)] W fun e w' => e = .returned (.int .i64 (E i x)) ∧ Gr W w') :
    Calls Tryz.prog 88 #[.slice p n cap, .func (.func 50) #[] #[.pointer (some ⟨B, 0, none⟩), .pointer (some ⟨C, 0, none⟩)]] w fun e w' => (∃ i : Int, e = .returned (.tuple #[.int .i64 i, .int .i64 (eachI E xs 0)])) ∧ Gr w w' := by
  have HN := Lib.hid hn
  have HD := Lib.hid hd
  have HO := Lib.hid hE
  clear hE hn hd
  go_enter Tryz.func88, Tryz.ntmps88
  go_wp2_with fail
  go_loopg [11] n (fun gk s11 wr => ∃ i : Nat, s11 = .int .i64 i ∧ gk + i = n ∧ Gr w wr ∧ Hid (eachI E (xs.drop i) i = eachI E xs 0))
  case atStart => exact ⟨0, rfl, by omega, Gr.refl _, by rw [Hid, List.drop_zero]⟩
  case round =>
    obtain ⟨i, rfl, hi, hg, HF⟩ := hrel
    by_cases hlt : i < n
    · obtain ⟨x, hx⟩ : ∃ x, xs[i]? = some x := ⟨xs[i]'(by have := HN.out; omega), List.getElem?_eq_getElem _⟩
      obtain ⟨b, off, rfl, hd⟩ := HD.out (by omega)
      have d0 := hg.cell (hd i x hx)
      have hi2 : (i : Int) < n := by omega
      have hf := eachI_step (E := E) hx
      have hT := fun W hg2 => HO.out i x W hx hg2
      clear hx hd
      by_cases h0 : E i x = 0
      · rw [h0] at hT hf
        rw [if_pos rfl] at hf
        have HT := Lib.hid hT
        have HF2 := Lib.hid hf
        clear hT hf h0
        go_wp2_with fail
        refine (HT.out _ hg).mono ?_
        rintro e w4 ⟨rfl, hg2⟩
        go_wp2_with fail
        go_roundg (gk - 1)
        case measure => omega
        case rel => exact ⟨i + 1, by go_num, by omega, hg.trans hg2, by unfold Hid; rw [← HF2.out, HF.out]⟩
      · rw [if_neg h0] at hf
        generalize E i x = z at *
        have q1 : (z == 0) = false := by simpa using h0
        have q2 : (z != 0) = true := by simpa [bne] using q1
        have HT := Lib.hid hT
        have HF2 := Lib.hid hf
        clear hT hf
        go_wp2_with fail
        refine (HT.out _ hg).mono ?_
        rintro e w4 ⟨rfl, hg2⟩
        go_wp2_with fail
        exact bodyPost_ret (v := .tuple #[.int .i64 i, .int .i64 z]) (by simp [results, Tryz.results88, go_sem]) rfl ⟨⟨i, by rw [← HF.out, HF2.out]⟩, hg.trans hg2⟩
    · have HE2 : Hid (eachI E (xs.drop i) i = 0) := eachI_end (by have := HN.out; omega)
      have hi2 : (n : Int) ≤ i := by omega
      go_wp2_with fail
      exact bodyPost_ret (v := .tuple #[.int .i64 0, .int .i64 0]) (by simp [results, Tryz.results88, go_sem]) rfl ⟨⟨0, by rw [← HF.out, HE2.out]⟩, hg⟩
set_option maxHeartbeats 1000000 in
set_option maxRecDepth 100000 in
theorem eachPst_c (E : Nat → Int → Int) (xs : List Int) (n : Nat) (p : Option Addr) (cap : Nat) (B C : Nat) (w : World) (hn : xs.length = n) (h1 : n ≤ 1000)
    (hd : 0 < n → ∃ b off, p = some ⟨b, off, none⟩ ∧ ∀ i y, xs[i]? = some y → w.cell? ⟨b, off + i, none⟩ = some (.int .i64 y))
    (hE : ∀ (i : Nat) (x : Int) W, xs[i]? = some x → Gr w W → Calls Tryz.prog 50 #[.int .i64 (i : Int), .int .i64 x, .pointer (some ⟨B, 0, none⟩), .pointer (some ⟨C, 0, none⟩)] W fun e w' => e = .returned (.int .i64 (E i x)) ∧ Gr W w') :
    Calls Tryz.prog 48 #[.slice p n cap, .func (.func 50) #[] #[.pointer (some ⟨B, 0, none⟩), .pointer (some ⟨C, 0, none⟩)]] w fun e w' => e = .returned (.int .i64 (eachI E xs 0)) ∧ Gr w w' := by
  have HF := Lib.hid (findPst_c E xs n p cap B C w hn h1 hd hE)
  generalize eachI E xs 0 = z at *
  clear hE hn hd
  go_enter Tryz.func48, Tryz.ntmps48
  go_wp2_with fail
  refine HF.out.mono ?_
  rintro e w4 ⟨⟨i, rfl⟩, hg⟩
  go_wp2_with fail
  go_ret
  exact ⟨rfl, hg⟩
/-- the error of a question whether an official serves -/
def srvE (os : List OfR) (ps : List PoR) (i1 i2 : Int) : Int := firstE [juryE os ps, noneE os.length i1, noneE ps.length i2]
set_option maxHeartbeats 1000000 in
set_option maxRecDepth 100000 in
theorem serves_bad (os : List OfR) (ps : List PoR) (vo vp : Value) (i1 i2 : Int) (w : World) (ho : OfAts w vo os) (hp : PoAts w vp ps) (h0 : srvE os ps i1 i2 ≠ 0) :
    Calls Tryz.prog 9 #[.agg #[vo, vp], .int .i64 i1, .int .i64 i2] w fun e w' => e = .returned (.tuple #[.bool false, .int .i64 (srvE os ps i1 i2)]) ∧ Gr w w' := by
  have H1 := Lib.hid (fun W (g : Gr w W) => checkJury_c os ps vo vp W (ho.gr g) (hp.gr g))
  obtain ⟨⟨po, co, rfl, _, hho⟩⟩ := ho
  obtain ⟨⟨pp, cp, rfl, _, hhp⟩⟩ := hp
  have H2 := Lib.hid (fun W => oneOfO_c po os.length co i1 W)
  have H3 := Lib.hid (fun W => oneOfP_c pp ps.length cp i2 W)
  have hE : firstE [juryE os ps, noneE os.length i1, noneE ps.length i2] = srvE os ps i1 i2 := rfl
  generalize juryE os ps = e1 at *
  generalize noneE os.length i1 = e2 at *
  generalize noneE ps.length i2 = e3 at *
  have hF := first_three e1 e2 e3
  rw [hE] at hF
  obtain ⟨W, hW, g, a0, a1⟩ := box2 w (.slice po os.length co) (.slice pp ps.length cp) 25
  have HW := Lib.hid hW
  clear hW
  generalize srvE os ps i1 i2 = err at *
  have HF := Lib.hid hF
  have q1 : (err == 0) = false := by simpa using h0
  have q2 : (err != 0) = true := by simpa [bne] using q1
  clear hF hE hho hhp
  go_enter Tryz.func9, Tryz.ntmps9
  go_wp2_with fail
  rw [HW.out]
  generalize w.heap.size = Bx at *
  clear HW
  have gd := (Gr.refl W).drew
  replace a0 := gd.cell a0
  replace a1 := gd.cell a1
  replace g := g.trans gd
  clear gd
  refine wp_region_held_drew (S := (fun w' => w'.cell? ⟨Bx, 0, none⟩ = some (.slice po os.length co) ∧ w'.cell? ⟨Bx, 1, none⟩ = some (.slice pp ps.length cp))) (by kernel_rfl) ⟨a0, a1⟩ (fun hHeld => ?_)
  generalize W.drew = V at *
  refine wpAnyH_take (i := 0) (v := (.agg #[.slice po os.length co, .slice pp ps.length cp])) (op_at rfl) (by kernel_rfl) (by kernel_rfl) (by kernel_rfl) (fun _ _ _ h => h) (Or.inl ⟨rfl, fun w hSw => ?_⟩) (by assumption) ?_
  · (try dsimp only at hSw); go_simp; try with_reducible rfl
  (try simp only [Act.put, List.setIfInBounds_toArray, List.set_cons_zero, List.set_cons_succ])
  refine wpAnyH_take (i := 2) (v := (.pointer (some ⟨Bx, 0, none⟩))) (op_at rfl) (by kernel_rfl) (by kernel_rfl) (by kernel_rfl) (fun _ _ _ h => h) (Or.inl ⟨rfl, fun w hSw => ?_⟩) (by assumption) ?_
  · (try dsimp only at hSw); go_simp; try with_reducible rfl
  (try simp only [Act.put, List.setIfInBounds_toArray, List.set_cons_zero, List.set_cons_succ])
  refine wpAnyH_take (i := 3) (v := (.slice po os.length co)) (op_at rfl) (by kernel_rfl) (by kernel_rfl) (by kernel_rfl) (fun _ _ _ h => h) (Or.inl ⟨rfl, fun w hSw => ?_⟩) (by assumption) ?_
  · (try dsimp only at hSw); go_simp; try with_reducible rfl
  (try simp only [Act.put, List.setIfInBounds_toArray, List.set_cons_zero, List.set_cons_succ])
  refine wpAnyH_take (i := 4) (v := (.int .i64 i1)) (op_at rfl) (by kernel_rfl) (by kernel_rfl) (by kernel_rfl) (fun _ _ _ h => h) (Or.inl ⟨rfl, fun w hSw => ?_⟩) (by assumption) ?_
  · (try dsimp only at hSw); go_simp; try with_reducible rfl
  (try simp only [Act.put, List.setIfInBounds_toArray, List.set_cons_zero, List.set_cons_succ])
  refine wpAnyH_take (i := 6) (v := (.pointer (some ⟨Bx, 1, none⟩))) (op_at rfl) (by kernel_rfl) (by kernel_rfl) (by kernel_rfl) (fun _ _ _ h => h) (Or.inl ⟨rfl, fun w hSw => ?_⟩) (by assumption) ?_
  · (try dsimp only at hSw); go_simp; try with_reducible rfl
  (try simp only [Act.put, List.setIfInBounds_toArray, List.set_cons_zero, List.set_cons_succ])
  refine wpAnyH_take (i := 7) (v := (.slice pp ps.length cp)) (op_at rfl) (by kernel_rfl) (by kernel_rfl) (by kernel_rfl) (fun _ _ _ h => h) (Or.inl ⟨rfl, fun w hSw => ?_⟩) (by assumption) ?_
  · (try dsimp only at hSw); go_simp; try with_reducible rfl
  (try simp only [Act.put, List.setIfInBounds_toArray, List.set_cons_zero, List.set_cons_succ])
  refine wpAnyH_take (i := 8) (v := (.int .i64 i2)) (op_at rfl) (by kernel_rfl) (by kernel_rfl) (by kernel_rfl) (fun _ _ _ h => h) (Or.inl ⟨rfl, fun w hSw => ?_⟩) (by assumption) ?_
  · (try dsimp only at hSw); go_simp; try with_reducible rfl
  (try simp only [Act.put, List.setIfInBounds_toArray, List.set_cons_zero, List.set_cons_succ])
  refine wpAnyH_ready (rs := [1]) (by kernel_rfl) (by simp) (AllReadyH.cons (op_at rfl) (fun K hK => ?_) AllReadyH.nil)
  go_simp
  (refine (H1.out _ g).mono ?_; rintro e W2 ⟨rfl, hg⟩; replace a0 := hg.cell a0; replace a1 := hg.cell a1; replace g := g.trans hg; clear hg)
  go_wp2_with fail
  refine hK.out _ _ ⟨a0, a1⟩ (fun hHeld => ?_)
  clear hK K
  (try simp only [Act.put, List.setIfInBounds_toArray, List.set_cons_zero, List.set_cons_succ])
  refine wpAnyH_ready (rs := [5]) (by kernel_rfl) (by simp) (AllReadyH.cons (op_at rfl) (fun K hK => ?_) AllReadyH.nil)
  go_simp
  (refine (H2.out _).mono ?_; rintro e w' ⟨rfl, rfl⟩)
  go_wp2_with fail
  refine hK.out _ _ ⟨a0, a1⟩ (fun hHeld => ?_)
  clear hK K
  (try simp only [Act.put, List.setIfInBounds_toArray, List.set_cons_zero, List.set_cons_succ])
  refine wpAnyH_ready (rs := [9]) (by kernel_rfl) (by simp) (AllReadyH.cons (op_at rfl) (fun K hK => ?_) AllReadyH.nil)
  go_simp
  (refine (H3.out _).mono ?_; rintro e w' ⟨rfl, rfl⟩)
  go_wp2_with fail
  refine hK.out _ _ ⟨a0, a1⟩ (fun hHeld => ?_)
  clear hK K
  (try simp only [Act.put, List.setIfInBounds_toArray, List.set_cons_zero, List.set_cons_succ])
  refine wpAnyH_ready (rs := [10]) (by kernel_rfl) (by simp) (AllReadyH.cons (op_at rfl) (fun K hK => ?_) AllReadyH.nil)
  go_simp
  obtain ⟨WW, hWW, gW, s0, s1, s2⟩ := box3 W2 (.int .i64 e1) (.int .i64 e2) (.int .i64 e3) 36
  rw [hWW]
  clear hWW
  replace a0 := gW.cell a0
  replace a1 := gW.cell a1
  replace g := g.trans gW
  refine hK.out _ _ ⟨a0, a1⟩ (fun hHeld => ?_)
  clear hK K
  (try simp only [Act.put, List.setIfInBounds_toArray, List.set_cons_zero, List.set_cons_succ])
  refine wpAnyH_ready (rs := [11]) (by kernel_rfl) (by simp) (AllReadyH.cons (op_at rfl) (fun K hK => ?_) AllReadyH.nil)
  go_simp
  (refine (HF.out _ _ WW s0 s1 s2).mono ?_; rintro e w8 ⟨rfl, rfl⟩)
  go_wp2_with fail
  refine hK.out _ _ ⟨a0, a1⟩ (fun hHeld => ?_)
  clear hK K
  (try simp only [Act.put, List.setIfInBounds_toArray, List.set_cons_zero, List.set_cons_succ])
  refine wpAnyH_take (i := 12) (v := (.int .i64 err)) (op_at rfl) (by kernel_rfl) (by kernel_rfl) (by kernel_rfl) (fun _ _ _ h => h) (Or.inl ⟨rfl, fun w hSw => ?_⟩) (by assumption) ?_
  · (try dsimp only at hSw); go_simp; try with_reducible rfl
  (try simp only [Act.put, List.setIfInBounds_toArray, List.set_cons_zero, List.set_cons_succ])
  refine wpAnyH_done (by kernel_rfl) ?_ _
  go_wp2_with fail
  exact bodyPost_ret (v := .tuple #[.bool false, .int .i64 err]) (by simp [results, Tryz.results9, go_sem]) rfl ⟨rfl, g⟩
set_option maxHeartbeats 1000000 in
set_option maxRecDepth 100000 in
theorem serves_good (os : List OfR) (ps : List PoR) (vo vp : Value) (i1 i2 : Nat) (x : OfR) (y : PoR) (w : World) (ho : OfAts w vo os) (hp : PoAts w vp ps) (h0 : srvE os ps i1 i2 = 0) (hx : os[i1]? = some x) (hy : ps[i2]? = some y) (hr : x.rs.length ≤ 1000) (hs : y.ns.length ≤ 1000) (hl1 : os.length ≤ 1000) (hl2 : ps.length ≤ 1000) :
    Calls Tryz.prog 9 #[.agg #[vo, vp], .int .i64 (i1 : Int), .int .i64 (i2 : Int)] w fun e w' => e = .returned (.tuple #[.bool (mayB x y), .int .i64 0]) ∧ Gr w w' := by
  have H1 := Lib.hid (fun W (g : Gr w W) => checkJury_c os ps vo vp W (ho.gr g) (hp.gr g))
  have hli1 := (List.getElem?_eq_some_iff.1 hx).1
  have hli2 := (List.getElem?_eq_some_iff.1 hy).1
  obtain ⟨⟨po, co, rfl, hco, hho⟩⟩ := ho
  obtain ⟨⟨pp, cp, rfl, hcp, hhp⟩⟩ := hp
  obtain ⟨bo, oo, rfl, hqo⟩ := hho (by omega)
  obtain ⟨bp, op, rfl, hqp⟩ := hhp (by omega)
  have H2 := Lib.hid (fun W => oneOfO_c (some ⟨bo, oo, none⟩) os.length co i1 W)
  have H3 := Lib.hid (fun W => oneOfP_c (some ⟨bp, op, none⟩) ps.length cp i2 W)
  have hE : firstE [juryE os ps, noneE os.length i1, noneE ps.length i2] = srvE os ps i1 i2 := rfl
  rw [h0] at hE
  obtain ⟨x0, x1, x2, x3, hxs⟩ := hqo i1 x hx
  obtain ⟨y0, y1, y2, y3, hys⟩ := hqp i2 y hy
  have HM : Hid (∀ W, Gr w W → Calls Tryz.prog 44 #[.agg #[.string x.nm, .string x.na, x.u, .int .i64 x.ld], .agg #[.string y.nm, .string y.ro, .int .i64 y.hr, y.u]] W fun e w' => e = .returned (.bool (mayB x y)) ∧ Gr W w') := fun W g => mayHave_c x y W (hxs.gr g) (hys.gr g) hr hs
  generalize mayB x y = rr at *
  generalize juryE os ps = e1 at *
  generalize noneE os.length i1 = e2 at *
  generalize noneE ps.length i2 = e3 at *
  obtain ⟨err, he⟩ : ∃ z : Int, z = 0 := ⟨0, rfl⟩
  have hF := first_three e1 e2 e3
  rw [hE] at hF
  have HF := Lib.hid hF
  obtain ⟨W, hW, g, a0, a1⟩ := box2 w (.slice (some ⟨bo, oo, none⟩) os.length co) (.slice (some ⟨bp, op, none⟩) ps.length cp) 25
  have HW := Lib.hid hW
  clear hW
  replace x0 := g.cell x0
  replace x1 := g.cell x1
  replace x2 := g.cell x2
  replace x3 := g.cell x3
  replace y0 := g.cell y0
  replace y1 := g.cell y1
  replace y2 := g.cell y2
  replace y3 := g.cell y3
  clear hF hE hho hhp hqo hqp hx hy hxs hys hr hs he h0 hco hcp
  go_enter Tryz.func9, Tryz.ntmps9
  go_wp2_with fail
  rw [HW.out]
  generalize w.heap.size = Bx at *
  clear HW
  have gd := (Gr.refl W).drew
  replace a0 := gd.cell a0
  replace a1 := gd.cell a1
  replace x0 := gd.cell x0
  replace x1 := gd.cell x1
  replace x2 := gd.cell x2
  replace x3 := gd.cell x3
  replace y0 := gd.cell y0
  replace y1 := gd.cell y1
  replace y2 := gd.cell y2
  replace y3 := gd.cell y3
  replace g := g.trans gd
  clear gd
  refine wp_region_held_drew (S := (fun w' => w'.cell? ⟨Bx, 0, none⟩ = some (.slice (some ⟨bo, oo, none⟩) os.length co) ∧ w'.cell? ⟨Bx, 1, none⟩ = some (.slice (some ⟨bp, op, none⟩) ps.length cp) ∧ w'.cell? ⟨bo, oo + i1 * 4, none⟩ = some (.string x.nm) ∧ w'.cell? ⟨bo, oo + i1 * 4 + 1, none⟩ = some (.string x.na) ∧ w'.cell? ⟨bo, oo + i1 * 4 + 2, none⟩ = some x.u ∧ w'.cell? ⟨bo, oo + i1 * 4 + 3, none⟩ = some (.int .i64 x.ld) ∧ w'.cell? ⟨bp, op + i2 * 4, none⟩ = some (.string y.nm) ∧ w'.cell? ⟨bp, op + i2 * 4 + 1, none⟩ = some (.string y.ro) ∧ w'.cell? ⟨bp, op + i2 * 4 + 2, none⟩ = some (.int .i64 y.hr) ∧ w'.cell? ⟨bp, op + i2 * 4 + 3, none⟩ = some y.u)) (by kernel_rfl) ⟨a0, a1, x0, x1, x2, x3, y0, y1, y2, y3⟩ (fun hHeld => ?_)
  generalize W.drew = V at *
  refine wpAnyH_take (i := 0) (v := (.agg #[.slice (some ⟨bo, oo, none⟩) os.length co, .slice (some ⟨bp, op, none⟩) ps.length cp])) (op_at rfl) (by kernel_rfl) (by kernel_rfl) (by kernel_rfl) (fun _ _ _ h => h) (Or.inl ⟨rfl, fun w hSw => ?_⟩) (by assumption) ?_
  · (try dsimp only at hSw); go_simp; try with_reducible rfl
  (try simp only [Act.put, List.setIfInBounds_toArray, List.set_cons_zero, List.set_cons_succ])
  refine wpAnyH_take (i := 2) (v := (.pointer (some ⟨Bx, 0, none⟩))) (op_at rfl) (by kernel_rfl) (by kernel_rfl) (by kernel_rfl) (fun _ _ _ h => h) (Or.inl ⟨rfl, fun w hSw => ?_⟩) (by assumption) ?_
  · (try dsimp only at hSw); go_simp; try with_reducible rfl
  (try simp only [Act.put, List.setIfInBounds_toArray, List.set_cons_zero, List.set_cons_succ])
  refine wpAnyH_take (i := 3) (v := (.slice (some ⟨bo, oo, none⟩) os.length co)) (op_at rfl) (by kernel_rfl) (by kernel_rfl) (by kernel_rfl) (fun _ _ _ h => h) (Or.inl ⟨rfl, fun w hSw => ?_⟩) (by assumption) ?_
  · (try dsimp only at hSw); go_simp; try with_reducible rfl
  (try simp only [Act.put, List.setIfInBounds_toArray, List.set_cons_zero, List.set_cons_succ])
  refine wpAnyH_take (i := 4) (v := (.int .i64 i1)) (op_at rfl) (by kernel_rfl) (by kernel_rfl) (by kernel_rfl) (fun _ _ _ h => h) (Or.inl ⟨rfl, fun w hSw => ?_⟩) (by assumption) ?_
  · (try dsimp only at hSw); go_simp; try with_reducible rfl
  (try simp only [Act.put, List.setIfInBounds_toArray, List.set_cons_zero, List.set_cons_succ])
  refine wpAnyH_take (i := 6) (v := (.pointer (some ⟨Bx, 1, none⟩))) (op_at rfl) (by kernel_rfl) (by kernel_rfl) (by kernel_rfl) (fun _ _ _ h => h) (Or.inl ⟨rfl, fun w hSw => ?_⟩) (by assumption) ?_
  · (try dsimp only at hSw); go_simp; try with_reducible rfl
  (try simp only [Act.put, List.setIfInBounds_toArray, List.set_cons_zero, List.set_cons_succ])
  refine wpAnyH_take (i := 7) (v := (.slice (some ⟨bp, op, none⟩) ps.length cp)) (op_at rfl) (by kernel_rfl) (by kernel_rfl) (by kernel_rfl) (fun _ _ _ h => h) (Or.inl ⟨rfl, fun w hSw => ?_⟩) (by assumption) ?_
  · (try dsimp only at hSw); go_simp; try with_reducible rfl
  (try simp only [Act.put, List.setIfInBounds_toArray, List.set_cons_zero, List.set_cons_succ])
  refine wpAnyH_take (i := 8) (v := (.int .i64 i2)) (op_at rfl) (by kernel_rfl) (by kernel_rfl) (by kernel_rfl) (fun _ _ _ h => h) (Or.inl ⟨rfl, fun w hSw => ?_⟩) (by assumption) ?_
  · (try dsimp only at hSw); go_simp; try with_reducible rfl
  (try simp only [Act.put, List.setIfInBounds_toArray, List.set_cons_zero, List.set_cons_succ])
  refine wpAnyH_ready (rs := [1]) (by kernel_rfl) (by simp) (AllReadyH.cons (op_at rfl) (fun K hK => ?_) AllReadyH.nil)
  go_simp
  (refine (H1.out _ g).mono ?_; rintro e W2 ⟨rfl, hg⟩; replace a0 := hg.cell a0; replace a1 := hg.cell a1; replace x0 := hg.cell x0; replace x1 := hg.cell x1; replace x2 := hg.cell x2; replace x3 := hg.cell x3; replace y0 := hg.cell y0; replace y1 := hg.cell y1; replace y2 := hg.cell y2; replace y3 := hg.cell y3; replace g := g.trans hg; clear hg)
  go_wp2_with fail
  refine hK.out _ _ ⟨a0, a1, x0, x1, x2, x3, y0, y1, y2, y3⟩ (fun hHeld => ?_)
  clear hK K
  (try simp only [Act.put, List.setIfInBounds_toArray, List.set_cons_zero, List.set_cons_succ])
  refine wpAnyH_ready (rs := [5]) (by kernel_rfl) (by simp) (AllReadyH.cons (op_at rfl) (fun K hK => ?_) AllReadyH.nil)
  go_simp
  (refine (H2.out _).mono ?_; rintro e w' ⟨rfl, rfl⟩)
  go_wp2_with fail
  refine hK.out _ _ ⟨a0, a1, x0, x1, x2, x3, y0, y1, y2, y3⟩ (fun hHeld => ?_)
  clear hK K
  (try simp only [Act.put, List.setIfInBounds_toArray, List.set_cons_zero, List.set_cons_succ])
  refine wpAnyH_ready (rs := [9]) (by kernel_rfl) (by simp) (AllReadyH.cons (op_at rfl) (fun K hK => ?_) AllReadyH.nil)
  go_simp
  (refine (H3.out _).mono ?_; rintro e w' ⟨rfl, rfl⟩)
  go_wp2_with fail
  refine hK.out _ _ ⟨a0, a1, x0, x1, x2, x3, y0, y1, y2, y3⟩ (fun hHeld => ?_)
  clear hK K
  (try simp only [Act.put, List.setIfInBounds_toArray, List.set_cons_zero, List.set_cons_succ])
  refine wpAnyH_ready (rs := [10]) (by kernel_rfl) (by simp) (AllReadyH.cons (op_at rfl) (fun K hK => ?_) AllReadyH.nil)
  go_simp
  obtain ⟨WW, hWW, gW, s0, s1, s2⟩ := box3 W2 (.int .i64 e1) (.int .i64 e2) (.int .i64 e3) 36
  rw [hWW]
  clear hWW
  replace a0 := gW.cell a0
  replace a1 := gW.cell a1
  replace x0 := gW.cell x0
  replace x1 := gW.cell x1
  replace x2 := gW.cell x2
  replace x3 := gW.cell x3
  replace y0 := gW.cell y0
  replace y1 := gW.cell y1
  replace y2 := gW.cell y2
  replace y3 := gW.cell y3
  replace g := g.trans gW
  refine hK.out _ _ ⟨a0, a1, x0, x1, x2, x3, y0, y1, y2, y3⟩ (fun hHeld => ?_)
  clear hK K
  (try simp only [Act.put, List.setIfInBounds_toArray, List.set_cons_zero, List.set_cons_succ])
  refine wpAnyH_ready (rs := [11]) (by kernel_rfl) (by simp) (AllReadyH.cons (op_at rfl) (fun K hK => ?_) AllReadyH.nil)
  go_simp
  (refine (HF.out _ _ WW s0 s1 s2).mono ?_; rintro e w8 ⟨rfl, rfl⟩)
  go_wp2_with fail
  refine hK.out _ _ ⟨a0, a1, x0, x1, x2, x3, y0, y1, y2, y3⟩ (fun hHeld => ?_)
  clear hK K
  (try simp only [Act.put, List.setIfInBounds_toArray, List.set_cons_zero, List.set_cons_succ])
  refine wpAnyH_take (i := 12) (v := (.int .i64 0)) (op_at rfl) (by kernel_rfl) (by kernel_rfl) (by kernel_rfl) (fun _ _ _ h => h) (Or.inl ⟨rfl, fun w hSw => ?_⟩) (by assumption) ?_
  · (try dsimp only at hSw); go_simp; try with_reducible rfl
  (try simp only [Act.put, List.setIfInBounds_toArray, List.set_cons_zero, List.set_cons_succ])
  refine wpAnyH_done (by kernel_rfl) ?_ _
  go_wp2_with fail
  have gd := (Gr.refl WW).drew
  replace a0 := gd.cell a0
  replace a1 := gd.cell a1
  replace x0 := gd.cell x0
  replace x1 := gd.cell x1
  replace x2 := gd.cell x2
  replace x3 := gd.cell x3
  replace y0 := gd.cell y0
  replace y1 := gd.cell y1
  replace y2 := gd.cell y2
  replace y3 := gd.cell y3
  replace g := g.trans gd
  clear gd
  refine wp_region_held_drew (S := (fun w' => w'.cell? ⟨Bx, 0, none⟩ = some (.slice (some ⟨bo, oo, none⟩) os.length co) ∧ w'.cell? ⟨Bx, 1, none⟩ = some (.slice (some ⟨bp, op, none⟩) ps.length cp) ∧ w'.cell? ⟨bo, oo + i1 * 4, none⟩ = some (.string x.nm) ∧ w'.cell? ⟨bo, oo + i1 * 4 + 1, none⟩ = some (.string x.na) ∧ w'.cell? ⟨bo, oo + i1 * 4 + 2, none⟩ = some x.u ∧ w'.cell? ⟨bo, oo + i1 * 4 + 3, none⟩ = some (.int .i64 x.ld) ∧ w'.cell? ⟨bp, op + i2 * 4, none⟩ = some (.string y.nm) ∧ w'.cell? ⟨bp, op + i2 * 4 + 1, none⟩ = some (.string y.ro) ∧ w'.cell? ⟨bp, op + i2 * 4 + 2, none⟩ = some (.int .i64 y.hr) ∧ w'.cell? ⟨bp, op + i2 * 4 + 3, none⟩ = some y.u)) (by kernel_rfl) ⟨a0, a1, x0, x1, x2, x3, y0, y1, y2, y3⟩ (fun hHeld => ?_)
  generalize WW.drew = V4 at *
  refine wpAnyH_take (i := 0) (v := (.pointer (some ⟨Bx, 0, none⟩))) (op_at rfl) (by kernel_rfl) (by kernel_rfl) (by kernel_rfl) (fun _ _ _ h => h) (Or.inl ⟨rfl, fun w hSw => ?_⟩) (by assumption) ?_
  · (try dsimp only at hSw); go_simp; try with_reducible rfl
  (try simp only [Act.put, List.setIfInBounds_toArray, List.set_cons_zero, List.set_cons_succ])
  refine wpAnyH_take (i := 1) (v := (.slice (some ⟨bo, oo, none⟩) os.length co)) (op_at rfl) (by kernel_rfl) (by kernel_rfl) (by kernel_rfl) (fun _ _ _ h => h) (Or.inl ⟨rfl, fun w hSw => ?_⟩) (by assumption) ?_
  · (try dsimp only at hSw); go_simp; try with_reducible rfl
  (try simp only [Act.put, List.setIfInBounds_toArray, List.set_cons_zero, List.set_cons_succ])
  refine wpAnyH_take (i := 2) (v := (.int .i64 i1)) (op_at rfl) (by kernel_rfl) (by kernel_rfl) (by kernel_rfl) (fun _ _ _ h => h) (Or.inl ⟨rfl, fun w hSw => ?_⟩) (by assumption) ?_
  · (try dsimp only at hSw); go_simp; try with_reducible rfl
  (try simp only [Act.put, List.setIfInBounds_toArray, List.set_cons_zero, List.set_cons_succ])
  refine wpAnyH_take (i := 3) (v := (.pointer (some ⟨bo, oo + i1 * 4, none⟩))) (op_at rfl) (by kernel_rfl) (by kernel_rfl) (by kernel_rfl) (fun _ _ _ h => h) (Or.inl ⟨rfl, fun w hSw => ?_⟩) (by assumption) ?_
  · (try dsimp only at hSw); go_simp; try with_reducible rfl
  (try simp only [Act.put, List.setIfInBounds_toArray, List.set_cons_zero, List.set_cons_succ])
  refine wpAnyH_take (i := 4) (v := (.agg #[.string x.nm, .string x.na, x.u, .int .i64 x.ld])) (op_at rfl) (by kernel_rfl) (by kernel_rfl) (by kernel_rfl) (fun _ _ _ h => h) (Or.inl ⟨rfl, fun w hSw => ?_⟩) (by assumption) ?_
  · (try dsimp only at hSw); go_simp; try with_reducible rfl
  (try simp only [Act.put, List.setIfInBounds_toArray, List.set_cons_zero, List.set_cons_succ])
  refine wpAnyH_take (i := 5) (v := (.pointer (some ⟨Bx, 1, none⟩))) (op_at rfl) (by kernel_rfl) (by kernel_rfl) (by kernel_rfl) (fun _ _ _ h => h) (Or.inl ⟨rfl, fun w hSw => ?_⟩) (by assumption) ?_
  · (try dsimp only at hSw); go_simp; try with_reducible rfl
  (try simp only [Act.put, List.setIfInBounds_toArray, List.set_cons_zero, List.set_cons_succ])
  refine wpAnyH_take (i := 6) (v := (.slice (some ⟨bp, op, none⟩) ps.length cp)) (op_at rfl) (by kernel_rfl) (by kernel_rfl) (by kernel_rfl) (fun _ _ _ h => h) (Or.inl ⟨rfl, fun w hSw => ?_⟩) (by assumption) ?_
  · (try dsimp only at hSw); go_simp; try with_reducible rfl
  (try simp only [Act.put, List.setIfInBounds_toArray, List.set_cons_zero, List.set_cons_succ])
  refine wpAnyH_take (i := 7) (v := (.int .i64 i2)) (op_at rfl) (by kernel_rfl) (by kernel_rfl) (by kernel_rfl) (fun _ _ _ h => h) (Or.inl ⟨rfl, fun w hSw => ?_⟩) (by assumption) ?_
  · (try dsimp only at hSw); go_simp; try with_reducible rfl
  (try simp only [Act.put, List.setIfInBounds_toArray, List.set_cons_zero, List.set_cons_succ])
  refine wpAnyH_take (i := 8) (v := (.pointer (some ⟨bp, op + i2 * 4, none⟩))) (op_at rfl) (by kernel_rfl) (by kernel_rfl) (by kernel_rfl) (fun _ _ _ h => h) (Or.inl ⟨rfl, fun w hSw => ?_⟩) (by assumption) ?_
  · (try dsimp only at hSw); go_simp; try with_reducible rfl
  (try simp only [Act.put, List.setIfInBounds_toArray, List.set_cons_zero, List.set_cons_succ])
  refine wpAnyH_take (i := 9) (v := (.agg #[.string y.nm, .string y.ro, .int .i64 y.hr, y.u])) (op_at rfl) (by kernel_rfl) (by kernel_rfl) (by kernel_rfl) (fun _ _ _ h => h) (Or.inl ⟨rfl, fun w hSw => ?_⟩) (by assumption) ?_
  · (try dsimp only at hSw); go_simp; try with_reducible rfl
  (try simp only [Act.put, List.setIfInBounds_toArray, List.set_cons_zero, List.set_cons_succ])
  refine wpAnyH_ready (rs := [10]) (by kernel_rfl) (by simp) (AllReadyH.cons (op_at rfl) (fun K hK => ?_) AllReadyH.nil)
  go_simp
  (refine (HM.out _ g).mono ?_; rintro e W9 ⟨rfl, hg⟩; replace a0 := hg.cell a0; replace a1 := hg.cell a1; replace x0 := hg.cell x0; replace x1 := hg.cell x1; replace x2 := hg.cell x2; replace x3 := hg.cell x3; replace y0 := hg.cell y0; replace y1 := hg.cell y1; replace y2 := hg.cell y2; replace y3 := hg.cell y3; replace g := g.trans hg; clear hg)
  go_wp2_with fail
  refine hK.out _ _ ⟨a0, a1, x0, x1, x2, x3, y0, y1, y2, y3⟩ (fun hHeld => ?_)
  clear hK K
  (try simp only [Act.put, List.setIfInBounds_toArray, List.set_cons_zero, List.set_cons_succ])
  refine wpAnyH_take (i := 11) (v := (.bool rr)) (op_at rfl) (by kernel_rfl) (by kernel_rfl) (by kernel_rfl) (fun _ _ _ h => h) (Or.inl ⟨rfl, fun w hSw => ?_⟩) (by assumption) ?_
  · (try dsimp only at hSw); go_simp; try with_reducible rfl
  (try simp only [Act.put, List.setIfInBounds_toArray, List.set_cons_zero, List.set_cons_succ])
  refine wpAnyH_take (i := 12) (v := (.int .i64 0)) (op_at rfl) (by kernel_rfl) (by kernel_rfl) (by kernel_rfl) (fun _ _ _ h => h) (Or.inl ⟨rfl, fun w hSw => ?_⟩) (by assumption) ?_
  · (try dsimp only at hSw); go_simp; try with_reducible rfl
  (try simp only [Act.put, List.setIfInBounds_toArray, List.set_cons_zero, List.set_cons_succ])
  refine wpAnyH_done (by kernel_rfl) ?_ _
  go_wp2_with fail
  exact bodyPost_ret (v := .tuple #[.bool rr, .int .i64 0]) (by simp [results, Tryz.results9, go_sem]) rfl ⟨rfl, g⟩
end Go.Proofs.YtjojbcgppkfidaaGreat
