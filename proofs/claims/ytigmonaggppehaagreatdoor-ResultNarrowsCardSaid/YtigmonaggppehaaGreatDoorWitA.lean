/- Witnesses: the program's check of the values, and of the question. -/
import Derived.Test.YtigmonaggppehaaGreatDoorOpY
namespace Go.Proofs.YtigmonaggppehaaGreatDoor
open Go.RowKit Go.Lib
set_option linter.unusedSimpArgs false
set_option linter.unusedVariables false
set_option maxHeartbeats 1000000 in
set_option maxRecDepth 100000 in
theorem one_wit (n b off cap L i : Nat) (x : OpR) (y : Int) (w : World) (hi : i < n) (h1 : n ≤ 1000) (hx : OpAt w b (off + i * 3) x) (hL : w.cell? ⟨L, 0, none⟩ = some (.slice (some ⟨b, off, none⟩) n cap)) :
    Calls Tryz.prog 38 #[.int .i64 i, .int .i64 y, .pointer (some ⟨L, 0, none⟩)] w fun e w' => e = .returned (.int .i64 (outE y x.lo x.hi)) ∧ Gr w w' := by
  obtain ⟨c0, c1, c2⟩ := hx
  have l0 := hL
  have HR := Lib.hid (fun W => range_c y x.lo x.hi W)
  have hi2 : (i : Int) < n := by omega
  have hi3 : (0 : Int) ≤ i := by omega
  generalize outE y x.lo x.hi = z at *
  clear c0 hL
  go_enter Tryz.func38, Tryz.ntmps38
  go_wp2_with fail
  have g := Gr.refl w
  have gd := (Gr.refl w).drew
  replace c1 := gd.cell c1
  replace c2 := gd.cell c2
  replace l0 := gd.cell l0
  replace g := g.trans gd
  clear gd
  refine wp_region_held_drew (S := (fun w' => w'.cell? ⟨b, off + i * 3 + 1, none⟩ = some (.int .i64 x.lo) ∧ w'.cell? ⟨b, off + i * 3 + 2, none⟩ = some (.int .i64 x.hi) ∧ w'.cell? ⟨L, 0, none⟩ = some (.slice (some ⟨b, off, none⟩) n cap))) (by kernel_rfl) ⟨c1, c2, l0⟩ (fun hHeld => ?_)
  generalize w.drew = V at *
  refine wpAnyH_take (i := 0) (v := (.int .i64 y)) (op_at rfl) (by kernel_rfl) (by kernel_rfl) (by kernel_rfl) (fun _ _ _ h => h) (Or.inl ⟨rfl, fun w hSw => ?_⟩) (by assumption) ?_
  · (try dsimp only at hSw); go_simp; try with_reducible rfl
  (try simp only [Act.put, List.setIfInBounds_toArray, List.set_cons_zero, List.set_cons_succ])
  refine wpAnyH_take (i := 1) (v := (.slice (some ⟨b, off, none⟩) n cap)) (op_at rfl) (by kernel_rfl) (by kernel_rfl) (by kernel_rfl) (fun _ _ _ h => h) (Or.inl ⟨rfl, fun w hSw => ?_⟩) (by assumption) ?_
  · (try dsimp only at hSw); go_simp; try with_reducible rfl
  (try simp only [Act.put, List.setIfInBounds_toArray, List.set_cons_zero, List.set_cons_succ])
  refine wpAnyH_take (i := 2) (v := (.int .i64 i)) (op_at rfl) (by kernel_rfl) (by kernel_rfl) (by kernel_rfl) (fun _ _ _ h => h) (Or.inl ⟨rfl, fun w hSw => ?_⟩) (by assumption) ?_
  · (try dsimp only at hSw); go_simp; try with_reducible rfl
  (try simp only [Act.put, List.setIfInBounds_toArray, List.set_cons_zero, List.set_cons_succ])
  refine wpAnyH_take (i := 3) (v := (.pointer (some ⟨b, off + i * 3, none⟩))) (op_at rfl) (by kernel_rfl) (by kernel_rfl) (by kernel_rfl) (fun _ _ _ h => h) (Or.inl ⟨rfl, fun w hSw => ?_⟩) (by assumption) ?_
  · (try dsimp only at hSw); go_simp; try with_reducible rfl
  (try simp only [Act.put, List.setIfInBounds_toArray, List.set_cons_zero, List.set_cons_succ])
  refine wpAnyH_take (i := 4) (v := (.pointer (some ⟨b, off + i * 3 + 1, none⟩))) (op_at rfl) (by kernel_rfl) (by kernel_rfl) (by kernel_rfl) (fun _ _ _ h => h) (Or.inl ⟨rfl, fun w hSw => ?_⟩) (by assumption) ?_
  · (try dsimp only at hSw); go_simp; try with_reducible rfl
  (try simp only [Act.put, List.setIfInBounds_toArray, List.set_cons_zero, List.set_cons_succ])
  refine wpAnyH_take (i := 5) (v := (.int .i64 x.lo)) (op_at rfl) (by kernel_rfl) (by kernel_rfl) (by kernel_rfl) (fun _ _ _ h => h) (Or.inl ⟨rfl, fun w hSw => ?_⟩) (by assumption) ?_
  · (try dsimp only at hSw); go_simp; try with_reducible rfl
  (try simp only [Act.put, List.setIfInBounds_toArray, List.set_cons_zero, List.set_cons_succ])
  refine wpAnyH_take (i := 6) (v := (.slice (some ⟨b, off, none⟩) n cap)) (op_at rfl) (by kernel_rfl) (by kernel_rfl) (by kernel_rfl) (fun _ _ _ h => h) (Or.inl ⟨rfl, fun w hSw => ?_⟩) (by assumption) ?_
  · (try dsimp only at hSw); go_simp; try with_reducible rfl
  (try simp only [Act.put, List.setIfInBounds_toArray, List.set_cons_zero, List.set_cons_succ])
  refine wpAnyH_take (i := 7) (v := (.int .i64 i)) (op_at rfl) (by kernel_rfl) (by kernel_rfl) (by kernel_rfl) (fun _ _ _ h => h) (Or.inl ⟨rfl, fun w hSw => ?_⟩) (by assumption) ?_
  · (try dsimp only at hSw); go_simp; try with_reducible rfl
  (try simp only [Act.put, List.setIfInBounds_toArray, List.set_cons_zero, List.set_cons_succ])
  refine wpAnyH_take (i := 8) (v := (.pointer (some ⟨b, off + i * 3, none⟩))) (op_at rfl) (by kernel_rfl) (by kernel_rfl) (by kernel_rfl) (fun _ _ _ h => h) (Or.inl ⟨rfl, fun w hSw => ?_⟩) (by assumption) ?_
  · (try dsimp only at hSw); go_simp; try with_reducible rfl
  (try simp only [Act.put, List.setIfInBounds_toArray, List.set_cons_zero, List.set_cons_succ])
  refine wpAnyH_take (i := 9) (v := (.pointer (some ⟨b, off + i * 3 + 2, none⟩))) (op_at rfl) (by kernel_rfl) (by kernel_rfl) (by kernel_rfl) (fun _ _ _ h => h) (Or.inl ⟨rfl, fun w hSw => ?_⟩) (by assumption) ?_
  · (try dsimp only at hSw); go_simp; try with_reducible rfl
  (try simp only [Act.put, List.setIfInBounds_toArray, List.set_cons_zero, List.set_cons_succ])
  refine wpAnyH_take (i := 10) (v := (.int .i64 x.hi)) (op_at rfl) (by kernel_rfl) (by kernel_rfl) (by kernel_rfl) (fun _ _ _ h => h) (Or.inl ⟨rfl, fun w hSw => ?_⟩) (by assumption) ?_
  · (try dsimp only at hSw); go_simp; try with_reducible rfl
  (try simp only [Act.put, List.setIfInBounds_toArray, List.set_cons_zero, List.set_cons_succ])
  refine wpAnyH_ready (rs := [11]) (by kernel_rfl) (by simp) (AllReadyH.cons (op_at rfl) (fun K hK => ?_) AllReadyH.nil)
  go_simp
  (refine (HR.out _).mono ?_; rintro e w1 ⟨rfl, rfl⟩)
  go_wp2_with fail
  refine hK.out _ _ ⟨c1, c2, l0⟩ (fun hHeld => ?_)
  clear hK K
  (try simp only [Act.put, List.setIfInBounds_toArray, List.set_cons_zero, List.set_cons_succ])
  refine wpAnyH_take (i := 12) (v := (.int .i64 z)) (op_at rfl) (by kernel_rfl) (by kernel_rfl) (by kernel_rfl) (fun _ _ _ h => h) (Or.inl ⟨rfl, fun w hSw => ?_⟩) (by assumption) ?_
  · (try dsimp only at hSw); go_simp; try with_reducible rfl
  (try simp only [Act.put, List.setIfInBounds_toArray, List.set_cons_zero, List.set_cons_succ])
  refine wpAnyH_done (by kernel_rfl) ?_ _
  go_wp2_with fail
  go_ret
  exact ⟨rfl, g⟩
/-- the error of values, from a place on -/
def outZ (xs : List OpR) (ys : List Int) (n i : Nat) : Int := if outFrom xs ys (n - i) i then 3 else 0
theorem outE_at (y lo hi : Int) : outE y lo hi = if (decide (y < lo) || decide (hi < y)) then 3 else 0 := rfl
set_option maxHeartbeats 1000000 in
set_option maxRecDepth 100000 in
theorem findW_pos (xs : List OpR) (ys : List Int) (n b off cap b2 o2 c2 L : Nat) (w : World) (hn : xs.length = n) (hm : ys.length = n) (h1 : n ≤ 1000) (hc : ∀ i x, xs[i]? = some x → OpAt w b (off + i * 3) x)
    (hd : ∀ i y, ys[i]? = some y → w.cell? ⟨b2, o2 + i, none⟩ = some (.int .i64 y)) (hL : w.cell? ⟨L, 0, none⟩ = some (.slice (some ⟨b, off, none⟩) n cap)) :
    Calls Tryz.prog 88 #[.slice (some ⟨b2, o2, none⟩) n c2, .func (.func 38) #[] #[.pointer (some ⟨L, 0, none⟩)]] w fun e w' => (∃ i : Int, e = .returned (.tuple #[.int .i64 i, .int .i64 (outZ xs ys n 0)])) ∧ Gr w w' := by
  have HN := Lib.hid hn
  have HM := Lib.hid hm
  have HD := Lib.hid hd
  have HO := Lib.hid (fun (i : Nat) (x : OpR) (y : Int) (W : World) (hi : i < n) (hx : xs[i]? = some x) (hg : Gr w W) => one_wit n b off cap L i x y W hi h1 ((hc i x hx).gr hg) (hg.cell hL))
  clear hc hL hn hm hd
  go_enter Tryz.func88, Tryz.ntmps88
  go_wp2_with fail
  go_loopg [11] n (fun gk s11 wr => ∃ i : Nat, s11 = .int .i64 i ∧ gk + i = n ∧ Gr w wr ∧ Hid (outZ xs ys n i = outZ xs ys n 0))
  case atStart => exact ⟨0, rfl, by omega, Gr.refl _, rfl⟩
  case round =>
    obtain ⟨i, rfl, hi, hg, HF⟩ := hrel
    by_cases hlt : i < n
    · obtain ⟨x, hx⟩ : ∃ x, xs[i]? = some x := ⟨xs[i]'(by have := HN.out; omega), List.getElem?_eq_getElem _⟩
      obtain ⟨y, hy⟩ : ∃ y, ys[i]? = some y := ⟨ys[i]'(by have := HM.out; omega), List.getElem?_eq_getElem _⟩
      have d0 := hg.cell (HD.out i y hy)
      have hi2 : (i : Int) < n := by omega
      have hf : outZ xs ys n i = if outE y x.lo x.hi = 0 then outZ xs ys n (i + 1) else outE y x.lo x.hi := by
        unfold outZ
        rw [outFrom_step hlt hx hy, outE_at]
        cases (decide (y < x.lo) || decide (x.hi < y)) <;> simp
      have hT := fun W hg2 => HO.out i x y W hlt hx hg2
      clear hx hy
      by_cases h0 : outE y x.lo x.hi = 0
      · rw [h0] at hT hf
        rw [if_pos rfl] at hf
        have HT := Lib.hid hT
        have HF2 := Lib.hid hf
        clear hT hf h0
        go_wp2_with fail
        refine (HT.out _ hg).mono ?_
        rintro e w4 ⟨rfl, hg2⟩
        go_wp2_with fail
        go_roundg (gk - 1)
        case measure => omega
        case rel => exact ⟨i + 1, by go_num, by omega, hg.trans hg2, by unfold Hid; rw [← HF2.out, HF.out]⟩
      · rw [if_neg h0] at hf
        generalize outE y x.lo x.hi = z at *
        have q1 : (z == 0) = false := by simpa using h0
        have q2 : (z != 0) = true := by simpa [bne] using q1
        have HT := Lib.hid hT
        have HF2 := Lib.hid hf
        clear hT hf
        go_wp2_with fail
        refine (HT.out _ hg).mono ?_
        rintro e w4 ⟨rfl, hg2⟩
        go_wp2_with fail
        exact bodyPost_ret (v := .tuple #[.int .i64 i, .int .i64 z]) (by simp [results, Tryz.results88, go_sem]) rfl ⟨⟨i, by rw [← HF.out, HF2.out]⟩, hg.trans hg2⟩
    · have hin : i = n := by omega
      have HE2 : Hid (outZ xs ys n i = 0) := by unfold Hid outZ; rw [hin, Nat.sub_self]; rfl
      have hi2 : (n : Int) ≤ i := by omega
      clear hin
      go_wp2_with fail
      exact bodyPost_ret (v := .tuple #[.int .i64 0, .int .i64 0]) (by simp [results, Tryz.results88, go_sem]) rfl ⟨⟨0, by rw [← HF.out, HE2.out]⟩, hg⟩
theorem eachW_pos (xs : List OpR) (ys : List Int) (n b off cap b2 o2 c2 L : Nat) (w : World) (hn : xs.length = n) (hm : ys.length = n) (h1 : n ≤ 1000) (hc : ∀ i x, xs[i]? = some x → OpAt w b (off + i * 3) x)
    (hd : ∀ i y, ys[i]? = some y → w.cell? ⟨b2, o2 + i, none⟩ = some (.int .i64 y)) (hL : w.cell? ⟨L, 0, none⟩ = some (.slice (some ⟨b, off, none⟩) n cap)) :
    Calls Tryz.prog 37 #[.slice (some ⟨b2, o2, none⟩) n c2, .func (.func 38) #[] #[.pointer (some ⟨L, 0, none⟩)]] w fun e w' => e = .returned (.int .i64 (outZ xs ys n 0)) ∧ Gr w w' := by
  have HF := Lib.hid (findW_pos xs ys n b off cap b2 o2 c2 L w hn hm h1 hc hd hL)
  generalize outZ xs ys n 0 = z at *
  clear hc hL hn hm hd
  go_enter Tryz.func37, Tryz.ntmps37
  go_wp2_with fail
  refine HF.out.mono ?_
  rintro e w4 ⟨⟨i, rfl⟩, hg⟩
  go_wp2_with fail
  go_ret
  exact ⟨rfl, hg⟩
/-- the error of a question -/
def questE (xs : List OpR) (cl r : Int) : Int := firstE [openE xs, climbE cl xs.length, outE r 1 xs.length]
theorem first_three (x y z : Int) (b cap : Nat) (w : World) (hx : w.cell? ⟨b, 0, none⟩ = some (.int .i64 x)) (hy : w.cell? ⟨b, 1, none⟩ = some (.int .i64 y)) (hz : w.cell? ⟨b, 2, none⟩ = some (.int .i64 z)) :
    Calls Tryz.prog 35 #[.slice (some ⟨b, 0, none⟩) 3 cap] w fun e w' => e = .returned (.int .i64 (firstE [x, y, z])) ∧ w = w' :=
  first_c0 b 3 cap [x, y, z] w rfl (fun i v h => by
    rcases i with _ | _ | _ | i <;> simp at h <;> subst h <;> assumption) (by omega)
set_option maxHeartbeats 1000000 in
set_option maxRecDepth 100000 in
theorem quest_c {v : Value} {xs : List OpR} {w : World} (cl r : Int) (h : OpsV w v xs) :
    Calls Tryz.prog 29 #[v, .int .i64 cl, .int .i64 r] w fun e w' => e = .returned (.int .i64 (questE xs cl r)) ∧ Gr w w' := by
  obtain ⟨p, cap, rfl⟩ := opsV_slice h
  have HO := Lib.hid (checkOpen_c h)
  have HC := Lib.hid (fun W => climb_c cl xs.length W)
  have HR := Lib.hid (fun W => range_c r 1 xs.length W)
  have HF := Lib.hid (fun b cap W => first_three (openE xs) (climbE cl xs.length) (outE r 1 xs.length) b cap W)
  have HQ : Hid (questE xs cl r = firstE [openE xs, climbE cl xs.length, outE r 1 xs.length]) := rfl
  rw [← HQ.out] at HF
  clear HQ h
  generalize questE xs cl r = E at *
  generalize openE xs = e1 at *
  generalize climbE cl xs.length = e2 at *
  generalize outE r 1 xs.length = e3 at *
  generalize xs.length = n at *
  go_enter Tryz.func29, Tryz.ntmps29
  go_wp2_with fail
  refine HO.out.mono ?_
  rintro e w1 ⟨rfl, g⟩
  go_wp2_with fail
  refine (HC.out _).mono ?_
  rintro e w2 ⟨rfl, rfl⟩
  go_wp2_with fail
  refine (HR.out _).mono ?_
  rintro e w3 ⟨rfl, rfl⟩
  obtain ⟨W, hW, g2, a0, a1, a2⟩ := box3 w1 (.int .i64 e1) (.int .i64 e2) (.int .i64 e3) 27
  have HT := Lib.hid (HF.out w1.heap.size 3 W a0 a1 a2)
  have HW := Lib.hid hW
  clear HF hW a0 a1 a2
  go_wp2_with fail
  rw [HW.out]
  refine HT.out.mono ?_
  rintro e w4 ⟨rfl, rfl⟩
  go_wp2_with fail
  go_ret
  exact ⟨rfl, g.trans g2⟩
end Go.Proofs.YtigmonaggppehaaGreatDoor
