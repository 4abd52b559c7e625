/- Starters kept apart: the program checks an order. -/
import Derived.Test.YtcnpmebihdonoaaGreatDoorGLsH
import Derived.Test.YtcnpmebihdonoaaGreatDoorGOpN
import Derived.Laws.Rows
import Derived.OwnWalk
import Derived.RowKit
namespace Go.Proofs.YtcnpmebihdonoaaGreatDoor
open Go.RowKit Go.Lib
set_option linter.unusedSimpArgs false
set_option linter.unusedVariables false
set_option maxHeartbeats 1000000 in
set_option maxRecDepth 100000 in
theorem indexZ_c (zs : List Int) (n : Nat) (p : Option Addr) (cap : Nat) (x : Int) (w : World) (hn : n ≤ zs.length) (h1 : n ≤ 1000)
    (hd : 0 < n → ∃ b off, p = some ⟨b, off, none⟩ ∧ ∀ (i : Nat) (z : Int), zs[i]? = some z → w.cell? ⟨b, off + i, none⟩ = some (.int .i64 z)) :
    Calls Tryz.prog 56 #[.slice p n cap, .int .i64 x] w fun e w' => e = .returned (.int .i64 (idxQ (fun z => x == z) zs n 0)) ∧ w = w' := by
  have HD := Lib.hid hd
  have HN := Lib.hid hn
  have HE : Hid (idxQ (fun z => x == z) zs n 0 = idxQ (fun z => x == z) zs (n - 0) 0) := rfl
  clear hd hn
  go_enter Tryz.func56, Tryz.ntmps56
  go_wp2_with fail
  go_loopg [8] n (fun gk s8 wr => ∃ i : Nat, s8 = .int .i64 i ∧ gk + i = n ∧ wr = w ∧ Hid (idxQ (fun z => x == z) zs (n - i) i = idxQ (fun z => x == z) zs (n - 0) 0))
  case atStart => exact ⟨0, rfl, by omega, rfl, rfl⟩
  case round =>
    obtain ⟨i, rfl, hi, rfl, HF⟩ := hrel
    by_cases hlt : i < n
    · obtain ⟨z, hz⟩ : ∃ z, zs[i]? = some z := ⟨zs[i]'(by have := HN.out; omega), List.getElem?_eq_getElem _⟩
      obtain ⟨b, off, rfl, hd⟩ := HD.out (by omega)
      have c0 := hd i z hz
      have hf := idxQ_step (Q := fun z => x == z) hz hlt
      have hi2 : (i : Int) < n := by omega
      clear hz hd
      cases e1 : (x == z)
      · simp only [e1, Bool.false_eq_true, if_false] at hf
        have HF2 := Lib.hid hf
        clear hf
        go_wp2_with fail
        go_roundg (gk - 1)
        case measure => omega
        case rel => exact ⟨i + 1, by go_num, by omega, rfl, by unfold Hid; rw [← HF2.out, HF.out]⟩
      · simp only [e1, if_true] at hf
        have HF2 := Lib.hid hf
        clear hf
        go_wp2_with fail
        go_ret
        exact ⟨by rw [HE.out, ← HF.out, HF2.out]; rfl, rfl⟩
    · have HE2 := Lib.hid (idxQ_end (Q := fun z => x == z) (xs := zs) (i := i) (n := n) (by omega))
      have hi2 : (n : Int) ≤ i := by omega
      go_wp2_with fail
      go_ret
      exact ⟨by rw [HE.out, ← HF.out, HE2.out]; rfl, rfl⟩
set_option maxHeartbeats 1000000 in
set_option maxRecDepth 100000 in
theorem containsZ_c (zs : List Int) (n : Nat) (p : Option Addr) (cap : Nat) (x : Int) (w : World) (hn : n ≤ zs.length) (h1 : n ≤ 1000)
    (hd : 0 < n → ∃ b off, p = some ⟨b, off, none⟩ ∧ ∀ (i : Nat) (z : Int), zs[i]? = some z → w.cell? ⟨b, off + i, none⟩ = some (.int .i64 z)) :
    Calls Tryz.prog 119 #[.slice p n cap, .int .i64 x] w fun e w' => e = .returned (.bool ((zs.take n).any fun z => x == z)) ∧ w = w' := by
  have HI := Lib.hid (indexZ_c zs n p cap x w hn h1 hd)
  have HE : Hid (((zs.take n).any fun z => x == z) = decide (0 ≤ idxQ (fun z => x == z) zs n 0)) := by
    unfold Hid
    rw [idxQ_any (fun z => x == z) zs n 0 (by omega), List.drop_zero]
  clear hd
  generalize idxQ (fun z => x == z) zs n 0 = z at *
  go_enter Tryz.func119, Tryz.ntmps119
  go_wp2_with fail
  refine HI.out.mono ?_
  rintro e w4 ⟨rfl, rfl⟩
  go_wp2_with fail
  go_ret
  exact ⟨by rw [HE.out]; rfl, rfl⟩
end Go.Proofs.YtcnpmebihdonoaaGreatDoor
namespace Go.Proofs.YtcnpmebihdonoaaGreatDoor
open Go.RowKit Go.Lib
set_option linter.unusedSimpArgs false
set_option linter.unusedVariables false
/-- the first error of integers, each by its place -/
def eachI (E : Nat → Int → Int) : List Int → Nat → Int
  | [], _ => 0
  | x :: l, k => if E k x = 0 then eachI E l (k + 1) else E k x
theorem eachI_step {E : Nat → Int → Int} {xs : List Int} {i : Nat} {x : Int} (h : xs[i]? = some x) : eachI E (xs.drop i) i = if E i x = 0 then eachI E (xs.drop (i + 1)) (i + 1) else E i x := by
  obtain ⟨hi, rfl⟩ := List.getElem?_eq_some_iff.1 h
  rw [List.drop_eq_getElem_cons hi]
  rfl
theorem eachI_end {E : Nat → Int → Int} {xs : List Int} {i : Nat} (h : xs.length ≤ i) : eachI E (xs.drop i) i = 0 := by
  rw [List.drop_of_length_le h]
  rfl
theorem eachI_zero {E : Nat → Int → Int} : ∀ {xs : List Int} {k : Nat}, eachI E xs k = 0 → ∀ (i : Nat) (x : Int), xs[i]? = some x → E (k + i) x = 0
  | [], _, _, i, x, hx => by simp at hx
  | y :: l, k, h, i, x, hx => by
    unfold eachI at h
    split at h
    · rename_i hy
      match i, hx with
      | 0, hx => simp at hx; subst hx; exact hy
      | i + 1, hx =>
        have := eachI_zero h i x (by simpa using hx)
        rw [show k + (i + 1) = k + 1 + i by omega]
        exact this
    · rename_i hy
      exact absurd h hy
/-- the error of a number that stood before -/
def twE (a : List Int) (i : Nat) (x : Int) : Int := if (a.take i).any fun z => x == z then 9 else 0
/-- the error of a number in an order of n -/
def ordE (n : Int) (a : List Int) (i : Nat) (x : Int) : Int := firstE [if decide (x < 0) || decide (n ≤ x) then 10 else 0, twE a i x]
set_option maxHeartbeats 1000000 in
set_option maxRecDepth 100000 in
theorem twice_c (a : List Int) (n b off cap i : Nat) (x : Int) (w : World) (hn : a.length = n) (h1 : n ≤ 1000) (hcap : n ≤ cap) (hc : ∀ (i : Nat) (z : Int), a[i]? = some z → w.cell? ⟨b, off + i, none⟩ = some (.int .i64 z)) (hx : a[i]? = some x) :
    Calls Tryz.prog 76 #[.slice (some ⟨b, off, none⟩) n cap, .int .i64 (i : Int)] w fun e w' => e = .returned (.int .i64 (twE a i x)) ∧ Gr w w' := by
  have hin := (List.getElem?_eq_some_iff.1 hx).1
  have HCN := Lib.hid (fun W (g : Gr w W) => containsZ_c a i (some ⟨b, off, none⟩) cap x W (by omega) (by omega) (fun _ => ⟨b, off, rfl, fun i z hz => g.cell (hc i z hz)⟩))
  have hR : twE a i x = if (a.take i).any fun z => x == z then 9 else 0 := rfl
  generalize ((a.take i).any fun z => x == z) = tw at *
  obtain ⟨z, hz, H2⟩ := if_e tw 9
  rw [hR, ← hz]
  replace H2 := Lib.hid H2
  have g := (Gr.refl w).drew
  have c0 := g.cell (hc i x hx)
  have hi2 : (i : Int) < n := by omega
  have hi3 : i ≤ cap := by omega
  have hi4 : (i : Int) ≤ cap := by omega
  have hi5 : i < n := by omega
  clear hc hx hR hz hn
  go_enter Tryz.func76, Tryz.ntmps76
  go_wp2_with fail
  refine wp_region_held_drew (S := (fun w' => w'.cell? ⟨b, off + i, none⟩ = some (.int .i64 x))) (by kernel_rfl) c0 (fun hHeld => ?_)
  generalize w.drew = V at *
  refine wpAnyH_take (i := 0) (v := (.slice (some ⟨b, off, none⟩) n cap)) (op_at rfl) (by kernel_rfl) (by kernel_rfl) (by kernel_rfl) (fun _ _ _ h => h) (Or.inl ⟨rfl, fun w hSw => ?_⟩) (by assumption) ?_
  · (try dsimp only at hSw); go_simp; try with_reducible rfl
  (try simp only [Act.put, List.setIfInBounds_toArray, List.set_cons_zero, List.set_cons_succ])
  refine wpAnyH_take (i := 1) (v := (.int .i64 (i : Int))) (op_at rfl) (by kernel_rfl) (by kernel_rfl) (by kernel_rfl) (fun _ _ _ h => h) (Or.inl ⟨rfl, fun w hSw => ?_⟩) (by assumption) ?_
  · (try dsimp only at hSw); go_simp; try with_reducible rfl
  (try simp only [Act.put, List.setIfInBounds_toArray, List.set_cons_zero, List.set_cons_succ])
  refine wpAnyH_take (i := 2) (v := (.slice (some ⟨b, off, none⟩) i cap)) (op_at rfl) (by kernel_rfl) (by kernel_rfl) (by kernel_rfl) (fun _ _ _ h => h) (Or.inl ⟨rfl, fun w hSw => ?_⟩) (by assumption) ?_
  · (try dsimp only at hSw); go_simp; try with_reducible rfl
  (try simp only [Act.put, List.setIfInBounds_toArray, List.set_cons_zero, List.set_cons_succ])
  refine wpAnyH_take (i := 3) (v := (.slice (some ⟨b, off, none⟩) n cap)) (op_at rfl) (by kernel_rfl) (by kernel_rfl) (by kernel_rfl) (fun _ _ _ h => h) (Or.inl ⟨rfl, fun w hSw => ?_⟩) (by assumption) ?_
  · (try dsimp only at hSw); go_simp; try with_reducible rfl
  (try simp only [Act.put, List.setIfInBounds_toArray, List.set_cons_zero, List.set_cons_succ])
  refine wpAnyH_take (i := 4) (v := (.int .i64 (i : Int))) (op_at rfl) (by kernel_rfl) (by kernel_rfl) (by kernel_rfl) (fun _ _ _ h => h) (Or.inl ⟨rfl, fun w hSw => ?_⟩) (by assumption) ?_
  · (try dsimp only at hSw); go_simp; try with_reducible rfl
  (try simp only [Act.put, List.setIfInBounds_toArray, List.set_cons_zero, List.set_cons_succ])
  refine wpAnyH_take (i := 5) (v := (.pointer (some ⟨b, off + i, none⟩))) (op_at rfl) (by kernel_rfl) (by kernel_rfl) (by kernel_rfl) (fun _ _ _ h => h) (Or.inl ⟨rfl, fun w hSw => ?_⟩) (by assumption) ?_
  · (try dsimp only at hSw); go_simp; try with_reducible rfl
  (try simp only [Act.put, List.setIfInBounds_toArray, List.set_cons_zero, List.set_cons_succ])
  refine wpAnyH_take (i := 6) (v := (.int .i64 x)) (op_at rfl) (by kernel_rfl) (by kernel_rfl) (by kernel_rfl) (fun _ _ _ h => h) (Or.inl ⟨rfl, fun w hSw => ?_⟩) (by assumption) ?_
  · (try dsimp only at hSw); go_simp; try with_reducible rfl
  (try simp only [Act.put, List.setIfInBounds_toArray, List.set_cons_zero, List.set_cons_succ])
  refine wpAnyH_ready (rs := [7]) (by kernel_rfl) (by simp) (AllReadyH.cons (op_at rfl) (fun K hK => ?_) AllReadyH.nil)
  go_simp
  (refine (HCN.out _ g).mono ?_; rintro e w' ⟨rfl, rfl⟩)
  go_wp2_with fail
  refine hK.out _ _ c0 (fun hHeld => ?_)
  clear hK K
  (try simp only [Act.put, List.setIfInBounds_toArray, List.set_cons_zero, List.set_cons_succ])
  refine wpAnyH_ready (rs := [8]) (by kernel_rfl) (by simp) (AllReadyH.cons (op_at rfl) (fun K hK => ?_) AllReadyH.nil)
  go_simp
  (refine (H2.out _).mono ?_; rintro e w' ⟨rfl, rfl⟩)
  go_wp2_with fail
  refine hK.out _ _ c0 (fun hHeld => ?_)
  clear hK K
  (try simp only [Act.put, List.setIfInBounds_toArray, List.set_cons_zero, List.set_cons_succ])
  refine wpAnyH_take (i := 9) (v := (.int .i64 z)) (op_at rfl) (by kernel_rfl) (by kernel_rfl) (by kernel_rfl) (fun _ _ _ h => h) (Or.inl ⟨rfl, fun w hSw => ?_⟩) (by assumption) ?_
  · (try dsimp only at hSw); go_simp; try with_reducible rfl
  (try simp only [Act.put, List.setIfInBounds_toArray, List.set_cons_zero, List.set_cons_succ])
  refine wpAnyH_done (by kernel_rfl) ?_ _
  go_wp2_with fail
  go_ret
  exact ⟨rfl, g⟩
set_option maxHeartbeats 1000000 in
set_option maxRecDepth 100000 in
theorem ordOne_c (a : List Int) (n b off cap i B C : Nat) (mm x : Int) (w : World) (hn : a.length = n) (h1 : n ≤ 1000) (hcap : n ≤ cap) (hc : ∀ (i : Nat) (z : Int), a[i]? = some z → w.cell? ⟨b, off + i, none⟩ = some (.int .i64 z)) (hx : a[i]? = some x)
    (hB : w.cell? ⟨B, 0, none⟩ = some (.int .i64 mm)) (hC : w.cell? ⟨C, 0, none⟩ = some (.slice (some ⟨b, off, none⟩) n cap)) :
    Calls Tryz.prog 83 #[.int .i64 (i : Int), .int .i64 x, .pointer (some ⟨B, 0, none⟩), .pointer (some ⟨C, 0, none⟩)] w fun e w' => e = .returned (.int .i64 (ordE mm a i x)) ∧ Gr w w' := by
  have hR : firstE [if decide (x < 0) || decide (mm ≤ x) then 10 else 0, twE a i x] = ordE mm a i x := rfl
  have HT := Lib.hid (fun W (g : Gr w W) => twice_c a n b off cap i x W hn h1 hcap (fun i z hz => g.cell (hc i z hz)) hx)
  obtain ⟨e2, he2⟩ : ∃ z, z = twE a i x := ⟨_, rfl⟩
  rw [← he2] at HT hR
  obtain ⟨e1, he1, H1⟩ := if_e (decide (x < 0) || decide (mm ≤ x)) 10
  rw [← he1] at hR
  have hF := first_pair e1 e2
  rw [hR] at hF
  generalize ordE mm a i x = err at *
  have HF := Lib.hid hF
  replace H1 := Lib.hid H1
  have g := (Gr.refl w).drew
  have n0 := g.cell hB
  have a0 := g.cell hC
  clear hc hx hR he1 he2 hF hB hC hn
  by_cases hx0 : x < 0
  · rw [decide_eq_true hx0, Bool.true_or] at H1
    go_enter Tryz.func83, Tryz.ntmps83
    go_wp2_with fail
    refine wp_region_held_drew (S := (fun w' => w'.cell? ⟨B, 0, none⟩ = some (.int .i64 mm) ∧ w'.cell? ⟨C, 0, none⟩ = some (.slice (some ⟨b, off, none⟩) n cap))) (by kernel_rfl) ⟨n0, a0⟩ (fun hHeld => ?_)
    generalize w.drew = V at *
    refine wpAnyH_take (i := 0) (v := (.int .i64 x)) (op_at rfl) (by kernel_rfl) (by kernel_rfl) (by kernel_rfl) (fun _ _ _ h => h) (Or.inl ⟨rfl, fun w hSw => ?_⟩) (by assumption) ?_
    · (try dsimp only at hSw); go_simp; try with_reducible rfl
    (try simp only [Act.put, List.setIfInBounds_toArray, List.set_cons_zero, List.set_cons_succ])
    refine wpAnyH_take (i := 1) (v := (.bool true)) (op_at rfl) (by kernel_rfl) (by kernel_rfl) (by kernel_rfl) (fun _ _ _ h => h) (Or.inl ⟨rfl, fun w hSw => ?_⟩) (by assumption) ?_
    · (try dsimp only at hSw); go_simp; try with_reducible rfl
    (try simp only [Act.put, List.setIfInBounds_toArray, List.set_cons_zero, List.set_cons_succ])
    refine wpAnyH_take (i := 2) (v := (.bool true)) (op_at rfl) (by kernel_rfl) (by kernel_rfl) (by kernel_rfl) (fun _ _ _ h => h) (Or.inl ⟨rfl, fun w hSw => ?_⟩) (by assumption) ?_
    · (try dsimp only at hSw); go_simp; try with_reducible rfl
    (try simp only [Act.put, List.setIfInBounds_toArray, List.set_cons_zero, List.set_cons_succ])
    refine wpAnyH_take (i := 3) (v := undef) (op_at rfl) (by kernel_rfl) (by kernel_rfl) (by kernel_rfl) (fun _ _ _ h => h) (Or.inr ⟨rfl, rfl⟩) (by assumption) ?_
    (try simp only [Act.put, List.setIfInBounds_toArray, List.set_cons_zero, List.set_cons_succ])
    refine wpAnyH_take (i := 4) (v := undef) (op_at rfl) (by kernel_rfl) (by kernel_rfl) (by kernel_rfl) (fun _ _ _ h => h) (Or.inr ⟨rfl, rfl⟩) (by assumption) ?_
    (try simp only [Act.put, List.setIfInBounds_toArray, List.set_cons_zero, List.set_cons_succ])
    refine wpAnyH_take (i := 5) (v := undef) (op_at rfl) (by kernel_rfl) (by kernel_rfl) (by kernel_rfl) (fun _ _ _ h => h) (Or.inr ⟨rfl, rfl⟩) (by assumption) ?_
    (try simp only [Act.put, List.setIfInBounds_toArray, List.set_cons_zero, List.set_cons_succ])
    refine wpAnyH_take (i := 6) (v := (.bool true)) (op_at rfl) (by kernel_rfl) (by kernel_rfl) (by kernel_rfl) (fun _ _ _ h => h) (Or.inl ⟨rfl, fun w hSw => ?_⟩) (by assumption) ?_
    · (try dsimp only at hSw); go_simp; try with_reducible rfl
    (try simp only [Act.put, List.setIfInBounds_toArray, List.set_cons_zero, List.set_cons_succ])
    refine wpAnyH_take (i := 8) (v := (.slice (some ⟨b, off, none⟩) n cap)) (op_at rfl) (by kernel_rfl) (by kernel_rfl) (by kernel_rfl) (fun _ _ _ h => h) (Or.inl ⟨rfl, fun w hSw => ?_⟩) (by assumption) ?_
    · (try dsimp only at hSw); go_simp; try with_reducible rfl
    (try simp only [Act.put, List.setIfInBounds_toArray, List.set_cons_zero, List.set_cons_succ])
    refine wpAnyH_take (i := 9) (v := (.int .i64 (i : Int))) (op_at rfl) (by kernel_rfl) (by kernel_rfl) (by kernel_rfl) (fun _ _ _ h => h) (Or.inl ⟨rfl, fun w hSw => ?_⟩) (by assumption) ?_
    · (try dsimp only at hSw); go_simp; try with_reducible rfl
    (try simp only [Act.put, List.setIfInBounds_toArray, List.set_cons_zero, List.set_cons_succ])
    refine wpAnyH_ready (rs := [7]) (by kernel_rfl) (by simp) (AllReadyH.cons (op_at rfl) (fun K hK => ?_) AllReadyH.nil)
    go_simp
    (refine (H1.out _).mono ?_; rintro e w' ⟨rfl, rfl⟩)
    go_wp2_with fail
    refine hK.out _ _ ⟨n0, a0⟩ (fun hHeld => ?_)
    clear hK K
    (try simp only [Act.put, List.setIfInBounds_toArray, List.set_cons_zero, List.set_cons_succ])
    refine wpAnyH_ready (rs := [10]) (by kernel_rfl) (by simp) (AllReadyH.cons (op_at rfl) (fun K hK => ?_) AllReadyH.nil)
    go_simp
    (refine (HT.out _ g).mono ?_; rintro e W2 ⟨rfl, hg⟩; replace n0 := hg.cell n0; replace a0 := hg.cell a0; replace g := g.trans hg; clear hg)
    go_wp2_with fail
    refine hK.out _ _ ⟨n0, a0⟩ (fun hHeld => ?_)
    clear hK K
    (try simp only [Act.put, List.setIfInBounds_toArray, List.set_cons_zero, List.set_cons_succ])
    refine wpAnyH_ready (rs := [11]) (by kernel_rfl) (by simp) (AllReadyH.cons (op_at rfl) (fun K hK => ?_) AllReadyH.nil)
    go_simp
    obtain ⟨WW, hWW, gW, s0, s1⟩ := box2 W2 (.int .i64 e1) (.int .i64 e2) 28
    rw [hWW]
    clear hWW
    replace n0 := gW.cell n0
    replace a0 := gW.cell a0
    replace g := g.trans gW
    refine hK.out _ _ ⟨n0, a0⟩ (fun hHeld => ?_)
    clear hK K
    (try simp only [Act.put, List.setIfInBounds_toArray, List.set_cons_zero, List.set_cons_succ])
    refine wpAnyH_ready (rs := [12]) (by kernel_rfl) (by simp) (AllReadyH.cons (op_at rfl) (fun K hK => ?_) AllReadyH.nil)
    go_simp
    (refine (HF.out _ _ WW s0 s1).mono ?_; rintro e w8 ⟨rfl, rfl⟩)
    go_wp2_with fail
    refine hK.out _ _ ⟨n0, a0⟩ (fun hHeld => ?_)
    clear hK K
    (try simp only [Act.put, List.setIfInBounds_toArray, List.set_cons_zero, List.set_cons_succ])
    refine wpAnyH_take (i := 13) (v := (.int .i64 err)) (op_at rfl) (by kernel_rfl) (by kernel_rfl) (by kernel_rfl) (fun _ _ _ h => h) (Or.inl ⟨rfl, fun w hSw => ?_⟩) (by assumption) ?_
    · (try dsimp only at hSw); go_simp; try with_reducible rfl
    (try simp only [Act.put, List.setIfInBounds_toArray, List.set_cons_zero, List.set_cons_succ])
    refine wpAnyH_done (by kernel_rfl) ?_ _
    go_wp2_with fail
    go_ret
    exact ⟨rfl, g⟩
  · rw [decide_eq_false hx0, Bool.false_or] at H1
    have hx1 : 0 ≤ x := by omega
    by_cases hx2 : mm ≤ x
    · rw [decide_eq_true hx2] at H1
      go_enter Tryz.func83, Tryz.ntmps83
      go_wp2_with fail
      refine wp_region_held_drew (S := (fun w' => w'.cell? ⟨B, 0, none⟩ = some (.int .i64 mm) ∧ w'.cell? ⟨C, 0, none⟩ = some (.slice (some ⟨b, off, none⟩) n cap))) (by kernel_rfl) ⟨n0, a0⟩ (fun hHeld => ?_)
      generalize w.drew = V at *
      refine wpAnyH_take (i := 0) (v := (.int .i64 x)) (op_at rfl) (by kernel_rfl) (by kernel_rfl) (by kernel_rfl) (fun _ _ _ h => h) (Or.inl ⟨rfl, fun w hSw => ?_⟩) (by assumption) ?_
      · (try dsimp only at hSw); go_simp; try with_reducible rfl
      (try simp only [Act.put, List.setIfInBounds_toArray, List.set_cons_zero, List.set_cons_succ])
      refine wpAnyH_take (i := 1) (v := (.bool false)) (op_at rfl) (by kernel_rfl) (by kernel_rfl) (by kernel_rfl) (fun _ _ _ h => h) (Or.inl ⟨rfl, fun w hSw => ?_⟩) (by assumption) ?_
      · (try dsimp only at hSw); go_simp; try with_reducible rfl
      (try simp only [Act.put, List.setIfInBounds_toArray, List.set_cons_zero, List.set_cons_succ])
      refine wpAnyH_take (i := 2) (v := (.bool false)) (op_at rfl) (by kernel_rfl) (by kernel_rfl) (by kernel_rfl) (fun _ _ _ h => h) (Or.inl ⟨rfl, fun w hSw => ?_⟩) (by assumption) ?_
      · (try dsimp only at hSw); go_simp; try with_reducible rfl
      (try simp only [Act.put, List.setIfInBounds_toArray, List.set_cons_zero, List.set_cons_succ])
      refine wpAnyH_take (i := 3) (v := (.int .i64 x)) (op_at rfl) (by kernel_rfl) (by kernel_rfl) (by kernel_rfl) (fun _ _ _ h => h) (Or.inl ⟨rfl, fun w hSw => ?_⟩) (by assumption) ?_
      · (try dsimp only at hSw); go_simp; try with_reducible rfl
      (try simp only [Act.put, List.setIfInBounds_toArray, List.set_cons_zero, List.set_cons_succ])
      refine wpAnyH_take (i := 4) (v := (.int .i64 mm)) (op_at rfl) (by kernel_rfl) (by kernel_rfl) (by kernel_rfl) (fun _ _ _ h => h) (Or.inl ⟨rfl, fun w hSw => ?_⟩) (by assumption) ?_
      · (try dsimp only at hSw); go_simp; try with_reducible rfl
      (try simp only [Act.put, List.setIfInBounds_toArray, List.set_cons_zero, List.set_cons_succ])
      refine wpAnyH_take (i := 5) (v := (.bool true)) (op_at rfl) (by kernel_rfl) (by kernel_rfl) (by kernel_rfl) (fun _ _ _ h => h) (Or.inl ⟨rfl, fun w hSw => ?_⟩) (by assumption) ?_
      · (try dsimp only at hSw); go_simp; try with_reducible rfl
      (try simp only [Act.put, List.setIfInBounds_toArray, List.set_cons_zero, List.set_cons_succ])
      refine wpAnyH_take (i := 6) (v := (.bool true)) (op_at rfl) (by kernel_rfl) (by kernel_rfl) (by kernel_rfl) (fun _ _ _ h => h) (Or.inl ⟨rfl, fun w hSw => ?_⟩) (by assumption) ?_
      · (try dsimp only at hSw); go_simp; try with_reducible rfl
      (try simp only [Act.put, List.setIfInBounds_toArray, List.set_cons_zero, List.set_cons_succ])
      refine wpAnyH_take (i := 8) (v := (.slice (some ⟨b, off, none⟩) n cap)) (op_at rfl) (by kernel_rfl) (by kernel_rfl) (by kernel_rfl) (fun _ _ _ h => h) (Or.inl ⟨rfl, fun w hSw => ?_⟩) (by assumption) ?_
      · (try dsimp only at hSw); go_simp; try with_reducible rfl
      (try simp only [Act.put, List.setIfInBounds_toArray, List.set_cons_zero, List.set_cons_succ])
      refine wpAnyH_take (i := 9) (v := (.int .i64 (i : Int))) (op_at rfl) (by kernel_rfl) (by kernel_rfl) (by kernel_rfl) (fun _ _ _ h => h) (Or.inl ⟨rfl, fun w hSw => ?_⟩) (by assumption) ?_
      · (try dsimp only at hSw); go_simp; try with_reducible rfl
      (try simp only [Act.put, List.setIfInBounds_toArray, List.set_cons_zero, List.set_cons_succ])
      refine wpAnyH_ready (rs := [7]) (by kernel_rfl) (by simp) (AllReadyH.cons (op_at rfl) (fun K hK => ?_) AllReadyH.nil)
      go_simp
      (refine (H1.out _).mono ?_; rintro e w' ⟨rfl, rfl⟩)
      go_wp2_with fail
      refine hK.out _ _ ⟨n0, a0⟩ (fun hHeld => ?_)
      clear hK K
      (try simp only [Act.put, List.setIfInBounds_toArray, List.set_cons_zero, List.set_cons_succ])
      refine wpAnyH_ready (rs := [10]) (by kernel_rfl) (by simp) (AllReadyH.cons (op_at rfl) (fun K hK => ?_) AllReadyH.nil)
      go_simp
      (refine (HT.out _ g).mono ?_; rintro e W2 ⟨rfl, hg⟩; replace n0 := hg.cell n0; replace a0 := hg.cell a0; replace g := g.trans hg; clear hg)
      go_wp2_with fail
      refine hK.out _ _ ⟨n0, a0⟩ (fun hHeld => ?_)
      clear hK K
      (try simp only [Act.put, List.setIfInBounds_toArray, List.set_cons_zero, List.set_cons_succ])
      refine wpAnyH_ready (rs := [11]) (by kernel_rfl) (by simp) (AllReadyH.cons (op_at rfl) (fun K hK => ?_) AllReadyH.nil)
      go_simp
      obtain ⟨WW, hWW, gW, s0, s1⟩ := box2 W2 (.int .i64 e1) (.int .i64 e2) 28
      rw [hWW]
      clear hWW
      replace n0 := gW.cell n0
      replace a0 := gW.cell a0
      replace g := g.trans gW
      refine hK.out _ _ ⟨n0, a0⟩ (fun hHeld => ?_)
      clear hK K
      (try simp only [Act.put, List.setIfInBounds_toArray, List.set_cons_zero, List.set_cons_succ])
      refine wpAnyH_ready (rs := [12]) (by kernel_rfl) (by simp) (AllReadyH.cons (op_at rfl) (fun K hK => ?_) AllReadyH.nil)
      go_simp
      (refine (HF.out _ _ WW s0 s1).mono ?_; rintro e w8 ⟨rfl, rfl⟩)
      go_wp2_with fail
      refine hK.out _ _ ⟨n0, a0⟩ (fun hHeld => ?_)
      clear hK K
      (try simp only [Act.put, List.setIfInBounds_toArray, List.set_cons_zero, List.set_cons_succ])
      refine wpAnyH_take (i := 13) (v := (.int .i64 err)) (op_at rfl) (by kernel_rfl) (by kernel_rfl) (by kernel_rfl) (fun _ _ _ h => h) (Or.inl ⟨rfl, fun w hSw => ?_⟩) (by assumption) ?_
      · (try dsimp only at hSw); go_simp; try with_reducible rfl
      (try simp only [Act.put, List.setIfInBounds_toArray, List.set_cons_zero, List.set_cons_succ])
      refine wpAnyH_done (by kernel_rfl) ?_ _
      go_wp2_with fail
      go_ret
      exact ⟨rfl, g⟩
    · rw [decide_eq_false hx2] at H1
      have hx3 : x < mm := by omega
      go_enter Tryz.func83, Tryz.ntmps83
      go_wp2_with fail
      refine wp_region_held_drew (S := (fun w' => w'.cell? ⟨B, 0, none⟩ = some (.int .i64 mm) ∧ w'.cell? ⟨C, 0, none⟩ = some (.slice (some ⟨b, off, none⟩) n cap))) (by kernel_rfl) ⟨n0, a0⟩ (fun hHeld => ?_)
      generalize w.drew = V at *
      refine wpAnyH_take (i := 0) (v := (.int .i64 x)) (op_at rfl) (by kernel_rfl) (by kernel_rfl) (by kernel_rfl) (fun _ _ _ h => h) (Or.inl ⟨rfl, fun w hSw => ?_⟩) (by assumption) ?_
      · (try dsimp only at hSw); go_simp; try with_reducible rfl
      (try simp only [Act.put, List.setIfInBounds_toArray, List.set_cons_zero, List.set_cons_succ])
      refine wpAnyH_take (i := 1) (v := (.bool false)) (op_at rfl) (by kernel_rfl) (by kernel_rfl) (by kernel_rfl) (fun _ _ _ h => h) (Or.inl ⟨rfl, fun w hSw => ?_⟩) (by assumption) ?_
      · (try dsimp only at hSw); go_simp; try with_reducible rfl
      (try simp only [Act.put, List.setIfInBounds_toArray, List.set_cons_zero, List.set_cons_succ])
      refine wpAnyH_take (i := 2) (v := (.bool false)) (op_at rfl) (by kernel_rfl) (by kernel_rfl) (by kernel_rfl) (fun _ _ _ h => h) (Or.inl ⟨rfl, fun w hSw => ?_⟩) (by assumption) ?_
      · (try dsimp only at hSw); go_simp; try with_reducible rfl
      (try simp only [Act.put, List.setIfInBounds_toArray, List.set_cons_zero, List.set_cons_succ])
      refine wpAnyH_take (i := 3) (v := (.int .i64 x)) (op_at rfl) (by kernel_rfl) (by kernel_rfl) (by kernel_rfl) (fun _ _ _ h => h) (Or.inl ⟨rfl, fun w hSw => ?_⟩) (by assumption) ?_
      · (try dsimp only at hSw); go_simp; try with_reducible rfl
      (try simp only [Act.put, List.setIfInBounds_toArray, List.set_cons_zero, List.set_cons_succ])
      refine wpAnyH_take (i := 4) (v := (.int .i64 mm)) (op_at rfl) (by kernel_rfl) (by kernel_rfl) (by kernel_rfl) (fun _ _ _ h => h) (Or.inl ⟨rfl, fun w hSw => ?_⟩) (by assumption) ?_
      · (try dsimp only at hSw); go_simp; try with_reducible rfl
      (try simp only [Act.put, List.setIfInBounds_toArray, List.set_cons_zero, List.set_cons_succ])
      refine wpAnyH_take (i := 5) (v := (.bool false)) (op_at rfl) (by kernel_rfl) (by kernel_rfl) (by kernel_rfl) (fun _ _ _ h => h) (Or.inl ⟨rfl, fun w hSw => ?_⟩) (by assumption) ?_
      · (try dsimp only at hSw); go_simp; try with_reducible rfl
      (try simp only [Act.put, List.setIfInBounds_toArray, List.set_cons_zero, List.set_cons_succ])
      refine wpAnyH_take (i := 6) (v := (.bool false)) (op_at rfl) (by kernel_rfl) (by kernel_rfl) (by kernel_rfl) (fun _ _ _ h => h) (Or.inl ⟨rfl, fun w hSw => ?_⟩) (by assumption) ?_
      · (try dsimp only at hSw); go_simp; try with_reducible rfl
      (try simp only [Act.put, List.setIfInBounds_toArray, List.set_cons_zero, List.set_cons_succ])
      refine wpAnyH_take (i := 8) (v := (.slice (some ⟨b, off, none⟩) n cap)) (op_at rfl) (by kernel_rfl) (by kernel_rfl) (by kernel_rfl) (fun _ _ _ h => h) (Or.inl ⟨rfl, fun w hSw => ?_⟩) (by assumption) ?_
      · (try dsimp only at hSw); go_simp; try with_reducible rfl
      (try simp only [Act.put, List.setIfInBounds_toArray, List.set_cons_zero, List.set_cons_succ])
      refine wpAnyH_take (i := 9) (v := (.int .i64 (i : Int))) (op_at rfl) (by kernel_rfl) (by kernel_rfl) (by kernel_rfl) (fun _ _ _ h => h) (Or.inl ⟨rfl, fun w hSw => ?_⟩) (by assumption) ?_
      · (try dsimp only at hSw); go_simp; try with_reducible rfl
      (try simp only [Act.put, List.setIfInBounds_toArray, List.set_cons_zero, List.set_cons_succ])
      refine wpAnyH_ready (rs := [7]) (by kernel_rfl) (by simp) (AllReadyH.cons (op_at rfl) (fun K hK => ?_) AllReadyH.nil)
      go_simp
      (refine (H1.out _).mono ?_; rintro e w' ⟨rfl, rfl⟩)
      go_wp2_with fail
      refine hK.out _ _ ⟨n0, a0⟩ (fun hHeld => ?_)
      clear hK K
      (try simp only [Act.put, List.setIfInBounds_toArray, List.set_cons_zero, List.set_cons_succ])
      refine wpAnyH_ready (rs := [10]) (by kernel_rfl) (by simp) (AllReadyH.cons (op_at rfl) (fun K hK => ?_) AllReadyH.nil)
      go_simp
      (refine (HT.out _ g).mono ?_; rintro e W2 ⟨rfl, hg⟩; replace n0 := hg.cell n0; replace a0 := hg.cell a0; replace g := g.trans hg; clear hg)
      go_wp2_with fail
      refine hK.out _ _ ⟨n0, a0⟩ (fun hHeld => ?_)
      clear hK K
      (try simp only [Act.put, List.setIfInBounds_toArray, List.set_cons_zero, List.set_cons_succ])
      refine wpAnyH_ready (rs := [11]) (by kernel_rfl) (by simp) (AllReadyH.cons (op_at rfl) (fun K hK => ?_) AllReadyH.nil)
      go_simp
      obtain ⟨WW, hWW, gW, s0, s1⟩ := box2 W2 (.int .i64 e1) (.int .i64 e2) 28
      rw [hWW]
      clear hWW
      replace n0 := gW.cell n0
      replace a0 := gW.cell a0
      replace g := g.trans gW
      refine hK.out _ _ ⟨n0, a0⟩ (fun hHeld => ?_)
      clear hK K
      (try simp only [Act.put, List.setIfInBounds_toArray, List.set_cons_zero, List.set_cons_succ])
      refine wpAnyH_ready (rs := [12]) (by kernel_rfl) (by simp) (AllReadyH.cons (op_at rfl) (fun K hK => ?_) AllReadyH.nil)
      go_simp
      (refine (HF.out _ _ WW s0 s1).mono ?_; rintro e w8 ⟨rfl, rfl⟩)
      go_wp2_with fail
      refine hK.out _ _ ⟨n0, a0⟩ (fun hHeld => ?_)
      clear hK K
      (try simp only [Act.put, List.setIfInBounds_toArray, List.set_cons_zero, List.set_cons_succ])
      refine wpAnyH_take (i := 13) (v := (.int .i64 err)) (op_at rfl) (by kernel_rfl) (by kernel_rfl) (by kernel_rfl) (fun _ _ _ h => h) (Or.inl ⟨rfl, fun w hSw => ?_⟩) (by assumption) ?_
      · (try dsimp only at hSw); go_simp; try with_reducible rfl
      (try simp only [Act.put, List.setIfInBounds_toArray, List.set_cons_zero, List.set_cons_succ])
      refine wpAnyH_done (by kernel_rfl) ?_ _
      go_wp2_with fail
      go_ret
      exact ⟨rfl, g⟩
set_option maxHeartbeats 1000000 in
set_option maxRecDepth 100000 in
theorem findOrd_c (E : Nat → Int → Int) (xs : List Int) (n : Nat) (p : Option Addr) (cap : Nat) (B C : Nat) (w : World) (hn : xs.length = n) (h1 : n ≤ 1000)
    (hd : 0 < n → ∃ b off, p = some ⟨b, off, none⟩ ∧ ∀ i y, xs[i]? = some y → w.cell? ⟨b, off + i, none⟩ = some (.int .i64 y))
    (hE : ∀ (i : Nat) (x : Int) W, xs[i]? = some x → Gr w W → Calls Tryz.prog 83 #[.int .i64 (i : Int), .int .i64 x, .pointer (some ⟨B, 0, none⟩), .pointer (some ⟨C, 0, none⟩)] W fun e w' => e = .returned (.int .i64 (E i x)) ∧ Gr W w') :
    Calls Tryz.prog 118 #[.slice p n cap, .func (.func 83) #[] #[.pointer (some ⟨B, 0, none⟩), .pointer (some ⟨C, 0, none⟩)]] w fun e w' => (∃ i : Int, e = .returned (.tuple #[.int .i64 i, .int .i64 (eachI E xs 0)])) ∧ Gr w w' := by
  have HN := Lib.hid hn
  have HD := Lib.hid hd
  have HO := Lib.hid hE
  clear hE hn hd
  go_enter Tryz.func118, Tryz.ntmps118
  go_wp2_with fail
  go_loopg [11] n (fun gk s11 wr => ∃ i : Nat, s11 = .int .i64 i ∧ gk + i = n ∧ Gr w wr ∧ Hid (eachI E (xs.drop i) i = eachI E xs 0))
  case atStart => exact ⟨0, rfl, by omega, Gr.refl _, by rw [Hid, List.drop_zero]⟩
  case round =>
    obtain ⟨i, rfl, hi, hg, HF⟩ := hrel
    by_cases hlt : i < n
    · obtain ⟨x, hx⟩ : ∃ x, xs[i]? = some x := ⟨xs[i]'(by have := HN.out; omega), List.getElem?_eq_getElem _⟩
      obtain ⟨b, off, rfl, hd⟩ := HD.out (by omega)
      have d0 := hg.cell (hd i x hx)
      have hi2 : (i : Int) < n := by omega
      have hf := eachI_step (E := E) hx
      have hT := fun W hg2 => HO.out i x W hx hg2
      clear hx hd
      by_cases h0 : E i x = 0
      · rw [h0] at hT hf
        rw [if_pos rfl] at hf
        have HT := Lib.hid hT
        have HF2 := Lib.hid hf
        clear hT hf h0
        go_wp2_with fail
        refine (HT.out _ hg).mono ?_
        rintro e w4 ⟨rfl, hg2⟩
        go_wp2_with fail
        go_roundg (gk - 1)
        case measure => omega
        case rel => exact ⟨i + 1, by go_num, by omega, hg.trans hg2, by unfold Hid; rw [← HF2.out, HF.out]⟩
      · rw [if_neg h0] at hf
        generalize E i x = z at *
        have q1 : (z == 0) = false := by simpa using h0
        have q2 : (z != 0) = true := by simpa [bne] using q1
        have HT := Lib.hid hT
        have HF2 := Lib.hid hf
        clear hT hf
        go_wp2_with fail
        refine (HT.out _ hg).mono ?_
        rintro e w4 ⟨rfl, hg2⟩
        go_wp2_with fail
        exact bodyPost_ret (v := .tuple #[.int .i64 i, .int .i64 z]) (by simp [results, Tryz.results118, go_sem]) rfl ⟨⟨i, by rw [← HF.out, HF2.out]⟩, hg.trans hg2⟩
    · have HE2 : Hid (eachI E (xs.drop i) i = 0) := eachI_end (by have := HN.out; omega)
      have hi2 : (n : Int) ≤ i := by omega
      go_wp2_with fail
      exact bodyPost_ret (v := .tuple #[.int .i64 0, .int .i64 0]) (by simp [results, Tryz.results118, go_sem]) rfl ⟨⟨0, by rw [← HF.out, HE2.out]⟩, hg⟩
set_option maxHeartbeats 1000000 in
set_option maxRecDepth 100000 in
theorem eachOrd_c (E : Nat → Int → Int) (xs : List Int) (n : Nat) (p : Option Addr) (cap : Nat) (B C : Nat) (w : World) (hn : xs.length = n) (h1 : n ≤ 1000)
    (hd : 0 < n → ∃ b off, p = some ⟨b, off, none⟩ ∧ ∀ i y, xs[i]? = some y → w.cell? ⟨b, off + i, none⟩ = some (.int .i64 y))
    (hE : ∀ (i : Nat) (x : Int) W, xs[i]? = some x → Gr w W → Calls Tryz.prog 83 #[.int .i64 (i : Int), .int .i64 x, .pointer (some ⟨B, 0, none⟩), .pointer (some ⟨C, 0, none⟩)] W fun e w' => e = .returned (.int .i64 (E i x)) ∧ Gr W w') :
    Calls Tryz.prog 74 #[.slice p n cap, .func (.func 83) #[] #[.pointer (some ⟨B, 0, none⟩), .pointer (some ⟨C, 0, none⟩)]] w fun e w' => e = .returned (.int .i64 (eachI E xs 0)) ∧ Gr w w' := by
  have HF := Lib.hid (findOrd_c E xs n p cap B C w hn h1 hd hE)
  generalize eachI E xs 0 = z at *
  clear hE hn hd
  go_enter Tryz.func74, Tryz.ntmps74
  go_wp2_with fail
  refine HF.out.mono ?_
  rintro e w4 ⟨⟨i, rfl⟩, hg⟩
  go_wp2_with fail
  go_ret
  exact ⟨rfl, hg⟩
/-- the error of an order of n -/
def ordersE (n : Int) (a : List Int) : Int := firstE [eachI (ordE n a) a 0, if decide ((a.length : Int) < n) then 7 else 0]
set_option maxHeartbeats 1000000 in
set_option maxRecDepth 100000 in
theorem checkOrder_c (a : List Int) (m cap : Nat) (p : Option Addr) (nn : Int) (w : World) (hn : a.length = m) (h1 : m ≤ 1000) (hcap : m ≤ cap)
    (hd : 0 < m → ∃ b off, p = some ⟨b, off, none⟩ ∧ ∀ (i : Nat) (z : Int), a[i]? = some z → w.cell? ⟨b, off + i, none⟩ = some (.int .i64 z)) :
    Calls Tryz.prog 42 #[.int .i64 nn, .slice p m cap] w fun e w' => e = .returned (.int .i64 (ordersE nn a)) ∧ Gr w w' := by
  have hR : firstE [eachI (ordE nn a) a 0, if decide ((a.length : Int) < nn) then 7 else 0] = ordersE nn a := rfl
  obtain ⟨W1, hW1, g1, n0⟩ := box1 w (.int .i64 nn) 3
  obtain ⟨W2, hW2, g2, a0⟩ := box1 W1 (.slice p m cap) 23
  have hsz : W1.heap.size = w.heap.size + 1 := by rw [← hW1]; simp
  replace n0 := g2.cell n0
  rw [hsz] at a0
  have g := g1.trans g2
  have HE := Lib.hid (eachOrd_c (ordE nn a) a m p cap w.heap.size (w.heap.size + 1) W2 hn h1 (fun h0 => by
    obtain ⟨b, off, e, hc⟩ := hd h0
    exact ⟨b, off, e, fun i y hy => g.cell (hc i y hy)⟩) (fun i x W hx hg => by
    obtain ⟨b, off, rfl, hc⟩ := hd (by have := (List.getElem?_eq_some_iff.1 hx).1; omega)
    exact ordOne_c a m b off cap i w.heap.size (w.heap.size + 1) nn x W hn h1 hcap (fun i z hz => (g.trans hg).cell (hc i z hz)) hx (hg.cell n0) (hg.cell a0)))
  obtain ⟨e1, he1⟩ : ∃ z, z = eachI (ordE nn a) a 0 := ⟨_, rfl⟩
  rw [← he1] at HE hR
  obtain ⟨e2, he2, H2⟩ := if_e (decide ((a.length : Int) < nn)) 7
  rw [← he2] at hR
  have hF := first_pair e1 e2
  rw [hR] at hF
  generalize ordersE nn a = err at *
  have HF := Lib.hid hF
  rw [hn] at H2
  replace H2 := Lib.hid H2
  clear hd hR he1 he2 hF hn g1 g2
  go_enter Tryz.func42, Tryz.ntmps42
  go_wp2_with fail
  clear hW1 hW2 hsz
  refine HE.out.mono ?_
  rintro e W3 ⟨rfl, hg⟩
  replace n0 := hg.cell n0
  replace a0 := hg.cell a0
  replace g := g.trans hg
  clear hg
  go_wp2_with fail
  refine (H2.out _).mono ?_
  rintro e w' ⟨rfl, rfl⟩
  go_wp2_with fail
  obtain ⟨WW, hWW, gW, s0, s1⟩ := box2 W3 (.int .i64 e1) (.int .i64 e2) 28
  rw [hWW]
  refine (HF.out _ _ WW s0 s1).mono ?_
  rintro e W8 ⟨rfl, rfl⟩
  go_wp2_with fail
  go_ret
  exact ⟨rfl, g.trans gW⟩
end Go.Proofs.YtcnpmebihdonoaaGreatDoor
namespace Go.Proofs.YtcnpmebihdonoaaGreatDoor
open Go.RowKit Go.Lib
set_option linter.unusedSimpArgs false
set_option linter.unusedVariables false
theorem infoB4 : (Tryz.prog.info? 4).map (fun i => (i.zero, i.size, i.bytes)) = some (some (.bool false), 1, 1) := by kernel_rfl
/-- n truth values -/
def boolsA (n : Nat) (f : Nat → Bool) : Array Value := ((List.range n).map fun j => Value.bool (f j)).toArray
theorem boolsA_size (n : Nat) (f : Nat → Bool) : (boolsA n f).size = n := by simp [boolsA]
theorem boolsA_at {n j : Nat} (f : Nat → Bool) (h : j < n) : (boolsA n f)[j]? = some (.bool (f j)) := by
  simp [boolsA, h]
theorem boolsA_zero (n : Nat) : Array.replicate n (Value.bool false) = boolsA n fun _ => false := by
  apply Array.ext'
  simp only [boolsA, Array.toList_replicate]
  rw [List.map_const', List.length_range]
theorem boolsA_set {n j : Nat} (f : Nat → Bool) : (boolsA n f).setIfInBounds j (.bool true) = boolsA n fun k => f k || decide (k = j) := by
  apply Array.ext'
  apply List.ext_getElem?
  intro k
  simp only [boolsA, List.setIfInBounds_toArray, List.getElem?_set, List.length_map, List.length_range, List.getElem?_map]
  by_cases h : j = k
  · subst h
    by_cases hj : j < n
    · simp [hj, List.getElem?_range]
    · simp [hj, List.getElem?_eq_none (show (List.range n).length ≤ j by simp; omega)]
  · have : ¬ k = j := fun e => h e.symm
    by_cases hk : k < n
    · simp [h, this, List.getElem?_range, hk]
    · simp [h, List.getElem?_eq_none (show (List.range n).length ≤ k by simp; omega)]
theorem make_boolsN (N : Nat) (hN : N ≤ 1000) (w : World) : (Instr.makeSlice 97 (.int .i64 (N : Int)) (.int .i64 (N : Int))).run Tryz.prog w = .ok (.slice (some ⟨w.heap.size, 0, none⟩) N N) (w.alloc (.cells (boolsA N fun _ => false) 4)) := by
  obtain ⟨i0, hi, hz0, hz1, hz2⟩ := info_parts infoB4
  have := run_make (P := Tryz.prog) w 97 4 i0 (.bool false) Tryz.underlying97 hi hz0 .i64 .i64 (N : Int) (N : Int) (by omega) (by omega) (by rw [hz2]; omega) (by omega)
  rw [hz1] at this
  have e : madeCells (#[.bool false] : Array Value) N = Array.replicate N (.bool false) := Array.ext' (by rw [toList_madeCells_one]; simp)
  rw [← boolsA_zero]
  simpa [Value.cells, e] using this
theorem ordE_at (n : Int) (a : List Int) (i : Nat) (x : Int) : ordE n a i x = if (decide (x < 0) || decide (n ≤ x)) = true then 10 else if ((a.take i).any fun z => x == z) = true then 9 else 0 := by
  unfold ordE twE
  cases (decide (x < 0) || decide (n ≤ x)) <;> cases ((a.take i).any fun z => x == z) <;> rfl
set_option maxHeartbeats 4000000 in
set_option maxRecDepth 100000 in
theorem refOrder_c (a : List Int) (m cap : Nat) (p : Option Addr) (n : Nat) (w : World) (hm : a.length = m) (h1 : m ≤ 1000) (hn : n ≤ 1000)
    (hd : 0 < m → ∃ b off, p = some ⟨b, off, none⟩ ∧ ∀ (i : Nat) (z : Int), a[i]? = some z → w.cell? ⟨b, off + i, none⟩ = some (.int .i64 z)) :
    Calls Tryz.prog 19 #[.int .i64 (n : Int), .slice p m cap] w fun e w' => e = .returned (.int .i64 (ordersE n a)) ∧ Gr w w' := by
  have hR : ordersE n a = firstE [eachI (ordE n a) a 0, if decide ((m : Int) < n) then 7 else 0] := by rw [← hm]; rfl
  generalize ordersE n a = err at *
  have HB1 : Hid (∀ c, eachI (ordE n a) a 0 = c → c ≠ 0 → err = c) := fun c h h0 => by rw [hR, h, firstE, if_neg h0]
  have HB2 : Hid (eachI (ordE n a) a 0 = 0 → err = if decide ((m : Int) < n) then 7 else 0) := fun h => by
    rw [hR, h]
    cases decide ((m : Int) < n) <;> rfl
  have hmk := make_boolsN n hn w
  obtain ⟨W1, hW1⟩ : ∃ W, w.alloc (.cells (boolsA n fun _ => false) 4) = W := ⟨_, rfl⟩
  have hb0 : W1.heap[w.heap.size]? = some (.cells (boolsA n fun _ => false) 4 (0, 0)) := by rw [← hW1]; exact heap_alloc_new w _
  have g1 : Gr w W1 := by rw [← hW1]; exact (Gr.refl w).alloc _
  rw [hW1] at hmk
  have HD := Lib.hid hd
  have HM := Lib.hid hm
  obtain ⟨G, hG⟩ : ∃ g, g = w.heap.size := ⟨_, rfl⟩
  have HG : Hid (w.heap.size ≤ G) := by rw [Hid, hG]; exact Nat.le_refl _
  rw [← hG] at hb0 hmk
  clear hd hm hR hW1 hG
  go_enter Tryz.func19, Tryz.ntmps19
  go_wp2_with fail
  clear hmk
  go_loopw [6] (fun s6 wr => ∃ i : Nat, i ≤ m ∧ s6 = .int .i64 i ∧ Gr w wr ∧ wr.heap[G]? = some (.cells (boolsA n fun j => (a.take i).any fun z => (j : Int) == z) 4 (0, 0)) ∧ Hid (eachI (ordE n a) (a.drop i) i = eachI (ordE n a) a 0)) (fun s6 _ => m - (intOf s6).toNat)
  case atStart => exact ⟨0, Nat.zero_le _, rfl, g1, by simpa using hb0, by rw [Hid, List.drop_zero]⟩
  case round =>
    obtain ⟨i, him, rfl, hg, hb, HF⟩ := hrel
    by_cases hlt : i < m
    · obtain ⟨x, hx⟩ : ∃ x, a[i]? = some x := ⟨a[i]'(by have := HM.out; omega), List.getElem?_eq_getElem _⟩
      obtain ⟨b, off, rfl, hd⟩ := HD.out (by omega)
      have c0 := hg.cell (hd i x hx)
      have hi2 : (i : Int) < m := by omega
      have hf := eachI_step (E := ordE n a) hx
      rw [ordE_at] at hf
      by_cases hx0 : x < 0
      · rw [decide_eq_true hx0, Bool.true_or, if_pos rfl, if_neg (by decide)] at hf
        have HF2 := Lib.hid hf
        clear hf hx hd
        go_wp2_with fail
        go_ret
        exact ⟨by rw [HB1.out 10 (by rw [← HF.out, HF2.out]) (by decide)]; rfl, hg⟩
      by_cases hx1 : (n : Int) ≤ x
      · have hx2 : 0 ≤ x := by omega
        rw [decide_eq_true hx1, Bool.or_true, if_pos rfl, if_neg (by decide)] at hf
        have HF2 := Lib.hid hf
        clear hf hx hd
        go_wp2_with fail
        go_ret
        exact ⟨by rw [HB1.out 10 (by rw [← HF.out, HF2.out]) (by decide)]; rfl, hg⟩
      obtain ⟨j, rfl⟩ : ∃ j : Nat, x = (j : Int) := ⟨x.toNat, by omega⟩
      have hjn : j < n := by omega
      have hjn2 : (j : Int) < n := by omega
      rw [decide_eq_false hx0, decide_eq_false hx1, Bool.or_false, if_neg (show ¬ (false = true) by decide)] at hf
      have s0 : wr.cell? ⟨G, j, none⟩ = some (.bool ((a.take i).any fun z => (j : Int) == z)) := by
        rw [cell_of_row wr G _ _ _ (0, 0) hb, boolsA_at _ hjn]
      have f0 := frozen_of_row wr G j _ _ hb
      have hT : (fun k : Nat => (a.take (i + 1)).any fun z => (k : Int) == z) = fun k : Nat => ((a.take i).any fun z => (k : Int) == z) || decide (k = j) := by
        funext k
        rw [List.take_add_one, hx, List.any_append]
        congr 1
        rw [Bool.eq_iff_iff]
        simp
        omega
      have hset := heap_setCell_same wr G j _ _ (.bool true) hb
      rw [boolsA_set, ← hT] at hset
      have hgs : Gr w (wr.setCell ⟨G, j, none⟩ (.bool true)) := Below.setCell hg (p := ⟨G, j, none⟩) HG.out _
      have HS := Lib.hid (And.intro hset hgs)
      cases hb9 : ((a.take i).any fun z => (j : Int) == z)
      · rw [hb9] at s0 hf
        simp only [Bool.false_eq_true, if_false, if_true] at hf
        have HF2 := Lib.hid hf
        clear hf hx hd hb hset hgs hT hx0 hx1 hb9
        go_wp2_with fail
        go_roundw
        case rel => exact ⟨i + 1, by omega, by go_num, HS.out.2, HS.out.1, by unfold Hid; rw [← HF2.out, HF.out]⟩
        case measure => simp [intOf]; omega
      · rw [hb9] at s0 hf
        simp only [if_true, show ¬ (9 : Int) = 0 by decide, if_false] at hf
        have HF2 := Lib.hid hf
        clear hf hx hd hb hset hgs hT hx0 hx1 hb9
        go_wp2_with fail
        go_ret
        exact ⟨by rw [HB1.out 9 (by rw [← HF.out, HF2.out]) (by decide)]; rfl, hg⟩
    · obtain rfl : i = m := by omega
      have hi2 : (i : Int) ≤ i := by omega
      have HZ : Hid (eachI (ordE n a) a 0 = 0) := by rw [Hid, ← HF.out]; exact eachI_end (by have := HM.out; omega)
      have HE := Lib.hid (HB2.out HZ.out)
      clear HF hb
      by_cases hc : (i : Int) < n
      · rw [decide_eq_true hc] at HE
        go_wp2_with fail
        go_ret
        exact ⟨by rw [HE.out]; rfl, hg⟩
      · rw [decide_eq_false hc] at HE
        have hc2 : (n : Int) ≤ i := by omega
        clear hc
        go_wp2_with fail
        go_ret
        exact ⟨by rw [HE.out]; rfl, hg⟩
end Go.Proofs.YtcnpmebihdonoaaGreatDoor
namespace Go.Proofs.YtcnpmebihdonoaaGreatDoor
set_option linter.unusedSimpArgs false
set_option linter.unusedVariables false
/-- neighbours that are alike, behind one that stands there already -/
def pairsF {α : Type} [DecidableEq α] : Option α → List α → Nat
  | _, [] => 0
  | last, x :: p => (if last = some x then 1 else 0) + pairsF (some x) p
/-- what every order has at least -/
def lowT {α : Type} [DecidableEq α] (a : α) (p : List α) (last : Option α) : Int := (p.count a : Int) - ((p.length : Int) - p.count a) - (if last = some a then 0 else 1)
theorem lowT_le {α : Type} [DecidableEq α] (a : α) : ∀ (p : List α) (last : Option α), lowT a p last ≤ pairsF last p
  | [], last => by
    unfold lowT pairsF
    split <;> simp
  | x :: p, last => by
    have ih := lowT_le a p (some x)
    have hc := List.count_le_length (a := a) (l := p)
    unfold lowT at ih ⊢
    unfold pairsF
    by_cases h : x = a
    · subst h
      simp only [List.count_cons_self, List.length_cons, if_true] at *
      by_cases hl : last = some x
      · simp only [hl, if_true]
        omega
      · simp only [hl, if_false]
        omega
    · have h2 : ¬ (some x = some a) := fun e => h (Option.some.inj e)
      have h3 : (x :: p).count a = p.count a := by rw [List.count_cons]; simp [h]
      rw [h3]
      simp only [List.length_cons, if_neg h2] at *
      split <;> split <;> omega
/-- each is of the largest team that is not the last one's, or all that are left are the last one's -/
def Greedy {α : Type} [DecidableEq α] : Option α → List α → Prop
  | _, [] => True
  | last, x :: p => ((last ≠ some x ∧ ∀ y, last ≠ some y → (x :: p).count y ≤ (x :: p).count x) ∨ (last = some x ∧ ∀ y ∈ p, y = x)) ∧ Greedy (some x) p
theorem greedy_eq {α : Type} [DecidableEq α] : ∀ (p : List α) (last : Option α), Greedy last p → pairsF last p = 0 ∨ ∃ a, (pairsF last p : Int) ≤ lowT a p last
  | [], _, _ => .inl rfl
  | x :: p, last, h => by
    obtain ⟨h1, h2⟩ := h
    have ih := greedy_eq p (some x) h2
    have hcx := List.count_le_length (a := x) (l := p)
    rcases h1 with ⟨hl, hmax⟩ | ⟨hl, hall⟩
    · have e : pairsF last (x :: p) = pairsF (some x) p := by unfold pairsF; rw [if_neg hl]; cases p <;> simp [pairsF]
      rw [e]
      rcases ih with ih | ⟨a, ih⟩
      · exact .inl ih
      · by_cases ha : a = x
        · subst ha
          refine .inr ⟨a, ?_⟩
          unfold lowT at ih ⊢
          simp only [List.count_cons_self, List.length_cons, if_true] at *
          rw [if_neg hl]
          omega
        · have h3 : (x :: p).count a = p.count a := by rw [List.count_cons]; simp; exact fun q => ha q.symm
          have h4 : ¬ (some x = some a) := fun q => ha (Option.some.inj q).symm
          by_cases hla : last = some a
          · refine .inr ⟨a, ?_⟩
            unfold lowT at ih ⊢
            rw [h3]
            simp only [List.length_cons, if_neg h4, hla, if_true] at *
            omega
          · have hm := hmax a hla
            rw [h3, List.count_cons_self] at hm
            have h5 : p.count a + p.count x ≤ p.length := by
              have := count_two a x ha p
              omega
            refine .inl ?_
            unfold lowT at ih
            rw [if_neg h4] at ih
            omega
    · have hpx : p.count x = p.length := List.count_eq_length.2 fun y hy => (hall y hy).symm
      refine .inr ⟨x, ?_⟩
      have hp : pairsF (some x) p = p.length := pairs_all x p hall
      unfold pairsF lowT
      rw [hp, hl]
      simp only [if_true, List.count_cons_self, List.length_cons]
      omega
where
  count_two {α : Type} [DecidableEq α] (a x : α) (h : a ≠ x) : ∀ p : List α, p.count a + p.count x ≤ p.length
    | [] => by simp
    | y :: p => by
      have := count_two a x h p
      rw [List.count_cons, List.count_cons, List.length_cons]
      by_cases h1 : y = a
      · subst h1
        simp [h]
        omega
      · by_cases h2 : y = x
        · subst h2
          simp [h1]
          omega
        · simp [h1, h2]
          omega
  pairs_all {α : Type} [DecidableEq α] (x : α) : ∀ p : List α, (∀ y ∈ p, y = x) → pairsF (some x) p = p.length
    | [], _ => rfl
    | y :: p, h => by
      have hy := h y (by simp)
      subst hy
      unfold pairsF
      rw [if_pos rfl, pairs_all y p fun z hz => h z (by simp [hz])]
      simp
      omega
/-- no order of the same starters has fewer neighbours of one nation -/
theorem greedy_least {α : Type} [DecidableEq α] {p q : List α} (h : Greedy none p) (hp : p.Perm q) : pairsF none p ≤ pairsF none q := by
  rcases greedy_eq p none h with h0 | ⟨a, h1⟩
  · omega
  · have h2 := lowT_le a q none
    unfold lowT at h1 h2
    rw [hp.count_eq, hp.length_eq] at h1
    omega
end Go.Proofs.YtcnpmebihdonoaaGreatDoor
