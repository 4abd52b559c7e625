/- Comparisons: cmp.Compare, cmp.Or, slices.Compare of integers, the reference's order. -/
import Derived.Test.YtebnbjaaogfikaaGreatDoorGOpN
import Derived.Sort.Grow
namespace Go.Proofs.YtebnbjaaogfikaaGreatDoor
open Go.RowKit Go.Lib
set_option linter.unusedSimpArgs false
set_option linter.unusedVariables false
/-- -1, 0 or 1 -/
def cmpZ (a b : Int) : Int := if decide (a < b) then -1 else if decide (b < a) then 1 else 0
theorem cmpZ_self (a : Int) : cmpZ a a = 0 := by unfold cmpZ; simp
theorem cmpZ_zero {a b : Int} (h : cmpZ a b = 0) : a = b := by
  unfold cmpZ at h
  split at h
  · cases h
  split at h
  · cases h
  · rename_i h1 h2
    simp at h1 h2; omega
theorem isNaN_c (x : Int) (w : World) :
    Calls Tryz.prog 78 #[.int .i64 x] w fun e w' => e = .returned (.bool false) ∧ w = w' := by
  go_enter Tryz.func78, Tryz.ntmps78
  go_wp2_with fail
  go_ret
  exact ⟨by simp, rfl⟩
theorem cmpInt_c (x y : Int) (w : World) :
    Calls Tryz.prog 48 #[.int .i64 x, .int .i64 y] w fun e w' => e = .returned (.int .i64 (cmpZ x y)) ∧ w = w' := by
  have HX := Lib.hid (fun W => isNaN_c x W)
  have HY := Lib.hid (fun W => isNaN_c y W)
  have HE : Hid (cmpZ x y = if decide (x < y) then -1 else if decide (y < x) then 1 else 0) := rfl
  cases h1 : decide (x < y) <;> cases h2 : decide (y < x)
  all_goals
    rw [h1, h2] at HE
    go_enter Tryz.func48, Tryz.ntmps48
    go_wp2_with fail
    repeat (first
      | (with_reducible refine (HX.out _).mono ?_; rintro e w4 ⟨rfl, rfl⟩; go_wp2_with fail)
      | (with_reducible refine (HY.out _).mono ?_; rintro e w4 ⟨rfl, rfl⟩; go_wp2_with fail))
    go_ret
    exact ⟨by rw [HE.out]; rfl, rfl⟩
set_option maxRecDepth 100000 in
theorem or_c (x y : Int) (b cap : Nat) (w : World) (hx : w.cell? ⟨b, 0, none⟩ = some (.int .i64 x)) (hy : w.cell? ⟨b, 1, none⟩ = some (.int .i64 y)) :
    Calls Tryz.prog 47 #[.slice (some ⟨b, 0, none⟩) 2 cap] w fun e w' => e = .returned (.int .i64 (firstE [x, y])) ∧ Gr w w' := by
  have HE : Hid (firstE [x, y] = if x = 0 then (if y = 0 then 0 else y) else x) := rfl
  go_enter Tryz.func47, Tryz.ntmps47
  go_wp2_with fail
  refine wp_loop_rounds 3 ?_
  rw [rounds_succ]
  by_cases h1 : x = 0
  · subst h1
    rw [if_pos rfl] at HE
    go_wp2_with fail
    rw [rounds_succ]
    by_cases h2 : y = 0
    · subst h2
      go_wp2_with fail
      rw [rounds_succ]
      go_wp2_with fail
      go_ret
      exact ⟨by rw [HE.out]; rfl, Gr.refl _⟩
    · have hd : (y == 0) = false := by simpa using h2
      have hd2 : (y != 0) = true := by simpa [bne] using hd
      rw [if_neg h2] at HE
      clear h2
      go_wp2_with fail
      go_ret
      exact ⟨by rw [HE.out]; rfl, Gr.refl _⟩
  · have hd : (x == 0) = false := by simpa using h1
    have hd2 : (x != 0) = true := by simpa [bne] using hd
    rw [if_neg h1] at HE
    clear h1
    go_wp2_with fail
    go_ret
    exact ⟨by rw [HE.out]; rfl, Gr.refl _⟩
/-- lists, one against the other -/
def cmpL : List Int → List Int → Int
  | [], [] => 0
  | [], _ :: _ => -1
  | _ :: _, [] => 1
  | x :: xs, y :: ys => if cmpZ x y = 0 then cmpL xs ys else cmpZ x y
theorem cmpL_drop {xs ys : List Int} {k : Nat} {x y : Int} (hx : xs[k]? = some x) (hy : ys[k]? = some y) : cmpL (xs.drop k) (ys.drop k) = if cmpZ x y = 0 then cmpL (xs.drop (k + 1)) (ys.drop (k + 1)) else cmpZ x y := by
  obtain ⟨h1, rfl⟩ := List.getElem?_eq_some_iff.1 hx
  obtain ⟨h2, rfl⟩ := List.getElem?_eq_some_iff.1 hy
  rw [List.drop_eq_getElem_cons h1, List.drop_eq_getElem_cons h2]; rfl
theorem cmpL_more {xs ys : List Int} {k : Nat} (hx : k < xs.length) (hy : ys.length ≤ k) : cmpL (xs.drop k) (ys.drop k) = 1 := by
  rw [List.drop_eq_getElem_cons hx, List.drop_of_length_le hy]; rfl
theorem cmpL_end {xs ys : List Int} {k : Nat} (hx : xs.length ≤ k) : cmpL (xs.drop k) (ys.drop k) = if decide (k < ys.length) then -1 else 0 := by
  rw [List.drop_of_length_le hx]
  by_cases h : k < ys.length
  · rw [List.drop_eq_getElem_cons h, decide_eq_true h]; rfl
  · rw [List.drop_of_length_le (by omega), decide_eq_false h]; rfl
end Go.Proofs.YtebnbjaaogfikaaGreatDoor
namespace Go.Proofs.YtebnbjaaogfikaaGreatDoor
open Go.RowKit Go.Lib
set_option linter.unusedSimpArgs false
set_option linter.unusedVariables false
set_option maxHeartbeats 1000000 in
set_option maxRecDepth 100000 in
theorem lists_pos (xs ys : List Int) (n m b off cap b2 off2 cap2 : Nat) (w : World) (hn : xs.length = n) (hm : ys.length = m)
    (hc : ∀ i x, xs[i]? = some x → w.cell? ⟨b, off + i, none⟩ = some (.int .i64 x)) (hd : ∀ i x, ys[i]? = some x → w.cell? ⟨b2, off2 + i, none⟩ = some (.int .i64 x)) (hs : n ≤ 1000) (hs2 : m ≤ 1000) :
    Calls Tryz.prog 50 #[.slice (some ⟨b, off, none⟩) n cap, .slice (some ⟨b2, off2, none⟩) m cap2] w fun e w' => e = .returned (.int .i64 (cmpL xs ys)) ∧ Gr w w' := by
  have HN := Lib.hid hn
  have HM := Lib.hid hm
  have HC := Lib.hid hc
  have HD := Lib.hid hd
  clear hc hd hn hm
  go_enter Tryz.func50, Tryz.ntmps50
  go_wp2_with fail
  go_loopg [11] n (fun g s11 wr => ∃ k : Nat, s11 = .int .i64 k ∧ g + k = n ∧ Gr w wr ∧ k ≤ m ∧ Hid (cmpL (xs.drop k) (ys.drop k) = cmpL xs ys))
  case atStart => exact ⟨0, rfl, by omega, Gr.refl _, by omega, by simp [Hid]⟩
  case round =>
    obtain ⟨k, rfl, hk, hg, hkm, HF⟩ := hrel
    by_cases hlt : k < n
    · obtain ⟨x, hx⟩ : ∃ x, xs[k]? = some x := ⟨xs[k]'(by have := HN.out; omega), List.getElem?_eq_getElem _⟩
      have hcell := hg.cell (HC.out k x hx)
      by_cases hlm : k < m
      · obtain ⟨y, hy⟩ : ∃ y, ys[k]? = some y := ⟨ys[k]'(by have := HM.out; omega), List.getElem?_eq_getElem _⟩
        have hcell2 := hg.cell (HD.out k y hy)
        have hf := cmpL_drop hx hy
        have HT := fun W => cmpInt_c x y W
        clear hx hy
        have hlm2 : (k : Int) < m := by omega
        by_cases h0 : cmpZ x y = 0
        · rw [if_pos h0] at hf
          rw [h0] at HT
          replace HT := Lib.hid HT
          have HF2 := Lib.hid hf
          clear hf h0
          go_wp2_with (refine (HT.out _).mono ?_; rintro e w4 ⟨rfl, rfl⟩)
          go_roundg (gk - 1)
          case measure => omega
          case rel => exact ⟨k + 1, by go_num, by omega, hg, by omega, by unfold Hid; rw [← HF2.out, HF.out]⟩
        · rw [if_neg h0] at hf
          have h1 : (cmpZ x y == 0) = false := by simpa using h0
          have h2 : (cmpZ x y != 0) = true := by simpa [bne] using h1
          replace HT := Lib.hid HT
          have HF2 := Lib.hid hf
          clear hf h0
          generalize cmpZ x y = z at *
          go_wp2_with (refine (HT.out _).mono ?_; rintro e w4 ⟨rfl, rfl⟩)
          go_ret
          exact ⟨by rw [← HF.out, HF2.out]; rfl, hg⟩
      · have hf := cmpL_more (xs := xs) (ys := ys) (k := k) (by have := HN.out; omega) (by have := HM.out; omega)
        have HF2 := Lib.hid hf
        have hlm2 : (m : Int) ≤ k := by omega
        clear hf hx
        go_wp2_with fail
        go_ret
        exact ⟨by rw [← HF.out, HF2.out]; rfl, hg⟩
    · have hf := cmpL_end (xs := xs) (ys := ys) (k := k) (by have := HN.out; omega)
      rw [show ys.length = m from HM.out] at hf
      by_cases hlm : k < m
      · rw [decide_eq_true hlm] at hf
        have HF2 := Lib.hid hf
        have hlm2 : (n : Int) < m := by omega
        clear hf
        go_wp2_with fail
        go_ret
        exact ⟨by rw [← HF.out, HF2.out]; rfl, hg⟩
      · rw [decide_eq_false hlm] at hf
        have HF2 := Lib.hid hf
        have hlm2 : (m : Int) ≤ n := by omega
        clear hf
        go_wp2_with fail
        go_ret
        exact ⟨by rw [← HF.out, HF2.out]; rfl, hg⟩
set_option maxHeartbeats 1000000 in
set_option maxRecDepth 100000 in
theorem lists_none (xs : List Int) (n b off cap cap2 : Nat) (p2 : Option Addr) (w : World) (h0 : 0 < n) (hn : xs.length = n)
    (hc : ∀ i x, xs[i]? = some x → w.cell? ⟨b, off + i, none⟩ = some (.int .i64 x)) (hs : n ≤ 1000) :
    Calls Tryz.prog 50 #[.slice (some ⟨b, off, none⟩) n cap, .slice p2 0 cap2] w fun e w' => e = .returned (.int .i64 (cmpL xs [])) ∧ Gr w w' := by
  obtain ⟨x, hx⟩ : ∃ x, xs[0]? = some x := ⟨xs[0]'(by omega), List.getElem?_eq_getElem _⟩
  have hcell : w.cell? ⟨b, off, none⟩ = some (.int .i64 x) := hc 0 x hx
  have HE : Hid (cmpL xs [] = 1) := by cases xs with | nil => simp at hx | cons _ _ => rfl
  clear hc hx hn
  go_enter Tryz.func50, Tryz.ntmps50
  go_wp2_with fail
  refine wp_loop_rounds 2 ?_
  rw [rounds_succ]
  go_wp2_with fail
  go_ret
  exact ⟨by rw [HE.out]; rfl, Gr.refl _⟩
set_option maxHeartbeats 1000000 in
set_option maxRecDepth 100000 in
theorem lists_nil (ys : List Int) (m cap cap2 : Nat) (p p2 : Option Addr) (w : World) (hm : ys.length = m) :
    Calls Tryz.prog 50 #[.slice p 0 cap, .slice p2 m cap2] w fun e w' => e = .returned (.int .i64 (cmpL [] ys)) ∧ Gr w w' := by
  by_cases h0 : 0 < m
  · have HE : Hid (cmpL [] ys = -1) := by cases ys with | nil => simp at hm; omega | cons _ _ => rfl
    clear hm
    go_enter Tryz.func50, Tryz.ntmps50
    go_wp2_with fail
    refine wp_loop_rounds 1 ?_
    rw [rounds_succ]
    go_wp2_with fail
    go_ret
    exact ⟨by rw [HE.out]; rfl, Gr.refl _⟩
  · have HE : Hid (cmpL [] ys = 0) := by cases ys with | nil => rfl | cons _ _ => simp at hm; omega
    have hm0 : m = 0 := by omega
    subst hm0
    clear hm
    go_enter Tryz.func50, Tryz.ntmps50
    go_wp2_with fail
    refine wp_loop_rounds 1 ?_
    rw [rounds_succ]
    go_wp2_with fail
    go_ret
    exact ⟨by rw [HE.out]; rfl, Gr.refl _⟩
theorem lists_c {v v2 : Value} {xs ys : List Int} {w : World} (h : IntsV w v xs) (h2 : IntsV w v2 ys) (hs : xs.length ≤ 1000) (hs2 : ys.length ≤ 1000) :
    Calls Tryz.prog 50 #[v, v2] w fun e w' => e = .returned (.int .i64 (cmpL xs ys)) ∧ Gr w w' := by
  obtain ⟨⟨p, cap, rfl, hh⟩⟩ := h
  obtain ⟨⟨p2, cap2, rfl, hh2⟩⟩ := h2
  by_cases h0 : 0 < xs.length
  · obtain ⟨b, off, rfl, hc⟩ := hh h0
    by_cases h1 : 0 < ys.length
    · obtain ⟨b2, off2, rfl, hd⟩ := hh2 h1
      exact lists_pos xs ys _ _ b off cap b2 off2 cap2 w rfl rfl hc hd hs hs2
    · have : ys = [] := List.eq_nil_of_length_eq_zero (by omega)
      subst this
      exact lists_none xs _ b off cap cap2 p2 w h0 rfl hc hs
  · have : xs = [] := List.eq_nil_of_length_eq_zero (by omega)
    subst this
    exact lists_nil ys _ cap cap2 p p2 w rfl
end Go.Proofs.YtebnbjaaogfikaaGreatDoor
namespace Go.Proofs.YtebnbjaaogfikaaGreatDoor
open Go.RowKit Go.Lib
set_option linter.unusedSimpArgs false
set_option linter.unusedVariables false
theorem box33 (w : World) (a0 a1 a2 b0 b1 b2 : Value) (T : Nat) : ∃ W, (w.alloc (.cells #[a0, a1, a2] T)).alloc (.cells #[b0, b1, b2] T) = W ∧ Gr w W ∧
    (W.cell? ⟨w.heap.size, 0, none⟩ = some a0 ∧ W.cell? ⟨w.heap.size, 1, none⟩ = some a1 ∧ W.cell? ⟨w.heap.size, 2, none⟩ = some a2) ∧
    (W.cell? ⟨w.heap.size + 1, 0, none⟩ = some b0 ∧ W.cell? ⟨w.heap.size + 1, 1, none⟩ = some b1 ∧ W.cell? ⟨w.heap.size + 1, 2, none⟩ = some b2) := by
  obtain ⟨W1, h1, g1, p0, p1, p2⟩ := box3 w a0 a1 a2 T
  obtain ⟨W2, h2, g2, q0, q1, q2⟩ := box3 W1 b0 b1 b2 T
  have hs : W1.heap.size = w.heap.size + 1 := by rw [← h1, World.size_alloc]
  rw [hs] at q0 q1 q2
  exact ⟨W2, by rw [h1, h2], g1.trans g2, ⟨g2.cell p0, g2.cell p1, g2.cell p2⟩, q0, q1, q2⟩
/-- the comparison of two results that fit -/
def ordZ (s s2 : ByteArray) (xs ys : List Int) : Int := firstE [cmpZ (gradeZ s.toList) (gradeZ s2.toList), cmpL ys xs]
set_option maxHeartbeats 1000000 in
set_option maxRecDepth 100000 in
theorem compare_c (c s c2 s2 : ByteArray) (v v2 : Value) (xs ys : List Int) (w : World) (hS : StatesIn w) (h : IntsV w v xs) (h2 : IntsV w v2 ys) (hs : xs.length ≤ 1000) (hs2 : ys.length ≤ 1000) :
    Calls Tryz.prog 20 #[resV c s v, resV c2 s2 v2] w fun e w' => e = .returned (.int .i64 (ordZ s s2 xs ys)) ∧ Gr w w' := by
  unfold resV
  have hB := fun W h => badness_c s W h
  have hB2 := fun W h => badness_c s2 W h
  have hR : ordZ s s2 xs ys = firstE [cmpZ (gradeZ s.toList) (gradeZ s2.toList), cmpL ys xs] := rfl
  have hL := fun v v2 W h h2 => lists_c (v := v) (v2 := v2) (xs := ys) (ys := xs) (w := W) h h2 hs2 hs
  generalize gradeZ s.toList = z at *
  generalize gradeZ s2.toList = z2 at *
  have hC := fun W => cmpInt_c z z2 W
  generalize cmpZ z z2 = x at *
  generalize cmpL ys xs = y at *
  have HO := Lib.hid (or_c x y)
  have HB := Lib.hid hB
  have HB2 := Lib.hid hB2
  have HC := Lib.hid hC
  have HL := Lib.hid hL
  have HR := Lib.hid hR
  clear hB hB2 hR hL hC
  obtain ⟨p, cap, rfl, _⟩ := id h.out
  obtain ⟨p2, cap2, rfl, _⟩ := id h2.out
  obtain ⟨W, hW, g, ⟨a0, a1, a2⟩, b0, b1, b2⟩ := box33 w (.string c) (.string s) (.slice p xs.length cap) (.string c2) (.string s2) (.slice p2 ys.length cap2) 34
  have hS1 := hS.gr g
  have hI1 := h.gr g
  have hI2 := h2.gr g
  have HW := Lib.hid hW
  clear hW hS h h2
  go_enter Tryz.func20, Tryz.ntmps20
  go_wp2_with fail
  rw [HW.out]
  generalize w.heap.size = B at *
  clear HW
  have gd := (Gr.refl W).drew
  replace a0 := gd.cell a0
  replace a1 := gd.cell a1
  replace a2 := gd.cell a2
  replace b0 := gd.cell b0
  replace b1 := gd.cell b1
  replace b2 := gd.cell b2
  replace hS1 := hS1.gr gd
  replace hI1 := hI1.gr gd
  replace hI2 := hI2.gr gd
  replace g := g.trans gd
  clear gd
  refine wp_region_held_drew (S := (fun w' => w'.cell? ⟨B, 0, none⟩ = some (.string c) ∧ w'.cell? ⟨B, 1, none⟩ = some (.string s) ∧ w'.cell? ⟨B, 2, none⟩ = some (.slice p xs.length cap) ∧ w'.cell? ⟨B + 1, 0, none⟩ = some (.string c2) ∧ w'.cell? ⟨B + 1, 1, none⟩ = some (.string s2) ∧ w'.cell? ⟨B + 1, 2, none⟩ = some (.slice p2 ys.length cap2))) (by kernel_rfl) ⟨a0, a1, a2, b0, b1, b2⟩ (fun hHeld => ?_)
  generalize W.drew = V at *
  refine wpAnyH_take (i := 0) (v := (.pointer (some ⟨B, 1, none⟩))) (op_at rfl) (by kernel_rfl) (by kernel_rfl) (by kernel_rfl) (fun _ _ _ h => h) (Or.inl ⟨rfl, fun w hSw => ?_⟩) (by assumption) ?_
  · (try dsimp only at hSw); go_simp; try with_reducible rfl
  (try simp only [Act.put, List.setIfInBounds_toArray, List.set_cons_zero, List.set_cons_succ])
  refine wpAnyH_take (i := 1) (v := (.string s)) (op_at rfl) (by kernel_rfl) (by kernel_rfl) (by kernel_rfl) (fun _ _ _ h => h) (Or.inl ⟨rfl, fun w hSw => ?_⟩) (by assumption) ?_
  · (try dsimp only at hSw); go_simp; try with_reducible rfl
  (try simp only [Act.put, List.setIfInBounds_toArray, List.set_cons_zero, List.set_cons_succ])
  refine wpAnyH_take (i := 3) (v := (.pointer (some ⟨B + 1, 1, none⟩))) (op_at rfl) (by kernel_rfl) (by kernel_rfl) (by kernel_rfl) (fun _ _ _ h => h) (Or.inl ⟨rfl, fun w hSw => ?_⟩) (by assumption) ?_
  · (try dsimp only at hSw); go_simp; try with_reducible rfl
  (try simp only [Act.put, List.setIfInBounds_toArray, List.set_cons_zero, List.set_cons_succ])
  refine wpAnyH_take (i := 4) (v := (.string s2)) (op_at rfl) (by kernel_rfl) (by kernel_rfl) (by kernel_rfl) (fun _ _ _ h => h) (Or.inl ⟨rfl, fun w hSw => ?_⟩) (by assumption) ?_
  · (try dsimp only at hSw); go_simp; try with_reducible rfl
  (try simp only [Act.put, List.setIfInBounds_toArray, List.set_cons_zero, List.set_cons_succ])
  refine wpAnyH_take (i := 7) (v := (.pointer (some ⟨B + 1, 2, none⟩))) (op_at rfl) (by kernel_rfl) (by kernel_rfl) (by kernel_rfl) (fun _ _ _ h => h) (Or.inl ⟨rfl, fun w hSw => ?_⟩) (by assumption) ?_
  · (try dsimp only at hSw); go_simp; try with_reducible rfl
  (try simp only [Act.put, List.setIfInBounds_toArray, List.set_cons_zero, List.set_cons_succ])
  refine wpAnyH_take (i := 8) (v := (.slice p2 ys.length cap2)) (op_at rfl) (by kernel_rfl) (by kernel_rfl) (by kernel_rfl) (fun _ _ _ h => h) (Or.inl ⟨rfl, fun w hSw => ?_⟩) (by assumption) ?_
  · (try dsimp only at hSw); go_simp; try with_reducible rfl
  (try simp only [Act.put, List.setIfInBounds_toArray, List.set_cons_zero, List.set_cons_succ])
  refine wpAnyH_take (i := 9) (v := (.pointer (some ⟨B, 2, none⟩))) (op_at rfl) (by kernel_rfl) (by kernel_rfl) (by kernel_rfl) (fun _ _ _ h => h) (Or.inl ⟨rfl, fun w hSw => ?_⟩) (by assumption) ?_
  · (try dsimp only at hSw); go_simp; try with_reducible rfl
  (try simp only [Act.put, List.setIfInBounds_toArray, List.set_cons_zero, List.set_cons_succ])
  refine wpAnyH_take (i := 10) (v := (.slice p xs.length cap)) (op_at rfl) (by kernel_rfl) (by kernel_rfl) (by kernel_rfl) (fun _ _ _ h => h) (Or.inl ⟨rfl, fun w hSw => ?_⟩) (by assumption) ?_
  · (try dsimp only at hSw); go_simp; try with_reducible rfl
  (try simp only [Act.put, List.setIfInBounds_toArray, List.set_cons_zero, List.set_cons_succ])
  refine wpAnyH_ready (rs := [2]) (by kernel_rfl) (by simp) (AllReadyH.cons (op_at rfl) (fun K hK => ?_) AllReadyH.nil)
  go_simp
  (refine (HB.out _ hS1).mono ?_; rintro e w' ⟨rfl, rfl⟩)
  go_wp2_with fail
  refine hK.out _ _ ⟨a0, a1, a2, b0, b1, b2⟩ (fun hHeld => ?_)
  clear hK K
  (try simp only [Act.put, List.setIfInBounds_toArray, List.set_cons_zero, List.set_cons_succ])
  refine wpAnyH_ready (rs := [5]) (by kernel_rfl) (by simp) (AllReadyH.cons (op_at rfl) (fun K hK => ?_) AllReadyH.nil)
  go_simp
  (refine (HB2.out _ hS1).mono ?_; rintro e w' ⟨rfl, rfl⟩)
  go_wp2_with fail
  refine hK.out _ _ ⟨a0, a1, a2, b0, b1, b2⟩ (fun hHeld => ?_)
  clear hK K
  (try simp only [Act.put, List.setIfInBounds_toArray, List.set_cons_zero, List.set_cons_succ])
  refine wpAnyH_ready (rs := [6]) (by kernel_rfl) (by simp) (AllReadyH.cons (op_at rfl) (fun K hK => ?_) AllReadyH.nil)
  go_simp
  (refine (HC.out _).mono ?_; rintro e w' ⟨rfl, rfl⟩)
  go_wp2_with fail
  refine hK.out _ _ ⟨a0, a1, a2, b0, b1, b2⟩ (fun hHeld => ?_)
  clear hK K
  (try simp only [Act.put, List.setIfInBounds_toArray, List.set_cons_zero, List.set_cons_succ])
  refine wpAnyH_ready (rs := [11]) (by kernel_rfl) (by simp) (AllReadyH.cons (op_at rfl) (fun K hK => ?_) AllReadyH.nil)
  go_simp
  (refine (HL.out _ _ _ hI2 hI1).mono ?_; rintro e W2 ⟨rfl, hg⟩; replace a0 := hg.cell a0; replace a1 := hg.cell a1; replace a2 := hg.cell a2; replace b0 := hg.cell b0; replace b1 := hg.cell b1; replace b2 := hg.cell b2; replace hS1 := hS1.gr hg; replace hI1 := hI1.gr hg; replace hI2 := hI2.gr hg; replace g := g.trans hg; clear hg)
  go_wp2_with fail
  refine hK.out _ _ ⟨a0, a1, a2, b0, b1, b2⟩ (fun hHeld => ?_)
  clear hK K
  (try simp only [Act.put, List.setIfInBounds_toArray, List.set_cons_zero, List.set_cons_succ])
  refine wpAnyH_ready (rs := [12]) (by kernel_rfl) (by simp) (AllReadyH.cons (op_at rfl) (fun K hK => ?_) AllReadyH.nil)
  go_simp
  obtain ⟨W3, hW3, g3, q0, q1⟩ := box2 W2 (.int .i64 x) (.int .i64 y) 3
  rw [hW3]
  clear hW3
  replace a0 := g3.cell a0
  replace a1 := g3.cell a1
  replace a2 := g3.cell a2
  replace b0 := g3.cell b0
  replace b1 := g3.cell b1
  replace b2 := g3.cell b2
  replace hS1 := hS1.gr g3
  replace hI1 := hI1.gr g3
  replace hI2 := hI2.gr g3
  replace g := g.trans g3
  refine hK.out _ _ ⟨a0, a1, a2, b0, b1, b2⟩ (fun hHeld => ?_)
  clear hK K
  (try simp only [Act.put, List.setIfInBounds_toArray, List.set_cons_zero, List.set_cons_succ])
  refine wpAnyH_ready (rs := [13]) (by kernel_rfl) (by simp) (AllReadyH.cons (op_at rfl) (fun K hK => ?_) AllReadyH.nil)
  go_simp
  (refine (HO.out _ _ W3 q0 q1).mono ?_; rintro e W4 ⟨rfl, hg⟩; replace a0 := hg.cell a0; replace a1 := hg.cell a1; replace a2 := hg.cell a2; replace b0 := hg.cell b0; replace b1 := hg.cell b1; replace b2 := hg.cell b2; replace hS1 := hS1.gr hg; replace hI1 := hI1.gr hg; replace hI2 := hI2.gr hg; replace g := g.trans hg; clear hg)
  go_wp2_with fail
  refine hK.out _ _ ⟨a0, a1, a2, b0, b1, b2⟩ (fun hHeld => ?_)
  clear hK K
  (try simp only [Act.put, List.setIfInBounds_toArray, List.set_cons_zero, List.set_cons_succ])
  refine wpAnyH_take (i := 14) (v := (.int .i64 (firstE [x, y]))) (op_at rfl) (by kernel_rfl) (by kernel_rfl) (by kernel_rfl) (fun _ _ _ h => h) (Or.inl ⟨rfl, fun w hSw => ?_⟩) (by assumption) ?_
  · (try dsimp only at hSw); go_simp; try with_reducible rfl
  (try simp only [Act.put, List.setIfInBounds_toArray, List.set_cons_zero, List.set_cons_succ])
  refine wpAnyH_done (by kernel_rfl) ?_ _
  go_wp2_with fail
  go_ret
  exact ⟨by rw [HR.out]; rfl, g⟩
/-- whether two results fit -/
def fitB (s s2 : ByteArray) (xs ys : List Int) : Bool := !s.toList.isEmpty || (!s2.toList.isEmpty || ((xs.length : Int) == ys.length))
set_option maxHeartbeats 1000000 in
set_option maxRecDepth 100000 in
theorem fit_c (c s c2 s2 : ByteArray) (v v2 : Value) (xs ys : List Int) (w : World) (hS : StatesIn w) (h : IntsV w v xs) (h2 : IntsV w v2 ys) :
    Calls Tryz.prog 44 #[resV c s v, resV c2 s2 v2] w fun e w' => e = .returned (.bool (fitB s s2 xs ys)) ∧ Gr w w' := by
  unfold resV
  have hR : fitB s s2 xs ys = (!s.toList.isEmpty || (!s2.toList.isEmpty || ((xs.length : Int) == ys.length))) := rfl
  have hV := fun v hv W => hasValues_c c s v hv W
  have hV2 := fun v hv W => hasValues_c c2 s2 v hv W
  obtain ⟨p, cap, rfl, _⟩ := id h.out
  obtain ⟨p2, cap2, rfl, _⟩ := id h2.out
  obtain ⟨W, hW, g, ⟨a0, a1, a2⟩, b0, b1, b2⟩ := box33 w (.string c) (.string s) (.slice p xs.length cap) (.string c2) (.string s2) (.slice p2 ys.length cap2) 34
  have hS1 := hS.gr g
  have hI1 := h.gr g
  have hI2 := h2.gr g
  have HW := Lib.hid hW
  clear hW hS h h2
  cases h1 : s.toList.isEmpty <;> cases h3 : s2.toList.isEmpty <;> cases h5 : ((xs.length : Int) == ys.length)
  all_goals
    rw [h1, h3, h5] at hR
    rw [h1] at hV
    rw [h3] at hV2
    have HR := Lib.hid hR
    have HV := Lib.hid hV
    have HV2 := Lib.hid hV2
    clear hR hV hV2 h1 h3
    go_enter Tryz.func44, Tryz.ntmps44
    go_wp2_with fail
    rw [HW.out]
    repeat (first
      | (with_reducible refine (HV.out _ ⟨_, _, _, rfl⟩ _).mono ?_; rintro e W1 ⟨rfl, hg⟩; replace a0 := hg.cell a0; replace a1 := hg.cell a1; replace a2 := hg.cell a2; replace b0 := hg.cell b0; replace b1 := hg.cell b1; replace b2 := hg.cell b2; replace hS1 := hS1.gr hg; replace hI1 := hI1.gr hg; replace hI2 := hI2.gr hg; replace g := g.trans hg; clear hg; go_wp2_with fail)
      | (with_reducible refine (HV2.out _ ⟨_, _, _, rfl⟩ _).mono ?_; rintro e W1 ⟨rfl, hg⟩; replace a0 := hg.cell a0; replace a1 := hg.cell a1; replace a2 := hg.cell a2; replace b0 := hg.cell b0; replace b1 := hg.cell b1; replace b2 := hg.cell b2; replace hS1 := hS1.gr hg; replace hI1 := hI1.gr hg; replace hI2 := hI2.gr hg; replace g := g.trans hg; clear hg; go_wp2_with fail))
    go_ret
    exact ⟨by rw [HR.out]; rfl, g⟩
end Go.Proofs.YtebnbjaaogfikaaGreatDoor
namespace Go.Proofs.YtebnbjaaogfikaaGreatDoor
open Go.RowKit Go.Lib
set_option linter.unusedSimpArgs false
set_option linter.unusedVariables false
/-- old blocks as they were, and no draw undone -/
structure Gd (w w' : World) : Prop where
  gr : Gr w w'
  dr : w.drawn ≤ w'.drawn
theorem Gd.refl (w : World) : Gd w w := ⟨Gr.refl w, Nat.le_refl _⟩
theorem Gd.trans {a b c : World} (h : Gd a b) (k : Gd b c) : Gd a c := ⟨h.gr.trans k.gr, Nat.le_trans h.dr k.dr⟩
theorem Gd.drew {w w' : World} (h : Gd w w') : Gd w w'.drew := ⟨h.gr.drew, Nat.le_succ_of_le h.dr⟩
theorem Gd.drewN {w w' : World} (h : Gd w w') (n : Nat) : Gd w (w'.drewN n) := ⟨h.gr.drewN n, Nat.le_trans h.dr (Nat.le_add_right _ _)⟩
theorem Gd.alloc {w w' : World} (h : Gd w w') (o : Obj) : Gd w (w'.alloc o) := ⟨h.gr.alloc o, h.dr⟩
theorem Gd.cell {w w' : World} (h : Gd w w') {p : Addr} {v : Value} (hp : w.cell? p = some v) : w'.cell? p = some v := h.gr.cell hp
/-- the world behind it, told outright -/
theorem Gd.grow {w w' : World} (h : Gd w w') : ∃ q os, w' = Go.Sort.grow (w.drewN q) os := by
  obtain ⟨⟨h1, h2, h3, h4, h5⟩, hd⟩ := h
  refine ⟨w'.drawn - w.drawn, w'.heap.extract w.heap.size w'.heap.size, ?_⟩
  have hh : w'.heap = w.heap ++ w'.heap.extract w.heap.size w'.heap.size := by
    apply Array.ext_getElem?
    intro i
    rw [Array.getElem?_append]
    split
    · next hi => exact h5 i hi
    · next hi =>
      rw [Array.getElem?_extract]
      split
      · next hi2 => rw [show w.heap.size + (i - w.heap.size) = i by omega]
      · next hi2 => exact Array.getElem?_eq_none (by omega)
  obtain ⟨heap, tape, drawn, os, out⟩ := w
  obtain ⟨heap', tape', drawn', os', out'⟩ := w'
  simp only at h1 h2 h3 hd hh
  subst h1 h2 h3
  unfold Go.Sort.grow World.drewN
  simp only [World.mk.injEq]
  simp only [true_and, and_true]
  exact ⟨hh, by omega⟩
theorem box33d (w : World) (a0 a1 a2 b0 b1 b2 : Value) (T : Nat) : ∃ W, (w.alloc (.cells #[a0, a1, a2] T)).alloc (.cells #[b0, b1, b2] T) = W ∧ Gd w W ∧
    (W.cell? ⟨w.heap.size, 0, none⟩ = some a0 ∧ W.cell? ⟨w.heap.size, 1, none⟩ = some a1 ∧ W.cell? ⟨w.heap.size, 2, none⟩ = some a2) ∧
    (W.cell? ⟨w.heap.size + 1, 0, none⟩ = some b0 ∧ W.cell? ⟨w.heap.size + 1, 1, none⟩ = some b1 ∧ W.cell? ⟨w.heap.size + 1, 2, none⟩ = some b2) := by
  obtain ⟨W, h, _, p, q⟩ := box33 w a0 a1 a2 b0 b1 b2 T
  exact ⟨W, h, by rw [← h]; exact ((Gd.refl w).alloc _).alloc _, p, q⟩
theorem box2d (w : World) (a0 a1 : Value) (T : Nat) : ∃ W, w.alloc (.cells #[a0, a1] T) = W ∧ Gd w W ∧ W.cell? ⟨w.heap.size, 0, none⟩ = some a0 ∧ W.cell? ⟨w.heap.size, 1, none⟩ = some a1 := by
  obtain ⟨W, h, _, p, q⟩ := box2 w a0 a1 T
  exact ⟨W, h, by rw [← h]; exact (Gd.refl w).alloc _, p, q⟩
set_option maxRecDepth 100000 in
theorem or_d (x y : Int) (b cap : Nat) (w : World) (hx : w.cell? ⟨b, 0, none⟩ = some (.int .i64 x)) (hy : w.cell? ⟨b, 1, none⟩ = some (.int .i64 y)) :
    Calls Tryz.prog 47 #[.slice (some ⟨b, 0, none⟩) 2 cap] w fun e w' => e = .returned (.int .i64 (firstE [x, y])) ∧ Gd w w' := by
  have HE : Hid (firstE [x, y] = if x = 0 then (if y = 0 then 0 else y) else x) := rfl
  go_enter Tryz.func47, Tryz.ntmps47
  go_wp2_with fail
  refine wp_loop_rounds 3 ?_
  rw [rounds_succ]
  by_cases h1 : x = 0
  · subst h1
    rw [if_pos rfl] at HE
    go_wp2_with fail
    rw [rounds_succ]
    by_cases h2 : y = 0
    · subst h2
      go_wp2_with fail
      rw [rounds_succ]
      go_wp2_with fail
      go_ret
      exact ⟨by rw [HE.out]; rfl, Gd.refl _⟩
    · have hd : (y == 0) = false := by simpa using h2
      have hd2 : (y != 0) = true := by simpa [bne] using hd
      rw [if_neg h2] at HE
      clear h2
      go_wp2_with fail
      go_ret
      exact ⟨by rw [HE.out]; rfl, Gd.refl _⟩
  · have hd : (x == 0) = false := by simpa using h1
    have hd2 : (x != 0) = true := by simpa [bne] using hd
    rw [if_neg h1] at HE
    clear h1
    go_wp2_with fail
    go_ret
    exact ⟨by rw [HE.out]; rfl, Gd.refl _⟩
set_option maxHeartbeats 1000000 in
set_option maxRecDepth 100000 in
theorem listsd_pos (xs ys : List Int) (n m b off cap b2 off2 cap2 : Nat) (w : World) (hn : xs.length = n) (hm : ys.length = m)
    (hc : ∀ i x, xs[i]? = some x → w.cell? ⟨b, off + i, none⟩ = some (.int .i64 x)) (hd : ∀ i x, ys[i]? = some x → w.cell? ⟨b2, off2 + i, none⟩ = some (.int .i64 x)) (hs : n ≤ 1000) (hs2 : m ≤ 1000) :
    Calls Tryz.prog 50 #[.slice (some ⟨b, off, none⟩) n cap, .slice (some ⟨b2, off2, none⟩) m cap2] w fun e w' => e = .returned (.int .i64 (cmpL xs ys)) ∧ Gd w w' := by
  have HN := Lib.hid hn
  have HM := Lib.hid hm
  have HC := Lib.hid hc
  have HD := Lib.hid hd
  clear hc hd hn hm
  go_enter Tryz.func50, Tryz.ntmps50
  go_wp2_with fail
  go_loopg [11] n (fun g s11 wr => ∃ k : Nat, s11 = .int .i64 k ∧ g + k = n ∧ Gd w wr ∧ k ≤ m ∧ Hid (cmpL (xs.drop k) (ys.drop k) = cmpL xs ys))
  case atStart => exact ⟨0, rfl, by omega, Gd.refl _, by omega, by simp [Hid]⟩
  case round =>
    obtain ⟨k, rfl, hk, hg, hkm, HF⟩ := hrel
    by_cases hlt : k < n
    · obtain ⟨x, hx⟩ : ∃ x, xs[k]? = some x := ⟨xs[k]'(by have := HN.out; omega), List.getElem?_eq_getElem _⟩
      have hcell := hg.cell (HC.out k x hx)
      by_cases hlm : k < m
      · obtain ⟨y, hy⟩ : ∃ y, ys[k]? = some y := ⟨ys[k]'(by have := HM.out; omega), List.getElem?_eq_getElem _⟩
        have hcell2 := hg.cell (HD.out k y hy)
        have hf := cmpL_drop hx hy
        have HT := fun W => cmpInt_c x y W
        clear hx hy
        have hlm2 : (k : Int) < m := by omega
        by_cases h0 : cmpZ x y = 0
        · rw [if_pos h0] at hf
          rw [h0] at HT
          replace HT := Lib.hid HT
          have HF2 := Lib.hid hf
          clear hf h0
          go_wp2_with (refine (HT.out _).mono ?_; rintro e w4 ⟨rfl, rfl⟩)
          go_roundg (gk - 1)
          case measure => omega
          case rel => exact ⟨k + 1, by go_num, by omega, hg, by omega, by unfold Hid; rw [← HF2.out, HF.out]⟩
        · rw [if_neg h0] at hf
          have h1 : (cmpZ x y == 0) = false := by simpa using h0
          have h2 : (cmpZ x y != 0) = true := by simpa [bne] using h1
          replace HT := Lib.hid HT
          have HF2 := Lib.hid hf
          clear hf h0
          generalize cmpZ x y = z at *
          go_wp2_with (refine (HT.out _).mono ?_; rintro e w4 ⟨rfl, rfl⟩)
          go_ret
          exact ⟨by rw [← HF.out, HF2.out]; rfl, hg⟩
      · have hf := cmpL_more (xs := xs) (ys := ys) (k := k) (by have := HN.out; omega) (by have := HM.out; omega)
        have HF2 := Lib.hid hf
        have hlm2 : (m : Int) ≤ k := by omega
        clear hf hx
        go_wp2_with fail
        go_ret
        exact ⟨by rw [← HF.out, HF2.out]; rfl, hg⟩
    · have hf := cmpL_end (xs := xs) (ys := ys) (k := k) (by have := HN.out; omega)
      rw [show ys.length = m from HM.out] at hf
      by_cases hlm : k < m
      · rw [decide_eq_true hlm] at hf
        have HF2 := Lib.hid hf
        have hlm2 : (n : Int) < m := by omega
        clear hf
        go_wp2_with fail
        go_ret
        exact ⟨by rw [← HF.out, HF2.out]; rfl, hg⟩
      · rw [decide_eq_false hlm] at hf
        have HF2 := Lib.hid hf
        have hlm2 : (m : Int) ≤ n := by omega
        clear hf
        go_wp2_with fail
        go_ret
        exact ⟨by rw [← HF.out, HF2.out]; rfl, hg⟩
set_option maxHeartbeats 1000000 in
set_option maxRecDepth 100000 in
theorem listsd_none (xs : List Int) (n b off cap cap2 : Nat) (p2 : Option Addr) (w : World) (h0 : 0 < n) (hn : xs.length = n)
    (hc : ∀ i x, xs[i]? = some x → w.cell? ⟨b, off + i, none⟩ = some (.int .i64 x)) (hs : n ≤ 1000) :
    Calls Tryz.prog 50 #[.slice (some ⟨b, off, none⟩) n cap, .slice p2 0 cap2] w fun e w' => e = .returned (.int .i64 (cmpL xs [])) ∧ Gd w w' := by
  obtain ⟨x, hx⟩ : ∃ x, xs[0]? = some x := ⟨xs[0]'(by omega), List.getElem?_eq_getElem _⟩
  have hcell : w.cell? ⟨b, off, none⟩ = some (.int .i64 x) := hc 0 x hx
  have HE : Hid (cmpL xs [] = 1) := by cases xs with | nil => simp at hx | cons _ _ => rfl
  clear hc hx hn
  go_enter Tryz.func50, Tryz.ntmps50
  go_wp2_with fail
  refine wp_loop_rounds 2 ?_
  rw [rounds_succ]
  go_wp2_with fail
  go_ret
  exact ⟨by rw [HE.out]; rfl, Gd.refl _⟩
set_option maxHeartbeats 1000000 in
set_option maxRecDepth 100000 in
theorem listsd_nil (ys : List Int) (m cap cap2 : Nat) (p p2 : Option Addr) (w : World) (hm : ys.length = m) :
    Calls Tryz.prog 50 #[.slice p 0 cap, .slice p2 m cap2] w fun e w' => e = .returned (.int .i64 (cmpL [] ys)) ∧ Gd w w' := by
  by_cases h0 : 0 < m
  · have HE : Hid (cmpL [] ys = -1) := by cases ys with | nil => simp at hm; omega | cons _ _ => rfl
    clear hm
    go_enter Tryz.func50, Tryz.ntmps50
    go_wp2_with fail
    refine wp_loop_rounds 1 ?_
    rw [rounds_succ]
    go_wp2_with fail
    go_ret
    exact ⟨by rw [HE.out]; rfl, Gd.refl _⟩
  · have HE : Hid (cmpL [] ys = 0) := by cases ys with | nil => rfl | cons _ _ => simp at hm; omega
    have hm0 : m = 0 := by omega
    subst hm0
    clear hm
    go_enter Tryz.func50, Tryz.ntmps50
    go_wp2_with fail
    refine wp_loop_rounds 1 ?_
    rw [rounds_succ]
    go_wp2_with fail
    go_ret
    exact ⟨by rw [HE.out]; rfl, Gd.refl _⟩
theorem listsd_c {v v2 : Value} {xs ys : List Int} {w : World} (h : IntsV w v xs) (h2 : IntsV w v2 ys) (hs : xs.length ≤ 1000) (hs2 : ys.length ≤ 1000) :
    Calls Tryz.prog 50 #[v, v2] w fun e w' => e = .returned (.int .i64 (cmpL xs ys)) ∧ Gd w w' := by
  obtain ⟨⟨p, cap, rfl, hh⟩⟩ := h
  obtain ⟨⟨p2, cap2, rfl, hh2⟩⟩ := h2
  by_cases h0 : 0 < xs.length
  · obtain ⟨b, off, rfl, hc⟩ := hh h0
    by_cases h1 : 0 < ys.length
    · obtain ⟨b2, off2, rfl, hd⟩ := hh2 h1
      exact listsd_pos xs ys _ _ b off cap b2 off2 cap2 w rfl rfl hc hd hs hs2
    · have : ys = [] := List.eq_nil_of_length_eq_zero (by omega)
      subst this
      exact listsd_none xs _ b off cap cap2 p2 w h0 rfl hc hs
  · have : xs = [] := List.eq_nil_of_length_eq_zero (by omega)
    subst this
    exact listsd_nil ys _ cap cap2 p p2 w rfl
set_option maxHeartbeats 1000000 in
set_option maxRecDepth 100000 in
theorem compare_d (c s c2 s2 : ByteArray) (v v2 : Value) (xs ys : List Int) (w : World) (hS : StatesIn w) (h : IntsV w v xs) (h2 : IntsV w v2 ys) (hs : xs.length ≤ 1000) (hs2 : ys.length ≤ 1000) :
    Calls Tryz.prog 20 #[resV c s v, resV c2 s2 v2] w fun e w' => e = .returned (.int .i64 (ordZ s s2 xs ys)) ∧ Gd w w' := by
  unfold resV
  have hB := fun W h => badness_c s W h
  have hB2 := fun W h => badness_c s2 W h
  have hR : ordZ s s2 xs ys = firstE [cmpZ (gradeZ s.toList) (gradeZ s2.toList), cmpL ys xs] := rfl
  have hL := fun v v2 W h h2 => listsd_c (v := v) (v2 := v2) (xs := ys) (ys := xs) (w := W) h h2 hs2 hs
  generalize gradeZ s.toList = z at *
  generalize gradeZ s2.toList = z2 at *
  have hC := fun W => cmpInt_c z z2 W
  generalize cmpZ z z2 = x at *
  generalize cmpL ys xs = y at *
  have HO := Lib.hid (or_d x y)
  have HB := Lib.hid hB
  have HB2 := Lib.hid hB2
  have HC := Lib.hid hC
  have HL := Lib.hid hL
  have HR := Lib.hid hR
  clear hB hB2 hR hL hC
  obtain ⟨p, cap, rfl, _⟩ := id h.out
  obtain ⟨p2, cap2, rfl, _⟩ := id h2.out
  obtain ⟨W, hW, g, ⟨a0, a1, a2⟩, b0, b1, b2⟩ := box33d w (.string c) (.string s) (.slice p xs.length cap) (.string c2) (.string s2) (.slice p2 ys.length cap2) 34
  have hS1 := hS.gr g.gr
  have hI1 := h.gr g.gr
  have hI2 := h2.gr g.gr
  have HW := Lib.hid hW
  clear hW hS h h2
  go_enter Tryz.func20, Tryz.ntmps20
  go_wp2_with fail
  rw [HW.out]
  generalize w.heap.size = B at *
  clear HW
  have gd := (Gd.refl W).drew
  replace a0 := gd.cell a0
  replace a1 := gd.cell a1
  replace a2 := gd.cell a2
  replace b0 := gd.cell b0
  replace b1 := gd.cell b1
  replace b2 := gd.cell b2
  replace hS1 := hS1.gr gd.gr
  replace hI1 := hI1.gr gd.gr
  replace hI2 := hI2.gr gd.gr
  replace g := g.trans gd
  clear gd
  refine wp_region_held_drew (S := (fun w' => w'.cell? ⟨B, 0, none⟩ = some (.string c) ∧ w'.cell? ⟨B, 1, none⟩ = some (.string s) ∧ w'.cell? ⟨B, 2, none⟩ = some (.slice p xs.length cap) ∧ w'.cell? ⟨B + 1, 0, none⟩ = some (.string c2) ∧ w'.cell? ⟨B + 1, 1, none⟩ = some (.string s2) ∧ w'.cell? ⟨B + 1, 2, none⟩ = some (.slice p2 ys.length cap2))) (by kernel_rfl) ⟨a0, a1, a2, b0, b1, b2⟩ (fun hHeld => ?_)
  generalize W.drew = V at *
  refine wpAnyH_take (i := 0) (v := (.pointer (some ⟨B, 1, none⟩))) (op_at rfl) (by kernel_rfl) (by kernel_rfl) (by kernel_rfl) (fun _ _ _ h => h) (Or.inl ⟨rfl, fun w hSw => ?_⟩) (by assumption) ?_
  · (try dsimp only at hSw); go_simp; try with_reducible rfl
  (try simp only [Act.put, List.setIfInBounds_toArray, List.set_cons_zero, List.set_cons_succ])
  refine wpAnyH_take (i := 1) (v := (.string s)) (op_at rfl) (by kernel_rfl) (by kernel_rfl) (by kernel_rfl) (fun _ _ _ h => h) (Or.inl ⟨rfl, fun w hSw => ?_⟩) (by assumption) ?_
  · (try dsimp only at hSw); go_simp; try with_reducible rfl
  (try simp only [Act.put, List.setIfInBounds_toArray, List.set_cons_zero, List.set_cons_succ])
  refine wpAnyH_take (i := 3) (v := (.pointer (some ⟨B + 1, 1, none⟩))) (op_at rfl) (by kernel_rfl) (by kernel_rfl) (by kernel_rfl) (fun _ _ _ h => h) (Or.inl ⟨rfl, fun w hSw => ?_⟩) (by assumption) ?_
  · (try dsimp only at hSw); go_simp; try with_reducible rfl
  (try simp only [Act.put, List.setIfInBounds_toArray, List.set_cons_zero, List.set_cons_succ])
  refine wpAnyH_take (i := 4) (v := (.string s2)) (op_at rfl) (by kernel_rfl) (by kernel_rfl) (by kernel_rfl) (fun _ _ _ h => h) (Or.inl ⟨rfl, fun w hSw => ?_⟩) (by assumption) ?_
  · (try dsimp only at hSw); go_simp; try with_reducible rfl
  (try simp only [Act.put, List.setIfInBounds_toArray, List.set_cons_zero, List.set_cons_succ])
  refine wpAnyH_take (i := 7) (v := (.pointer (some ⟨B + 1, 2, none⟩))) (op_at rfl) (by kernel_rfl) (by kernel_rfl) (by kernel_rfl) (fun _ _ _ h => h) (Or.inl ⟨rfl, fun w hSw => ?_⟩) (by assumption) ?_
  · (try dsimp only at hSw); go_simp; try with_reducible rfl
  (try simp only [Act.put, List.setIfInBounds_toArray, List.set_cons_zero, List.set_cons_succ])
  refine wpAnyH_take (i := 8) (v := (.slice p2 ys.length cap2)) (op_at rfl) (by kernel_rfl) (by kernel_rfl) (by kernel_rfl) (fun _ _ _ h => h) (Or.inl ⟨rfl, fun w hSw => ?_⟩) (by assumption) ?_
  · (try dsimp only at hSw); go_simp; try with_reducible rfl
  (try simp only [Act.put, List.setIfInBounds_toArray, List.set_cons_zero, List.set_cons_succ])
  refine wpAnyH_take (i := 9) (v := (.pointer (some ⟨B, 2, none⟩))) (op_at rfl) (by kernel_rfl) (by kernel_rfl) (by kernel_rfl) (fun _ _ _ h => h) (Or.inl ⟨rfl, fun w hSw => ?_⟩) (by assumption) ?_
  · (try dsimp only at hSw); go_simp; try with_reducible rfl
  (try simp only [Act.put, List.setIfInBounds_toArray, List.set_cons_zero, List.set_cons_succ])
  refine wpAnyH_take (i := 10) (v := (.slice p xs.length cap)) (op_at rfl) (by kernel_rfl) (by kernel_rfl) (by kernel_rfl) (fun _ _ _ h => h) (Or.inl ⟨rfl, fun w hSw => ?_⟩) (by assumption) ?_
  · (try dsimp only at hSw); go_simp; try with_reducible rfl
  (try simp only [Act.put, List.setIfInBounds_toArray, List.set_cons_zero, List.set_cons_succ])
  refine wpAnyH_ready (rs := [2]) (by kernel_rfl) (by simp) (AllReadyH.cons (op_at rfl) (fun K hK => ?_) AllReadyH.nil)
  go_simp
  (refine (HB.out _ hS1).mono ?_; rintro e w' ⟨rfl, rfl⟩)
  go_wp2_with fail
  refine hK.out _ _ ⟨a0, a1, a2, b0, b1, b2⟩ (fun hHeld => ?_)
  clear hK K
  (try simp only [Act.put, List.setIfInBounds_toArray, List.set_cons_zero, List.set_cons_succ])
  refine wpAnyH_ready (rs := [5]) (by kernel_rfl) (by simp) (AllReadyH.cons (op_at rfl) (fun K hK => ?_) AllReadyH.nil)
  go_simp
  (refine (HB2.out _ hS1).mono ?_; rintro e w' ⟨rfl, rfl⟩)
  go_wp2_with fail
  refine hK.out _ _ ⟨a0, a1, a2, b0, b1, b2⟩ (fun hHeld => ?_)
  clear hK K
  (try simp only [Act.put, List.setIfInBounds_toArray, List.set_cons_zero, List.set_cons_succ])
  refine wpAnyH_ready (rs := [6]) (by kernel_rfl) (by simp) (AllReadyH.cons (op_at rfl) (fun K hK => ?_) AllReadyH.nil)
  go_simp
  (refine (HC.out _).mono ?_; rintro e w' ⟨rfl, rfl⟩)
  go_wp2_with fail
  refine hK.out _ _ ⟨a0, a1, a2, b0, b1, b2⟩ (fun hHeld => ?_)
  clear hK K
  (try simp only [Act.put, List.setIfInBounds_toArray, List.set_cons_zero, List.set_cons_succ])
  refine wpAnyH_ready (rs := [11]) (by kernel_rfl) (by simp) (AllReadyH.cons (op_at rfl) (fun K hK => ?_) AllReadyH.nil)
  go_simp
  (refine (HL.out _ _ _ hI2 hI1).mono ?_; rintro e W2 ⟨rfl, hg⟩; replace a0 := hg.cell a0; replace a1 := hg.cell a1; replace a2 := hg.cell a2; replace b0 := hg.cell b0; replace b1 := hg.cell b1; replace b2 := hg.cell b2; replace hS1 := hS1.gr hg.gr; replace hI1 := hI1.gr hg.gr; replace hI2 := hI2.gr hg.gr; replace g := g.trans hg; clear hg)
  go_wp2_with fail
  refine hK.out _ _ ⟨a0, a1, a2, b0, b1, b2⟩ (fun hHeld => ?_)
  clear hK K
  (try simp only [Act.put, List.setIfInBounds_toArray, List.set_cons_zero, List.set_cons_succ])
  refine wpAnyH_ready (rs := [12]) (by kernel_rfl) (by simp) (AllReadyH.cons (op_at rfl) (fun K hK => ?_) AllReadyH.nil)
  go_simp
  obtain ⟨W3, hW3, g3, q0, q1⟩ := box2d W2 (.int .i64 x) (.int .i64 y) 3
  rw [hW3]
  clear hW3
  replace a0 := g3.cell a0
  replace a1 := g3.cell a1
  replace a2 := g3.cell a2
  replace b0 := g3.cell b0
  replace b1 := g3.cell b1
  replace b2 := g3.cell b2
  replace hS1 := hS1.gr g3.gr
  replace hI1 := hI1.gr g3.gr
  replace hI2 := hI2.gr g3.gr
  replace g := g.trans g3
  refine hK.out _ _ ⟨a0, a1, a2, b0, b1, b2⟩ (fun hHeld => ?_)
  clear hK K
  (try simp only [Act.put, List.setIfInBounds_toArray, List.set_cons_zero, List.set_cons_succ])
  refine wpAnyH_ready (rs := [13]) (by kernel_rfl) (by simp) (AllReadyH.cons (op_at rfl) (fun K hK => ?_) AllReadyH.nil)
  go_simp
  (refine (HO.out _ _ W3 q0 q1).mono ?_; rintro e W4 ⟨rfl, hg⟩; replace a0 := hg.cell a0; replace a1 := hg.cell a1; replace a2 := hg.cell a2; replace b0 := hg.cell b0; replace b1 := hg.cell b1; replace b2 := hg.cell b2; replace hS1 := hS1.gr hg.gr; replace hI1 := hI1.gr hg.gr; replace hI2 := hI2.gr hg.gr; replace g := g.trans hg; clear hg)
  go_wp2_with fail
  refine hK.out _ _ ⟨a0, a1, a2, b0, b1, b2⟩ (fun hHeld => ?_)
  clear hK K
  (try simp only [Act.put, List.setIfInBounds_toArray, List.set_cons_zero, List.set_cons_succ])
  refine wpAnyH_take (i := 14) (v := (.int .i64 (firstE [x, y]))) (op_at rfl) (by kernel_rfl) (by kernel_rfl) (by kernel_rfl) (fun _ _ _ h => h) (Or.inl ⟨rfl, fun w hSw => ?_⟩) (by assumption) ?_
  · (try dsimp only at hSw); go_simp; try with_reducible rfl
  (try simp only [Act.put, List.setIfInBounds_toArray, List.set_cons_zero, List.set_cons_succ])
  refine wpAnyH_done (by kernel_rfl) ?_ _
  go_wp2_with fail
  go_ret
  exact ⟨by rw [HR.out]; rfl, g⟩
end Go.Proofs.YtebnbjaaogfikaaGreatDoor
