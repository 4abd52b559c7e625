/- Comparisons of results, and how many draws they make: what the sort asks of its comparison. -/
import Derived.Test.YtimbcjldejifaaaGreatDoorGCmpA
import Derived.Sort.Grow
namespace Go.Proofs.YtimbcjldejifaaaGreatDoor
open Go.RowKit Go.Lib
set_option linter.unusedSimpArgs false
set_option linter.unusedVariables false
/-- old blocks as they were, and no draw undone -/
structure Gd (w w' : World) : Prop where
  gr : Gr w w'
  dr : w.drawn ≤ w'.drawn
theorem Gd.refl (w : World) : Gd w w := ⟨Gr.refl w, Nat.le_refl _⟩
theorem Gd.trans {a b c : World} (h : Gd a b) (k : Gd b c) : Gd a c := ⟨h.gr.trans k.gr, Nat.le_trans h.dr k.dr⟩
theorem Gd.drew {w w' : World} (h : Gd w w') : Gd w w'.drew := ⟨h.gr.drew, Nat.le_succ_of_le h.dr⟩
theorem Gd.drewN {w w' : World} (h : Gd w w') (n : Nat) : Gd w (w'.drewN n) := ⟨h.gr.drewN n, Nat.le_trans h.dr (Nat.le_add_right _ _)⟩
theorem Gd.alloc {w w' : World} (h : Gd w w') (o : Obj) : Gd w (w'.alloc o) := ⟨h.gr.alloc o, h.dr⟩
theorem Gd.cell {w w' : World} (h : Gd w w') {p : Addr} {v : Value} (hp : w.cell? p = some v) : w'.cell? p = some v := h.gr.cell hp
/-- the world behind it, told outright -/
theorem Gd.grow {w w' : World} (h : Gd w w') : ∃ q os, w' = Go.Sort.grow (w.drewN q) os := by
  obtain ⟨⟨h1, h2, h3, h4, h5⟩, hd⟩ := h
  refine ⟨w'.drawn - w.drawn, w'.heap.extract w.heap.size w'.heap.size, ?_⟩
  have hh : w'.heap = w.heap ++ w'.heap.extract w.heap.size w'.heap.size := by
    apply Array.ext_getElem?
    intro i
    rw [Array.getElem?_append]
    split
    · next hi => exact h5 i hi
    · next hi =>
      rw [Array.getElem?_extract]
      split
      · next hi2 => rw [show w.heap.size + (i - w.heap.size) = i by omega]
      · next hi2 => exact Array.getElem?_eq_none (by omega)
  obtain ⟨heap, tape, drawn, os, out⟩ := w
  obtain ⟨heap', tape', drawn', os', out'⟩ := w'
  simp only at h1 h2 h3 hd hh
  subst h1 h2 h3
  unfold Go.Sort.grow World.drewN
  simp only [World.mk.injEq]
  simp only [true_and, and_true]
  exact ⟨hh, by omega⟩
theorem box33d (w : World) (a0 a1 a2 b0 b1 b2 : Value) (T : Nat) : ∃ W, (w.alloc (.cells #[a0, a1, a2] T)).alloc (.cells #[b0, b1, b2] T) = W ∧ Gd w W ∧
    (W.cell? ⟨w.heap.size, 0, none⟩ = some a0 ∧ W.cell? ⟨w.heap.size, 1, none⟩ = some a1 ∧ W.cell? ⟨w.heap.size, 2, none⟩ = some a2) ∧
    (W.cell? ⟨w.heap.size + 1, 0, none⟩ = some b0 ∧ W.cell? ⟨w.heap.size + 1, 1, none⟩ = some b1 ∧ W.cell? ⟨w.heap.size + 1, 2, none⟩ = some b2) := by
  obtain ⟨W, h, _, p, q⟩ := box33 w a0 a1 a2 b0 b1 b2 T
  exact ⟨W, h, by rw [← h]; exact ((Gd.refl w).alloc _).alloc _, p, q⟩
theorem box2d (w : World) (a0 a1 : Value) (T : Nat) : ∃ W, w.alloc (.cells #[a0, a1] T) = W ∧ Gd w W ∧ W.cell? ⟨w.heap.size, 0, none⟩ = some a0 ∧ W.cell? ⟨w.heap.size, 1, none⟩ = some a1 := by
  obtain ⟨W, h, _, p, q⟩ := box2 w a0 a1 T
  exact ⟨W, h, by rw [← h]; exact (Gd.refl w).alloc _, p, q⟩
set_option maxRecDepth 100000 in
theorem or_d (x y : Int) (b cap : Nat) (w : World) (hx : w.cell? ⟨b, 0, none⟩ = some (.int .i64 x)) (hy : w.cell? ⟨b, 1, none⟩ = some (.int .i64 y)) :
    Calls Tryz.prog 48 #[.slice (some ⟨b, 0, none⟩) 2 cap] w fun e w' => e = .returned (.int .i64 (firstE [x, y])) ∧ Gd w w' := by
  have HE : Hid (firstE [x, y] = if x = 0 then (if y = 0 then 0 else y) else x) := rfl
  go_enter Tryz.func48, Tryz.ntmps48
  go_wp2_with fail
  refine wp_loop_rounds 3 ?_
  rw [rounds_succ]
  by_cases h1 : x = 0
  · subst h1
    rw [if_pos rfl] at HE
    go_wp2_with fail
    rw [rounds_succ]
    by_cases h2 : y = 0
    · subst h2
      go_wp2_with fail
      rw [rounds_succ]
      go_wp2_with fail
      go_ret
      exact ⟨by rw [HE.out]; rfl, Gd.refl _⟩
    · have hd : (y == 0) = false := by simpa using h2
      have hd2 : (y != 0) = true := by simpa [bne] using hd
      rw [if_neg h2] at HE
      clear h2
      go_wp2_with fail
      go_ret
      exact ⟨by rw [HE.out]; rfl, Gd.refl _⟩
  · have hd : (x == 0) = false := by simpa using h1
    have hd2 : (x != 0) = true := by simpa [bne] using hd
    rw [if_neg h1] at HE
    clear h1
    go_wp2_with fail
    go_ret
    exact ⟨by rw [HE.out]; rfl, Gd.refl _⟩
set_option maxHeartbeats 1000000 in
set_option maxRecDepth 100000 in
theorem listsd_pos (xs ys : List Int) (n m b off cap b2 off2 cap2 : Nat) (w : World) (hn : xs.length = n) (hm : ys.length = m)
    (hc : ∀ i x, xs[i]? = some x → w.cell? ⟨b, off + i, none⟩ = some (.int .i64 x)) (hd : ∀ i x, ys[i]? = some x → w.cell? ⟨b2, off2 + i, none⟩ = some (.int .i64 x)) (hs : n ≤ 1000) (hs2 : m ≤ 1000) :
    Calls Tryz.prog 51 #[.slice (some ⟨b, off, none⟩) n cap, .slice (some ⟨b2, off2, none⟩) m cap2] w fun e w' => e = .returned (.int .i64 (cmpL xs ys)) ∧ Gd w w' := by
  have HN := Lib.hid hn
  have HM := Lib.hid hm
  have HC := Lib.hid hc
  have HD := Lib.hid hd
  clear hc hd hn hm
  go_enter Tryz.func51, Tryz.ntmps51
  go_wp2_with fail
  go_loopg [11] n (fun g s11 wr => ∃ k : Nat, s11 = .int .i64 k ∧ g + k = n ∧ Gd w wr ∧ k ≤ m ∧ Hid (cmpL (xs.drop k) (ys.drop k) = cmpL xs ys))
  case atStart => exact ⟨0, rfl, by omega, Gd.refl _, by omega, by simp [Hid]⟩
  case round =>
    obtain ⟨k, rfl, hk, hg, hkm, HF⟩ := hrel
    by_cases hlt : k < n
    · obtain ⟨x, hx⟩ : ∃ x, xs[k]? = some x := ⟨xs[k]'(by have := HN.out; omega), List.getElem?_eq_getElem _⟩
      have hcell := hg.cell (HC.out k x hx)
      by_cases hlm : k < m
      · obtain ⟨y, hy⟩ : ∃ y, ys[k]? = some y := ⟨ys[k]'(by have := HM.out; omega), List.getElem?_eq_getElem _⟩
        have hcell2 := hg.cell (HD.out k y hy)
        have hf := cmpL_drop hx hy
        have HT := fun W => cmpInt_c x y W
        clear hx hy
        have hlm2 : (k : Int) < m := by omega
        by_cases h0 : cmpZ x y = 0
        · rw [if_pos h0] at hf
          rw [h0] at HT
          replace HT := Lib.hid HT
          have HF2 := Lib.hid hf
          clear hf h0
          go_wp2_with (refine (HT.out _).mono ?_; rintro e w4 ⟨rfl, rfl⟩)
          go_roundg (gk - 1)
          case measure => omega
          case rel => exact ⟨k + 1, by go_num, by omega, hg, by omega, by unfold Hid; rw [← HF2.out, HF.out]⟩
        · rw [if_neg h0] at hf
          have h1 : (cmpZ x y == 0) = false := by simpa using h0
          have h2 : (cmpZ x y != 0) = true := by simpa [bne] using h1
          replace HT := Lib.hid HT
          have HF2 := Lib.hid hf
          clear hf h0
          generalize cmpZ x y = z at *
          go_wp2_with (refine (HT.out _).mono ?_; rintro e w4 ⟨rfl, rfl⟩)
          go_ret
          exact ⟨by rw [← HF.out, HF2.out]; rfl, hg⟩
      · have hf := cmpL_more (xs := xs) (ys := ys) (k := k) (by have := HN.out; omega) (by have := HM.out; omega)
        have HF2 := Lib.hid hf
        have hlm2 : (m : Int) ≤ k := by omega
        clear hf hx
        go_wp2_with fail
        go_ret
        exact ⟨by rw [← HF.out, HF2.out]; rfl, hg⟩
    · have hf := cmpL_end (xs := xs) (ys := ys) (k := k) (by have := HN.out; omega)
      rw [show ys.length = m from HM.out] at hf
      by_cases hlm : k < m
      · rw [decide_eq_true hlm] at hf
        have HF2 := Lib.hid hf
        have hlm2 : (n : Int) < m := by omega
        clear hf
        go_wp2_with fail
        go_ret
        exact ⟨by rw [← HF.out, HF2.out]; rfl, hg⟩
      · rw [decide_eq_false hlm] at hf
        have HF2 := Lib.hid hf
        have hlm2 : (m : Int) ≤ n := by omega
        clear hf
        go_wp2_with fail
        go_ret
        exact ⟨by rw [← HF.out, HF2.out]; rfl, hg⟩
set_option maxHeartbeats 1000000 in
set_option maxRecDepth 100000 in
theorem listsd_none (xs : List Int) (n b off cap cap2 : Nat) (p2 : Option Addr) (w : World) (h0 : 0 < n) (hn : xs.length = n)
    (hc : ∀ i x, xs[i]? = some x → w.cell? ⟨b, off + i, none⟩ = some (.int .i64 x)) (hs : n ≤ 1000) :
    Calls Tryz.prog 51 #[.slice (some ⟨b, off, none⟩) n cap, .slice p2 0 cap2] w fun e w' => e = .returned (.int .i64 (cmpL xs [])) ∧ Gd w w' := by
  obtain ⟨x, hx⟩ : ∃ x, xs[0]? = some x := ⟨xs[0]'(by omega), List.getElem?_eq_getElem _⟩
  have hcell : w.cell? ⟨b, off, none⟩ = some (.int .i64 x) := hc 0 x hx
  have HE : Hid (cmpL xs [] = 1) := by cases xs with | nil => simp at hx | cons _ _ => rfl
  clear hc hx hn
  go_enter Tryz.func51, Tryz.ntmps51
  go_wp2_with fail
  refine wp_loop_rounds 2 ?_
  rw [rounds_succ]
  go_wp2_with fail
  go_ret
  exact ⟨by rw [HE.out]; rfl, Gd.refl _⟩
set_option maxHeartbeats 1000000 in
set_option maxRecDepth 100000 in
theorem listsd_nil (ys : List Int) (m cap cap2 : Nat) (p p2 : Option Addr) (w : World) (hm : ys.length = m) :
    Calls Tryz.prog 51 #[.slice p 0 cap, .slice p2 m cap2] w fun e w' => e = .returned (.int .i64 (cmpL [] ys)) ∧ Gd w w' := by
  by_cases h0 : 0 < m
  · have HE : Hid (cmpL [] ys = -1) := by cases ys with | nil => simp at hm; omega | cons _ _ => rfl
    clear hm
    go_enter Tryz.func51, Tryz.ntmps51
    go_wp2_with fail
    refine wp_loop_rounds 1 ?_
    rw [rounds_succ]
    go_wp2_with fail
    go_ret
    exact ⟨by rw [HE.out]; rfl, Gd.refl _⟩
  · have HE : Hid (cmpL [] ys = 0) := by cases ys with | nil => rfl | cons _ _ => simp at hm; omega
    have hm0 : m = 0 := by omega
    subst hm0
    clear hm
    go_enter Tryz.func51, Tryz.ntmps51
    go_wp2_with fail
    refine wp_loop_rounds 1 ?_
    rw [rounds_succ]
    go_wp2_with fail
    go_ret
    exact ⟨by rw [HE.out]; rfl, Gd.refl _⟩
theorem listsd_c {v v2 : Value} {xs ys : List Int} {w : World} (h : IntsV w v xs) (h2 : IntsV w v2 ys) (hs : xs.length ≤ 1000) (hs2 : ys.length ≤ 1000) :
    Calls Tryz.prog 51 #[v, v2] w fun e w' => e = .returned (.int .i64 (cmpL xs ys)) ∧ Gd w w' := by
  obtain ⟨⟨p, cap, rfl, hh⟩⟩ := h
  obtain ⟨⟨p2, cap2, rfl, hh2⟩⟩ := h2
  by_cases h0 : 0 < xs.length
  · obtain ⟨b, off, rfl, hc⟩ := hh h0
    by_cases h1 : 0 < ys.length
    · obtain ⟨b2, off2, rfl, hd⟩ := hh2 h1
      exact listsd_pos xs ys _ _ b off cap b2 off2 cap2 w rfl rfl hc hd hs hs2
    · have : ys = [] := List.eq_nil_of_length_eq_zero (by omega)
      subst this
      exact listsd_none xs _ b off cap cap2 p2 w h0 rfl hc hs
  · have : xs = [] := List.eq_nil_of_length_eq_zero (by omega)
    subst this
    exact listsd_nil ys _ cap cap2 p p2 w rfl
set_option maxHeartbeats 1000000 in
set_option maxRecDepth 100000 in
theorem compare_d (c s c2 s2 : ByteArray) (v v2 : Value) (xs ys : List Int) (w : World) (hS : StatesIn w) (h : IntsV w v xs) (h2 : IntsV w v2 ys) (hs : xs.length ≤ 1000) (hs2 : ys.length ≤ 1000) :
    Calls Tryz.prog 18 #[resV c s v, resV c2 s2 v2] w fun e w' => e = .returned (.int .i64 (ordZ s s2 xs ys)) ∧ Gd w w' := by
  unfold resV
  have hB := fun W h => badness_c s W h
  have hB2 := fun W h => badness_c s2 W h
  have hR : ordZ s s2 xs ys = firstE [cmpZ (gradeZ s.toList) (gradeZ s2.toList), cmpL ys xs] := rfl
  have hL := fun v v2 W h h2 => listsd_c (v := v) (v2 := v2) (xs := ys) (ys := xs) (w := W) h h2 hs2 hs
  generalize gradeZ s.toList = z at *
  generalize gradeZ s2.toList = z2 at *
  have hC := fun W => cmpInt_c z z2 W
  generalize cmpZ z z2 = x at *
  generalize cmpL ys xs = y at *
  have HO := Lib.hid (or_d x y)
  have HB := Lib.hid hB
  have HB2 := Lib.hid hB2
  have HC := Lib.hid hC
  have HL := Lib.hid hL
  have HR := Lib.hid hR
  clear hB hB2 hR hL hC
  obtain ⟨p, cap, rfl, _⟩ := id h.out
  obtain ⟨p2, cap2, rfl, _⟩ := id h2.out
  obtain ⟨W, hW, g, ⟨a0, a1, a2⟩, b0, b1, b2⟩ := box33d w (.string c) (.string s) (.slice p xs.length cap) (.string c2) (.string s2) (.slice p2 ys.length cap2) 33
  have hS1 := hS.gr g.gr
  have hI1 := h.gr g.gr
  have hI2 := h2.gr g.gr
  have HW := Lib.hid hW
  clear hW hS h h2
  go_enter Tryz.func18, Tryz.ntmps18
  go_wp2_with fail
  rw [HW.out]
  generalize w.heap.size = B at *
  clear HW
  have gd := (Gd.refl W).drew
  replace a0 := gd.cell a0
  replace a1 := gd.cell a1
  replace a2 := gd.cell a2
  replace b0 := gd.cell b0
  replace b1 := gd.cell b1
  replace b2 := gd.cell b2
  replace hS1 := hS1.gr gd.gr
  replace hI1 := hI1.gr gd.gr
  replace hI2 := hI2.gr gd.gr
  replace g := g.trans gd
  clear gd
  refine wp_region_held_drew (S := (fun w' => w'.cell? ⟨B, 0, none⟩ = some (.string c) ∧ w'.cell? ⟨B, 1, none⟩ = some (.string s) ∧ w'.cell? ⟨B, 2, none⟩ = some (.slice p xs.length cap) ∧ w'.cell? ⟨B + 1, 0, none⟩ = some (.string c2) ∧ w'.cell? ⟨B + 1, 1, none⟩ = some (.string s2) ∧ w'.cell? ⟨B + 1, 2, none⟩ = some (.slice p2 ys.length cap2))) (by kernel_rfl) ⟨a0, a1, a2, b0, b1, b2⟩ (fun hHeld => ?_)
  generalize W.drew = V at *
  refine wpAnyH_take (i := 0) (v := (.pointer (some ⟨B, 1, none⟩))) (op_at rfl) (by kernel_rfl) (by kernel_rfl) (by kernel_rfl) (fun _ _ _ h => h) (Or.inl ⟨rfl, fun w hSw => ?_⟩) (by assumption) ?_
  · (try dsimp only at hSw); go_simp; try with_reducible rfl
  (try simp only [Act.put, List.setIfInBounds_toArray, List.set_cons_zero, List.set_cons_succ])
  refine wpAnyH_take (i := 1) (v := (.string s)) (op_at rfl) (by kernel_rfl) (by kernel_rfl) (by kernel_rfl) (fun _ _ _ h => h) (Or.inl ⟨rfl, fun w hSw => ?_⟩) (by assumption) ?_
  · (try dsimp only at hSw); go_simp; try with_reducible rfl
  (try simp only [Act.put, List.setIfInBounds_toArray, List.set_cons_zero, List.set_cons_succ])
  refine wpAnyH_take (i := 3) (v := (.pointer (some ⟨B + 1, 1, none⟩))) (op_at rfl) (by kernel_rfl) (by kernel_rfl) (by kernel_rfl) (fun _ _ _ h => h) (Or.inl ⟨rfl, fun w hSw => ?_⟩) (by assumption) ?_
  · (try dsimp only at hSw); go_simp; try with_reducible rfl
  (try simp only [Act.put, List.setIfInBounds_toArray, List.set_cons_zero, List.set_cons_succ])
  refine wpAnyH_take (i := 4) (v := (.string s2)) (op_at rfl) (by kernel_rfl) (by kernel_rfl) (by kernel_rfl) (fun _ _ _ h => h) (Or.inl ⟨rfl, fun w hSw => ?_⟩) (by assumption) ?_
  · (try dsimp only at hSw); go_simp; try with_reducible rfl
  (try simp only [Act.put, List.setIfInBounds_toArray, List.set_cons_zero, List.set_cons_succ])
  refine wpAnyH_take (i := 7) (v := (.pointer (some ⟨B + 1, 2, none⟩))) (op_at rfl) (by kernel_rfl) (by kernel_rfl) (by kernel_rfl) (fun _ _ _ h => h) (Or.inl ⟨rfl, fun w hSw => ?_⟩) (by assumption) ?_
  · (try dsimp only at hSw); go_simp; try with_reducible rfl
  (try simp only [Act.put, List.setIfInBounds_toArray, List.set_cons_zero, List.set_cons_succ])
  refine wpAnyH_take (i := 8) (v := (.slice p2 ys.length cap2)) (op_at rfl) (by kernel_rfl) (by kernel_rfl) (by kernel_rfl) (fun _ _ _ h => h) (Or.inl ⟨rfl, fun w hSw => ?_⟩) (by assumption) ?_
  · (try dsimp only at hSw); go_simp; try with_reducible rfl
  (try simp only [Act.put, List.setIfInBounds_toArray, List.set_cons_zero, List.set_cons_succ])
  refine wpAnyH_take (i := 9) (v := (.pointer (some ⟨B, 2, none⟩))) (op_at rfl) (by kernel_rfl) (by kernel_rfl) (by kernel_rfl) (fun _ _ _ h => h) (Or.inl ⟨rfl, fun w hSw => ?_⟩) (by assumption) ?_
  · (try dsimp only at hSw); go_simp; try with_reducible rfl
  (try simp only [Act.put, List.setIfInBounds_toArray, List.set_cons_zero, List.set_cons_succ])
  refine wpAnyH_take (i := 10) (v := (.slice p xs.length cap)) (op_at rfl) (by kernel_rfl) (by kernel_rfl) (by kernel_rfl) (fun _ _ _ h => h) (Or.inl ⟨rfl, fun w hSw => ?_⟩) (by assumption) ?_
  · (try dsimp only at hSw); go_simp; try with_reducible rfl
  (try simp only [Act.put, List.setIfInBounds_toArray, List.set_cons_zero, List.set_cons_succ])
  refine wpAnyH_ready (rs := [2]) (by kernel_rfl) (by simp) (AllReadyH.cons (op_at rfl) (fun K hK => ?_) AllReadyH.nil)
  go_simp
  (refine (HB.out _ hS1).mono ?_; rintro e w' ⟨rfl, rfl⟩)
  go_wp2_with fail
  refine hK.out _ _ ⟨a0, a1, a2, b0, b1, b2⟩ (fun hHeld => ?_)
  clear hK K
  (try simp only [Act.put, List.setIfInBounds_toArray, List.set_cons_zero, List.set_cons_succ])
  refine wpAnyH_ready (rs := [5]) (by kernel_rfl) (by simp) (AllReadyH.cons (op_at rfl) (fun K hK => ?_) AllReadyH.nil)
  go_simp
  (refine (HB2.out _ hS1).mono ?_; rintro e w' ⟨rfl, rfl⟩)
  go_wp2_with fail
  refine hK.out _ _ ⟨a0, a1, a2, b0, b1, b2⟩ (fun hHeld => ?_)
  clear hK K
  (try simp only [Act.put, List.setIfInBounds_toArray, List.set_cons_zero, List.set_cons_succ])
  refine wpAnyH_ready (rs := [6]) (by kernel_rfl) (by simp) (AllReadyH.cons (op_at rfl) (fun K hK => ?_) AllReadyH.nil)
  go_simp
  (refine (HC.out _).mono ?_; rintro e w' ⟨rfl, rfl⟩)
  go_wp2_with fail
  refine hK.out _ _ ⟨a0, a1, a2, b0, b1, b2⟩ (fun hHeld => ?_)
  clear hK K
  (try simp only [Act.put, List.setIfInBounds_toArray, List.set_cons_zero, List.set_cons_succ])
  refine wpAnyH_ready (rs := [11]) (by kernel_rfl) (by simp) (AllReadyH.cons (op_at rfl) (fun K hK => ?_) AllReadyH.nil)
  go_simp
  (refine (HL.out _ _ _ hI2 hI1).mono ?_; rintro e W2 ⟨rfl, hg⟩; replace a0 := hg.cell a0; replace a1 := hg.cell a1; replace a2 := hg.cell a2; replace b0 := hg.cell b0; replace b1 := hg.cell b1; replace b2 := hg.cell b2; replace hS1 := hS1.gr hg.gr; replace hI1 := hI1.gr hg.gr; replace hI2 := hI2.gr hg.gr; replace g := g.trans hg; clear hg)
  go_wp2_with fail
  refine hK.out _ _ ⟨a0, a1, a2, b0, b1, b2⟩ (fun hHeld => ?_)
  clear hK K
  (try simp only [Act.put, List.setIfInBounds_toArray, List.set_cons_zero, List.set_cons_succ])
  refine wpAnyH_ready (rs := [12]) (by kernel_rfl) (by simp) (AllReadyH.cons (op_at rfl) (fun K hK => ?_) AllReadyH.nil)
  go_simp
  obtain ⟨W3, hW3, g3, q0, q1⟩ := box2d W2 (.int .i64 x) (.int .i64 y) 3
  rw [hW3]
  clear hW3
  replace a0 := g3.cell a0
  replace a1 := g3.cell a1
  replace a2 := g3.cell a2
  replace b0 := g3.cell b0
  replace b1 := g3.cell b1
  replace b2 := g3.cell b2
  replace hS1 := hS1.gr g3.gr
  replace hI1 := hI1.gr g3.gr
  replace hI2 := hI2.gr g3.gr
  replace g := g.trans g3
  refine hK.out _ _ ⟨a0, a1, a2, b0, b1, b2⟩ (fun hHeld => ?_)
  clear hK K
  (try simp only [Act.put, List.setIfInBounds_toArray, List.set_cons_zero, List.set_cons_succ])
  refine wpAnyH_ready (rs := [13]) (by kernel_rfl) (by simp) (AllReadyH.cons (op_at rfl) (fun K hK => ?_) AllReadyH.nil)
  go_simp
  (refine (HO.out _ _ W3 q0 q1).mono ?_; rintro e W4 ⟨rfl, hg⟩; replace a0 := hg.cell a0; replace a1 := hg.cell a1; replace a2 := hg.cell a2; replace b0 := hg.cell b0; replace b1 := hg.cell b1; replace b2 := hg.cell b2; replace hS1 := hS1.gr hg.gr; replace hI1 := hI1.gr hg.gr; replace hI2 := hI2.gr hg.gr; replace g := g.trans hg; clear hg)
  go_wp2_with fail
  refine hK.out _ _ ⟨a0, a1, a2, b0, b1, b2⟩ (fun hHeld => ?_)
  clear hK K
  (try simp only [Act.put, List.setIfInBounds_toArray, List.set_cons_zero, List.set_cons_succ])
  refine wpAnyH_take (i := 14) (v := (.int .i64 (firstE [x, y]))) (op_at rfl) (by kernel_rfl) (by kernel_rfl) (by kernel_rfl) (fun _ _ _ h => h) (Or.inl ⟨rfl, fun w hSw => ?_⟩) (by assumption) ?_
  · (try dsimp only at hSw); go_simp; try with_reducible rfl
  (try simp only [Act.put, List.setIfInBounds_toArray, List.set_cons_zero, List.set_cons_succ])
  refine wpAnyH_done (by kernel_rfl) ?_ _
  go_wp2_with fail
  go_ret
  exact ⟨by rw [HR.out]; rfl, g⟩
end Go.Proofs.YtimbcjldejifaaaGreatDoor
namespace Go.Proofs.YtimbcjldejifaaaGreatDoor
open Go.RowKit Go.Lib
set_option linter.unusedSimpArgs false
set_option linter.unusedVariables false
structure RowR where
  nm : ByteArray
  st : ByteArray
  u : Value
  xs : List Int
/-- the three cells of a result at a place, and its values -/
structure RowAt (w : World) (b off : Nat) (x : RowR) : Prop where
  nm : w.cell? ⟨b, off, none⟩ = some (.string x.nm)
  st : w.cell? ⟨b, off + 1, none⟩ = some (.string x.st)
  u : w.cell? ⟨b, off + 2, none⟩ = some x.u
  val : IntsV w x.u x.xs
  len : x.xs.length ≤ 1000
theorem RowAt.gr {w w' : World} {b off : Nat} {x : RowR} (h : RowAt w b off x) (k : Gr w w') : RowAt w' b off x := ⟨k.cell h.nm, k.cell h.st, k.cell h.u, h.val.gr k, h.len⟩
/-- the comparison of two results -/
def cmpR (x y : RowR) : Int := ordZ x.st y.st x.xs y.xs
set_option maxHeartbeats 1000000 in
set_option maxRecDepth 100000 in
theorem cmpAt_c (n b off cap i j F L : Nat) (x y : RowR) (w : World) (hi : i < n) (hj : j < n) (h1 : n ≤ 1000) (hS : StatesIn w) (hx : RowAt w b (off + i * 3) x) (hy : RowAt w b (off + j * 3) y)
    (hF : w.cell? ⟨F, 0, none⟩ = some (.func (.func 18) #[] #[])) (hL : w.cell? ⟨L, 0, none⟩ = some (.slice (some ⟨b, off, none⟩) n cap)) :
    Calls Tryz.prog 47 #[.int .i64 i, .int .i64 j, .pointer (some ⟨F, 0, none⟩), .pointer (some ⟨L, 0, none⟩)] w fun e w' => e = .returned (.int .i64 (cmpR x y)) ∧ Gd w w' := by
  have HC := Lib.hid (fun (W : World) (g : Gd w W) => compare_d x.nm x.st y.nm y.st x.u y.u x.xs y.xs W (hS.gr g.gr) (hx.val.gr g.gr) (hy.val.gr g.gr) hx.len hy.len)
  have HR : Hid (cmpR x y = ordZ x.st y.st x.xs y.xs) := rfl
  rw [← HR.out] at HC
  unfold resV at HC
  obtain ⟨a0, a1, a2, _, _⟩ := hx
  obtain ⟨b0, b1, b2, _, _⟩ := hy
  have f0 := hF
  have l0 := hL
  have hi2 : (i : Int) < n := by omega
  have hi3 : (0 : Int) ≤ i := by omega
  have hj2 : (j : Int) < n := by omega
  have hj3 : (0 : Int) ≤ j := by omega
  clear hF hL HR hS
  generalize cmpR x y = z at *
  go_enter Tryz.func47, Tryz.ntmps47
  go_wp2_with fail
  have g := Gd.refl w
  have gd := (Gd.refl w).drew
  replace a0 := gd.cell a0
  replace a1 := gd.cell a1
  replace a2 := gd.cell a2
  replace b0 := gd.cell b0
  replace b1 := gd.cell b1
  replace b2 := gd.cell b2
  replace f0 := gd.cell f0
  replace l0 := gd.cell l0
  replace g := g.trans gd
  clear gd
  refine wp_region_held_drew (S := (fun w' => (w'.cell? ⟨b, off + i * 3, none⟩ = some (.string x.nm) ∧ w'.cell? ⟨b, off + i * 3 + 1, none⟩ = some (.string x.st) ∧ w'.cell? ⟨b, off + i * 3 + 2, none⟩ = some x.u) ∧ (w'.cell? ⟨b, off + j * 3, none⟩ = some (.string y.nm) ∧ w'.cell? ⟨b, off + j * 3 + 1, none⟩ = some (.string y.st) ∧ w'.cell? ⟨b, off + j * 3 + 2, none⟩ = some y.u) ∧ w'.cell? ⟨F, 0, none⟩ = some (.func (.func 18) #[] #[]) ∧ w'.cell? ⟨L, 0, none⟩ = some (.slice (some ⟨b, off, none⟩) n cap))) (by kernel_rfl) ⟨⟨a0, a1, a2⟩, ⟨b0, b1, b2⟩, f0, l0⟩ (fun hHeld => ?_)
  generalize w.drew = V at *
  refine wpAnyH_take (i := 0) (v := (.func (.func 18) #[] #[])) (op_at rfl) (by kernel_rfl) (by kernel_rfl) (by kernel_rfl) (fun _ _ _ h => h) (Or.inl ⟨rfl, fun w hSw => ?_⟩) (by assumption) ?_
  · (try dsimp only at hSw); go_simp; try with_reducible rfl
  (try simp only [Act.put, List.setIfInBounds_toArray, List.set_cons_zero, List.set_cons_succ])
  refine wpAnyH_take (i := 1) (v := (.slice (some ⟨b, off, none⟩) n cap)) (op_at rfl) (by kernel_rfl) (by kernel_rfl) (by kernel_rfl) (fun _ _ _ h => h) (Or.inl ⟨rfl, fun w hSw => ?_⟩) (by assumption) ?_
  · (try dsimp only at hSw); go_simp; try with_reducible rfl
  (try simp only [Act.put, List.setIfInBounds_toArray, List.set_cons_zero, List.set_cons_succ])
  refine wpAnyH_take (i := 2) (v := (.int .i64 i)) (op_at rfl) (by kernel_rfl) (by kernel_rfl) (by kernel_rfl) (fun _ _ _ h => h) (Or.inl ⟨rfl, fun w hSw => ?_⟩) (by assumption) ?_
  · (try dsimp only at hSw); go_simp; try with_reducible rfl
  (try simp only [Act.put, List.setIfInBounds_toArray, List.set_cons_zero, List.set_cons_succ])
  refine wpAnyH_take (i := 3) (v := (.pointer (some ⟨b, off + i * 3, none⟩))) (op_at rfl) (by kernel_rfl) (by kernel_rfl) (by kernel_rfl) (fun _ _ _ h => h) (Or.inl ⟨rfl, fun w hSw => ?_⟩) (by assumption) ?_
  · (try dsimp only at hSw); go_simp; try with_reducible rfl
  (try simp only [Act.put, List.setIfInBounds_toArray, List.set_cons_zero, List.set_cons_succ])
  refine wpAnyH_take (i := 4) (v := (.agg #[.string x.nm, .string x.st, x.u])) (op_at rfl) (by kernel_rfl) (by kernel_rfl) (by kernel_rfl) (fun _ _ _ h => h) (Or.inl ⟨rfl, fun w hSw => ?_⟩) (by assumption) ?_
  · (try dsimp only at hSw); go_simp; try with_reducible rfl
  (try simp only [Act.put, List.setIfInBounds_toArray, List.set_cons_zero, List.set_cons_succ])
  refine wpAnyH_take (i := 5) (v := (.slice (some ⟨b, off, none⟩) n cap)) (op_at rfl) (by kernel_rfl) (by kernel_rfl) (by kernel_rfl) (fun _ _ _ h => h) (Or.inl ⟨rfl, fun w hSw => ?_⟩) (by assumption) ?_
  · (try dsimp only at hSw); go_simp; try with_reducible rfl
  (try simp only [Act.put, List.setIfInBounds_toArray, List.set_cons_zero, List.set_cons_succ])
  refine wpAnyH_take (i := 6) (v := (.int .i64 j)) (op_at rfl) (by kernel_rfl) (by kernel_rfl) (by kernel_rfl) (fun _ _ _ h => h) (Or.inl ⟨rfl, fun w hSw => ?_⟩) (by assumption) ?_
  · (try dsimp only at hSw); go_simp; try with_reducible rfl
  (try simp only [Act.put, List.setIfInBounds_toArray, List.set_cons_zero, List.set_cons_succ])
  refine wpAnyH_take (i := 7) (v := (.pointer (some ⟨b, off + j * 3, none⟩))) (op_at rfl) (by kernel_rfl) (by kernel_rfl) (by kernel_rfl) (fun _ _ _ h => h) (Or.inl ⟨rfl, fun w hSw => ?_⟩) (by assumption) ?_
  · (try dsimp only at hSw); go_simp; try with_reducible rfl
  (try simp only [Act.put, List.setIfInBounds_toArray, List.set_cons_zero, List.set_cons_succ])
  refine wpAnyH_take (i := 8) (v := (.agg #[.string y.nm, .string y.st, y.u])) (op_at rfl) (by kernel_rfl) (by kernel_rfl) (by kernel_rfl) (fun _ _ _ h => h) (Or.inl ⟨rfl, fun w hSw => ?_⟩) (by assumption) ?_
  · (try dsimp only at hSw); go_simp; try with_reducible rfl
  (try simp only [Act.put, List.setIfInBounds_toArray, List.set_cons_zero, List.set_cons_succ])
  refine wpAnyH_ready (rs := [9]) (by kernel_rfl) (by simp) (AllReadyH.cons (op_at rfl) (fun K hK => ?_) AllReadyH.nil)
  go_simp
  (refine (HC.out _ g).mono ?_; rintro e W2 ⟨rfl, hg⟩; replace a0 := hg.cell a0; replace a1 := hg.cell a1; replace a2 := hg.cell a2; replace b0 := hg.cell b0; replace b1 := hg.cell b1; replace b2 := hg.cell b2; replace f0 := hg.cell f0; replace l0 := hg.cell l0; replace g := g.trans hg; clear hg)
  go_wp2_with fail
  refine hK.out _ _ ⟨⟨a0, a1, a2⟩, ⟨b0, b1, b2⟩, f0, l0⟩ (fun hHeld => ?_)
  clear hK K
  (try simp only [Act.put, List.setIfInBounds_toArray, List.set_cons_zero, List.set_cons_succ])
  refine wpAnyH_take (i := 10) (v := (.int .i64 z)) (op_at rfl) (by kernel_rfl) (by kernel_rfl) (by kernel_rfl) (fun _ _ _ h => h) (Or.inl ⟨rfl, fun w hSw => ?_⟩) (by assumption) ?_
  · (try dsimp only at hSw); go_simp; try with_reducible rfl
  (try simp only [Act.put, List.setIfInBounds_toArray, List.set_cons_zero, List.set_cons_succ])
  refine wpAnyH_done (by kernel_rfl) ?_ _
  go_wp2_with fail
  go_ret
  exact ⟨rfl, g⟩
end Go.Proofs.YtimbcjldejifaaaGreatDoor
namespace Go.Proofs.YtimbcjldejifaaaGreatDoor
open Go.RowKit Go.Lib
set_option linter.unusedSimpArgs false
set_option linter.unusedVariables false
theorem cmpZ_cases (a b : Int) : (a < b ∧ cmpZ a b = -1) ∨ (a = b ∧ cmpZ a b = 0) ∨ (b < a ∧ cmpZ a b = 1) := by
  unfold cmpZ
  by_cases h1 : a < b
  · exact .inl ⟨h1, by rw [decide_eq_true h1]; rfl⟩
  · by_cases h2 : b < a
    · exact .inr (.inr ⟨h2, by rw [decide_eq_false h1, decide_eq_true h2]; rfl⟩)
    · exact .inr (.inl ⟨by omega, by rw [decide_eq_false h1, decide_eq_false h2]; rfl⟩)
theorem cmpZ_flip (a b : Int) : cmpZ b a = - cmpZ a b := by
  rcases cmpZ_cases a b with ⟨h, e⟩ | ⟨h, e⟩ | ⟨h, e⟩ <;> rcases cmpZ_cases b a with ⟨h', e'⟩ | ⟨h', e'⟩ | ⟨h', e'⟩ <;> omega
theorem cmpL_flip : ∀ xs ys : List Int, cmpL ys xs = - cmpL xs ys
  | [], [] => rfl
  | [], _ :: _ => rfl
  | _ :: _, [] => rfl
  | x :: xs, y :: ys => by
    have h := cmpZ_flip x y
    have ih := cmpL_flip xs ys
    show (if cmpZ y x = 0 then cmpL ys xs else cmpZ y x) = - (if cmpZ x y = 0 then cmpL xs ys else cmpZ x y)
    by_cases h0 : cmpZ x y = 0
    · rw [if_pos h0, if_pos (by omega), ih]
    · rw [if_neg h0, if_neg (by omega), h]
theorem cmpL_trans : ∀ xs ys zs : List Int, cmpL xs ys ≤ 0 → cmpL ys zs ≤ 0 → cmpL xs zs ≤ 0
  | [], [], [], _, _ => by decide
  | [], [], _ :: _, _, _ => by show (-1 : Int) ≤ 0; decide
  | [], _ :: _, [], _, _ => by show (0 : Int) ≤ 0; decide
  | [], _ :: _, _ :: _, _, _ => by show (-1 : Int) ≤ 0; decide
  | _ :: _, [], _, h, _ => absurd (show (1 : Int) ≤ 0 from h) (by decide)
  | _ :: _, _ :: _, [], _, h => absurd (show (1 : Int) ≤ 0 from h) (by decide)
  | x :: xs, y :: ys, z :: zs, h1, h2 => by
    replace h1 : (if cmpZ x y = 0 then cmpL xs ys else cmpZ x y) ≤ 0 := h1
    replace h2 : (if cmpZ y z = 0 then cmpL ys zs else cmpZ y z) ≤ 0 := h2
    show (if cmpZ x z = 0 then cmpL xs zs else cmpZ x z) ≤ 0
    have ih := cmpL_trans xs ys zs
    rcases cmpZ_cases x y with ⟨a, e⟩ | ⟨a, e⟩ | ⟨a, e⟩ <;> rcases cmpZ_cases y z with ⟨b, f⟩ | ⟨b, f⟩ | ⟨b, f⟩ <;> rcases cmpZ_cases x z with ⟨c, k⟩ | ⟨c, k⟩ | ⟨c, k⟩ <;>
      rw [e] at h1 <;> rw [f] at h2 <;> rw [k] <;> simp at h1 h2 ⊢ <;> first | omega | exact ih h1 h2
theorem firstE_pair (a b : Int) : firstE [a, b] = if a = 0 then b else a := by
  unfold firstE firstE firstE
  by_cases h : a = 0
  · rw [if_pos h, if_pos h]
    by_cases h2 : b = 0
    · rw [if_pos h2, h2]
    · rw [if_neg h2]
  · rw [if_neg h, if_neg h]
theorem cmpR_flip (x y : RowR) : cmpR y x = - cmpR x y := by
  have h1 := cmpZ_flip (gradeZ x.st.toList) (gradeZ y.st.toList)
  have h2 := cmpL_flip y.xs x.xs
  unfold cmpR ordZ
  rw [firstE_pair, firstE_pair]
  by_cases h0 : cmpZ (gradeZ x.st.toList) (gradeZ y.st.toList) = 0
  · rw [if_pos h0, if_pos (by omega), h2]
  · rw [if_neg h0, if_neg (by omega), h1]
theorem cmpR_trans (x y z : RowR) (h1 : cmpR x y ≤ 0) (h2 : cmpR y z ≤ 0) : cmpR x z ≤ 0 := by
  unfold cmpR ordZ at *
  rw [firstE_pair] at *
  generalize gradeZ x.st.toList = a at *
  generalize gradeZ y.st.toList = b at *
  generalize gradeZ z.st.toList = c at *
  have f1 := cmpL_flip y.xs x.xs
  have f2 := cmpL_flip z.xs y.xs
  have f3 := cmpL_flip z.xs x.xs
  have ih := cmpL_trans z.xs y.xs x.xs
  rcases cmpZ_cases a b with ⟨p, e⟩ | ⟨p, e⟩ | ⟨p, e⟩ <;> rcases cmpZ_cases b c with ⟨q, f⟩ | ⟨q, f⟩ | ⟨q, f⟩ <;> rcases cmpZ_cases a c with ⟨s, k⟩ | ⟨s, k⟩ | ⟨s, k⟩ <;>
    rw [e] at h1 <;> rw [f] at h2 <;> rw [k] <;> simp at h1 h2 ⊢ <;> first | omega | exact ih h2 h1
end Go.Proofs.YtimbcjldejifaaaGreatDoor
