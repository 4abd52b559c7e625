/- Comparisons: cmp.Compare, cmp.Or, slices.Compare of integers, the reference's order. -/
import Derived.Test.YtcnpmebihdonoaaGreatDoorGOpN
import Derived.Sort.Grow
import Derived.Test.YtcnpmebihdonoaaGreatDoorGNat
import Derived.Sort.LotA
import Derived.Shelf.SlSortCmp.Insertion1
namespace Go.Proofs.YtcnpmebihdonoaaGreatDoor
open Go.RowKit Go.Lib
set_option linter.unusedSimpArgs false
set_option linter.unusedVariables false
/-- -1, 0 or 1 -/
def cmpZ (a b : Int) : Int := if decide (a < b) then -1 else if decide (b < a) then 1 else 0
theorem cmpZ_self (a : Int) : cmpZ a a = 0 := by unfold cmpZ; simp
theorem cmpZ_zero {a b : Int} (h : cmpZ a b = 0) : a = b := by
  unfold cmpZ at h
  split at h
  · cases h
  split at h
  · cases h
  · rename_i h1 h2
    simp at h1 h2; omega
theorem isNaN_c (x : Int) (w : World) :
    Calls Tryz.prog 85 #[.int .i64 x] w fun e w' => e = .returned (.bool false) ∧ w = w' := by
  go_enter Tryz.func85, Tryz.ntmps85
  go_wp2_with fail
  go_ret
  exact ⟨by simp, rfl⟩
theorem cmpInt_c (x y : Int) (w : World) :
    Calls Tryz.prog 46 #[.int .i64 x, .int .i64 y] w fun e w' => e = .returned (.int .i64 (cmpZ x y)) ∧ w = w' := by
  have HX := Lib.hid (fun W => isNaN_c x W)
  have HY := Lib.hid (fun W => isNaN_c y W)
  have HE : Hid (cmpZ x y = if decide (x < y) then -1 else if decide (y < x) then 1 else 0) := rfl
  cases h1 : decide (x < y) <;> cases h2 : decide (y < x)
  all_goals
    rw [h1, h2] at HE
    go_enter Tryz.func46, Tryz.ntmps46
    go_wp2_with fail
    repeat (first
      | (with_reducible refine (HX.out _).mono ?_; rintro e w4 ⟨rfl, rfl⟩; go_wp2_with fail)
      | (with_reducible refine (HY.out _).mono ?_; rintro e w4 ⟨rfl, rfl⟩; go_wp2_with fail))
    go_ret
    exact ⟨by rw [HE.out]; rfl, rfl⟩
set_option maxRecDepth 100000 in
theorem or_c (x y : Int) (b cap : Nat) (w : World) (hx : w.cell? ⟨b, 0, none⟩ = some (.int .i64 x)) (hy : w.cell? ⟨b, 1, none⟩ = some (.int .i64 y)) :
    Calls Tryz.prog 117 #[.slice (some ⟨b, 0, none⟩) 2 cap] w fun e w' => e = .returned (.int .i64 (firstE [x, y])) ∧ Gr w w' := by
  have HE : Hid (firstE [x, y] = if x = 0 then (if y = 0 then 0 else y) else x) := rfl
  go_enter Tryz.func117, Tryz.ntmps117
  go_wp2_with fail
  refine wp_loop_rounds 3 ?_
  rw [rounds_succ]
  by_cases h1 : x = 0
  · subst h1
    rw [if_pos rfl] at HE
    go_wp2_with fail
    rw [rounds_succ]
    by_cases h2 : y = 0
    · subst h2
      go_wp2_with fail
      rw [rounds_succ]
      go_wp2_with fail
      go_ret
      exact ⟨by rw [HE.out]; rfl, Gr.refl _⟩
    · have hd : (y == 0) = false := by simpa using h2
      have hd2 : (y != 0) = true := by simpa [bne] using hd
      rw [if_neg h2] at HE
      clear h2
      go_wp2_with fail
      go_ret
      exact ⟨by rw [HE.out]; rfl, Gr.refl _⟩
  · have hd : (x == 0) = false := by simpa using h1
    have hd2 : (x != 0) = true := by simpa [bne] using hd
    rw [if_neg h1] at HE
    clear h1
    go_wp2_with fail
    go_ret
    exact ⟨by rw [HE.out]; rfl, Gr.refl _⟩
/-- lists, one against the other -/
def cmpL : List Int → List Int → Int
  | [], [] => 0
  | [], _ :: _ => -1
  | _ :: _, [] => 1
  | x :: xs, y :: ys => if cmpZ x y = 0 then cmpL xs ys else cmpZ x y
theorem cmpL_drop {xs ys : List Int} {k : Nat} {x y : Int} (hx : xs[k]? = some x) (hy : ys[k]? = some y) : cmpL (xs.drop k) (ys.drop k) = if cmpZ x y = 0 then cmpL (xs.drop (k + 1)) (ys.drop (k + 1)) else cmpZ x y := by
  obtain ⟨h1, rfl⟩ := List.getElem?_eq_some_iff.1 hx
  obtain ⟨h2, rfl⟩ := List.getElem?_eq_some_iff.1 hy
  rw [List.drop_eq_getElem_cons h1, List.drop_eq_getElem_cons h2]; rfl
theorem cmpL_more {xs ys : List Int} {k : Nat} (hx : k < xs.length) (hy : ys.length ≤ k) : cmpL (xs.drop k) (ys.drop k) = 1 := by
  rw [List.drop_eq_getElem_cons hx, List.drop_of_length_le hy]; rfl
theorem cmpL_end {xs ys : List Int} {k : Nat} (hx : xs.length ≤ k) : cmpL (xs.drop k) (ys.drop k) = if decide (k < ys.length) then -1 else 0 := by
  rw [List.drop_of_length_le hx]
  by_cases h : k < ys.length
  · rw [List.drop_eq_getElem_cons h, decide_eq_true h]; rfl
  · rw [List.drop_of_length_le (by omega), decide_eq_false h]; rfl
end Go.Proofs.YtcnpmebihdonoaaGreatDoor
namespace Go.Proofs.YtcnpmebihdonoaaGreatDoor
open Go.RowKit Go.Lib
set_option linter.unusedSimpArgs false
set_option linter.unusedVariables false
set_option maxHeartbeats 1000000 in
set_option maxRecDepth 100000 in
theorem lists_pos (xs ys : List Int) (n m b off cap b2 off2 cap2 : Nat) (w : World) (hn : xs.length = n) (hm : ys.length = m)
    (hc : ∀ i x, xs[i]? = some x → w.cell? ⟨b, off + i, none⟩ = some (.int .i64 x)) (hd : ∀ i x, ys[i]? = some x → w.cell? ⟨b2, off2 + i, none⟩ = some (.int .i64 x)) (hs : n ≤ 1000) (hs2 : m ≤ 1000) :
    Calls Tryz.prog 133 #[.slice (some ⟨b, off, none⟩) n cap, .slice (some ⟨b2, off2, none⟩) m cap2] w fun e w' => e = .returned (.int .i64 (cmpL xs ys)) ∧ Gr w w' := by
  have HN := Lib.hid hn
  have HM := Lib.hid hm
  have HC := Lib.hid hc
  have HD := Lib.hid hd
  clear hc hd hn hm
  go_enter Tryz.func133, Tryz.ntmps133
  go_wp2_with fail
  go_loopg [11] n (fun g s11 wr => ∃ k : Nat, s11 = .int .i64 k ∧ g + k = n ∧ Gr w wr ∧ k ≤ m ∧ Hid (cmpL (xs.drop k) (ys.drop k) = cmpL xs ys))
  case atStart => exact ⟨0, rfl, by omega, Gr.refl _, by omega, by simp [Hid]⟩
  case round =>
    obtain ⟨k, rfl, hk, hg, hkm, HF⟩ := hrel
    by_cases hlt : k < n
    · obtain ⟨x, hx⟩ : ∃ x, xs[k]? = some x := ⟨xs[k]'(by have := HN.out; omega), List.getElem?_eq_getElem _⟩
      have hcell := hg.cell (HC.out k x hx)
      by_cases hlm : k < m
      · obtain ⟨y, hy⟩ : ∃ y, ys[k]? = some y := ⟨ys[k]'(by have := HM.out; omega), List.getElem?_eq_getElem _⟩
        have hcell2 := hg.cell (HD.out k y hy)
        have hf := cmpL_drop hx hy
        have HT := fun W => cmpInt_c x y W
        clear hx hy
        have hlm2 : (k : Int) < m := by omega
        by_cases h0 : cmpZ x y = 0
        · rw [if_pos h0] at hf
          rw [h0] at HT
          replace HT := Lib.hid HT
          have HF2 := Lib.hid hf
          clear hf h0
          go_wp2_with (refine (HT.out _).mono ?_; rintro e w4 ⟨rfl, rfl⟩)
          go_roundg (gk - 1)
          case measure => omega
          case rel => exact ⟨k + 1, by go_num, by omega, hg, by omega, by unfold Hid; rw [← HF2.out, HF.out]⟩
        · rw [if_neg h0] at hf
          have h1 : (cmpZ x y == 0) = false := by simpa using h0
          have h2 : (cmpZ x y != 0) = true := by simpa [bne] using h1
          replace HT := Lib.hid HT
          have HF2 := Lib.hid hf
          clear hf h0
          generalize cmpZ x y = z at *
          go_wp2_with (refine (HT.out _).mono ?_; rintro e w4 ⟨rfl, rfl⟩)
          go_ret
          exact ⟨by rw [← HF.out, HF2.out]; rfl, hg⟩
      · have hf := cmpL_more (xs := xs) (ys := ys) (k := k) (by have := HN.out; omega) (by have := HM.out; omega)
        have HF2 := Lib.hid hf
        have hlm2 : (m : Int) ≤ k := by omega
        clear hf hx
        go_wp2_with fail
        go_ret
        exact ⟨by rw [← HF.out, HF2.out]; rfl, hg⟩
    · have hf := cmpL_end (xs := xs) (ys := ys) (k := k) (by have := HN.out; omega)
      rw [show ys.length = m from HM.out] at hf
      by_cases hlm : k < m
      · rw [decide_eq_true hlm] at hf
        have HF2 := Lib.hid hf
        have hlm2 : (n : Int) < m := by omega
        clear hf
        go_wp2_with fail
        go_ret
        exact ⟨by rw [← HF.out, HF2.out]; rfl, hg⟩
      · rw [decide_eq_false hlm] at hf
        have HF2 := Lib.hid hf
        have hlm2 : (m : Int) ≤ n := by omega
        clear hf
        go_wp2_with fail
        go_ret
        exact ⟨by rw [← HF.out, HF2.out]; rfl, hg⟩
set_option maxHeartbeats 1000000 in
set_option maxRecDepth 100000 in
theorem lists_none (xs : List Int) (n b off cap cap2 : Nat) (p2 : Option Addr) (w : World) (h0 : 0 < n) (hn : xs.length = n)
    (hc : ∀ i x, xs[i]? = some x → w.cell? ⟨b, off + i, none⟩ = some (.int .i64 x)) (hs : n ≤ 1000) :
    Calls Tryz.prog 133 #[.slice (some ⟨b, off, none⟩) n cap, .slice p2 0 cap2] w fun e w' => e = .returned (.int .i64 (cmpL xs [])) ∧ Gr w w' := by
  obtain ⟨x, hx⟩ : ∃ x, xs[0]? = some x := ⟨xs[0]'(by omega), List.getElem?_eq_getElem _⟩
  have hcell : w.cell? ⟨b, off, none⟩ = some (.int .i64 x) := hc 0 x hx
  have HE : Hid (cmpL xs [] = 1) := by cases xs with | nil => simp at hx | cons _ _ => rfl
  clear hc hx hn
  go_enter Tryz.func133, Tryz.ntmps133
  go_wp2_with fail
  refine wp_loop_rounds 2 ?_
  rw [rounds_succ]
  go_wp2_with fail
  go_ret
  exact ⟨by rw [HE.out]; rfl, Gr.refl _⟩
set_option maxHeartbeats 1000000 in
set_option maxRecDepth 100000 in
theorem lists_nil (ys : List Int) (m cap cap2 : Nat) (p p2 : Option Addr) (w : World) (hm : ys.length = m) :
    Calls Tryz.prog 133 #[.slice p 0 cap, .slice p2 m cap2] w fun e w' => e = .returned (.int .i64 (cmpL [] ys)) ∧ Gr w w' := by
  by_cases h0 : 0 < m
  · have HE : Hid (cmpL [] ys = -1) := by cases ys with | nil => simp at hm; omega | cons _ _ => rfl
    clear hm
    go_enter Tryz.func133, Tryz.ntmps133
    go_wp2_with fail
    refine wp_loop_rounds 1 ?_
    rw [rounds_succ]
    go_wp2_with fail
    go_ret
    exact ⟨by rw [HE.out]; rfl, Gr.refl _⟩
  · have HE : Hid (cmpL [] ys = 0) := by cases ys with | nil => rfl | cons _ _ => simp at hm; omega
    have hm0 : m = 0 := by omega
    subst hm0
    clear hm
    go_enter Tryz.func133, Tryz.ntmps133
    go_wp2_with fail
    refine wp_loop_rounds 1 ?_
    rw [rounds_succ]
    go_wp2_with fail
    go_ret
    exact ⟨by rw [HE.out]; rfl, Gr.refl _⟩
theorem lists_c {v v2 : Value} {xs ys : List Int} {w : World} (h : IntsV w v xs) (h2 : IntsV w v2 ys) (hs : xs.length ≤ 1000) (hs2 : ys.length ≤ 1000) :
    Calls Tryz.prog 133 #[v, v2] w fun e w' => e = .returned (.int .i64 (cmpL xs ys)) ∧ Gr w w' := by
  obtain ⟨⟨p, cap, rfl, hh⟩⟩ := h
  obtain ⟨⟨p2, cap2, rfl, hh2⟩⟩ := h2
  by_cases h0 : 0 < xs.length
  · obtain ⟨b, off, rfl, hc⟩ := hh h0
    by_cases h1 : 0 < ys.length
    · obtain ⟨b2, off2, rfl, hd⟩ := hh2 h1
      exact lists_pos xs ys _ _ b off cap b2 off2 cap2 w rfl rfl hc hd hs hs2
    · have : ys = [] := List.eq_nil_of_length_eq_zero (by omega)
      subst this
      exact lists_none xs _ b off cap cap2 p2 w h0 rfl hc hs
  · have : xs = [] := List.eq_nil_of_length_eq_zero (by omega)
    subst this
    exact lists_nil ys _ cap cap2 p p2 w rfl
end Go.Proofs.YtcnpmebihdonoaaGreatDoor
namespace Go.Proofs.YtcnpmebihdonoaaGreatDoor
open Go.RowKit Go.Lib
set_option linter.unusedSimpArgs false
set_option linter.unusedVariables false
theorem box33 (w : World) (a0 a1 a2 b0 b1 b2 : Value) (T : Nat) : ∃ W, (w.alloc (.cells #[a0, a1, a2] T)).alloc (.cells #[b0, b1, b2] T) = W ∧ Gr w W ∧
    (W.cell? ⟨w.heap.size, 0, none⟩ = some a0 ∧ W.cell? ⟨w.heap.size, 1, none⟩ = some a1 ∧ W.cell? ⟨w.heap.size, 2, none⟩ = some a2) ∧
    (W.cell? ⟨w.heap.size + 1, 0, none⟩ = some b0 ∧ W.cell? ⟨w.heap.size + 1, 1, none⟩ = some b1 ∧ W.cell? ⟨w.heap.size + 1, 2, none⟩ = some b2) := by
  obtain ⟨W1, h1, g1, p0, p1, p2⟩ := box3 w a0 a1 a2 T
  obtain ⟨W2, h2, g2, q0, q1, q2⟩ := box3 W1 b0 b1 b2 T
  have hs : W1.heap.size = w.heap.size + 1 := by rw [← h1, World.size_alloc]
  rw [hs] at q0 q1 q2
  exact ⟨W2, by rw [h1, h2], g1.trans g2, ⟨g2.cell p0, g2.cell p1, g2.cell p2⟩, q0, q1, q2⟩
/-- the comparison of two results that fit -/
def ordZ (s s2 : ByteArray) (xs ys : List Int) : Int := firstE [cmpZ (gradeZ s.toList) (gradeZ s2.toList), cmpL ys xs]
/-- whether two results fit -/
def fitB (s s2 : ByteArray) (xs ys : List Int) : Bool := !s.toList.isEmpty || (!s2.toList.isEmpty || ((xs.length : Int) == ys.length))
end Go.Proofs.YtcnpmebihdonoaaGreatDoor
namespace Go.Proofs.YtcnpmebihdonoaaGreatDoor
open Go.RowKit Go.Lib
set_option linter.unusedSimpArgs false
set_option linter.unusedVariables false
/-- old blocks as they were, and no draw undone -/
structure Gd (w w' : World) : Prop where
  gr : Gr w w'
  dr : w.drawn ≤ w'.drawn
theorem Gd.refl (w : World) : Gd w w := ⟨Gr.refl w, Nat.le_refl _⟩
theorem Gd.trans {a b c : World} (h : Gd a b) (k : Gd b c) : Gd a c := ⟨h.gr.trans k.gr, Nat.le_trans h.dr k.dr⟩
theorem Gd.drew {w w' : World} (h : Gd w w') : Gd w w'.drew := ⟨h.gr.drew, Nat.le_succ_of_le h.dr⟩
theorem Gd.drewN {w w' : World} (h : Gd w w') (n : Nat) : Gd w (w'.drewN n) := ⟨h.gr.drewN n, Nat.le_trans h.dr (Nat.le_add_right _ _)⟩
theorem Gd.alloc {w w' : World} (h : Gd w w') (o : Obj) : Gd w (w'.alloc o) := ⟨h.gr.alloc o, h.dr⟩
theorem Gd.cell {w w' : World} (h : Gd w w') {p : Addr} {v : Value} (hp : w.cell? p = some v) : w'.cell? p = some v := h.gr.cell hp
/-- the world behind it, told outright -/
theorem Gd.grow {w w' : World} (h : Gd w w') : ∃ q os, w' = Go.Sort.grow (w.drewN q) os := by
  obtain ⟨⟨h1, h2, h3, h4, h5⟩, hd⟩ := h
  refine ⟨w'.drawn - w.drawn, w'.heap.extract w.heap.size w'.heap.size, ?_⟩
  have hh : w'.heap = w.heap ++ w'.heap.extract w.heap.size w'.heap.size := by
    apply Array.ext_getElem?
    intro i
    rw [Array.getElem?_append]
    split
    · next hi => exact h5 i hi
    · next hi =>
      rw [Array.getElem?_extract]
      split
      · next hi2 => rw [show w.heap.size + (i - w.heap.size) = i by omega]
      · next hi2 => exact Array.getElem?_eq_none (by omega)
  obtain ⟨heap, tape, drawn, os, out⟩ := w
  obtain ⟨heap', tape', drawn', os', out'⟩ := w'
  simp only at h1 h2 h3 hd hh
  subst h1 h2 h3
  unfold Go.Sort.grow World.drewN
  simp only [World.mk.injEq]
  simp only [true_and, and_true]
  exact ⟨hh, by omega⟩
theorem box33d (w : World) (a0 a1 a2 b0 b1 b2 : Value) (T : Nat) : ∃ W, (w.alloc (.cells #[a0, a1, a2] T)).alloc (.cells #[b0, b1, b2] T) = W ∧ Gd w W ∧
    (W.cell? ⟨w.heap.size, 0, none⟩ = some a0 ∧ W.cell? ⟨w.heap.size, 1, none⟩ = some a1 ∧ W.cell? ⟨w.heap.size, 2, none⟩ = some a2) ∧
    (W.cell? ⟨w.heap.size + 1, 0, none⟩ = some b0 ∧ W.cell? ⟨w.heap.size + 1, 1, none⟩ = some b1 ∧ W.cell? ⟨w.heap.size + 1, 2, none⟩ = some b2) := by
  obtain ⟨W, h, _, p, q⟩ := box33 w a0 a1 a2 b0 b1 b2 T
  exact ⟨W, h, by rw [← h]; exact ((Gd.refl w).alloc _).alloc _, p, q⟩
theorem box2d (w : World) (a0 a1 : Value) (T : Nat) : ∃ W, w.alloc (.cells #[a0, a1] T) = W ∧ Gd w W ∧ W.cell? ⟨w.heap.size, 0, none⟩ = some a0 ∧ W.cell? ⟨w.heap.size, 1, none⟩ = some a1 := by
  obtain ⟨W, h, _, p, q⟩ := box2 w a0 a1 T
  exact ⟨W, h, by rw [← h]; exact (Gd.refl w).alloc _, p, q⟩
set_option maxRecDepth 100000 in
theorem or_d (x y : Int) (b cap : Nat) (w : World) (hx : w.cell? ⟨b, 0, none⟩ = some (.int .i64 x)) (hy : w.cell? ⟨b, 1, none⟩ = some (.int .i64 y)) :
    Calls Tryz.prog 117 #[.slice (some ⟨b, 0, none⟩) 2 cap] w fun e w' => e = .returned (.int .i64 (firstE [x, y])) ∧ Gd w w' := by
  have HE : Hid (firstE [x, y] = if x = 0 then (if y = 0 then 0 else y) else x) := rfl
  go_enter Tryz.func117, Tryz.ntmps117
  go_wp2_with fail
  refine wp_loop_rounds 3 ?_
  rw [rounds_succ]
  by_cases h1 : x = 0
  · subst h1
    rw [if_pos rfl] at HE
    go_wp2_with fail
    rw [rounds_succ]
    by_cases h2 : y = 0
    · subst h2
      go_wp2_with fail
      rw [rounds_succ]
      go_wp2_with fail
      go_ret
      exact ⟨by rw [HE.out]; rfl, Gd.refl _⟩
    · have hd : (y == 0) = false := by simpa using h2
      have hd2 : (y != 0) = true := by simpa [bne] using hd
      rw [if_neg h2] at HE
      clear h2
      go_wp2_with fail
      go_ret
      exact ⟨by rw [HE.out]; rfl, Gd.refl _⟩
  · have hd : (x == 0) = false := by simpa using h1
    have hd2 : (x != 0) = true := by simpa [bne] using hd
    rw [if_neg h1] at HE
    clear h1
    go_wp2_with fail
    go_ret
    exact ⟨by rw [HE.out]; rfl, Gd.refl _⟩
set_option maxHeartbeats 1000000 in
set_option maxRecDepth 100000 in
theorem listsd_pos (xs ys : List Int) (n m b off cap b2 off2 cap2 : Nat) (w : World) (hn : xs.length = n) (hm : ys.length = m)
    (hc : ∀ i x, xs[i]? = some x → w.cell? ⟨b, off + i, none⟩ = some (.int .i64 x)) (hd : ∀ i x, ys[i]? = some x → w.cell? ⟨b2, off2 + i, none⟩ = some (.int .i64 x)) (hs : n ≤ 1000) (hs2 : m ≤ 1000) :
    Calls Tryz.prog 133 #[.slice (some ⟨b, off, none⟩) n cap, .slice (some ⟨b2, off2, none⟩) m cap2] w fun e w' => e = .returned (.int .i64 (cmpL xs ys)) ∧ Gd w w' := by
  have HN := Lib.hid hn
  have HM := Lib.hid hm
  have HC := Lib.hid hc
  have HD := Lib.hid hd
  clear hc hd hn hm
  go_enter Tryz.func133, Tryz.ntmps133
  go_wp2_with fail
  go_loopg [11] n (fun g s11 wr => ∃ k : Nat, s11 = .int .i64 k ∧ g + k = n ∧ Gd w wr ∧ k ≤ m ∧ Hid (cmpL (xs.drop k) (ys.drop k) = cmpL xs ys))
  case atStart => exact ⟨0, rfl, by omega, Gd.refl _, by omega, by simp [Hid]⟩
  case round =>
    obtain ⟨k, rfl, hk, hg, hkm, HF⟩ := hrel
    by_cases hlt : k < n
    · obtain ⟨x, hx⟩ : ∃ x, xs[k]? = some x := ⟨xs[k]'(by have := HN.out; omega), List.getElem?_eq_getElem _⟩
      have hcell := hg.cell (HC.out k x hx)
      by_cases hlm : k < m
      · obtain ⟨y, hy⟩ : ∃ y, ys[k]? = some y := ⟨ys[k]'(by have := HM.out; omega), List.getElem?_eq_getElem _⟩
        have hcell2 := hg.cell (HD.out k y hy)
        have hf := cmpL_drop hx hy
        have HT := fun W => cmpInt_c x y W
        clear hx hy
        have hlm2 : (k : Int) < m := by omega
        by_cases h0 : cmpZ x y = 0
        · rw [if_pos h0] at hf
          rw [h0] at HT
          replace HT := Lib.hid HT
          have HF2 := Lib.hid hf
          clear hf h0
          go_wp2_with (refine (HT.out _).mono ?_; rintro e w4 ⟨rfl, rfl⟩)
          go_roundg (gk - 1)
          case measure => omega
          case rel => exact ⟨k + 1, by go_num, by omega, hg, by omega, by unfold Hid; rw [← HF2.out, HF.out]⟩
        · rw [if_neg h0] at hf
          have h1 : (cmpZ x y == 0) = false := by simpa using h0
          have h2 : (cmpZ x y != 0) = true := by simpa [bne] using h1
          replace HT := Lib.hid HT
          have HF2 := Lib.hid hf
          clear hf h0
          generalize cmpZ x y = z at *
          go_wp2_with (refine (HT.out _).mono ?_; rintro e w4 ⟨rfl, rfl⟩)
          go_ret
          exact ⟨by rw [← HF.out, HF2.out]; rfl, hg⟩
      · have hf := cmpL_more (xs := xs) (ys := ys) (k := k) (by have := HN.out; omega) (by have := HM.out; omega)
        have HF2 := Lib.hid hf
        have hlm2 : (m : Int) ≤ k := by omega
        clear hf hx
        go_wp2_with fail
        go_ret
        exact ⟨by rw [← HF.out, HF2.out]; rfl, hg⟩
    · have hf := cmpL_end (xs := xs) (ys := ys) (k := k) (by have := HN.out; omega)
      rw [show ys.length = m from HM.out] at hf
      by_cases hlm : k < m
      · rw [decide_eq_true hlm] at hf
        have HF2 := Lib.hid hf
        have hlm2 : (n : Int) < m := by omega
        clear hf
        go_wp2_with fail
        go_ret
        exact ⟨by rw [← HF.out, HF2.out]; rfl, hg⟩
      · rw [decide_eq_false hlm] at hf
        have HF2 := Lib.hid hf
        have hlm2 : (m : Int) ≤ n := by omega
        clear hf
        go_wp2_with fail
        go_ret
        exact ⟨by rw [← HF.out, HF2.out]; rfl, hg⟩
set_option maxHeartbeats 1000000 in
set_option maxRecDepth 100000 in
theorem listsd_none (xs : List Int) (n b off cap cap2 : Nat) (p2 : Option Addr) (w : World) (h0 : 0 < n) (hn : xs.length = n)
    (hc : ∀ i x, xs[i]? = some x → w.cell? ⟨b, off + i, none⟩ = some (.int .i64 x)) (hs : n ≤ 1000) :
    Calls Tryz.prog 133 #[.slice (some ⟨b, off, none⟩) n cap, .slice p2 0 cap2] w fun e w' => e = .returned (.int .i64 (cmpL xs [])) ∧ Gd w w' := by
  obtain ⟨x, hx⟩ : ∃ x, xs[0]? = some x := ⟨xs[0]'(by omega), List.getElem?_eq_getElem _⟩
  have hcell : w.cell? ⟨b, off, none⟩ = some (.int .i64 x) := hc 0 x hx
  have HE : Hid (cmpL xs [] = 1) := by cases xs with | nil => simp at hx | cons _ _ => rfl
  clear hc hx hn
  go_enter Tryz.func133, Tryz.ntmps133
  go_wp2_with fail
  refine wp_loop_rounds 2 ?_
  rw [rounds_succ]
  go_wp2_with fail
  go_ret
  exact ⟨by rw [HE.out]; rfl, Gd.refl _⟩
set_option maxHeartbeats 1000000 in
set_option maxRecDepth 100000 in
theorem listsd_nil (ys : List Int) (m cap cap2 : Nat) (p p2 : Option Addr) (w : World) (hm : ys.length = m) :
    Calls Tryz.prog 133 #[.slice p 0 cap, .slice p2 m cap2] w fun e w' => e = .returned (.int .i64 (cmpL [] ys)) ∧ Gd w w' := by
  by_cases h0 : 0 < m
  · have HE : Hid (cmpL [] ys = -1) := by cases ys with | nil => simp at hm; omega | cons _ _ => rfl
    clear hm
    go_enter Tryz.func133, Tryz.ntmps133
    go_wp2_with fail
    refine wp_loop_rounds 1 ?_
    rw [rounds_succ]
    go_wp2_with fail
    go_ret
    exact ⟨by rw [HE.out]; rfl, Gd.refl _⟩
  · have HE : Hid (cmpL [] ys = 0) := by cases ys with | nil => rfl | cons _ _ => simp at hm; omega
    have hm0 : m = 0 := by omega
    subst hm0
    clear hm
    go_enter Tryz.func133, Tryz.ntmps133
    go_wp2_with fail
    refine wp_loop_rounds 1 ?_
    rw [rounds_succ]
    go_wp2_with fail
    go_ret
    exact ⟨by rw [HE.out]; rfl, Gd.refl _⟩
theorem listsd_c {v v2 : Value} {xs ys : List Int} {w : World} (h : IntsV w v xs) (h2 : IntsV w v2 ys) (hs : xs.length ≤ 1000) (hs2 : ys.length ≤ 1000) :
    Calls Tryz.prog 133 #[v, v2] w fun e w' => e = .returned (.int .i64 (cmpL xs ys)) ∧ Gd w w' := by
  obtain ⟨⟨p, cap, rfl, hh⟩⟩ := h
  obtain ⟨⟨p2, cap2, rfl, hh2⟩⟩ := h2
  by_cases h0 : 0 < xs.length
  · obtain ⟨b, off, rfl, hc⟩ := hh h0
    by_cases h1 : 0 < ys.length
    · obtain ⟨b2, off2, rfl, hd⟩ := hh2 h1
      exact listsd_pos xs ys _ _ b off cap b2 off2 cap2 w rfl rfl hc hd hs hs2
    · have : ys = [] := List.eq_nil_of_length_eq_zero (by omega)
      subst this
      exact listsd_none xs _ b off cap cap2 p2 w h0 rfl hc hs
  · have : xs = [] := List.eq_nil_of_length_eq_zero (by omega)
    subst this
    exact listsd_nil ys _ cap cap2 p p2 w rfl
end Go.Proofs.YtcnpmebihdonoaaGreatDoor
namespace Go.Proofs.YtcnpmebihdonoaaGreatDoor
open Go.RowKit Go.Lib
set_option linter.unusedSimpArgs false
set_option linter.unusedVariables false
/-- the place that a seed gives -/
def rankE (x : EntR) : Int := if x.sd == 0 then 1000000000 else x.sd
set_option maxHeartbeats 1000000 in
set_option maxRecDepth 100000 in
theorem rankEnt_d (x : EntR) (w : World) :
    Calls Tryz.prog 89 #[entV x] w fun e w' => e = .returned (.int .i64 (rankE x)) ∧ Gd w w' := by
  have HE : Hid (rankE x = if x.sd == 0 then 1000000000 else x.sd) := rfl
  unfold entV
  obtain ⟨W, hW, g, a0, a1, a2⟩ := box3 w (.string x.nm) (.string x.na) (.int .i64 x.sd) 53
  have HG : Hid (Gd w W) := by unfold Hid; rw [← hW]; exact (Gd.refl w).alloc _
  have HW := Lib.hid hW
  clear hW g
  cases h0 : (x.sd == 0)
  all_goals
    rw [h0] at HE
    go_enter Tryz.func89, Tryz.ntmps89
    go_wp2_with fail
    rw [HW.out]
    go_wp2_with fail
    go_ret
    exact ⟨by rw [HE.out]; rfl, HG.out⟩
set_option maxHeartbeats 1000000 in
set_option maxRecDepth 100000 in
theorem seedCmp_c (n b off cap i j L : Nat) (x y : EntR) (w : World) (hi : i < n) (hj : j < n) (h1 : n ≤ 1000) (hx : EntAt w b (off + i * 3) x) (hy : EntAt w b (off + j * 3) y) (hL : w.cell? ⟨L, 0, none⟩ = some (.slice (some ⟨b, off, none⟩) n cap)) :
    Calls Tryz.prog 88 #[.int .i64 i, .int .i64 j, .pointer (some ⟨L, 0, none⟩)] w fun e w' => e = .returned (.int .i64 (cmpY (rankE x) (rankE y))) ∧ Gd w w' := by
  have HR1 := Lib.hid (fun W => rankEnt_d x W)
  have HR2 := Lib.hid (fun W => rankEnt_d y W)
  have HCM := Lib.hid (fun W => cmpYInt_c (rankE x) (rankE y) W)
  unfold entV at HR1 HR2
  generalize rankE x = r1 at *
  generalize rankE y = r2 at *
  generalize cmpY r1 r2 = z at *
  obtain ⟨a0, a1, a2⟩ := hx
  obtain ⟨d0, d1, d2⟩ := hy
  have l0 := hL
  have hi2 : (i : Int) < n := by omega
  have hi3 : (0 : Int) ≤ i := by omega
  have hj2 : (j : Int) < n := by omega
  have hj3 : (0 : Int) ≤ j := by omega
  clear hL
  go_enter Tryz.func88, Tryz.ntmps88
  go_wp2_with fail
  have g := Gd.refl w
  have gd := (Gd.refl w).drew
  replace a0 := gd.cell a0
  replace a1 := gd.cell a1
  replace a2 := gd.cell a2
  replace d0 := gd.cell d0
  replace d1 := gd.cell d1
  replace d2 := gd.cell d2
  replace l0 := gd.cell l0
  replace g := g.trans gd
  clear gd
  refine wp_region_held_drew (S := (fun w' => w'.cell? ⟨b, off + i * 3, none⟩ = some (.string x.nm) ∧ w'.cell? ⟨b, off + i * 3 + 1, none⟩ = some (.string x.na) ∧ w'.cell? ⟨b, off + i * 3 + 2, none⟩ = some (.int .i64 x.sd) ∧ w'.cell? ⟨b, off + j * 3, none⟩ = some (.string y.nm) ∧ w'.cell? ⟨b, off + j * 3 + 1, none⟩ = some (.string y.na) ∧ w'.cell? ⟨b, off + j * 3 + 2, none⟩ = some (.int .i64 y.sd) ∧ w'.cell? ⟨L, 0, none⟩ = some (.slice (some ⟨b, off, none⟩) n cap))) (by kernel_rfl) ⟨a0, a1, a2, d0, d1, d2, l0⟩ (fun hHeld => ?_)
  generalize w.drew = V at *
  refine wpAnyH_take (i := 0) (v := (.slice (some ⟨b, off, none⟩) n cap)) (op_at rfl) (by kernel_rfl) (by kernel_rfl) (by kernel_rfl) (fun _ _ _ h => h) (Or.inl ⟨rfl, fun w hSw => ?_⟩) (by assumption) ?_
  · (try dsimp only at hSw); go_simp; try with_reducible rfl
  (try simp only [Act.put, List.setIfInBounds_toArray, List.set_cons_zero, List.set_cons_succ])
  refine wpAnyH_take (i := 1) (v := (.int .i64 i)) (op_at rfl) (by kernel_rfl) (by kernel_rfl) (by kernel_rfl) (fun _ _ _ h => h) (Or.inl ⟨rfl, fun w hSw => ?_⟩) (by assumption) ?_
  · (try dsimp only at hSw); go_simp; try with_reducible rfl
  (try simp only [Act.put, List.setIfInBounds_toArray, List.set_cons_zero, List.set_cons_succ])
  refine wpAnyH_take (i := 2) (v := (.pointer (some ⟨b, off + i * 3, none⟩))) (op_at rfl) (by kernel_rfl) (by kernel_rfl) (by kernel_rfl) (fun _ _ _ h => h) (Or.inl ⟨rfl, fun w hSw => ?_⟩) (by assumption) ?_
  · (try dsimp only at hSw); go_simp; try with_reducible rfl
  (try simp only [Act.put, List.setIfInBounds_toArray, List.set_cons_zero, List.set_cons_succ])
  refine wpAnyH_take (i := 3) (v := (.agg #[.string x.nm, .string x.na, .int .i64 x.sd])) (op_at rfl) (by kernel_rfl) (by kernel_rfl) (by kernel_rfl) (fun _ _ _ h => h) (Or.inl ⟨rfl, fun w hSw => ?_⟩) (by assumption) ?_
  · (try dsimp only at hSw); go_simp; try with_reducible rfl
  (try simp only [Act.put, List.setIfInBounds_toArray, List.set_cons_zero, List.set_cons_succ])
  refine wpAnyH_take (i := 5) (v := (.slice (some ⟨b, off, none⟩) n cap)) (op_at rfl) (by kernel_rfl) (by kernel_rfl) (by kernel_rfl) (fun _ _ _ h => h) (Or.inl ⟨rfl, fun w hSw => ?_⟩) (by assumption) ?_
  · (try dsimp only at hSw); go_simp; try with_reducible rfl
  (try simp only [Act.put, List.setIfInBounds_toArray, List.set_cons_zero, List.set_cons_succ])
  refine wpAnyH_take (i := 6) (v := (.int .i64 j)) (op_at rfl) (by kernel_rfl) (by kernel_rfl) (by kernel_rfl) (fun _ _ _ h => h) (Or.inl ⟨rfl, fun w hSw => ?_⟩) (by assumption) ?_
  · (try dsimp only at hSw); go_simp; try with_reducible rfl
  (try simp only [Act.put, List.setIfInBounds_toArray, List.set_cons_zero, List.set_cons_succ])
  refine wpAnyH_take (i := 7) (v := (.pointer (some ⟨b, off + j * 3, none⟩))) (op_at rfl) (by kernel_rfl) (by kernel_rfl) (by kernel_rfl) (fun _ _ _ h => h) (Or.inl ⟨rfl, fun w hSw => ?_⟩) (by assumption) ?_
  · (try dsimp only at hSw); go_simp; try with_reducible rfl
  (try simp only [Act.put, List.setIfInBounds_toArray, List.set_cons_zero, List.set_cons_succ])
  refine wpAnyH_take (i := 8) (v := (.agg #[.string y.nm, .string y.na, .int .i64 y.sd])) (op_at rfl) (by kernel_rfl) (by kernel_rfl) (by kernel_rfl) (fun _ _ _ h => h) (Or.inl ⟨rfl, fun w hSw => ?_⟩) (by assumption) ?_
  · (try dsimp only at hSw); go_simp; try with_reducible rfl
  (try simp only [Act.put, List.setIfInBounds_toArray, List.set_cons_zero, List.set_cons_succ])
  refine wpAnyH_ready (rs := [4]) (by kernel_rfl) (by simp) (AllReadyH.cons (op_at rfl) (fun K hK => ?_) AllReadyH.nil)
  go_simp
  (refine (HR1.out _).mono ?_; rintro e W1 ⟨rfl, hg⟩; replace a0 := hg.cell a0; replace a1 := hg.cell a1; replace a2 := hg.cell a2; replace d0 := hg.cell d0; replace d1 := hg.cell d1; replace d2 := hg.cell d2; replace l0 := hg.cell l0; replace g := g.trans hg; clear hg)
  go_wp2_with fail
  refine hK.out _ _ ⟨a0, a1, a2, d0, d1, d2, l0⟩ (fun hHeld => ?_)
  clear hK K
  (try simp only [Act.put, List.setIfInBounds_toArray, List.set_cons_zero, List.set_cons_succ])
  refine wpAnyH_ready (rs := [9]) (by kernel_rfl) (by simp) (AllReadyH.cons (op_at rfl) (fun K hK => ?_) AllReadyH.nil)
  go_simp
  (refine (HR2.out _).mono ?_; rintro e W2 ⟨rfl, hg⟩; replace a0 := hg.cell a0; replace a1 := hg.cell a1; replace a2 := hg.cell a2; replace d0 := hg.cell d0; replace d1 := hg.cell d1; replace d2 := hg.cell d2; replace l0 := hg.cell l0; replace g := g.trans hg; clear hg)
  go_wp2_with fail
  refine hK.out _ _ ⟨a0, a1, a2, d0, d1, d2, l0⟩ (fun hHeld => ?_)
  clear hK K
  (try simp only [Act.put, List.setIfInBounds_toArray, List.set_cons_zero, List.set_cons_succ])
  refine wpAnyH_ready (rs := [10]) (by kernel_rfl) (by simp) (AllReadyH.cons (op_at rfl) (fun K hK => ?_) AllReadyH.nil)
  go_simp
  (refine (HCM.out _).mono ?_; rintro e w8 ⟨rfl, rfl⟩)
  go_wp2_with fail
  refine hK.out _ _ ⟨a0, a1, a2, d0, d1, d2, l0⟩ (fun hHeld => ?_)
  clear hK K
  (try simp only [Act.put, List.setIfInBounds_toArray, List.set_cons_zero, List.set_cons_succ])
  refine wpAnyH_take (i := 11) (v := (.int .i64 z)) (op_at rfl) (by kernel_rfl) (by kernel_rfl) (by kernel_rfl) (fun _ _ _ h => h) (Or.inl ⟨rfl, fun w hSw => ?_⟩) (by assumption) ?_
  · (try dsimp only at hSw); go_simp; try with_reducible rfl
  (try simp only [Act.put, List.setIfInBounds_toArray, List.set_cons_zero, List.set_cons_succ])
  refine wpAnyH_done (by kernel_rfl) ?_ _
  go_wp2_with fail
  go_ret
  exact ⟨rfl, g⟩
end Go.Proofs.YtcnpmebihdonoaaGreatDoor
namespace Go.Proofs.YtcnpmebihdonoaaGreatDoor
open Go.RowKit Go.Lib
set_option linter.unusedSimpArgs false
set_option linter.unusedVariables false
set_option linter.unusedSectionVars false
section
open Go.Sort
variable {α : Type} [Inhabited α]
theorem swp_list (L M R : List α) (x y : α) (i j : Nat) (hi : i = L.length) (hj : j = L.length + 1 + M.length) : swp (L ++ x :: (M ++ y :: R)).toArray i j = (L ++ y :: (M ++ x :: R)).toArray := by
  subst hi hj
  have e1 : (L ++ x :: (M ++ y :: R)).toArray[L.length]! = x := by
    rw [getElem!_pos _ _ (by simp)]
    simp
  have e2 : (L ++ x :: (M ++ y :: R)).toArray[L.length + 1 + M.length]! = y := by
    rw [getElem!_pos _ _ (by simp; omega)]
    simp only [List.getElem_toArray]
    rw [List.getElem_append_right (by omega)]
    simp only [show L.length + 1 + M.length - L.length = M.length + 1 by omega, List.getElem_cons_succ]
    rw [List.getElem_append_right (by omega)]
    simp
  unfold swp
  rw [e1, e2]
  apply Array.toList_inj.1
  simp only [Array.toList_setIfInBounds]
  rw [List.set_append_right _ _ (Nat.le_refl _), Nat.sub_self, List.set_cons_zero, List.set_append_right _ _ (by omega), show L.length + 1 + M.length - L.length = M.length + 1 by omega, List.set_cons_succ, List.set_append_right _ _ (Nat.le_refl _), Nat.sub_self, List.set_cons_zero]
theorem swp_comm' (d : Array α) (i j : Nat) (hi : i < d.size) (hj : j < d.size) : swp d j i = swp d i j := by
  apply Array.ext (by simp [swp])
  intro k h1 h2
  rw [← getElem!_pos _ k h1, ← getElem!_pos _ k h2]
  by_cases e1 : k = i
  · subst e1
    by_cases e2 : k = j
    · subst e2; rfl
    · rw [swp_right d j k hi, swp_left d k j hi e2]
  · by_cases e2 : k = j
    · subst e2
      rw [swp_left d k i hj e1, swp_right d i k hj]
    · rw [swp_other d j i k e2 e1, swp_other d i j k e1 e2]
/-- a merge that takes of the first list where neither is less -/
def mrg (lt : α → α → Bool) : List α → List α → List α
  | [], B => B
  | x :: A, [] => x :: A
  | x :: A, y :: B => if lt y x then y :: mrg lt (x :: A) B else x :: mrg lt A (y :: B)
termination_by A B => A.length + B.length
variable (lt : α → α → Bool)
theorem mrg_nil (A : List α) : mrg lt A [] = A := by cases A <;> simp [mrg]
theorem nil_mrg (B : List α) : mrg lt [] B = B := by simp [mrg]
theorem mrg_cons (x : α) (A : List α) (y : α) (B : List α) : mrg lt (x :: A) (y :: B) = if lt y x then y :: mrg lt (x :: A) B else x :: mrg lt A (y :: B) := by rw [mrg]
theorem mrg_app : ∀ (n : Nat) (A1 A2 B1 B2 : List α), A1.length + B1.length = n → (∀ x ∈ A1, ∀ y ∈ B2, lt y x = false) → (∀ x ∈ A2, ∀ y ∈ B1, lt y x = true) → mrg lt (A1 ++ A2) (B1 ++ B2) = mrg lt A1 B1 ++ mrg lt A2 B2
  | n, [], A2, [], B2, _, _, _ => by simp [mrg]
  | n, [], [], y :: B1, B2, hn, h1, h2 => by simp [mrg]
  | n, [], x :: A2, y :: B1, B2, hn, h1, h2 => by
    have := mrg_app B1.length [] (x :: A2) B1 B2 (by simp) h1 (fun x hx y hy => h2 x hx y (List.mem_cons_of_mem _ hy))
    simp only [List.nil_append, List.cons_append] at this ⊢
    rw [mrg_cons, if_pos (h2 x (List.mem_cons_self ..) y (List.mem_cons_self ..)), this, nil_mrg, nil_mrg]
    rfl
  | n, x :: A1, A2, [], [], hn, h1, h2 => by simp [mrg_nil]
  | n, x :: A1, A2, [], y :: B2, hn, h1, h2 => by
    have := mrg_app A1.length A1 A2 [] (y :: B2) (by simp) (fun x hx => h1 x (List.mem_cons_of_mem _ hx)) h2
    simp only [List.nil_append, List.cons_append] at this ⊢
    rw [mrg_cons, if_neg (by rw [h1 x (List.mem_cons_self ..) y (List.mem_cons_self ..)]; simp), this, mrg_nil, mrg_nil]
    rfl
  | n, x :: A1, A2, y :: B1, B2, hn, h1, h2 => by
    simp only [List.length_cons] at hn
    cases hl : lt y x with
    | true =>
      have := mrg_app (n - 1) (x :: A1) A2 B1 B2 (by simp only [List.length_cons]; omega) h1 (fun x hx y hy => h2 x hx y (List.mem_cons_of_mem _ hy))
      simp only [List.cons_append] at this ⊢
      rw [mrg_cons, if_pos hl, this, mrg_cons, if_pos hl]
      rfl
    | false =>
      have := mrg_app (n - 1) A1 A2 (y :: B1) B2 (by simp only [List.length_cons]; omega) (fun x hx => h1 x (List.mem_cons_of_mem _ hx)) h2
      simp only [List.cons_append] at this ⊢
      rw [mrg_cons, if_neg (by rw [hl]; simp), this, mrg_cons, if_neg (by rw [hl]; simp)]
      rfl
termination_by n => n
theorem mrg_one_left (x : α) (B1 B2 : List α) (h1 : ∀ y ∈ B1, lt y x = true) (h2 : ∀ y ∈ B2, lt y x = false) : mrg lt [x] (B1 ++ B2) = B1 ++ x :: B2 := by
  have a := mrg_app lt _ [] [x] B1 B2 rfl (fun x hx => by cases hx) (fun x' hx y hy => by rw [List.mem_singleton] at hx; subst hx; exact h1 y hy)
  have b := mrg_app lt _ [x] [] [] B2 rfl (fun x' hx y hy => by rw [List.mem_singleton] at hx; subst hx; exact h2 y hy) (fun x hx => by cases hx)
  simp only [List.nil_append, List.append_nil, mrg_nil, nil_mrg, List.singleton_append] at a b
  rw [a, b]
theorem mrg_one_right (y : α) (A1 A2 : List α) (h1 : ∀ x ∈ A1, lt y x = false) (h2 : ∀ x ∈ A2, lt y x = true) : mrg lt (A1 ++ A2) [y] = A1 ++ y :: A2 := by
  have a := mrg_app lt _ A1 A2 [y] [] rfl (fun x hx y hy => by cases hy) (fun x hx y' hy => by rw [List.mem_singleton] at hy; subst hy; exact h2 x hx)
  have b := mrg_app lt _ A1 [] [] [y] rfl (fun x hx y' hy => by rw [List.mem_singleton] at hy; subst hy; exact h1 x hx) (fun x hx => by cases hx)
  simp only [List.nil_append, List.append_nil, mrg_nil, nil_mrg] at a b
  rw [a, b]
  simp
theorem mrg_len : ∀ (n : Nat) (A B : List α), A.length + B.length = n → (mrg lt A B).length = n
  | n, [], B, h => by rw [nil_mrg]; simpa using h
  | n, x :: A, [], h => by rw [mrg_nil]; simpa using h
  | n, x :: A, y :: B, h => by
    simp only [List.length_cons] at h
    rw [mrg_cons]
    split
    · rw [List.length_cons, mrg_len (n - 1) (x :: A) B (by simp only [List.length_cons]; omega)]; omega
    · rw [List.length_cons, mrg_len (n - 1) A (y :: B) (by simp only [List.length_cons]; omega)]; omega
termination_by n => n
/-- none is less than one ahead of it -/
def Asc (l : List α) : Prop := l.Pairwise fun x y => lt y x = false
theorem Asc.app {lt : α → α → Bool} {A B : List α} (h : Asc lt (A ++ B)) : Asc lt A ∧ Asc lt B := ⟨(List.pairwise_append.1 h).1, (List.pairwise_append.1 h).2.1⟩
end
section
variable {α : Type} [Inhabited α] (key : α → Int)
def ltK (x y : α) : Bool := decide (key x < key y)
theorem mrg_mem {lt : α → α → Bool} {z : α} : ∀ (n : Nat) (A B : List α), A.length + B.length = n → z ∈ mrg lt A B → z ∈ A ∨ z ∈ B
  | n, [], B, _, h => by rw [nil_mrg] at h; exact .inr h
  | n, x :: A, [], _, h => by rw [mrg_nil] at h; exact .inl h
  | n, x :: A, y :: B, hn, h => by
    simp only [List.length_cons] at hn
    rw [mrg_cons] at h
    split at h
    · rcases List.mem_cons.1 h with rfl | h
      · exact .inr (List.mem_cons_self ..)
      · rcases mrg_mem (n - 1) (x :: A) B (by simp only [List.length_cons]; omega) h with h | h
        · exact .inl h
        · exact .inr (List.mem_cons_of_mem _ h)
    · rcases List.mem_cons.1 h with rfl | h
      · exact .inl (List.mem_cons_self ..)
      · rcases mrg_mem (n - 1) A (y :: B) (by simp only [List.length_cons]; omega) h with h | h
        · exact .inl (List.mem_cons_of_mem _ h)
        · exact .inr h
termination_by n => n
theorem asc_le {l : List α} {x : α} (h : Asc (ltK key) (x :: l)) : ∀ y ∈ l, key x ≤ key y := fun y hy => by
  have := (List.pairwise_cons.1 h).1 y hy
  unfold ltK at this
  have := of_decide_eq_false this
  omega
theorem mrg_asc : ∀ (n : Nat) (A B : List α), A.length + B.length = n → Asc (ltK key) A → Asc (ltK key) B → Asc (ltK key) (mrg (ltK key) A B)
  | n, [], B, _, _, hb => by rw [nil_mrg]; exact hb
  | n, x :: A, [], _, ha, _ => by rw [mrg_nil]; exact ha
  | n, x :: A, y :: B, hn, ha, hb => by
    simp only [List.length_cons] at hn
    have la := asc_le key ha
    have lb := asc_le key hb
    rw [mrg_cons]
    split
    · rename_i hl
      have hl := of_decide_eq_true hl
      refine List.pairwise_cons.2 ⟨fun z hz => ?_, mrg_asc (n - 1) (x :: A) B (by simp only [List.length_cons]; omega) ha (List.pairwise_cons.1 hb).2⟩
      refine decide_eq_false ?_
      rcases mrg_mem _ _ _ rfl hz with hz | hz
      · rcases List.mem_cons.1 hz with rfl | hz
        · omega
        · have := la z hz; omega
      · have := lb z hz; omega
    · rename_i hl
      have hl : ¬ key y < key x := fun h => hl (decide_eq_true h)
      refine List.pairwise_cons.2 ⟨fun z hz => ?_, mrg_asc (n - 1) A (y :: B) (by simp only [List.length_cons]; omega) (List.pairwise_cons.1 ha).2 hb⟩
      refine decide_eq_false ?_
      rcases mrg_mem _ _ _ rfl hz with hz | hz
      · have := la z hz; omega
      · rcases List.mem_cons.1 hz with rfl | hz
        · exact hl
        · have := lb z hz; omega
termination_by n => n
theorem mrg_filter (k : Int) : ∀ (n : Nat) (A B : List α), A.length + B.length = n → Asc (ltK key) A → (mrg (ltK key) A B).filter (fun x => key x == k) = A.filter (fun x => key x == k) ++ B.filter (fun x => key x == k)
  | n, [], B, _, _ => by rw [nil_mrg]; simp
  | n, x :: A, [], _, _ => by rw [mrg_nil]; simp
  | n, x :: A, y :: B, hn, ha => by
    simp only [List.length_cons] at hn
    have la := asc_le key ha
    rw [mrg_cons]
    split
    · rename_i hl
      have hl := of_decide_eq_true hl
      rw [List.filter_cons, mrg_filter k (n - 1) (x :: A) B (by simp only [List.length_cons]; omega) ha]
      by_cases hk : key y = k
      · have hn : (x :: A).filter (fun x => key x == k) = [] := by
          rw [List.filter_eq_nil_iff]
          intro z hz
          rcases List.mem_cons.1 hz with rfl | hz
          · simp; omega
          · have := la z hz; simp; omega
        rw [hn, List.filter_cons]
        simp [hk]
      · simp [List.filter_cons, hk]
    · rw [List.filter_cons, mrg_filter k (n - 1) A (y :: B) (by simp only [List.length_cons]; omega) (List.pairwise_cons.1 ha).2]
      by_cases hk : key x = k <;> simp [List.filter_cons, hk]
termination_by n => n
/-- there is one such list -/
theorem asc_unique : ∀ (l r : List α), Asc (ltK key) l → Asc (ltK key) r → (∀ k, l.filter (fun x => key x == k) = r.filter (fun x => key x == k)) → l = r
  | [], [], _, _, _ => rfl
  | [], y :: r, _, _, h => by have := h (key y); simp at this
  | x :: l, [], _, _, h => by have := h (key x); simp at this
  | x :: l, y :: r, hl, hr, h => by
    have ll := asc_le key hl
    have lr := asc_le key hr
    have hxy : key x = key y := by
      have h1 := h (key x)
      have h2 := h (key y)
      have m1 : x ∈ (y :: r).filter (fun z => key z == key x) := by rw [← h1]; simp
      have m2 : y ∈ (x :: l).filter (fun z => key z == key y) := by rw [h2]; simp
      have q1 := (List.mem_filter.1 m1).1
      have q2 := (List.mem_filter.1 m2).1
      rcases List.mem_cons.1 q1 with e | q1
      · rw [e]
      · rcases List.mem_cons.1 q2 with e | q2
        · rw [e]
        · have := ll y q2; have := lr x q1; omega
    have h0 := h (key x)
    rw [List.filter_cons, List.filter_cons, if_pos (by simp), if_pos (by simp [hxy])] at h0
    have hx : x = y := by injection h0
    subst hx
    congr 1
    refine asc_unique l r (List.pairwise_cons.1 hl).2 (List.pairwise_cons.1 hr).2 fun k => ?_
    have h1 := h k
    rw [List.filter_cons, List.filter_cons] at h1
    split at h1
    · injection h1
    · exact h1
end
end Go.Proofs.YtcnpmebihdonoaaGreatDoor
namespace Go.Proofs.YtcnpmebihdonoaaGreatDoor
open Go.RowKit Go.Lib
set_option linter.unusedSimpArgs false
set_option linter.unusedVariables false
variable {Mx : Nat}
theorem drop_get {α : Type} {X r : List α} {x : α} {i : Nat} (h : X.drop i = x :: r) : X[i]? = some x := by
  have := congrArg (fun l => l[0]?) h
  simpa using this
section
open Go.Sort Go.Shelf
theorem arr_one {α : Type} [Inhabited α] (P Q : List α) (x : α) : (P ++ x :: Q).toArray[P.length]! = x := by
  rw [getElem!_pos _ _ (by simp)]
  simp
theorem arr_two {α : Type} [Inhabited α] (P M Q : List α) (x y : α) : (P ++ x :: (M ++ y :: Q)).toArray[P.length + 1 + M.length]! = y := by
  have := arr_one (P ++ x :: M) Q y
  rw [show (P ++ x :: M).length = P.length + 1 + M.length by simp; omega] at this
  simpa using this
structure Swp2 {α : Type} [Inhabited α] (enc : α → Value) (w0 : World) (blk off i j : Nat) (x y : α) (d : Array α) (W : World) : Prop where
  c1 : W.cell? ⟨blk, off + i, none⟩ = some (enc x)
  c2 : W.cell? ⟨blk, off + j, none⟩ = some (enc y)
  f1 : W.frozen? ⟨blk, off + i, none⟩ = false
  f2 : W.frozen? ⟨blk, off + j, none⟩ = false
  c3 : ∃ u, (W.setCell ⟨blk, off + i, none⟩ (enc y)).cell? ⟨blk, off + j, none⟩ = some u
  c4 : ∃ u, (W.setCell ⟨blk, off + j, none⟩ (enc x)).cell? ⟨blk, off + i, none⟩ = some u
  s1 : SW enc w0 blk off d ((W.setCell ⟨blk, off + i, none⟩ (enc y)).setCell ⟨blk, off + j, none⟩ (enc x)).drew
  s2 : SW enc w0 blk off d ((W.setCell ⟨blk, off + j, none⟩ (enc x)).setCell ⟨blk, off + i, none⟩ (enc y)).drew
theorem row_swap {α : Type} [Inhabited α] {enc : α → Value} {w0 W : World} {blk off : Nat} {d0 : Array α} {P M Q : List α} {x y : α} (S : SW enc w0 blk off (P ++ x :: (M ++ y :: Q)).toArray W) (R : Row1 enc w0 blk off d0) (hs : d0.size = (P ++ x :: (M ++ y :: Q)).length) {i j : Nat} (hi : i = P.length) (hj : j = P.length + 1 + M.length) :
    Swp2 enc w0 blk off i j x y (P ++ y :: (M ++ x :: Q)).toArray W := by
  have hsz : (P ++ x :: (M ++ y :: Q)).toArray.size = d0.size := by rw [hs]; simp
  have hl : (P ++ x :: (M ++ y :: Q)).length = P.length + 1 + M.length + 1 + Q.length := by simp; omega
  have i1 : i < (P ++ x :: (M ++ y :: Q)).toArray.size := by rw [hsz, hs, hl]; omega
  have j1 : j < (P ++ x :: (M ++ y :: Q)).toArray.size := by rw [hsz, hs, hl]; omega
  have ex : (P ++ x :: (M ++ y :: Q)).toArray[i]! = x := by rw [hi]; exact arr_one P _ x
  have ey : (P ++ x :: (M ++ y :: Q)).toArray[j]! = y := by rw [hj]; exact arr_two P M Q x y
  have a1 := S.c1 R hsz i i1
  have a2 := S.c1 R hsz j j1
  have a3 := S.swapped R i j i1 j1
  have a4 := S.swapped R j i j1 i1
  have a5 := S.c2 R hsz i j i1 j1 (enc y)
  have a6 := S.c2 R hsz j i j1 i1 (enc x)
  rw [swp_comm' _ i j i1 j1] at a4
  rw [ex, ey, swp_list P M Q x y i j hi hj] at a3 a4
  rw [ex] at a1
  rw [ey] at a2
  exact ⟨a1, a2, S.f1 R hsz i i1, S.f1 R hsz j j1, a5, a6, a3, a4⟩
end
open Go.Sort Go.Shelf in
set_option maxHeartbeats 4000000 in
set_option maxRecDepth 100000 in
theorem swapR_c {w0 : World} {blk off : Nat} {d0 : Array (Fin (Mx + 1))} (R : Row1 encN w0 blk off d0) (L X M Y Q : List (Fin (Mx + 1))) (n a b cap N : Nat) (f : Value) (w : World) (hX : X.length = n) (hY : Y.length = n) (ha : a = L.length) (hb : b = L.length + n + M.length)
    (hN : d0.size = N) (hs : N = L.length + n + M.length + n + Q.length) (hsz : N < 4611686018427387904) (S : SW encN w0 blk off (L ++ (X ++ (M ++ (Y ++ Q)))).toArray w) :
    Calls Tryz.prog 156 #[.slice (some ⟨blk, off, none⟩) N cap, .int .i64 (a : Int), .int .i64 (b : Int), .int .i64 (n : Int), f] w fun e w' => e = .returned (.tuple #[]) ∧ SW encN w0 blk off (L ++ (Y ++ (M ++ (X ++ Q)))).toArray w' := by
  have hcl0 := R.hO.cells
  simp only [Value.cells] at hcl0
  have hst := R.hO.store Tryz.prog
  have S0 := Lib.hid S
  have HX := Lib.hid hX
  have HY := Lib.hid hY
  have HS := Lib.hid hs
  have HA := Lib.hid ha
  have HB := Lib.hid hb
  have hbn : b + n ≤ N := by omega
  have han : a + n ≤ b := by omega
  clear S hX hY hs hb ha
  go_enter Tryz.func156, Tryz.ntmps156
  go_wp2_with fail
  go_loopg [10] n (fun gk s10 wr => ∃ i : Nat, s10 = .int .i64 i ∧ gk + i = n ∧ Hid (SW encN w0 blk off (L ++ (Y.take i ++ (X.drop i ++ (M ++ (X.take i ++ (Y.drop i ++ Q)))))).toArray wr))
  case atStart => exact ⟨0, rfl, by omega, by simpa [Hid] using S0.out⟩
  case round =>
    clear S0
    obtain ⟨i, rfl, hi, HSW⟩ := hrel
    by_cases hlt : i < n
    · have hi2 : (i : Int) < n := by omega
      obtain ⟨x, hx⟩ : ∃ x, X.drop i = x :: X.drop (i + 1) := ⟨X[i]'(by have := HX.out; omega), List.drop_eq_getElem_cons (by have := HX.out; omega)⟩
      obtain ⟨y, hy⟩ : ∃ y, Y.drop i = y :: Y.drop (i + 1) := ⟨Y[i]'(by have := HY.out; omega), List.drop_eq_getElem_cons (by have := HY.out; omega)⟩
      have hxt : X.take (i + 1) = X.take i ++ [x] := by
        rw [List.take_add_one]
        rw [drop_get hx]; rfl
      have hyt : Y.take (i + 1) = Y.take i ++ [y] := by
        rw [List.take_add_one]
        rw [drop_get hy]; rfl
      have hS := HSW.out
      rw [hx, hy, show L ++ (Y.take i ++ (x :: X.drop (i + 1) ++ (M ++ (X.take i ++ (y :: Y.drop (i + 1) ++ Q))))) = (L ++ Y.take i) ++ x :: ((X.drop (i + 1) ++ (M ++ X.take i)) ++ y :: (Y.drop (i + 1) ++ Q)) by simp] at hS
      have hsw := row_swap hS R (by rw [hN]; have := HX.out; have := HY.out; have := HS.out; simp; omega) (i := a + i) (j := b + i) (by have := HY.out; have := HA.out; simp; omega) (by have := HX.out; have := HY.out; have := HB.out; simp; omega)
      rw [show (L ++ Y.take i) ++ y :: ((X.drop (i + 1) ++ (M ++ X.take i)) ++ x :: (Y.drop (i + 1) ++ Q)) = L ++ (Y.take (i + 1) ++ (X.drop (i + 1) ++ (M ++ (X.take (i + 1) ++ (Y.drop (i + 1) ++ Q))))) by rw [hxt, hyt]; simp] at hsw
      obtain ⟨q1, q2, q3, q4, ⟨u, q5⟩, _, q6, _⟩ := hsw
      obtain ⟨p, hp⟩ : ∃ p, p = a + i := ⟨_, rfl⟩
      obtain ⟨q, hq⟩ : ∃ q, q = b + i := ⟨_, rfl⟩
      rw [← hp] at q1 q3 q5 q6
      rw [← hq] at q2 q4 q5 q6
      have w1 : IntKind.i64.wrap ((a : Int) + i) = (a : Int) + i := by rw [IntKind.wrap_i64]; omega
      have w2 : IntKind.i64.wrap ((b : Int) + i) = (b : Int) + i := by rw [IntKind.wrap_i64]; omega
      have t1 : ((a : Int) + i).toNat = p := by omega
      have t2 : ((b : Int) + i).toNat = q := by omega
      have r1 : (0 : Int) ≤ (a : Int) + i := by omega
      have r2 : (0 : Int) ≤ (b : Int) + i := by omega
      have r3 : (a : Int) + i < N := by omega
      have r4 : (b : Int) + i < N := by omega
      have H6 := Lib.hid q6
      clear hx hy hxt hyt hS q6 HSW hp hq
      have mixed : Tryz.prog.follows .mixedOrders = true := by kernel_rfl
      go_wp2_with fail
      go_big_region_o
      go_wp2_with fail

      go_roundg (gk - 1)
      case measure => omega
      case rel => exact ⟨i + 1, by go_num, by omega, H6⟩
    · have hin : i = n := by omega
      have hnl : ¬ (i : Int) < n := by omega
      have hS := HSW.out
      have x1 : X.take n = X := List.take_of_length_le (by have := HX.out; omega)
      have x2 : Y.take n = Y := List.take_of_length_le (by have := HY.out; omega)
      have x3 : X.drop n = [] := List.drop_eq_nil_of_le (by have := HX.out; omega)
      have x4 : Y.drop n = [] := List.drop_eq_nil_of_le (by have := HY.out; omega)
      rw [hin, x1, x2, x3, x4, List.nil_append, List.nil_append] at hS
      have H7 := Lib.hid hS
      clear hS HSW hin
      go_wp2_with fail
      go_end0
      exact ⟨rfl, H7.out⟩
end Go.Proofs.YtcnpmebihdonoaaGreatDoor
