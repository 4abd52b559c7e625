/- Sheets (chapter 10): CheckEntry, as the program has it. -/
import Derived.Test.YtjkiidkacpffnaaGreatDoorOfF
import Derived.Test.YtjkiidkacpffnaaGreatDoorGNames
import Derived.Test.YtjkiidkacpffnaaGreatDoorGRkD
namespace Go.Proofs.YtjkiidkacpffnaaGreatDoor
open Go.RowKit Go.Lib
set_option linter.unusedSimpArgs false
set_option linter.unusedVariables false
end Go.Proofs.YtjkiidkacpffnaaGreatDoor
namespace Go.Proofs.YtjkiidkacpffnaaGreatDoor
open Go.RowKit Go.Lib
set_option linter.unusedSimpArgs false
set_option linter.unusedVariables false
end Go.Proofs.YtjkiidkacpffnaaGreatDoor
namespace Go.Proofs.YtjkiidkacpffnaaGreatDoor
open Go.RowKit Go.Lib
set_option linter.unusedSimpArgs false
set_option linter.unusedVariables false
end Go.Proofs.YtjkiidkacpffnaaGreatDoor
namespace Go.Proofs.YtjkiidkacpffnaaGreatDoor
open Go.RowKit Go.Lib
set_option linter.unusedSimpArgs false
set_option linter.unusedVariables false
end Go.Proofs.YtjkiidkacpffnaaGreatDoor
namespace Go.Proofs.YtjkiidkacpffnaaGreatDoor
open Go.RowKit Go.Lib
set_option linter.unusedSimpArgs false
set_option linter.unusedVariables false
theorem firstP_spec (Q : RowR → Bool) (xs : List RowR) : ∀ (k i : Nat), i + k ≤ xs.length →
    (firstP Q xs k i = -1 ∧ ∀ (j : Nat) (x : RowR), i ≤ j → j < i + k → xs[j]? = some x → Q x = false) ∨
    (∃ f : Nat, firstP Q xs k i = f ∧ i ≤ f ∧ f < i + k ∧ (∃ x, xs[f]? = some x ∧ Q x = true) ∧ ∀ (j : Nat) (x : RowR), i ≤ j → j < f → xs[j]? = some x → Q x = false)
  | 0, i, h => .inl ⟨rfl, fun j x h1 h2 => by omega⟩
  | k + 1, i, h => by
    have hi : i < xs.length := by omega
    have hx := List.getElem?_eq_getElem hi
    generalize xs[i] = x at hx
    simp only [firstP, hx]
    cases hq : Q x
    · rw [if_neg (by simp)]
      rcases firstP_spec Q xs k (i + 1) (by omega) with ⟨e, hh⟩ | ⟨f, e, h1, h2, h3, h4⟩
      · refine .inl ⟨e, fun j y hj1 hj2 hy => ?_⟩
        by_cases hji : j = i
        · subst hji; rw [hx] at hy; cases hy; exact hq
        · exact hh j y (by omega) (by omega) hy
      · refine .inr ⟨f, e, by omega, by omega, h3, fun j y hj1 hj2 hy => ?_⟩
        by_cases hji : j = i
        · subst hji; rw [hx] at hy; cases hy; exact hq
        · exact h4 j y (by omega) hj2 hy
    · rw [if_pos rfl]
      exact .inr ⟨i, rfl, Nat.le_refl _, by omega, ⟨x, hx, hq⟩, fun j y h1 h2 => by omega⟩
end Go.Proofs.YtjkiidkacpffnaaGreatDoor
namespace Go.Proofs.YtjkiidkacpffnaaGreatDoor
open Go.RowKit Go.Lib
set_option linter.unusedSimpArgs false
set_option linter.unusedVariables false
theorem refOut10_c (n l h : Int) (w : World) :
    Calls Tryz.prog 31 #[.int .i64 n, .int .i64 l, .int .i64 h] w fun e w' => e = .returned (.bool (outB n l h)) ∧ w = w' := by
  have HE : Hid (outB n l h = (decide (n < l) || decide (h < n))) := rfl
  cases h1 : decide (n < l) <;> cases h2 : decide (h < n)
  all_goals
    rw [h1, h2] at HE
    go_enter Tryz.func31, Tryz.ntmps31
    go_wp2_with fail
    go_ret
    exact ⟨by rw [HE.out]; rfl, rfl⟩
set_option maxHeartbeats 4000000 in
set_option maxRecDepth 100000 in
theorem refClass_c (s : ByteArray) (w : World) :
    Calls Tryz.prog 33 #[.string s] w fun e w' => e = .returned (.int .i64 (gradeZ s.toList)) ∧ Gr w w' := by
  have HG : ∀ z, gradeZ s.toList = z → Hid (gradeZ s.toList = z) := fun z h => h
  have t0 := st4_cells w 9 0 ⟨#[]⟩ rfl
  have t1 := st4_cells w 9 1 ⟨#[100, 110, 115]⟩ rfl
  have t2 := st4_cells w 9 2 ⟨#[100, 110, 102]⟩ rfl
  have t3 := st4_cells w 9 3 ⟨#[100, 115, 113]⟩ rfl
  simp only [Nat.zero_add] at t0 t1 t2 t3
  rcases grade_of s.toList with h | h | h | h | ⟨h0, h1, h2, h3⟩
  · replace HG := HG 0 (by rw [h]; rfl)
    go_enter Tryz.func33, Tryz.ntmps33
    go_wp2_with fail
    refine wp_loop_rounds 6 ?_
    rw [rounds_succ]
    go_wp2_with fail
    go_ret
    exact ⟨by rw [HG.out]; rfl, (Gr.refl w).alloc _⟩
  · replace HG := HG 1 (by rw [h]; rfl)
    go_enter Tryz.func33, Tryz.ntmps33
    go_wp2_with fail
    refine wp_loop_rounds 6 ?_
    rw [rounds_succ]
    go_wp2_with fail
    rw [rounds_succ]
    go_wp2_with fail
    go_ret
    exact ⟨by rw [HG.out]; rfl, (Gr.refl w).alloc _⟩
  · replace HG := HG 2 (by rw [h]; rfl)
    go_enter Tryz.func33, Tryz.ntmps33
    go_wp2_with fail
    refine wp_loop_rounds 6 ?_
    rw [rounds_succ]
    go_wp2_with fail
    rw [rounds_succ]
    go_wp2_with fail
    rw [rounds_succ]
    go_wp2_with fail
    go_ret
    exact ⟨by rw [HG.out]; rfl, (Gr.refl w).alloc _⟩
  · replace HG := HG 3 (by rw [h]; rfl)
    go_enter Tryz.func33, Tryz.ntmps33
    go_wp2_with fail
    refine wp_loop_rounds 6 ?_
    rw [rounds_succ]
    go_wp2_with fail
    rw [rounds_succ]
    go_wp2_with fail
    rw [rounds_succ]
    go_wp2_with fail
    rw [rounds_succ]
    go_wp2_with fail
    go_ret
    exact ⟨by rw [HG.out]; rfl, (Gr.refl w).alloc _⟩
  · replace HG := HG (-1) (gradeZ_other h0 h1 h2 h3)
    have e1 := beq_flip h1
    have e2 := beq_flip h2
    have e3 := beq_flip h3
    go_enter Tryz.func33, Tryz.ntmps33
    go_wp2_with fail
    refine wp_loop_rounds 6 ?_
    rw [rounds_succ]
    go_wp2_with fail
    rw [rounds_succ]
    go_wp2_with fail
    rw [rounds_succ]
    go_wp2_with fail
    rw [rounds_succ]
    go_wp2_with fail
    rw [rounds_succ]
    go_wp2_with fail
    go_ret
    exact ⟨by rw [HG.out]; rfl, (Gr.refl w).alloc _⟩
theorem gradeZ_neg10 (l : List UInt8) : decide (gradeZ l < 0) = (gradeZ l == -1) := by
  unfold gradeZ
  split
  · rfl
  split
  · rfl
  split
  · rfl
  split
  · rfl
  · rfl
set_option maxHeartbeats 4000000 in
set_option maxRecDepth 100000 in
theorem refClimber_pos (xs : List RowR) (n b off cap : Nat) (ro st : ByteArray) (va : Int) (nm : ByteArray) (w : World) (hn : n ≤ xs.length) (h1 : n ≤ 1000) (hc : ∀ i x, xs[i]? = some x → RowAt w b (off + i * 3) x) :
    Calls Tryz.prog 32 #[.agg #[.string ro, .int .i64 va, .string st, .slice (some ⟨b, off, none⟩) n cap], .string nm] w fun e w' => e = .returned (.int .i64 (firstP (isNm nm) xs n 0)) ∧ Gr w w' := by
  have HC := Lib.hid hc
  have HX := Lib.hid (fun k (h : k < n) => (show ∃ x, xs[k]? = some x from ⟨xs[k]'(by omega), List.getElem?_eq_getElem _⟩))
  have HS := Lib.hid (fun i x (h : xs[i]? = some x) (hi : i < n) => firstP_step (Q := isNm nm) h hi)
  have HE := Lib.hid (fun i (h : n ≤ i) => firstP_end (Q := isNm nm) (xs := xs) h)
  have HQ : Hid (∀ x : RowR, isNm nm x = (x.nm.toList == nm.toList)) := fun x => rfl
  obtain ⟨W, hW, gW, s0, s1, s2, s3⟩ := box4 w (.string ro) (.int .i64 va) (.string st) (.slice (some ⟨b, off, none⟩) n cap) 27
  have HW := Lib.hid hW
  clear hc hn hW s0 s1 s2
  generalize firstP (isNm nm) xs = F at *
  go_enter Tryz.func32, Tryz.ntmps32
  go_wp2_with fail
  rw [HW.out]
  clear HW
  generalize w.heap.size = L at *
  go_loopg [5] n (fun gk s5 wr => ∃ i : Nat, s5 = .int .i64 i ∧ gk + i = n ∧ wr = W ∧ Hid (F (n - i) i = F n 0))
  case atStart => exact ⟨0, rfl, by omega, rfl, by simp [Hid]⟩
  case round =>
    obtain ⟨i, rfl, hi, rfl, HF⟩ := hrel
    by_cases hlt : i < n
    · obtain ⟨x, hx⟩ := HX.out i hlt
      obtain ⟨c0, c1, c2, hv, _⟩ := (HC.out i x hx).gr gW
      have hst := HS.out i x hx hlt
      have hi2 : (i : Int) < n := by omega
      rw [HQ.out] at hst
      clear hx hv
      cases e1 : x.nm.toList == nm.toList
      · rw [e1, if_neg (by simp)] at hst
        have HF2 := Lib.hid hst
        clear hst
        go_wp2_with fail
        go_roundg (gk - 1)
        case measure => omega
        case rel => exact ⟨i + 1, by go_num, by omega, rfl, by unfold Hid; rw [← HF2.out, HF.out]⟩
      · rw [e1, if_pos rfl] at hst
        have e2 : x.nm.toList = nm.toList := by simpa using e1
        have HF2 := Lib.hid hst
        clear hst
        go_wp2_with fail
        go_ret
        exact ⟨by rw [← HF.out, HF2.out]; rfl, gW⟩
    · have hst := HE.out i (by omega)
      have hi2 : ¬ (i : Int) < n := by omega
      have HF2 := Lib.hid hst
      clear hst
      go_wp2_with fail
      go_ret
      exact ⟨by rw [← HF.out, HF2.out]; rfl, gW⟩
theorem firstP_dup {xs : List RowR} {n i : Nat} {x : RowR} (hn : n ≤ xs.length) (hi : i < n) (hx : xs[i]? = some x) : decide (firstP (isNm x.nm) xs n 0 < (i : Int)) = dupR xs i x.nm := by
  rcases firstP_spec (isNm x.nm) xs n 0 (by omega) with ⟨e, h⟩ | ⟨f, e, h0, h1, ⟨y, hy, hq⟩, h2⟩
  · have := h i x (by omega) (by omega) hx
    unfold isNm at this
    simp at this
  · have hfi : f ≤ i := by
      rcases Nat.lt_or_ge i f with h3 | h3
      · have := h2 i x (by omega) h3 hx
        unfold isNm at this
        simp at this
      · exact h3
    rw [e]
    by_cases hlt : f < i
    · rw [decide_eq_true (by omega)]
      symm
      unfold dupR
      rw [List.any_eq_true]
      refine ⟨y, ?_, hq⟩
      rw [List.mem_iff_getElem?]
      exact ⟨f, by rw [List.getElem?_take, if_pos hlt]; exact hy⟩
    · rw [decide_eq_false (by omega)]
      symm
      unfold dupR
      rw [List.any_eq_false]
      intro z hz
      rw [List.mem_iff_getElem?] at hz
      obtain ⟨j, hj⟩ := hz
      rw [List.getElem?_take] at hj
      split at hj
      · have := h2 j z (by omega) (by omega) hj
        unfold isNm at this
        simp [this]
      · cases hj
end Go.Proofs.YtjkiidkacpffnaaGreatDoor
namespace Go.Proofs.YtjkiidkacpffnaaGreatDoor
open Go.RowKit Go.Lib
set_option linter.unusedSimpArgs false
set_option linter.unusedVariables false
end Go.Proofs.YtjkiidkacpffnaaGreatDoor
namespace Go.Proofs.YtjkiidkacpffnaaGreatDoor
open Go.RowKit Go.Lib
set_option linter.unusedSimpArgs false
set_option linter.unusedVariables false
end Go.Proofs.YtjkiidkacpffnaaGreatDoor
