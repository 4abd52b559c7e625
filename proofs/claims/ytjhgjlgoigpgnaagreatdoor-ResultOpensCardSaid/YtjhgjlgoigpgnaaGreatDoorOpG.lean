/- Open values: has one before the name (slices.ContainsFunc with CheckOpen's inner closure). -/
import Derived.Test.YtjhgjlgoigpgnaaGreatDoorOpF
namespace Go.Proofs.YtjhgjlgoigpgnaaGreatDoor
open Go.RowKit Go.Lib
set_option linter.unusedSimpArgs false
set_option linter.unusedVariables false
/-- a climber's value -/
def opV (x : OpR) : Value := .agg #[.string x.nm, .int .i64 x.lo, .int .i64 x.hi]
theorem opens_c {v : Value} {xs : List OpR} {w : World} (h : OpsV w v xs) (h1 : xs.length ≤ 1000) :
    Calls Tryz.prog 13 #[v] w fun e w' => ∃ v', e = .returned v' ∧ OpsV w' v' xs ∧ Gr w w' := by
  obtain ⟨⟨p, cap, rfl, _, hh⟩⟩ := h
  by_cases h0 : 0 < xs.length
  · obtain ⟨b, off, rfl, hc⟩ := hh h0
    refine (opens_pos xs _ b off cap w rfl h1 hc).mono ?_
    rintro e w' ⟨v', rfl, ho, hg⟩
    exact ⟨v', rfl, opsV_of_owns ho, hg⟩
  · have hx : xs = [] := List.eq_nil_of_length_eq_zero (by omega)
    subst hx
    go_enter Tryz.func13, Tryz.ntmps13
    go_wp2_with fail
    refine wp_loop_rounds 1 ?_
    rw [rounds_succ]
    go_wp2_with fail
    go_ret
    exact ⟨_, rfl, ⟨none, 0, rfl, ⟨by simp, by unfold maxLen; omega⟩, fun h => absurd h (by simp)⟩, Gr.refl _⟩
theorem same1_c (y : OpR) (B : Nat) (nm : ByteArray) (w : World) (h : w.cell? ⟨B, 0, none⟩ = some (.string nm)) :
    Calls Tryz.prog 49 #[opV y, .pointer (some ⟨B, 0, none⟩)] w fun e w' => e = .returned (.bool (y.nm.toList == nm.toList)) ∧ Gr w w' := by
  unfold opV
  obtain ⟨W, hW, g, a0, a1, a2⟩ := box3 w (.string y.nm) (.int .i64 y.lo) (.int .i64 y.hi) 75
  have hB := g.cell h
  rw [← hW] at hB
  have HG := Lib.hid (show Gr w (w.alloc (.cells #[.string y.nm, .int .i64 y.lo, .int .i64 y.hi] 75)) from (Gr.refl w).alloc _)
  clear hW h g a0 a1 a2
  go_enter Tryz.func49, Tryz.ntmps49
  go_wp2_with fail
  go_ret
  exact ⟨rfl, HG.out⟩
/-- the first place of the name, from a place on -/
def firstAt (xs : List OpR) (nm : ByteArray) : Nat → Nat → Int
  | 0, _ => -1
  | k + 1, i => match xs[i]? with
    | some x => if x.nm.toList == nm.toList then i else firstAt xs nm k (i + 1)
    | none => -1
theorem firstAt_step {xs : List OpR} {nm : ByteArray} {i n : Nat} {x : OpR} (h : xs[i]? = some x) (hi : i < n) : firstAt xs nm (n - i) i = if x.nm.toList == nm.toList then (i : Int) else firstAt xs nm (n - (i + 1)) (i + 1) := by
  obtain ⟨k, hk⟩ : ∃ k, n - i = k + 1 := ⟨n - i - 1, by omega⟩
  rw [hk, show n - (i + 1) = k by omega]
  simp only [firstAt, h]
theorem firstAt_end {xs : List OpR} {nm : ByteArray} {i n : Nat} (h : n ≤ i) : firstAt xs nm (n - i) i = -1 := by
  rw [show n - i = 0 by omega]; rfl
theorem firstAt_any (xs : List OpR) (nm : ByteArray) : ∀ (k i : Nat), i + k ≤ xs.length → decide (0 ≤ firstAt xs nm k i) = ((xs.drop i).take k).any fun y => y.nm.toList == nm.toList
  | 0, i, h => by simp [firstAt]
  | k + 1, i, h => by
    have hi : i < xs.length := by omega
    rw [List.drop_eq_getElem_cons hi, List.take_succ_cons, List.any_cons, ← firstAt_any xs nm k (i + 1) (by omega)]
    simp only [firstAt, List.getElem?_eq_getElem hi]
    cases xs[i].nm.toList == nm.toList <;> simp
set_option maxHeartbeats 1000000 in
set_option maxRecDepth 100000 in
theorem indexFunc_pos (xs : List OpR) (n b off cap B : Nat) (nm : ByteArray) (w : World) (hn : n ≤ xs.length) (h1 : n ≤ 1000) (hc : ∀ i x, xs[i]? = some x → OpAt w b (off + i * 3) x) (hB : w.cell? ⟨B, 0, none⟩ = some (.string nm)) :
    Calls Tryz.prog 107 #[.slice (some ⟨b, off, none⟩) n cap, .func (.func 49) #[] #[.pointer (some ⟨B, 0, none⟩)]] w fun e w' => e = .returned (.int .i64 (firstAt xs nm n 0)) ∧ Gr w w' := by
  have HC := Lib.hid hc
  have HN := Lib.hid hn
  have HE : Hid (firstAt xs nm n 0 = firstAt xs nm (n - 0) 0) := rfl
  clear hc hn
  go_enter Tryz.func107, Tryz.ntmps107
  go_wp2_with fail
  go_loopg [8] n (fun gk s8 wr => ∃ i : Nat, s8 = .int .i64 i ∧ gk + i = n ∧ Gr w wr ∧ Hid (firstAt xs nm (n - i) i = firstAt xs nm (n - 0) 0))
  case atStart => exact ⟨0, rfl, by omega, Gr.refl _, rfl⟩
  case round =>
    obtain ⟨i, rfl, hi, hg, HF⟩ := hrel
    by_cases hlt : i < n
    · obtain ⟨x, hx⟩ : ∃ x, xs[i]? = some x := ⟨xs[i]'(by have := HN.out; omega), List.getElem?_eq_getElem _⟩
      obtain ⟨c0, c1, c2⟩ := (HC.out i x hx).gr hg
      have hf := firstAt_step (nm := nm) hx hlt
      have hi2 : (i : Int) < n := by omega
      have HT := Lib.hid (same1_c x B nm wr (hg.cell hB))
      clear hx
      unfold opV at HT
      cases e1 : (x.nm.toList == nm.toList)
      · rw [e1] at hf HT
        simp only [Bool.false_eq_true, if_false] at hf
        have HF2 := Lib.hid hf
        clear hf e1
        go_wp2_with (refine HT.out.mono ?_; rintro e w4 ⟨rfl, hg2⟩)
        go_roundg (gk - 1)
        case measure => omega
        case rel => exact ⟨i + 1, by go_num, by omega, hg.trans hg2, by unfold Hid; rw [← HF2.out, HF.out]⟩
      · rw [e1] at hf HT
        simp only [if_true] at hf
        have HF2 := Lib.hid hf
        clear hf e1
        go_wp2_with (refine HT.out.mono ?_; rintro e w4 ⟨rfl, hg2⟩)
        go_ret
        exact ⟨by rw [HE.out, ← HF.out, HF2.out]; rfl, hg.trans hg2⟩
    · have HE2 := Lib.hid (firstAt_end (xs := xs) (nm := nm) (i := i) (n := n) (by omega))
      have hi2 : (n : Int) ≤ i := by omega
      go_wp2_with fail
      go_ret
      exact ⟨by rw [HE.out, ← HF.out, HE2.out]; rfl, hg⟩
end Go.Proofs.YtjhgjlgoigpgnaaGreatDoor
