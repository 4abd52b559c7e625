/- Members: the reference checks licences. -/
import Derived.Test.YtmlmbgifkmkmgaaGreatGMbE
import Derived.Test.YtmlmbgifkmkmgaaGreatMbF
namespace Go.Proofs.YtmlmbgifkmkmgaaGreat
open Go.RowKit Go.Lib
set_option linter.unusedSimpArgs false
set_option linter.unusedVariables false
theorem licE_eq (xs : List CatR) (i : Nat) (x : CatR) : licE xs i x = if (!decide (Nm x.nm)) = true then 8 else if (outB x.lo 0 99999 || outB x.hi 0 99999) = true then 3 else if decide (x.hi < x.lo) = true then 11 else 0 := by
  unfold licE nmE outE
  by_cases q0 : Nm x.nm <;> cases outB x.lo 0 99999 <;> cases outB x.hi 0 99999 <;> cases decide (x.hi < x.lo) <;> simp [firstE, q0]
set_option maxHeartbeats 1000000 in
set_option maxRecDepth 100000 in
theorem refLics_pos (xs : List CatR) (n b off cap : Nat) (w : World) (hn : xs.length = n) (h1 : n ≤ 256) (hc : ∀ i x, xs[i]? = some x → CatAt w b (off + i * 3) x) :
    Calls Tryz.prog 28 #[.slice (some ⟨b, off, none⟩) n cap] w fun e w' => e = .returned (.int .i64 (errG (licE xs) xs n 0)) ∧ Gr w w' := by
  have HC := Lib.hid hc
  have HN := Lib.hid hn
  clear hc hn
  have hz2 : decide ((256 : Int) < n) = false := by simp; omega
  go_enter Tryz.func28, Tryz.ntmps28
  go_wp2_with fail
  go_loopg [3] n (fun gk s3 wr => ∃ i : Nat, s3 = .int .i64 i ∧ gk + i = n ∧ Gr w wr ∧ Hid (errG (licE xs) xs (n - i) i = errG (licE xs) xs n 0))
  case atStart => exact ⟨0, rfl, by omega, Gr.refl _, by simp [Hid]⟩
  case round =>
    obtain ⟨i, rfl, hi, hg, HF⟩ := hrel
    obtain ⟨gO, rfl⟩ : ∃ q, q = gk := ⟨gk, rfl⟩
    by_cases hlt : i < n
    · obtain ⟨x, hx⟩ : ∃ x, xs[i]? = some x := ⟨xs[i]'(by have := HN.out; omega), List.getElem?_eq_getElem _⟩
      have hcell := HC.out i x hx
      obtain ⟨c0, c1, c2⟩ := hcell.gr hg
      have hf := errG_step (E := licE xs) hlt hx
      rw [licE_eq] at hf
      have hi2 : (i : Int) < n := by omega
      have hN0 := fun W => refIsName_c x.nm W
      have hO0 := fun W => refOutside_c x.lo 0 99999 W
      have hO1 := fun W => refOutside_c x.hi 0 99999 W
      clear hx hcell
      generalize decide (Nm x.nm) = n0 at hf hN0
      generalize outB x.lo 0 99999 = o0 at hf hO0
      generalize outB x.hi 0 99999 = o1 at hf hO1
      replace hN0 := Lib.hid hN0
      replace hO0 := Lib.hid hO0
      replace hO1 := Lib.hid hO1
      have HF0 := Lib.hid hf
      clear hf
      cases n0
      · have HF1 := HF0.out
        simp only [Bool.not_true, Bool.not_false, Bool.false_or, Bool.true_or, Bool.or_true, if_true, show ¬ (8 : Int) = 0 by decide, if_false] at HF1
        have HF2 := Lib.hid HF1
        clear HF1 HF0
        go_wp2_with fail
        repeat (first | ((with_reducible refine (hN0.out _).mono ?_); rintro e w4 ⟨rfl, rfl⟩; go_wp2_with fail))
        go_ret
        exact ⟨by rw [← HF.out, HF2.out]; rfl, by first | exact hg | exact hg.drewN _⟩
      have HF1 := HF0.out
      simp only [Bool.not_true, Bool.or_self, Bool.false_eq_true, if_false] at HF1
      have HF2 := Lib.hid HF1
      clear HF1 HF0
      cases oo : decide (x.hi < x.lo)
      all_goals
        rw [oo] at HF2
        cases o0 <;> cases o1
        all_goals
          have HF3 := HF2.out
          simp only [Bool.or_self, Bool.or_true, Bool.true_or, Bool.or_false, Bool.false_or, Bool.false_eq_true, if_true, if_false, show ¬ (3 : Int) = 0 by decide, show ¬ (11 : Int) = 0 by decide, ite_self] at HF3
          clear HF2
          have HF2 := Lib.hid HF3
          clear HF3
          go_wp2_with fail
          repeat (first | ((with_reducible refine (hN0.out _).mono ?_); rintro e w4 ⟨rfl, rfl⟩; go_wp2_with fail) | ((with_reducible refine (hO0.out _).mono ?_); rintro e w4 ⟨rfl, rfl⟩; go_wp2_with fail) | ((with_reducible refine (hO1.out _).mono ?_); rintro e w4 ⟨rfl, rfl⟩; go_wp2_with fail))
          try (go_big_quiet (fail); go_wp2_with fail)
          first
            | (go_ret
               exact ⟨by rw [← HF.out, HF2.out]; rfl, by first | exact hg | exact hg.drewN _⟩)
            | (go_roundg (gO - 1)
               case measure => omega
               case rel => exact ⟨i + 1, by go_num, by omega, by first | exact hg | exact hg.drewN _, by unfold Hid; rw [← HF2.out, HF.out]⟩)
    · have hin : i = n := by omega
      have HE2 : Hid (errG (licE xs) xs (n - i) i = 0) := by unfold Hid; rw [hin, Nat.sub_self]; rfl
      have hi2 : (n : Int) ≤ i := by omega
      clear hin
      go_wp2_with fail
      go_ret
      exact ⟨by rw [← HF.out, HE2.out]; rfl, hg⟩
theorem refLics_c {v : Value} {xs : List CatR} {w : World} (h : CatAts w v xs) :
    Calls Tryz.prog 28 #[v] w fun e w' => e = .returned (.int .i64 (listE 256 (licE xs) xs)) ∧ Gr w w' := by
  obtain ⟨⟨p, cap, rfl, _, hh⟩⟩ := h
  rcases Nat.lt_or_ge 256 xs.length with hl | hl
  · have HE : Hid (listE 256 (licE xs) xs = 5) := by unfold Hid listE; rw [if_pos hl]
    have hz2 : decide ((256 : Int) < xs.length) = true := decide_eq_true (by omega)
    clear hh
    go_enter Tryz.func28, Tryz.ntmps28
    go_wp2_with fail
    go_ret
    exact ⟨by rw [HE.out]; rfl, Gr.refl _⟩
  · have HE : listE 256 (licE xs) xs = errG (licE xs) xs xs.length 0 := by unfold listE; rw [if_neg (by omega)]
    rw [HE]
    rcases Nat.eq_zero_or_pos xs.length with h0 | h0
    · have hx : xs = [] := List.eq_nil_of_length_eq_zero h0
      subst hx
      go_enter Tryz.func28, Tryz.ntmps28
      go_wp2_with fail
      refine wp_loop_rounds 2 ?_
      rw [rounds_succ]
      go_wp2_with fail
      go_ret
      exact ⟨rfl, Gr.refl _⟩
    · obtain ⟨b, off, rfl, hc⟩ := hh h0
      exact refLics_pos xs _ b off cap w rfl hl hc
end Go.Proofs.YtmlmbgifkmkmgaaGreat
