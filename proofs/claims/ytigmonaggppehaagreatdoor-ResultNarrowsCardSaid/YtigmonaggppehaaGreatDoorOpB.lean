/- Open values: the reference's CheckOpen, walked. -/
import Derived.Test.YtigmonaggppehaaGreatDoorOpNA
namespace Go.Proofs.YtigmonaggppehaaGreatDoor
open Go.RowKit Go.Lib
set_option linter.unusedSimpArgs false
set_option linter.unusedVariables false
/-- what the tests of both ends say -/
inductive Ends5 (lo hi : Int) : Int → Prop where
  | a (h1 : decide (lo < 0) = true) : Ends5 lo hi 3
  | b (h1 : decide (lo < 0) = false) (h2 : decide (99999 < lo) = true) : Ends5 lo hi 3
  | c (h1 : decide (lo < 0) = false) (h2 : decide (99999 < lo) = false) (h3 : decide (hi < 0) = true) : Ends5 lo hi 3
  | d (h1 : decide (lo < 0) = false) (h2 : decide (99999 < lo) = false) (h3 : decide (hi < 0) = false) (h4 : decide (99999 < hi) = true) : Ends5 lo hi 3
  | e (h1 : decide (lo < 0) = false) (h2 : decide (99999 < lo) = false) (h3 : decide (hi < 0) = false) (h4 : decide (99999 < hi) = false) (h5 : decide (hi < lo) = true) : Ends5 lo hi 11
  | f (h1 : decide (lo < 0) = false) (h2 : decide (99999 < lo) = false) (h3 : decide (hi < 0) = false) (h4 : decide (99999 < hi) = false) (h5 : decide (hi < lo) = false) : Ends5 lo hi 0
theorem ends5 (lo hi : Int) : Ends5 lo hi (if (decide (lo < 0) || decide (99999 < lo) || decide (hi < 0) || decide (99999 < hi)) = true then 3 else if decide (hi < lo) = true then 11 else 0) := by
  cases h1 : decide (lo < 0) <;> cases h2 : decide (99999 < lo) <;> cases h3 : decide (hi < 0) <;> cases h4 : decide (99999 < hi) <;> cases h5 : decide (hi < lo)
  all_goals first
    | exact .a h1
    | exact .b h1 h2
    | exact .c h1 h2 h3
    | exact .d h1 h2 h3 h4
    | exact .e h1 h2 h3 h4 h5
    | exact .f h1 h2 h3 h4 h5
set_option maxHeartbeats 2000000 in
set_option maxRecDepth 100000 in
theorem refOpen_pos (xs : List OpR) (n b off cap : Nat) (w : World) (hn : xs.length = n) (h0 : 0 < n) (h1 : n ≤ 160) (hc : ∀ i x, xs[i]? = some x → OpAt w b (off + i * 3) x) :
    Calls Tryz.prog 16 #[.slice (some ⟨b, off, none⟩) n cap] w fun e w' => e = .returned (.int .i64 (openE xs)) ∧ Gr w w' := by
  have HE : Hid (openE xs = errFrom xs (xs.length - 0) 0) := by unfold Hid openE; rw [if_neg (by omega), if_neg (by omega)]
  have HC := Lib.hid hc
  have HN := Lib.hid hn
  clear hc hn
  have hz1 : ((n : Int) == 0) = false := by simp; omega
  have hz2 : decide ((160 : Int) < n) = false := by simp; omega
  go_enter Tryz.func16, Tryz.ntmps16
  go_wp2_with fail
  go_loopg [3] n (fun gk s3 wr => ∃ i : Nat, s3 = .int .i64 i ∧ gk + i = n ∧ Gr w wr ∧ Hid (errFrom xs (xs.length - i) i = errFrom xs (xs.length - 0) 0))
  case atStart => exact ⟨0, rfl, by omega, Gr.refl _, by simp [Hid]⟩
  case round =>
    obtain ⟨i, rfl, hi, hg, HF⟩ := hrel
    obtain ⟨gO, rfl⟩ : ∃ q, q = gk := ⟨gk, rfl⟩
    by_cases hlt : i < n
    · obtain ⟨x, hx⟩ : ∃ x, xs[i]? = some x := ⟨xs[i]'(by have := HN.out; omega), List.getElem?_eq_getElem _⟩
      have hcell := HC.out i x hx
      obtain ⟨c0, c1, c2⟩ := hcell.gr hg
      have hf := errFrom_step hx
      rw [errAt_eq] at hf
      have hi2 : (i : Int) < n := by omega
      have HX := Lib.hid hx
      have hN := fun W => refIsName_c x.nm W
      clear hx hcell
      cases e1 : decide (Nm x.nm)
      · rw [e1] at hf hN
        rw [if_pos rfl, if_neg (by decide)] at hf
        have HF2 := Lib.hid hf
        have HNm := Lib.hid hN
        clear hf hN e1
        go_wp2_with fail
        refine (HNm.out _).mono ?_
        rintro e w4 ⟨rfl, rfl⟩
        go_wp2_with fail
        go_ret
        exact ⟨by rw [HE.out, ← HF.out, HF2.out]; rfl, hg.alloc _⟩
      · rw [e1] at hf hN
        simp only [Bool.true_eq_false, if_false] at hf
        have HNm := Lib.hid hN
        have HF2 := Lib.hid hf
        clear hf hN e1
        have hz := ends5 x.lo x.hi
        generalize (if (decide (x.lo < 0) || decide (99999 < x.lo) || decide (x.hi < 0) || decide (99999 < x.hi)) = true then (3 : Int) else if decide (x.hi < x.lo) = true then 11 else 0) = z at *
        have HZ := Lib.hid hz
        clear hz
        obtain ⟨W, hW, g, a0, a1, a2⟩ := box3 wr (.string x.nm) (.int .i64 x.lo) (.int .i64 x.hi) 40
        have HW := Lib.hid hW
        clear hW
        go_wp2_with fail
        rw [HW.out]
        refine (HNm.out _).mono ?_
        rintro e w4 ⟨rfl, rfl⟩
        replace hg := hg.trans g
        generalize wr.heap.size = B at *
        clear HW g c0 c1 c2
        go_wp2_with fail
        go_loopg [5] i (fun g2 s5 wr2 => ∃ k : Nat, s5 = .int .i64 k ∧ g2 + k = i ∧ Gr W wr2 ∧ Hid (dupB xs k x.nm = false))
        case atStart => exact ⟨0, rfl, by omega, Gr.refl _, by simp [Hid, dupB]⟩
        case round =>
          obtain ⟨k, rfl, hk, hg2, HD⟩ := hrel
          replace a0 := hg2.cell a0
          replace a1 := hg2.cell a1
          replace a2 := hg2.cell a2
          replace hg := hg.trans hg2
          by_cases hlk : k < i
          · obtain ⟨y, hy⟩ : ∃ y, xs[k]? = some y := ⟨xs[k]'(by have := HN.out; omega), List.getElem?_eq_getElem _⟩
            have c0 := ((HC.out k y hy).gr hg).nm
            have hk2 : (k : Int) < i := by omega
            have hk3 : (k : Int) < n := by omega
            have hdp := dupB_succ hy x.nm
            rw [HD.out, Bool.false_or] at hdp
            clear hy
            cases e2 : (y.nm.toList == x.nm.toList)
            · rw [e2] at hdp
              have HD2 := Lib.hid hdp
              clear hdp
              go_wp2_with fail
              go_big_quiet (fail)
              go_wp2_with fail
              go_roundg (gk - 1)
              case measure => omega
              case rel => exact ⟨k + 1, by go_num, by omega, hg2.drewN _, HD2⟩
            · rw [e2] at hdp
              have HD2 := Lib.hid (dupB_le (i := i) (by omega) hdp)
              clear hdp
              rw [if_pos HD2.out, if_neg (by decide)] at HF2
              go_wp2_with fail
              go_big_quiet (fail)
              go_wp2_with fail
              go_ret
              exact ⟨by rw [HE.out, ← HF.out, HF2.out]; rfl, hg.drewN _⟩
          · have hki : k = i := by omega
            subst hki
            have HF3 := HF2.out
            rw [HD.out] at HF3
            simp only [Bool.false_eq_true, if_false] at HF3
            clear HF2
            have HF2 := Lib.hid HF3
            clear HF3
            cases HZ.out with
            | a d1 =>
              rw [if_neg (by decide)] at HF2
              go_wp2_with fail
              go_ret
              exact ⟨by rw [HE.out, ← HF.out, HF2.out]; rfl, hg⟩
            | b d1 d2 =>
              rw [if_neg (by decide)] at HF2
              go_wp2_with fail
              go_ret
              exact ⟨by rw [HE.out, ← HF.out, HF2.out]; rfl, hg⟩
            | c d1 d2 d3 =>
              rw [if_neg (by decide)] at HF2
              go_wp2_with fail
              go_ret
              exact ⟨by rw [HE.out, ← HF.out, HF2.out]; rfl, hg⟩
            | d d1 d2 d3 d4 =>
              rw [if_neg (by decide)] at HF2
              go_wp2_with fail
              go_ret
              exact ⟨by rw [HE.out, ← HF.out, HF2.out]; rfl, hg⟩
            | e d1 d2 d3 d4 d5 =>
              rw [if_neg (by decide)] at HF2
              go_wp2_with fail
              go_ret
              exact ⟨by rw [HE.out, ← HF.out, HF2.out]; rfl, hg⟩
            | f d1 d2 d3 d4 d5 =>
              rw [if_pos rfl] at HF2
              go_wp2_with fail
              go_roundg (gO - 1)
              case measure => omega
              case rel => exact ⟨k + 1, by go_num, by omega, hg, by unfold Hid; rw [← HF2.out, HF.out]⟩
    · have HE2 := Lib.hid (errFrom_end (xs := xs) (i := i) (by have := HN.out; omega))
      have hi2 : (n : Int) ≤ i := by omega
      go_wp2_with fail
      go_ret
      exact ⟨by rw [HE.out, ← HF.out, HE2.out]; rfl, hg⟩
theorem refOpen_c {v : Value} {xs : List OpR} {w : World} (h : OpsV w v xs) :
    Calls Tryz.prog 16 #[v] w fun e w' => e = .returned (.int .i64 (openE xs)) ∧ Gr w w' := by
  obtain ⟨⟨p, cap, rfl, _, hh⟩⟩ := h
  by_cases h0 : 0 < xs.length
  · obtain ⟨b, off, rfl, hc⟩ := hh h0
    by_cases h1 : xs.length ≤ 160
    · exact refOpen_pos xs _ b off cap w rfl h0 h1 hc
    · have HE : Hid (openE xs = 5) := by unfold Hid openE; rw [if_neg (show ¬ xs.length = 0 by omega), if_pos (show 160 < xs.length by omega)]
      have hz1 : ((xs.length : Int) == 0) = false := beq_eq_false_iff_ne.2 (by omega)
      have hz2 : decide ((160 : Int) < xs.length) = true := decide_eq_true (by omega)
      clear hh hc
      go_enter Tryz.func16, Tryz.ntmps16
      go_wp2_with fail
      go_ret
      exact ⟨by rw [HE.out]; rfl, Gr.refl _⟩
  · have hx : xs = [] := List.eq_nil_of_length_eq_zero (by omega)
    subst hx
    have HE : Hid (openE ([] : List OpR) = 12) := rfl
    go_enter Tryz.func16, Tryz.ntmps16
    go_wp2_with fail
    go_ret
    exact ⟨by rw [HE.out]; rfl, Gr.refl _⟩
end Go.Proofs.YtigmonaggppehaaGreatDoor
