/- Members: the reference checks categories. -/
import Derived.Test.YtmlmbgifkmkmgaaGreatGMbE
import Derived.Test.YtmlmbgifkmkmgaaGreatMbB
import Derived.Test.YtmlmbgifkmkmgaaGreatMbQ
namespace Go.Proofs.YtmlmbgifkmkmgaaGreat
open Go.RowKit Go.Lib
set_option linter.unusedSimpArgs false
set_option linter.unusedVariables false
theorem catE_eq (xs : List CatR) (i : Nat) (x : CatR) : catE xs i x = if (!decide (Nm x.nm)) = true then 8 else if dupN (fun y : CatR => y.nm) xs i x.nm = true then 9 else if (outB x.lo 0 120 || outB x.hi 0 120) = true then 3 else if decide (x.hi < x.lo) = true then 11 else 0 := by
  unfold catE nmE outE
  by_cases q0 : Nm x.nm <;> cases dupN (fun y : CatR => y.nm) xs i x.nm <;> cases outB x.lo 0 120 <;> cases outB x.hi 0 120 <;> cases decide (x.hi < x.lo) <;> simp [firstE, q0]
set_option maxHeartbeats 1000000 in
set_option maxRecDepth 100000 in
theorem refCats_pos (xs : List CatR) (n b off cap : Nat) (w : World) (hn : xs.length = n) (h1 : n ≤ 256) (hc : ∀ i x, xs[i]? = some x → CatAt w b (off + i * 3) x) :
    Calls Tryz.prog 11 #[.slice (some ⟨b, off, none⟩) n cap] w fun e w' => e = .returned (.int .i64 (errG (catE xs) xs n 0)) ∧ Gr w w' := by
  have HC := Lib.hid hc
  have HN := Lib.hid hn
  clear hc hn
  have hz2 : decide ((256 : Int) < n) = false := by simp; omega
  go_enter Tryz.func11, Tryz.ntmps11
  go_wp2_with fail
  go_loopg [3] n (fun gk s3 wr => ∃ i : Nat, s3 = .int .i64 i ∧ gk + i = n ∧ Gr w wr ∧ Hid (errG (catE xs) xs (n - i) i = errG (catE xs) xs n 0))
  case atStart => exact ⟨0, rfl, by omega, Gr.refl _, by simp [Hid]⟩
  case round =>
    obtain ⟨i, rfl, hi, hg, HF⟩ := hrel
    obtain ⟨gO, rfl⟩ : ∃ q, q = gk := ⟨gk, rfl⟩
    by_cases hlt : i < n
    · obtain ⟨x, hx⟩ : ∃ x, xs[i]? = some x := ⟨xs[i]'(by have := HN.out; omega), List.getElem?_eq_getElem _⟩
      have hcell := HC.out i x hx
      obtain ⟨c0, c1, c2⟩ := hcell.gr hg
      have hf := errG_step (E := catE xs) hlt hx
      rw [catE_eq] at hf
      have hi2 : (i : Int) < n := by omega
      have hN0 := fun W => refIsName_c x.nm W
      have hO0 := fun W => refOutside_c x.lo 0 120 W
      have hO1 := fun W => refOutside_c x.hi 0 120 W
      clear hx hcell
      generalize decide (Nm x.nm) = n0 at hf hN0
      generalize outB x.lo 0 120 = o0 at hf hO0
      generalize outB x.hi 0 120 = o1 at hf hO1
      replace hN0 := Lib.hid hN0
      replace hO0 := Lib.hid hO0
      replace hO1 := Lib.hid hO1
      have HF0 := Lib.hid hf
      clear hf
      cases n0
      · have HF1 := HF0.out
        simp only [Bool.not_true, Bool.not_false, Bool.false_or, Bool.true_or, Bool.or_true, if_true, show ¬ (8 : Int) = 0 by decide, if_false] at HF1
        have HF2 := Lib.hid HF1
        clear HF1 HF0
        go_wp2_with fail
        repeat (first | ((with_reducible refine (hN0.out _).mono ?_); rintro e w4 ⟨rfl, rfl⟩; go_wp2_with fail))
        go_ret
        exact ⟨by rw [← HF.out, HF2.out]; rfl, by first | exact hg | exact hg.drewN _⟩
      have HF1 := HF0.out
      simp only [Bool.not_true, Bool.or_self, Bool.false_eq_true, if_false] at HF1
      have HF2 := Lib.hid HF1
      clear HF1 HF0
      go_wp2_with fail
      repeat (first | ((with_reducible refine (hN0.out _).mono ?_); rintro e w4 ⟨rfl, rfl⟩; go_wp2_with fail))
      go_loopg [4] i (fun g2 s5 wr2 => ∃ k : Nat, s5 = .int .i64 k ∧ g2 + k = i ∧ Gr wr wr2 ∧ Hid (dupN (fun y : CatR => y.nm) xs k x.nm = false))
      case atStart => exact ⟨0, rfl, by omega, Gr.refl _, by simp [Hid, dupN]⟩
      case round =>
        obtain ⟨k, rfl, hk, hg2, HD⟩ := hrel
        replace c0 := hg2.cell c0
        replace c1 := hg2.cell c1
        replace c2 := hg2.cell c2
        replace hg := hg.trans hg2
        by_cases hlk : k < i
        · obtain ⟨y, hy⟩ : ∃ y, xs[k]? = some y := ⟨xs[k]'(by have := HN.out; omega), List.getElem?_eq_getElem _⟩
          have d0 := ((HC.out k y hy).gr hg).nm
          have hk2 : (k : Int) < i := by omega
          have hk3 : (k : Int) < n := by omega
          have hdp := dupN_succ (fun y : CatR => y.nm) hy x.nm
          rw [HD.out, Bool.false_or] at hdp
          clear hy
          cases e2 : (y.nm.toList == x.nm.toList)
          · simp only [e2] at hdp
            have HD2 := Lib.hid hdp
            clear hdp
            go_wp2_with fail
            go_big_quiet (fail)
            go_wp2_with fail
            go_roundg (gk - 1)
            case measure => omega
            case rel => exact ⟨k + 1, by go_num, by omega, hg2.drewN _, HD2⟩
          · simp only [e2] at hdp
            have HD2 := Lib.hid (dupN_le (fun y : CatR => y.nm) (i := i) (by omega) hdp)
            clear hdp
            rw [if_pos HD2.out, if_neg (by decide)] at HF2
            go_wp2_with fail
            go_big_quiet (fail)
            go_wp2_with fail
            go_ret
            exact ⟨by rw [← HF.out, HF2.out]; rfl, hg.drewN _⟩
        · have hki : k = i := by omega
          subst hki
          have HF3 := HF2.out
          rw [HD.out] at HF3
          simp only [Bool.false_eq_true, if_false] at HF3
          clear HF2
          have HF2 := Lib.hid HF3
          clear HF3
          cases oo : decide (x.hi < x.lo)
          all_goals
            rw [oo] at HF2
            cases o0 <;> cases o1
            all_goals
              have HF3 := HF2.out
              simp only [Bool.or_self, Bool.or_true, Bool.true_or, Bool.or_false, Bool.false_or, Bool.false_eq_true, if_true, if_false, show ¬ (3 : Int) = 0 by decide, show ¬ (11 : Int) = 0 by decide, ite_self] at HF3
              clear HF2
              have HF2 := Lib.hid HF3
              clear HF3
              go_wp2_with fail
              repeat (first | ((with_reducible refine (hO0.out _).mono ?_); rintro e w4 ⟨rfl, rfl⟩; go_wp2_with fail) | ((with_reducible refine (hO1.out _).mono ?_); rintro e w4 ⟨rfl, rfl⟩; go_wp2_with fail))
              try (go_big_quiet (fail); go_wp2_with fail)
              first
                | (go_ret
                   exact ⟨by rw [← HF.out, HF2.out]; rfl, by first | exact hg | exact hg.drewN _⟩)
                | (go_roundg (gO - 1)
                   case measure => omega
                   case rel => exact ⟨k + 1, by go_num, by omega, by first | exact hg | exact hg.drewN _, by unfold Hid; rw [← HF2.out, HF.out]⟩)
    · have hin : i = n := by omega
      have HE2 : Hid (errG (catE xs) xs (n - i) i = 0) := by unfold Hid; rw [hin, Nat.sub_self]; rfl
      have hi2 : (n : Int) ≤ i := by omega
      clear hin
      go_wp2_with fail
      go_ret
      exact ⟨by rw [← HF.out, HE2.out]; rfl, hg⟩
theorem refCats_c {v : Value} {xs : List CatR} {w : World} (h : CatAts w v xs) :
    Calls Tryz.prog 11 #[v] w fun e w' => e = .returned (.int .i64 (listE 256 (catE xs) xs)) ∧ Gr w w' := by
  obtain ⟨⟨p, cap, rfl, _, hh⟩⟩ := h
  rcases Nat.lt_or_ge 256 xs.length with hl | hl
  · have HE : Hid (listE 256 (catE xs) xs = 5) := by unfold Hid listE; rw [if_pos hl]
    have hz2 : decide ((256 : Int) < xs.length) = true := decide_eq_true (by omega)
    clear hh
    go_enter Tryz.func11, Tryz.ntmps11
    go_wp2_with fail
    go_ret
    exact ⟨by rw [HE.out]; rfl, Gr.refl _⟩
  · have HE : listE 256 (catE xs) xs = errG (catE xs) xs xs.length 0 := by unfold listE; rw [if_neg (by omega)]
    rw [HE]
    rcases Nat.eq_zero_or_pos xs.length with h0 | h0
    · have hx : xs = [] := List.eq_nil_of_length_eq_zero h0
      subst hx
      go_enter Tryz.func11, Tryz.ntmps11
      go_wp2_with fail
      refine wp_loop_rounds 2 ?_
      rw [rounds_succ]
      go_wp2_with fail
      go_ret
      exact ⟨rfl, Gr.refl _⟩
    · obtain ⟨b, off, rfl, hc⟩ := hh h0
      exact refCats_pos xs _ b off cap w rfl hl hc
end Go.Proofs.YtmlmbgifkmkmgaaGreat
namespace Go.Proofs.YtmlmbgifkmkmgaaGreat
open Go.RowKit Go.Lib
set_option linter.unusedSimpArgs false
set_option linter.unusedVariables false
theorem bits_inner {f : Nat → Bool} {lo hi : Int} {m : Nat} {cur : Array Value} (hm : lo ≤ (m : Int)) (h1 : (m : Int) ≤ hi) (h2 : hi ≤ 120) (h : BitsA 121 (fun a => f a || (decide (lo ≤ (a : Int)) && decide ((a : Int) < m))) cur) :
    BitsA 121 (fun a => f a || (decide (lo ≤ (a : Int)) && decide ((a : Int) < ((m + 1 : Nat) : Int)))) (cur.setIfInBounds m (.bool true)) := by
  refine (h.store (m := m) (by omega)).congr fun a ha => ?_
  rw [Bool.or_assoc]
  congr 1
  by_cases q : a = m
  · subst q; simp; omega
  · rw [show (a == m) = false by simpa using q, Bool.or_false]
    congr 1
    exact decide_eq_decide.2 (by omega)
theorem bits_end {f : Nat → Bool} {lo hi : Int} {m : Nat} {cur : Array Value} (h1 : hi < (m : Int)) (h3 : (m : Int) ≤ hi + 1) (h : BitsA 121 (fun a => f a || (decide (lo ≤ (a : Int)) && decide ((a : Int) < m))) cur) :
    BitsA 121 (fun a => f a || (decide (lo ≤ (a : Int)) && decide ((a : Int) ≤ hi))) cur := by
  refine h.congr fun a ha => ?_
  congr 2
  exact decide_eq_decide.2 (by omega)
/-- whether an age is in one of the first k gaps; the end of the gap before the k-th -/
def inG (gs : List GapR) (a : Nat) : Bool := gs.any fun q => decide (q.a ≤ (a : Int)) && decide ((a : Int) ≤ q.b)
theorem inG_take {gs : List GapR} {k : Nat} {q : GapR} (h : gs[k]? = some q) (a : Nat) : inG (gs.take (k + 1)) a = (inG (gs.take k) a || (decide (q.a ≤ (a : Int)) && decide ((a : Int) ≤ q.b))) := by
  unfold inG; rw [List.take_add_one, h]; simp
def lastB (gs : List GapR) (k : Nat) : Int := match gs[k - 1]? with
  | some q => if k = 0 then -2 else q.b
  | none => -2
theorem lastB_zero (gs : List GapR) : lastB gs 0 = -2 := by unfold lastB; split <;> simp
theorem lastB_succ {gs : List GapR} {k : Nat} {q : GapR} (h : gs[k]? = some q) : lastB gs (k + 1) = q.b := by unfold lastB; simp [h]
theorem inG_cov {f : Nat → Bool} {a : Nat} (ha : a < 121) : inG (gapL f 121) a = !f a := by
  have h := (gaps_ok f 121).mem a ha
  unfold inG
  cases e : f a
  · obtain ⟨q, hq, h1, h2⟩ := h.2 e
    simp only [Bool.not_false, List.any_eq_true]
    exact ⟨q, hq, by simp [h1, h2]⟩
  · simp only [Bool.not_true, List.any_eq_false]
    intro q hq h3
    have h4 : f a = false := h.1 ⟨q, hq, by simpa using h3⟩
    rw [e] at h4
    cases h4
/-- what is known of a gap in its turn -/
structure GapT (gs : List GapR) (k : Nat) (q : GapR) : Prop where
  low : 0 ≤ q.a
  le : q.a ≤ q.b
  high : q.b ≤ 120
  far : lastB gs k + 1 < q.a
theorem gapT (f : Nat → Bool) {k : Nat} {q : GapR} (h : (gapL f 121)[k]? = some q) : GapT (gapL f 121) k q := by
  have ok := gaps_ok f 121
  have h1 := ok.low q (List.mem_of_getElem? h)
  refine ⟨h1.1, h1.2.1, by omega, ?_⟩
  rcases Nat.eq_zero_or_pos k with rfl | hk
  · rw [lastB_zero]; omega
  · obtain ⟨j, rfl⟩ : ∃ j, k = j + 1 := ⟨k - 1, by omega⟩
    have hj : j < (gapL f 121).length := by have := (List.getElem?_eq_some_iff.1 h).1; omega
    have h2 := ok.asc j _ q (List.getElem?_eq_getElem hj) h
    rw [lastB_succ (List.getElem?_eq_getElem hj)]
    exact h2
theorem lastB_le (f : Nat → Bool) (k : Nat) : -2 ≤ lastB (gapL f 121) k ∧ lastB (gapL f 121) k ≤ 120 := by
  unfold lastB
  split
  · rename_i q hq
    have := (gaps_ok f 121).low q (List.mem_of_getElem? hq)
    split <;> omega
  · omega
/-- the climber of the law -/
def annR (born : Int) : CliR := ⟨⟨#[97, 110, 110]⟩, ⟨#[65]⟩, born, ⟨#[111, 112, 101, 110]⟩⟩
theorem ann_ok {born d : Int} (h0 : 0 ≤ born) (h1 : born ≤ d) (h2 : d ≤ 99999) : ageE (annR born) d = 0 := by
  have e1 : outE born 0 99999 = 0 := outE_zero.2 ⟨h0, by omega⟩
  have e2 : outE d 0 99999 = 0 := outE_zero.2 ⟨by omega, h2⟩
  have n1 : nmE (annR born).nm = 0 := by unfold nmE; rw [if_pos (by show Nm ⟨#[97, 110, 110]⟩; decide)]
  have n2 : nmE (annR born).na = 0 := by unfold nmE; rw [if_pos (by show Nm ⟨#[65]⟩; decide)]
  have n3 : nmE (annR born).ct = 0 := by unfold nmE; rw [if_pos (by show Nm ⟨#[111, 112, 101, 110]⟩; decide)]
  have hc : cliE [annR born] 0 (annR born) = 0 := by
    unfold cliE
    rw [n1, n2, n3, show (annR born).bn = born from rfl, e1]
    simp [firstE, dupN]
  have hl : listE 160 (cliE [annR born]) [annR born] = 0 := by
    unfold listE
    rw [if_neg (by simp)]
    simp [errG, hc]
  unfold ageE
  rw [hl, e2, show (annR born).bn = born from rfl]
  simp [firstE]
  omega
theorem make_121 (w : World) : (Instr.makeSlice 70 (.int .i64 121) (.int .i64 121)).run Tryz.prog w = .ok (.slice (some ⟨w.heap.size, 0, none⟩) 121 121) (w.alloc (.cells (Array.replicate 121 (.bool false)) 4)) := by
  obtain ⟨i0, hi, hz0, hz1, hz2⟩ := info_parts (show (Tryz.prog.info? 4).map (fun i => (i.zero, i.size, i.bytes)) = some (some (.bool false), 1, 1) from by kernel_rfl)
  have := run_make (P := Tryz.prog) w 70 4 i0 (.bool false) Tryz.underlying70 hi hz0 .i64 .i64 121 121 (by omega) (by omega) (by rw [hz2]; omega) (by omega)
  rw [hz1] at this
  have e : madeCells (#[.bool false] : Array Value) 121 = Array.replicate 121 (.bool false) := Array.ext' (by rw [toList_madeCells_one]; simp)
  simpa [Value.cells, e] using this
end Go.Proofs.YtmlmbgifkmkmgaaGreat
