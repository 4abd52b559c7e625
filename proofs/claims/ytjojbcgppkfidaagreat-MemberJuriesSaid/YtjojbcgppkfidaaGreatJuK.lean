/- Juries: checked by the reference. -/
import Derived.Test.YtjojbcgppkfidaaGreatJuJ
import Derived.BigQuiet
namespace Go.Proofs.YtjojbcgppkfidaaGreat
open Go.RowKit Go.Lib
set_option linter.unusedSimpArgs false
set_option linter.unusedVariables false
theorem ofE_eq (xs : List OfR) (i : Nat) (x : OfR) : ofE xs i x = if (!decide (Nm x.nm) || !decide (Nm x.na)) = true then 8 else if dupN (fun y : OfR => y.nm) xs i x.nm = true then 9 else if decide (16 < x.rs.length) = true then 5 else if errG (strE x.rs) x.rs x.rs.length 0 = 0 then (if outB x.ld 0 24 = true then 3 else 0) else errG (strE x.rs) x.rs x.rs.length 0 := by
  unfold ofE nmE outE listE
  by_cases q0 : Nm x.nm <;> by_cases q1 : Nm x.na <;> cases dupN (fun y : OfR => y.nm) xs i x.nm <;> by_cases q2 : 16 < x.rs.length <;> by_cases q3 : errG (strE x.rs) x.rs x.rs.length 0 = 0 <;> cases outB x.ld 0 24 <;> simp [firstE, q0, q1, q2, q3]
theorem poE_eq (xs : List PoR) (i : Nat) (x : PoR) : poE xs i x = if (!decide (Nm x.nm) || !decide (Nm x.ro)) = true then 8 else if dupN (fun y : PoR => y.nm) xs i x.nm = true then 9 else if outB x.hr 0 99999 = true then 3 else if decide (160 < x.ns.length) = true then 5 else errG (strE x.ns) x.ns x.ns.length 0 := by
  unfold poE nmE outE listE
  by_cases q0 : Nm x.nm <;> by_cases q1 : Nm x.ro <;> cases dupN (fun y : PoR => y.nm) xs i x.nm <;> by_cases q2 : 160 < x.ns.length <;> by_cases q3 : errG (strE x.ns) x.ns x.ns.length 0 = 0 <;> cases outB x.hr 0 99999 <;> simp [firstE, q0, q1, q2, q3]
set_option maxHeartbeats 8000000 in
set_option maxRecDepth 100000 in
theorem refJury_c (os : List OfR) (ps : List PoR) (vo vp : Value) (w0 : World) (ho : OfAts w0 vo os) (hp : PoAts w0 vp ps) (hr : ∀ x ∈ os, x.rs.length ≤ 1000) (hs : ∀ y ∈ ps, y.ns.length ≤ 1000) :
    Calls Tryz.prog 7 #[.agg #[vo, vp]] w0 fun e w' => e = .returned (.int .i64 (juryE os ps)) ∧ Gr w0 w' := by
  have hJ : juryE os ps = firstE [listE 24 (ofE os) os, listE 24 (poE ps) ps] := rfl
  generalize juryE os ps = err at *
  obtain ⟨w, hW, g0, a0, a1⟩ := box2 w0 vo vp 31
  replace ho := ho.gr g0
  replace hp := hp.gr g0
  have g := Gr.refl w
  have HG0 := Lib.hid g0
  clear g0
  obtain ⟨⟨po, co, rfl, hco, hho⟩⟩ := ho
  obtain ⟨⟨pp, cp, rfl, hcp, hhp⟩⟩ := hp
  have OSC := Lib.hid hho
  have PSC := Lib.hid hhp
  have OSR := Lib.hid hr
  have PSR := Lib.hid hs
  have hon : os.length = os.length := rfl
  obtain ⟨on, hon⟩ : ∃ n, n = os.length := ⟨_, rfl⟩
  obtain ⟨pn, hpn⟩ : ∃ n, n = ps.length := ⟨_, rfl⟩
  have OSN : Hid (os.length = on) := hon.symm
  have PSN : Hid (ps.length = pn) := hpn.symm
  have hJ' : err = firstE [if 24 < on then 5 else errG (ofE os) os on 0, if 24 < pn then 5 else errG (poE ps) ps pn 0] := by
    rw [hJ, hon, hpn]
    rfl
  rw [← hon] at OSC hW a0 ⊢
  rw [← hpn] at PSC hW a1 ⊢
  clear hho hhp hr hs hon hpn hJ hco hcp
  have post : ∀ e w', e = Ending.returned (.int .i64 err) ∧ Gr w w' → e = Ending.returned (.int .i64 err) ∧ Gr w0 w' := fun e w' h => ⟨h.1, HG0.out.trans h.2⟩
  suffices main : Calls Tryz.prog 7 #[.agg #[.slice po on co, .slice pp pn cp]] w0 fun e w' => e = .returned (.int .i64 err) ∧ Gr w w' from main.mono post
  clear post HG0
  rcases Nat.lt_or_ge 24 on with hl | hl
  · have HE3 : Hid (err = 5) := by rw [Hid, hJ', if_pos hl]; rfl
    have hz2 : decide ((24 : Int) < on) = true := decide_eq_true (by omega)
    clear hJ'
    go_enter Tryz.func7, Tryz.ntmps7
    go_wp2_with fail
    go_ret
    exact ⟨by rw [HE3.out]; rfl, g⟩
  · rw [if_neg (by omega)] at hJ'
    have HJ1 : Hid (∀ c, errG (ofE os) os on 0 = c → c ≠ 0 → err = c) := fun c h1 h2 => by rw [hJ', h1, firstE, if_neg h2]
    have HJ5 : Hid (errG (ofE os) os on 0 = 0 → 24 < pn → err = 5) := fun h1 h2 => by rw [hJ', h1, if_pos h2]; rfl
    have HJ2 : Hid (errG (ofE os) os on 0 = 0 → pn ≤ 24 → ∀ c, errG (poE ps) ps pn 0 = c → err = c) := fun h1 h2 c h3 => by
      rw [hJ', h1, if_neg (by omega), h3]
      unfold firstE
      rw [if_pos rfl]
      unfold firstE
      split
      · rename_i h4; rw [h4]; rfl
      · rfl
    have hz2 : decide ((24 : Int) < on) = false := decide_eq_false (by omega)
    clear hJ'
    go_enter Tryz.func7, Tryz.ntmps7
    go_wp2_with fail
    clear hW
    generalize w0.heap.size = Bx at *
    go_loopg [3] on (fun gk s3 wr => ∃ i : Nat, s3 = .int .i64 i ∧ gk + i = on ∧ Gr w wr ∧ wr.cell? ⟨Bx, 0, none⟩ = some (.slice po on co) ∧ wr.cell? ⟨Bx, 1, none⟩ = some (.slice pp pn cp) ∧ Hid (errG (ofE os) os (on - i) i = errG (ofE os) os on 0))
    case atStart => exact ⟨0, rfl, by omega, g, a0, a1, by simp [Hid]⟩
    case round =>
      obtain ⟨i, rfl, hi, hg, b0, b1, HF⟩ := hrel
      clear a0 a1
      obtain ⟨a0, a1⟩ := And.intro b0 b1
      clear b0 b1
      obtain ⟨gO, rfl⟩ : ∃ q, q = gk := ⟨gk, rfl⟩
      obtain ⟨wI, rfl⟩ : ∃ q, q = wr := ⟨wr, rfl⟩
      by_cases hlt : i < on
      · obtain ⟨x, hx⟩ : ∃ x, os[i]? = some x := ⟨os[i]'(by have := OSN.out; omega), List.getElem?_eq_getElem _⟩
        obtain ⟨bo, oo_, rfl, HC⟩ := OSC.out (by omega)
        obtain ⟨c0, c1, c2, c3, cs⟩ := (HC i x hx).gr hg
        have hlr := OSR.out x (List.mem_of_getElem? hx)
        obtain ⟨pu, cu, hu⟩ : ∃ p c, x.u = .slice p x.rs.length c := by
          obtain ⟨⟨p, cap, e, _⟩⟩ := cs
          exact ⟨p, cap, e⟩
        have hf := errG_step (E := ofE os) hlt hx
        rw [ofE_eq] at hf
        rw [hu] at c2 cs
        have HZ := Lib.hid (fun W (h : Gr wI W) => refNmsAny_c (cs.gr h) hlr)
        obtain ⟨m, hm⟩ : ∃ m, m = x.rs.length := ⟨_, rfl⟩
        rw [← hm] at hf HZ c2
        obtain ⟨z, hz⟩ : ∃ z, z = errG (strE x.rs) x.rs m 0 := ⟨_, rfl⟩
        rw [← hz] at hf HZ
        obtain ⟨WX, hWX, gX, x0, x1, x2, x3⟩ := box4 wI (.string x.nm) (.string x.na) (.slice pu m cu) (.int .i64 x.ld) 49
        have a0X := gX.cell a0
        have a1X := gX.cell a1
        have HCC := Lib.hid HC
        have hi2 : (i : Int) < on := by omega
        have hN0 := fun W => refIsName_c x.nm W
        have hN1 := fun W => refIsName_c x.na W
        have hO := fun W => refOutside_c x.ld 0 24 W
        clear hx HC hlr hm hz hu cs
        generalize decide (Nm x.nm) = n0 at hf hN0
        generalize decide (Nm x.na) = n1 at hf hN1
        generalize outB x.ld 0 24 = oo at hf hO
        replace hN0 := Lib.hid hN0
        replace hN1 := Lib.hid hN1
        replace hO := Lib.hid hO
        have HF0 := Lib.hid hf
        have hgX := hg.trans gX
        clear hf
        cases n0
        · have HF1 := HF0.out
          simp only [Bool.not_true, Bool.not_false, Bool.false_or, Bool.true_or, Bool.or_true, if_true, show ¬ (8 : Int) = 0 by decide, if_false] at HF1
          have HF2 := Lib.hid HF1
          clear HF1 HF0
          go_wp2_with fail
          repeat (first | ((with_reducible refine (hN0.out _).mono ?_); rintro e w4 ⟨rfl, rfl⟩; go_wp2_with fail) | ((with_reducible refine (hN1.out _).mono ?_); rintro e w4 ⟨rfl, rfl⟩; go_wp2_with fail))
          go_ret
          exact ⟨by rw [HJ1.out 8 (by rw [← HF.out, HF2.out]) (by decide)]; rfl, hgX⟩
        cases n1
        · have HF1 := HF0.out
          simp only [Bool.not_true, Bool.not_false, Bool.false_or, Bool.true_or, Bool.or_true, if_true, show ¬ (8 : Int) = 0 by decide, if_false] at HF1
          have HF2 := Lib.hid HF1
          clear HF1 HF0
          go_wp2_with fail
          repeat (first | ((with_reducible refine (hN0.out _).mono ?_); rintro e w4 ⟨rfl, rfl⟩; go_wp2_with fail) | ((with_reducible refine (hN1.out _).mono ?_); rintro e w4 ⟨rfl, rfl⟩; go_wp2_with fail))
          go_ret
          exact ⟨by rw [HJ1.out 8 (by rw [← HF.out, HF2.out]) (by decide)]; rfl, hgX⟩
        have HF1 := HF0.out
        simp only [Bool.not_true, Bool.or_self, Bool.false_eq_true, if_false] at HF1
        have HF2 := Lib.hid HF1
        clear HF1 HF0
        go_wp2_with fail
        repeat (first | ((with_reducible refine (hN0.out _).mono ?_); rintro e w4 ⟨rfl, rfl⟩; go_wp2_with fail) | ((with_reducible refine (hN1.out _).mono ?_); rintro e w4 ⟨rfl, rfl⟩; go_wp2_with fail))
        go_loopg [5] i (fun g2 s5 wr2 => ∃ k : Nat, s5 = .int .i64 k ∧ g2 + k = i ∧ Gr WX wr2 ∧ Hid (dupN (fun y : OfR => y.nm) os k x.nm = false))
        case atStart => exact ⟨0, rfl, by omega, Gr.refl _, by simp [Hid, dupN]⟩
        case round =>
          obtain ⟨k, rfl, hk, hg2, HD⟩ := hrel
          replace a0X := hg2.cell a0X
          replace a1X := hg2.cell a1X
          replace x0 := hg2.cell x0
          replace x1 := hg2.cell x1
          replace x2 := hg2.cell x2
          replace x3 := hg2.cell x3
          have hq := hgX.trans hg2
          clear hWX
          by_cases hlk : k < i
          · obtain ⟨y, hy⟩ : ∃ y, os[k]? = some y := ⟨os[k]'(by have := OSN.out; omega), List.getElem?_eq_getElem _⟩
            have d0 := ((HCC.out k y hy).gr hq).nm
            have hk2 : (k : Int) < i := by omega
            have hk3 : (k : Int) < on := by omega
            have hdp := dupN_succ (fun y : OfR => y.nm) hy x.nm
            rw [HD.out, Bool.false_or] at hdp
            clear hy
            cases e2 : (y.nm.toList == x.nm.toList)
            · simp only [e2] at hdp
              have HD2 := Lib.hid hdp
              clear hdp
              go_wp2_with fail
              go_big_quiet (fail)
              go_wp2_with fail
              go_roundg (gk - 1)
              case measure => omega
              case rel => exact ⟨k + 1, by go_num, by omega, hg2.drewN _, HD2⟩
            · simp only [e2] at hdp
              have HD2 := Lib.hid (dupN_le (fun y : OfR => y.nm) (i := i) (by omega) hdp)
              clear hdp
              rw [if_pos HD2.out, if_neg (by decide)] at HF2
              go_wp2_with fail
              go_big_quiet (fail)
              go_wp2_with fail
              go_ret
              exact ⟨by rw [HJ1.out 9 (by rw [← HF.out, HF2.out]) (by decide)]; rfl, hq.drewN _⟩
          · have hki : k = i := by omega
            subst hki
            have HF3 := HF2.out
            rw [HD.out] at HF3
            simp only [Bool.false_eq_true, if_false, if_true] at HF3
            clear HF2
            have HF2 := Lib.hid HF3
            clear HF3
            cases hb : decide (16 < m)
            · rw [hb] at HF2
              have hb2 : decide ((16 : Int) < m) = false := decide_eq_false (by have := of_decide_eq_false hb; omega)
              have HF3 := HF2.out
              simp only [Bool.false_eq_true, if_false, if_true] at HF3
              clear HF2
              have HF2 := Lib.hid HF3
              clear HF3 hb
              by_cases hz : z = 0
              · subst hz
                have HF3 := HF2.out
                simp only [if_true] at HF3
                clear HF2
                have HF2 := Lib.hid HF3
                clear HF3
                go_wp2_with fail
                refine (HZ.out _ (gX.trans hg2)).mono ?_
                rintro e w4 ⟨rfl, hg4⟩
                replace a0X := hg4.cell a0X
                replace a1X := hg4.cell a1X
                replace x0 := hg4.cell x0
                replace x1 := hg4.cell x1
                replace x2 := hg4.cell x2
                replace x3 := hg4.cell x3
                replace hq := hq.trans hg4
                cases oo
                · have HF3 := HF2.out
                  simp only [Bool.false_eq_true, if_false, if_true] at HF3
                  clear HF2
                  have HF2 := Lib.hid HF3
                  clear HF3
                  go_wp2_with fail
                  refine (hO.out _).mono ?_
                  rintro e w4 ⟨rfl, rfl⟩
                  go_wp2_with fail
                  go_roundg (gO - 1)
                  case measure => omega
                  case rel => exact ⟨k + 1, by go_num, by omega, hq, a0X, a1X, by unfold Hid; rw [← HF2.out, HF.out]⟩
                · have HF3 := HF2.out
                  simp only [if_true, show ¬ (3 : Int) = 0 by decide, if_false] at HF3
                  clear HF2
                  have HF2 := Lib.hid HF3
                  clear HF3
                  go_wp2_with fail
                  refine (hO.out _).mono ?_
                  rintro e w4 ⟨rfl, rfl⟩
                  go_wp2_with fail
                  go_ret
                  exact ⟨by rw [HJ1.out 3 (by rw [← HF.out, HF2.out]) (by decide)]; rfl, hq⟩
              · have q1 : (z == 0) = false := by simpa using hz
                have q2 : (z != 0) = true := by simpa [bne] using q1
                have HF3 := HF2.out
                (try rw [if_neg hz, if_neg hz] at HF3)
                (try rw [if_neg hz] at HF3)
                clear HF2
                have HF2 := Lib.hid HF3
                clear HF3
                go_wp2_with fail
                refine (HZ.out _ (gX.trans hg2)).mono ?_
                rintro e w4 ⟨rfl, hg4⟩
                replace hq := hq.trans hg4
                go_wp2_with fail
                go_ret
                exact ⟨by rw [HJ1.out z (by rw [← HF.out, HF2.out]) hz]; rfl, hq⟩
            · rw [hb] at HF2
              have hb2 : decide ((16 : Int) < m) = true := decide_eq_true (by have := of_decide_eq_true hb; omega)
              have HF3 := HF2.out
              simp only [if_true, show ¬ (5 : Int) = 0 by decide, if_false] at HF3
              clear HF2
              have HF2 := Lib.hid HF3
              clear HF3 hb
              go_wp2_with fail
              go_ret
              exact ⟨by rw [HJ1.out 5 (by rw [← HF.out, HF2.out]) (by decide)]; rfl, hq⟩
      · have hin : i = on := by omega
        have HE2 : Hid (errG (ofE os) os on 0 = 0) := by unfold Hid; rw [← HF.out, hin, Nat.sub_self]; rfl
        have hi2 : (on : Int) ≤ i := by omega
        clear hin HF
        have HE1 := HE2
        clear HE2
        replace g := hg
        clear hg
        rcases Nat.lt_or_ge 24 pn with hl2 | hl2
        · have hz4 : decide ((24 : Int) < pn) = true := decide_eq_true (by omega)
          have HE3 := Lib.hid (HJ5.out HE1.out hl2)
          go_wp2_with fail
          go_ret
          exact ⟨by rw [HE3.out]; rfl, g⟩
        · have hz4 : decide ((24 : Int) < pn) = false := decide_eq_false (by omega)
          replace HJ2 := Lib.hid (fun h => HJ2.out h hl2)
          go_wp2_with fail
          clear hi2 hlt hi
          go_loopg [7] pn (fun gk s3 wr => ∃ i : Nat, s3 = .int .i64 i ∧ gk + i = pn ∧ Gr w wr ∧ wr.cell? ⟨Bx, 0, none⟩ = some (.slice po on co) ∧ wr.cell? ⟨Bx, 1, none⟩ = some (.slice pp pn cp) ∧ Hid (errG (poE ps) ps (pn - i) i = errG (poE ps) ps pn 0))
          case atStart => exact ⟨0, rfl, by omega, g, a0, a1, by simp [Hid]⟩
          case round =>
            obtain ⟨i, rfl, hi, hg, b0, b1, HF⟩ := hrel
            clear a0 a1
            obtain ⟨a0, a1⟩ := And.intro b0 b1
            clear b0 b1
            obtain ⟨gO, rfl⟩ : ∃ q, q = gk := ⟨gk, rfl⟩
            obtain ⟨wI, rfl⟩ : ∃ q, q = wr := ⟨wr, rfl⟩
            by_cases hlt : i < pn
            · obtain ⟨x, hx⟩ : ∃ x, ps[i]? = some x := ⟨ps[i]'(by have := PSN.out; omega), List.getElem?_eq_getElem _⟩
              obtain ⟨bp, op, rfl, HC⟩ := PSC.out (by omega)
              obtain ⟨c0, c1, c2, c3, cs⟩ := (HC i x hx).gr hg
              have hlr := PSR.out x (List.mem_of_getElem? hx)
              obtain ⟨pu, cu, hu⟩ : ∃ p c, x.u = .slice p x.ns.length c := by
                obtain ⟨⟨p, cap, e, _⟩⟩ := cs
                exact ⟨p, cap, e⟩
              have hf := errG_step (E := poE ps) hlt hx
              rw [poE_eq] at hf
              rw [hu] at c3 cs
              have HZ := Lib.hid (fun W (h : Gr wI W) => refNmsAny_c (cs.gr h) hlr)
              obtain ⟨m, hm⟩ : ∃ m, m = x.ns.length := ⟨_, rfl⟩
              rw [← hm] at hf HZ c3
              obtain ⟨z, hz⟩ : ∃ z, z = errG (strE x.ns) x.ns m 0 := ⟨_, rfl⟩
              rw [← hz] at hf HZ
              obtain ⟨WX, hWX, gX, x0, x1, x2, x3⟩ := box4 wI (.string x.nm) (.string x.ro) (.int .i64 x.hr) (.slice pu m cu) 52
              have a0X := gX.cell a0
              have a1X := gX.cell a1
              have HCC := Lib.hid HC
              have hi2 : (i : Int) < pn := by omega
              have hN0 := fun W => refIsName_c x.nm W
              have hN1 := fun W => refIsName_c x.ro W
              have hO := fun W => refOutside_c x.hr 0 99999 W
              clear hx HC hlr hm hz hu cs
              generalize decide (Nm x.nm) = n0 at hf hN0
              generalize decide (Nm x.ro) = n1 at hf hN1
              generalize outB x.hr 0 99999 = oo at hf hO
              replace hN0 := Lib.hid hN0
              replace hN1 := Lib.hid hN1
              replace hO := Lib.hid hO
              have HF0 := Lib.hid hf
              have hgX := hg.trans gX
              clear hf
              cases n0
              · have HF1 := HF0.out
                simp only [Bool.not_true, Bool.not_false, Bool.false_or, Bool.true_or, Bool.or_true, if_true, show ¬ (8 : Int) = 0 by decide, if_false] at HF1
                have HF2 := Lib.hid HF1
                clear HF1 HF0
                go_wp2_with fail
                repeat (first | ((with_reducible refine (hN0.out _).mono ?_); rintro e w4 ⟨rfl, rfl⟩; go_wp2_with fail) | ((with_reducible refine (hN1.out _).mono ?_); rintro e w4 ⟨rfl, rfl⟩; go_wp2_with fail))
                go_ret
                exact ⟨by rw [HJ2.out HE1.out 8 (by rw [← HF.out, HF2.out])]; rfl, hgX⟩
              cases n1
              · have HF1 := HF0.out
                simp only [Bool.not_true, Bool.not_false, Bool.false_or, Bool.true_or, Bool.or_true, if_true, show ¬ (8 : Int) = 0 by decide, if_false] at HF1
                have HF2 := Lib.hid HF1
                clear HF1 HF0
                go_wp2_with fail
                repeat (first | ((with_reducible refine (hN0.out _).mono ?_); rintro e w4 ⟨rfl, rfl⟩; go_wp2_with fail) | ((with_reducible refine (hN1.out _).mono ?_); rintro e w4 ⟨rfl, rfl⟩; go_wp2_with fail))
                go_ret
                exact ⟨by rw [HJ2.out HE1.out 8 (by rw [← HF.out, HF2.out])]; rfl, hgX⟩
              have HF1 := HF0.out
              simp only [Bool.not_true, Bool.or_self, Bool.false_eq_true, if_false] at HF1
              have HF2 := Lib.hid HF1
              clear HF1 HF0
              go_wp2_with fail
              repeat (first | ((with_reducible refine (hN0.out _).mono ?_); rintro e w4 ⟨rfl, rfl⟩; go_wp2_with fail) | ((with_reducible refine (hN1.out _).mono ?_); rintro e w4 ⟨rfl, rfl⟩; go_wp2_with fail))
              go_loopg [9] i (fun g2 s5 wr2 => ∃ k : Nat, s5 = .int .i64 k ∧ g2 + k = i ∧ Gr WX wr2 ∧ Hid (dupN (fun y : PoR => y.nm) ps k x.nm = false))
              case atStart => exact ⟨0, rfl, by omega, Gr.refl _, by simp [Hid, dupN]⟩
              case round =>
                obtain ⟨k, rfl, hk, hg2, HD⟩ := hrel
                replace a0X := hg2.cell a0X
                replace a1X := hg2.cell a1X
                replace x0 := hg2.cell x0
                replace x1 := hg2.cell x1
                replace x2 := hg2.cell x2
                replace x3 := hg2.cell x3
                have hq := hgX.trans hg2
                clear hWX
                by_cases hlk : k < i
                · obtain ⟨y, hy⟩ : ∃ y, ps[k]? = some y := ⟨ps[k]'(by have := PSN.out; omega), List.getElem?_eq_getElem _⟩
                  have d0 := ((HCC.out k y hy).gr hq).nm
                  have hk2 : (k : Int) < i := by omega
                  have hk3 : (k : Int) < pn := by omega
                  have hdp := dupN_succ (fun y : PoR => y.nm) hy x.nm
                  rw [HD.out, Bool.false_or] at hdp
                  clear hy
                  cases e2 : (y.nm.toList == x.nm.toList)
                  · simp only [e2] at hdp
                    have HD2 := Lib.hid hdp
                    clear hdp
                    go_wp2_with fail
                    go_big_quiet (fail)
                    go_wp2_with fail
                    go_roundg (gk - 1)
                    case measure => omega
                    case rel => exact ⟨k + 1, by go_num, by omega, hg2.drewN _, HD2⟩
                  · simp only [e2] at hdp
                    have HD2 := Lib.hid (dupN_le (fun y : PoR => y.nm) (i := i) (by omega) hdp)
                    clear hdp
                    rw [if_pos HD2.out, if_neg (by decide)] at HF2
                    go_wp2_with fail
                    go_big_quiet (fail)
                    go_wp2_with fail
                    go_ret
                    exact ⟨by rw [HJ2.out HE1.out 9 (by rw [← HF.out, HF2.out])]; rfl, hq.drewN _⟩
                · have hki : k = i := by omega
                  subst hki
                  have HF3 := HF2.out
                  rw [HD.out] at HF3
                  simp only [Bool.false_eq_true, if_false, if_true] at HF3
                  clear HF2
                  have HF2 := Lib.hid HF3
                  clear HF3
                  cases oo
                  · have HF3 := HF2.out
                    simp only [Bool.false_eq_true, if_false, if_true] at HF3
                    clear HF2
                    have HF2 := Lib.hid HF3
                    clear HF3
                    go_wp2_with fail
                    refine (hO.out _).mono ?_
                    rintro e w4 ⟨rfl, rfl⟩
                    cases hb : decide (160 < m)
                    · rw [hb] at HF2
                      have hb2 : decide ((160 : Int) < m) = false := decide_eq_false (by have := of_decide_eq_false hb; omega)
                      have HF3 := HF2.out
                      simp only [Bool.false_eq_true, if_false, if_true] at HF3
                      clear HF2
                      have HF2 := Lib.hid HF3
                      clear HF3 hb
                      by_cases hz : z = 0
                      · subst hz
                        have HF3 := HF2.out
                        simp only [if_true] at HF3
                        clear HF2
                        have HF2 := Lib.hid HF3
                        clear HF3
                        go_wp2_with fail
                        refine (HZ.out _ (gX.trans hg2)).mono ?_
                        rintro e w4 ⟨rfl, hg4⟩
                        replace a0X := hg4.cell a0X
                        replace a1X := hg4.cell a1X
                        replace x0 := hg4.cell x0
                        replace x1 := hg4.cell x1
                        replace x2 := hg4.cell x2
                        replace x3 := hg4.cell x3
                        replace hq := hq.trans hg4
                        go_wp2_with fail
                        go_roundg (gO - 1)
                        case measure => omega
                        case rel => exact ⟨k + 1, by go_num, by omega, hq, a0X, a1X, by unfold Hid; rw [← HF2.out, HF.out]⟩
                      · have q1 : (z == 0) = false := by simpa using hz
                        have q2 : (z != 0) = true := by simpa [bne] using q1
                        have HF3 := HF2.out
                        (try rw [if_neg hz, if_neg hz] at HF3)
                        (try rw [if_neg hz] at HF3)
                        clear HF2
                        have HF2 := Lib.hid HF3
                        clear HF3
                        go_wp2_with fail
                        refine (HZ.out _ (gX.trans hg2)).mono ?_
                        rintro e w4 ⟨rfl, hg4⟩
                        replace hq := hq.trans hg4
                        go_wp2_with fail
                        go_ret
                        exact ⟨by rw [HJ2.out HE1.out z (by rw [← HF.out, HF2.out])]; rfl, hq⟩
                    · rw [hb] at HF2
                      have hb2 : decide ((160 : Int) < m) = true := decide_eq_true (by have := of_decide_eq_true hb; omega)
                      have HF3 := HF2.out
                      simp only [if_true, show ¬ (5 : Int) = 0 by decide, if_false] at HF3
                      clear HF2
                      have HF2 := Lib.hid HF3
                      clear HF3 hb
                      go_wp2_with fail
                      go_ret
                      exact ⟨by rw [HJ2.out HE1.out 5 (by rw [← HF.out, HF2.out])]; rfl, hq⟩
                  · have HF3 := HF2.out
                    simp only [if_true, show ¬ (3 : Int) = 0 by decide, if_false] at HF3
                    clear HF2
                    have HF2 := Lib.hid HF3
                    clear HF3
                    go_wp2_with fail
                    refine (hO.out _).mono ?_
                    rintro e w4 ⟨rfl, rfl⟩
                    go_wp2_with fail
                    go_ret
                    exact ⟨by rw [HJ2.out HE1.out 3 (by rw [← HF.out, HF2.out])]; rfl, hq⟩
            · have hin : i = pn := by omega
              have HE2 : Hid (errG (poE ps) ps pn 0 = 0) := by unfold Hid; rw [← HF.out, hin, Nat.sub_self]; rfl
              have hi2 : (pn : Int) ≤ i := by omega
              clear hin HF
              have HE3 := Lib.hid (HJ2.out HE1.out 0 HE2.out)
              go_wp2_with fail
              go_ret
              exact ⟨by rw [HE3.out]; rfl, hg⟩
end Go.Proofs.YtjojbcgppkfidaaGreat
