/- Juries: the law. -/
import Derived.Test.YtjojbcgppkfidaaGreatJuK
import Derived.Test.YtjojbcgppkfidaaGreatJuM
import Derived.Test.YtjojbcgppkfidaaGreatJuO
import Derived.Test.YtjojbcgppkfidaaGreatMbAw
namespace Go.Proofs.YtjojbcgppkfidaaGreat
open Go.RowKit Go.Lib
set_option linter.unusedSimpArgs false
set_option linter.unusedVariables false
set_option maxHeartbeats 1000000 in
set_option maxRecDepth 100000 in
theorem lawFirstJ_c0 (b n cap : Nat) (es : List Int) (w : World) (hn : es.length = n) (hc : ∀ i x, es[i]? = some x → w.cell? ⟨b, i, none⟩ = some (.int .i64 x)) (hs : n ≤ 1000) :
    Calls Tryz.prog 10 #[.slice (some ⟨b, 0, none⟩) n cap] w fun e w' => e = .returned (.int .i64 (firstE es)) ∧ w = w' := by
  have HN := Lib.hid hn
  have HC := Lib.hid hc
  clear hc
  go_enter Tryz.func10, Tryz.ntmps10
  go_wp2_with fail
  go_loopg [3] n (fun g s7 wr => ∃ k : Nat, s7 = .int .i64 k ∧ g + k = n ∧ wr = w ∧ Hid (firstE (es.drop k) = firstE es))
  case atStart => exact ⟨0, rfl, by omega, rfl, by simp [Hid]⟩
  case round =>
    obtain ⟨k, rfl, hk, rfl, HF⟩ := hrel
    by_cases hlt : k < n
    · obtain ⟨x, hx⟩ : ∃ x, es[k]? = some x := ⟨es[k]'(by omega), List.getElem?_eq_getElem (by omega)⟩
      have hcell := HC.out k x hx
      have hf := firstE_drop hx
      have hi2 : (k : Int) < n := by omega
      by_cases h0 : x = 0
      · subst h0
        rw [if_pos rfl] at hf
        have HF2 := Lib.hid hf
        clear hf hx
        go_wp2_with fail
        go_roundg (gk - 1)
        case measure => omega
        case rel => exact ⟨k + 1, by go_num, by omega, rfl, by unfold Hid; rw [← HF2.out, HF.out]⟩
      · rw [if_neg h0] at hf
        have HF2 := Lib.hid hf
        have h1 : (x == 0) = false := by simpa using h0
        have h2 : (x != 0) = true := by simpa [bne] using h1
        clear hf hx h0
        go_wp2_with fail
        go_ret
        exact ⟨by rw [← HF.out, HF2.out]; rfl, rfl⟩
    · have : es.drop k = [] := List.drop_of_length_le (by omega)
      have HE : Hid (firstE es = 0) := by unfold Hid; rw [← HF.out, this]; rfl
      clear this
      go_wp2_with fail
      go_ret
      exact ⟨by rw [HE.out]; rfl, rfl⟩
theorem lawFirstJ_two (x y : Int) (b cap : Nat) (w : World) (hx : w.cell? ⟨b, 0, none⟩ = some (.int .i64 x)) (hy : w.cell? ⟨b, 1, none⟩ = some (.int .i64 y)) :
    Calls Tryz.prog 10 #[.slice (some ⟨b, 0, none⟩) 2 cap] w fun e w' => e = .returned (.int .i64 (firstE [x, y])) ∧ w = w' :=
  lawFirstJ_c0 b 2 cap [x, y] w rfl (fun i v h => by
    rcases i with _ | _ | i <;> simp at h <;> subst h <;> assumption) (by omega)
theorem whenJ_c (b : Bool) (n : Int) (w : World) :
    Calls Tryz.prog 11 #[.bool b, .int .i64 n] w fun e w' => e = .returned (.int .i64 (if b then n else 0)) ∧ w = w' := by
  cases b
  all_goals
    go_enter Tryz.func11, Tryz.ntmps11
    go_wp2_with fail
    go_ret
    exact ⟨rfl, rfl⟩
theorem whenJ_e (b : Bool) (n : Int) : ∃ z, z = (if b then n else 0) ∧ ∀ W, Calls Tryz.prog 11 #[.bool b, .int .i64 n] W fun e w' => e = .returned (.int .i64 z) ∧ W = w' :=
  ⟨_, rfl, fun W => whenJ_c b n W⟩
theorem whenJ_f (b : Bool) (n : Int) (w : World) (h : b = false) :
    Calls Tryz.prog 11 #[.bool b, .int .i64 n] w fun e w' => e = .returned (.int .i64 0) ∧ w = w' := by
  subst h
  exact whenJ_c false n w
theorem truthJ_bad (z : Int) (b : Bool) (h : z ≠ 0) (w : World) :
    Calls Tryz.prog 14 #[.bool false, .int .i64 z, .int .i64 z, .bool b] w fun e w' => e = .returned (.bool true) ∧ w = w' := by
  have q1 : (z == 0) = false := by simpa using h
  have q2 : (z != 0) = true := by simpa [bne] using q1
  go_enter Tryz.func14, Tryz.ntmps14
  go_wp2_with fail
  go_ret
  exact ⟨rfl, rfl⟩
theorem truthJ_good (b : Bool) (w : World) :
    Calls Tryz.prog 14 #[.bool b, .int .i64 0, .int .i64 0, .bool b] w fun e w' => e = .returned (.bool true) ∧ w = w' := by
  cases b
  all_goals
    go_enter Tryz.func14, Tryz.ntmps14
    go_wp2_with fail
    go_ret
    exact ⟨rfl, rfl⟩
theorem srvE_eq (os : List OfR) (ps : List PoR) (i1 i2 : Int) : srvE os ps i1 i2 = firstE [juryE os ps, if (decide (i1 < 0) || decide ((os.length : Int) ≤ i1)) || (decide (i2 < 0) || decide ((ps.length : Int) ≤ i2)) then 10 else 0] := by
  unfold srvE noneE
  by_cases h : juryE os ps = 0
  · rw [h]
    cases (decide (i1 < 0) || decide ((os.length : Int) ≤ i1)) <;> cases (decide (i2 < 0) || decide ((ps.length : Int) ≤ i2)) <;> rfl
  · rw [firstE, if_neg h, firstE, if_neg h]
theorem serves_bad' (os : List OfR) (ps : List PoR) (vo vp : Value) (i1 i2 : Int) (w : World) (ho : OfAts w vo os) (hp : PoAts w vp ps) (h0 : srvE os ps i1 i2 ≠ 0) (W : World) (g : Gr w W) :
    Calls Tryz.prog 9 #[.agg #[vo, vp], .int .i64 i1, .int .i64 i2] W fun e w' => e = .returned (.tuple #[.bool false, .int .i64 (srvE os ps i1 i2)]) ∧ Gr W w' := serves_bad os ps vo vp i1 i2 W (ho.gr g) (hp.gr g) h0
set_option maxHeartbeats 8000000 in
set_option maxRecDepth 100000 in
theorem lawJuries_c (os : List OfR) (ps : List PoR) (a : List Int) (vo vp va : Value) (i1 i2 : Int) (w : World) (ho : OfAts w vo os) (hp : PoAts w vp ps) (ha : IntsC w va a) (hb1 : os.length * 64 ≤ 140737488355328) (hb2 : ps.length * 64 ≤ 140737488355328) (hA : AwakeOK w) :
    Calls Tryz.prog 3 #[.agg #[vo, vp], va, .agg #[.int .i64 i1, .int .i64 i2]] w fun e w' => e = .returned (.bool true) ∧ Gr w w' := by
  have HAW := Lib.hid hA
  have HOWN := Lib.hid (fun W (h : Gr w W) => own_c os ps vo vp W (ho.gr h) (hp.gr h) hb1 hb2)
  have HCJ := Lib.hid (fun W (h : Gr w W) => checkJury_c os ps vo vp W (ho.gr h) (hp.gr h))
  have HO9 := Lib.hid ho
  have HP9 := Lib.hid hp
  have HA9 := Lib.hid ha
  obtain ⟨po, on, co, hvo, hon⟩ : ∃ p n c, vo = .slice p n c ∧ n = os.length := by
    obtain ⟨⟨p, cap, e, _⟩⟩ := ho
    exact ⟨p, _, cap, e, rfl⟩
  obtain ⟨pp, pn, cp, hvp, hpn⟩ : ∃ p n c, vp = .slice p n c ∧ n = ps.length := by
    obtain ⟨⟨p, cap, e, _⟩⟩ := hp
    exact ⟨p, _, cap, e, rfl⟩
  obtain ⟨pa, an, ca, hva, han⟩ : ∃ p n c, va = .slice p n c ∧ n = a.length := by
    obtain ⟨⟨p, cap, e, _⟩⟩ := ha
    exact ⟨p, _, cap, e, rfl⟩
  subst hvo hvp hva
  have OSN : Hid (os.length = on) := hon.symm
  have PSN : Hid (ps.length = pn) := hpn.symm
  have ASN : Hid (a.length = an) := han.symm
  obtain ⟨W1, hW1, g1, a0, a1⟩ := box2 w (.slice po on co) (.slice pp pn cp) 25
  obtain ⟨W2, hW2, g2, n0, n1⟩ := box2 W1 (.int .i64 i1) (.int .i64 i2) 27
  replace a0 := g2.cell a0
  replace a1 := g2.cell a1
  have g := g1.trans g2
  clear ho hp ha hon hpn han hb1 hb2 g1 g2
  go_enter Tryz.func3, Tryz.ntmps3
  go_wp2_with fail
  refine (HOWN.out _ g).mono ?_
  rintro e W3 ⟨ov, pv, rfl, hov, hpv, hg⟩
  obtain ⟨po2, co2, hvo⟩ : ∃ p c, ov = .slice p on c := by
    obtain ⟨⟨p, cap, e, _⟩⟩ := hov
    exact ⟨p, cap, by rw [← OSN.out]; exact e⟩
  obtain ⟨pp2, cp2, hvp⟩ : ∃ p c, pv = .slice p pn c := by
    obtain ⟨⟨p, cap, e, _⟩⟩ := hpv
    exact ⟨p, cap, by rw [← PSN.out]; exact e⟩
  subst hvo hvp
  replace a0 := hg.cell a0
  replace a1 := hg.cell a1
  replace n0 := hg.cell n0
  replace n1 := hg.cell n1
  replace g := g.trans hg
  clear hW1 hW2
  obtain ⟨W4, hW4, g4, x0, x1⟩ := box2 W3 (.slice po2 on co2) (.slice pp2 pn cp2) 31
  replace a0 := g4.cell a0
  replace a1 := g4.cell a1
  replace n0 := g4.cell n0
  replace n1 := g4.cell n1
  replace g := g.trans g4
  have HV4 := Lib.hid (And.intro (hov.gr g4) (hpv.gr g4))
  generalize hBx : w.heap.size = Bx at *
  generalize hBy : W1.heap.size = By at *
  generalize hBz : W3.heap.size = Bz at *
  have HSJ := Lib.hid (fun W (h : Gr W4 W) => shortJury_c os ps _ _ W (HV4.out.1.gr h) (HV4.out.2.gr h))
  clear hov hpv hg g4
  have k := Gr.refl W4
  have HG4 := Lib.hid g
  go_wp2_with fail
  clear hBx hBy hBz hW4
  refine (HAW.out _ g).mono ?_
  rintro e W5 ⟨rfl, hg⟩
  replace a0 := hg.cell a0
  replace a1 := hg.cell a1
  replace n0 := hg.cell n0
  replace n1 := hg.cell n1
  replace x0 := hg.cell x0
  replace x1 := hg.cell x1
  replace g := g.trans hg
  replace k := k.trans hg
  clear hg
  go_wp2_with fail
  refine (HSJ.out _ k).mono ?_
  rintro e W6 ⟨⟨⟨r, rfl, hr⟩⟩, hg⟩
  replace a0 := hg.cell a0
  replace a1 := hg.cell a1
  replace n0 := hg.cell n0
  replace n1 := hg.cell n1
  replace x0 := hg.cell x0
  replace x1 := hg.cell x1
  replace g := g.trans hg
  replace k := k.trans hg
  clear hg
  cases r
  · clear hr
    go_wp2_with fail
    refine (HAW.out _ g).mono ?_
    rintro e W9 ⟨rfl, hg⟩
    go_wp2_with fail
    go_ret
    exact ⟨rfl, g.trans hg⟩
  by_cases hl : 30 < an
  · have hl2 : (30 : Int) < an := by omega
    clear hr
    go_wp2_with fail
    refine (HAW.out _ g).mono ?_
    rintro e W9 ⟨rfl, hg⟩
    go_wp2_with fail
    go_ret
    exact ⟨rfl, g.trans hg⟩
  have hl2 : (an : Int) ≤ 30 := by omega
  obtain ⟨hr0, hs0, hl3, hl4⟩ : (∀ x ∈ os, x.rs.length ≤ 19) ∧ (∀ y ∈ ps, y.ns.length ≤ 163) ∧ os.length ≤ 27 ∧ ps.length ≤ 27 := by first | exact hr rfl | exact hr trivial | exact hr
  have hr1 : ∀ x ∈ os, x.rs.length ≤ 1000 := fun x hx => by have := hr0 x hx; omega
  have hs1 : ∀ y ∈ ps, y.ns.length ≤ 1000 := fun y hy => by have := hs0 y hy; omega
  have HRJ := Lib.hid (fun W (h : Gr W4 W) => refJury_c os ps _ _ W (HV4.out.1.gr h) (HV4.out.2.gr h) hr1 hs1)
  have HRA0 := Lib.hid (fun W (h : Gr W4 W) (_ : juryE os ps = 0) => refApp_c os ps a _ _ _ W (HV4.out.1.gr h) (HV4.out.2.gr h) (HA9.out.gr (HG4.out.trans h)) hr1 hs1 (by omega) (by omega) (by rw [ASN.out]; omega))
  have HAP0 := Lib.hid (fun W (h : Gr w W) => checkApp_c os ps a _ _ _ W (HO9.out.gr h) (HP9.out.gr h) (HA9.out.gr h) hr1 hs1 (by omega) (by omega))
  clear hr hr0 hs0
  by_cases hbad : juryE os ps = 0
  · skip
    have HRA := Lib.hid (fun W (h : Gr W4 W) => HRA0.out W h hbad)
    have HAP := Lib.hid (fun W (h : Gr w W) => HAP0.out W h)
    rw [appE_good hbad] at HAP
    rw [hbad] at HRJ HCJ
    generalize appR os ps a = tw at *
    by_cases hA : i1 < 0
    · have hsv : srvE os ps i1 i2 = 10 := by
        rw [srvE_eq, hbad]
        rw [OSN.out, PSN.out]; simp [firstE, hA]
      have HSV := Lib.hid (serves_bad' os ps (.slice po on co) (.slice pp pn cp) i1 i2 w HO9.out HP9.out (by rw [hsv]; decide))
      rw [hsv] at HSV
      clear hsv
      have HFT := Lib.hid (fun b c W (h1 : W.cell? ⟨b, 0, none⟩ = some (.int .i64 0)) h2 => lawFirstJ_two 0 10 b c W h1 h2)
      rw [show firstE [0, 10] = 10 from rfl] at HFT
      have HTR := Lib.hid (fun W => truthJ_bad 10 false (by decide) W)
      go_wp2_with fail
      refine (HRJ.out _ k).mono ?_
      rintro e WQ ⟨rfl, hg⟩
      replace a0 := hg.cell a0
      replace a1 := hg.cell a1
      replace n0 := hg.cell n0
      replace n1 := hg.cell n1
      replace x0 := hg.cell x0
      replace x1 := hg.cell x1
      replace g := g.trans hg
      replace k := k.trans hg
      clear hg
      go_wp2_with fail
      refine (HCJ.out _ g).mono ?_
      rintro e WR ⟨rfl, hg⟩
      replace a0 := hg.cell a0
      replace a1 := hg.cell a1
      replace n0 := hg.cell n0
      replace n1 := hg.cell n1
      replace x0 := hg.cell x0
      replace x1 := hg.cell x1
      replace g := g.trans hg
      replace k := k.trans hg
      clear hg
      go_wp2_with fail
      refine (HSV.out _ g).mono ?_
      rintro e WS ⟨rfl, hg⟩
      replace a0 := hg.cell a0
      replace a1 := hg.cell a1
      replace n0 := hg.cell n0
      replace n1 := hg.cell n1
      replace x0 := hg.cell x0
      replace x1 := hg.cell x1
      replace g := g.trans hg
      replace k := k.trans hg
      clear hg
      go_wp2_with fail
      refine (whenJ_c true 10 _).mono ?_
      rintro e w4 ⟨rfl, rfl⟩
      go_wp2_with fail
      obtain ⟨WB, hWB, gB, s0, s1⟩ := box2 WS (.int .i64 0) (.int .i64 10) 3
      (try rw [hWB])
      clear hWB
      replace a0 := gB.cell a0
      replace a1 := gB.cell a1
      replace n0 := gB.cell n0
      replace n1 := gB.cell n1
      replace x0 := gB.cell x0
      replace x1 := gB.cell x1
      replace g := g.trans gB
      replace k := k.trans gB
      refine (HFT.out _ _ _ s0 s1).mono ?_
      rintro e w4 ⟨rfl, rfl⟩
      go_wp2_with fail
      refine (HRA.out _ k).mono ?_
      rintro e W7 ⟨rfl, hg⟩
      replace a0 := hg.cell a0
      replace a1 := hg.cell a1
      replace n0 := hg.cell n0
      replace n1 := hg.cell n1
      replace x0 := hg.cell x0
      replace x1 := hg.cell x1
      replace g := g.trans hg
      replace k := k.trans hg
      clear hg
      go_wp2_with fail
      refine (HTR.out _).mono ?_
      rintro e w4 ⟨rfl, rfl⟩
      go_wp2_with fail
      refine (HAP.out _ g).mono ?_
      rintro e W8 ⟨rfl, hg⟩
      go_wp2_with fail
      go_ret
      exact ⟨by first | rfl | simp, g.trans hg⟩
    by_cases hB : (on : Int) ≤ i1
    · have hsv : srvE os ps i1 i2 = 10 := by
        rw [srvE_eq, hbad]
        rw [OSN.out, PSN.out]; simp [firstE, hA, hB]
      have HSV := Lib.hid (serves_bad' os ps (.slice po on co) (.slice pp pn cp) i1 i2 w HO9.out HP9.out (by rw [hsv]; decide))
      rw [hsv] at HSV
      clear hsv
      have HFT := Lib.hid (fun b c W (h1 : W.cell? ⟨b, 0, none⟩ = some (.int .i64 0)) h2 => lawFirstJ_two 0 10 b c W h1 h2)
      rw [show firstE [0, 10] = 10 from rfl] at HFT
      have HTR := Lib.hid (fun W => truthJ_bad 10 false (by decide) W)
      have hA : (0 : Int) ≤ i1 := by omega
      go_wp2_with fail
      refine (HRJ.out _ k).mono ?_
      rintro e WQ ⟨rfl, hg⟩
      replace a0 := hg.cell a0
      replace a1 := hg.cell a1
      replace n0 := hg.cell n0
      replace n1 := hg.cell n1
      replace x0 := hg.cell x0
      replace x1 := hg.cell x1
      replace g := g.trans hg
      replace k := k.trans hg
      clear hg
      go_wp2_with fail
      refine (HCJ.out _ g).mono ?_
      rintro e WR ⟨rfl, hg⟩
      replace a0 := hg.cell a0
      replace a1 := hg.cell a1
      replace n0 := hg.cell n0
      replace n1 := hg.cell n1
      replace x0 := hg.cell x0
      replace x1 := hg.cell x1
      replace g := g.trans hg
      replace k := k.trans hg
      clear hg
      go_wp2_with fail
      refine (HSV.out _ g).mono ?_
      rintro e WS ⟨rfl, hg⟩
      replace a0 := hg.cell a0
      replace a1 := hg.cell a1
      replace n0 := hg.cell n0
      replace n1 := hg.cell n1
      replace x0 := hg.cell x0
      replace x1 := hg.cell x1
      replace g := g.trans hg
      replace k := k.trans hg
      clear hg
      go_wp2_with fail
      refine (whenJ_c true 10 _).mono ?_
      rintro e w4 ⟨rfl, rfl⟩
      go_wp2_with fail
      obtain ⟨WB, hWB, gB, s0, s1⟩ := box2 WS (.int .i64 0) (.int .i64 10) 3
      (try rw [hWB])
      clear hWB
      replace a0 := gB.cell a0
      replace a1 := gB.cell a1
      replace n0 := gB.cell n0
      replace n1 := gB.cell n1
      replace x0 := gB.cell x0
      replace x1 := gB.cell x1
      replace g := g.trans gB
      replace k := k.trans gB
      refine (HFT.out _ _ _ s0 s1).mono ?_
      rintro e w4 ⟨rfl, rfl⟩
      go_wp2_with fail
      refine (HRA.out _ k).mono ?_
      rintro e W7 ⟨rfl, hg⟩
      replace a0 := hg.cell a0
      replace a1 := hg.cell a1
      replace n0 := hg.cell n0
      replace n1 := hg.cell n1
      replace x0 := hg.cell x0
      replace x1 := hg.cell x1
      replace g := g.trans hg
      replace k := k.trans hg
      clear hg
      go_wp2_with fail
      refine (HTR.out _).mono ?_
      rintro e w4 ⟨rfl, rfl⟩
      go_wp2_with fail
      refine (HAP.out _ g).mono ?_
      rintro e W8 ⟨rfl, hg⟩
      go_wp2_with fail
      go_ret
      exact ⟨by first | rfl | simp, g.trans hg⟩
    by_cases hC : i2 < 0
    · have hsv : srvE os ps i1 i2 = 10 := by
        rw [srvE_eq, hbad]
        rw [OSN.out, PSN.out]; simp [firstE, hA, hB, hC]
      have HSV := Lib.hid (serves_bad' os ps (.slice po on co) (.slice pp pn cp) i1 i2 w HO9.out HP9.out (by rw [hsv]; decide))
      rw [hsv] at HSV
      clear hsv
      have HFT := Lib.hid (fun b c W (h1 : W.cell? ⟨b, 0, none⟩ = some (.int .i64 0)) h2 => lawFirstJ_two 0 10 b c W h1 h2)
      rw [show firstE [0, 10] = 10 from rfl] at HFT
      have HTR := Lib.hid (fun W => truthJ_bad 10 false (by decide) W)
      have hA : (0 : Int) ≤ i1 := by omega
      have hB : i1 < (on : Int) := by omega
      go_wp2_with fail
      refine (HRJ.out _ k).mono ?_
      rintro e WQ ⟨rfl, hg⟩
      replace a0 := hg.cell a0
      replace a1 := hg.cell a1
      replace n0 := hg.cell n0
      replace n1 := hg.cell n1
      replace x0 := hg.cell x0
      replace x1 := hg.cell x1
      replace g := g.trans hg
      replace k := k.trans hg
      clear hg
      go_wp2_with fail
      refine (HCJ.out _ g).mono ?_
      rintro e WR ⟨rfl, hg⟩
      replace a0 := hg.cell a0
      replace a1 := hg.cell a1
      replace n0 := hg.cell n0
      replace n1 := hg.cell n1
      replace x0 := hg.cell x0
      replace x1 := hg.cell x1
      replace g := g.trans hg
      replace k := k.trans hg
      clear hg
      go_wp2_with fail
      refine (HSV.out _ g).mono ?_
      rintro e WS ⟨rfl, hg⟩
      replace a0 := hg.cell a0
      replace a1 := hg.cell a1
      replace n0 := hg.cell n0
      replace n1 := hg.cell n1
      replace x0 := hg.cell x0
      replace x1 := hg.cell x1
      replace g := g.trans hg
      replace k := k.trans hg
      clear hg
      go_wp2_with fail
      refine (whenJ_c true 10 _).mono ?_
      rintro e w4 ⟨rfl, rfl⟩
      go_wp2_with fail
      obtain ⟨WB, hWB, gB, s0, s1⟩ := box2 WS (.int .i64 0) (.int .i64 10) 3
      (try rw [hWB])
      clear hWB
      replace a0 := gB.cell a0
      replace a1 := gB.cell a1
      replace n0 := gB.cell n0
      replace n1 := gB.cell n1
      replace x0 := gB.cell x0
      replace x1 := gB.cell x1
      replace g := g.trans gB
      replace k := k.trans gB
      refine (HFT.out _ _ _ s0 s1).mono ?_
      rintro e w4 ⟨rfl, rfl⟩
      go_wp2_with fail
      refine (HRA.out _ k).mono ?_
      rintro e W7 ⟨rfl, hg⟩
      replace a0 := hg.cell a0
      replace a1 := hg.cell a1
      replace n0 := hg.cell n0
      replace n1 := hg.cell n1
      replace x0 := hg.cell x0
      replace x1 := hg.cell x1
      replace g := g.trans hg
      replace k := k.trans hg
      clear hg
      go_wp2_with fail
      refine (HTR.out _).mono ?_
      rintro e w4 ⟨rfl, rfl⟩
      go_wp2_with fail
      refine (HAP.out _ g).mono ?_
      rintro e W8 ⟨rfl, hg⟩
      go_wp2_with fail
      go_ret
      exact ⟨by first | rfl | simp, g.trans hg⟩
    by_cases hD : (pn : Int) ≤ i2
    · have hsv : srvE os ps i1 i2 = 10 := by
        rw [srvE_eq, hbad]
        rw [OSN.out, PSN.out]; simp [firstE, hA, hB, hC, hD]
      have HSV := Lib.hid (serves_bad' os ps (.slice po on co) (.slice pp pn cp) i1 i2 w HO9.out HP9.out (by rw [hsv]; decide))
      rw [hsv] at HSV
      clear hsv
      have HFT := Lib.hid (fun b c W (h1 : W.cell? ⟨b, 0, none⟩ = some (.int .i64 0)) h2 => lawFirstJ_two 0 10 b c W h1 h2)
      rw [show firstE [0, 10] = 10 from rfl] at HFT
      have HTR := Lib.hid (fun W => truthJ_bad 10 false (by decide) W)
      have hA : (0 : Int) ≤ i1 := by omega
      have hB : i1 < (on : Int) := by omega
      have hC : (0 : Int) ≤ i2 := by omega
      go_wp2_with fail
      refine (HRJ.out _ k).mono ?_
      rintro e WQ ⟨rfl, hg⟩
      replace a0 := hg.cell a0
      replace a1 := hg.cell a1
      replace n0 := hg.cell n0
      replace n1 := hg.cell n1
      replace x0 := hg.cell x0
      replace x1 := hg.cell x1
      replace g := g.trans hg
      replace k := k.trans hg
      clear hg
      go_wp2_with fail
      refine (HCJ.out _ g).mono ?_
      rintro e WR ⟨rfl, hg⟩
      replace a0 := hg.cell a0
      replace a1 := hg.cell a1
      replace n0 := hg.cell n0
      replace n1 := hg.cell n1
      replace x0 := hg.cell x0
      replace x1 := hg.cell x1
      replace g := g.trans hg
      replace k := k.trans hg
      clear hg
      go_wp2_with fail
      refine (HSV.out _ g).mono ?_
      rintro e WS ⟨rfl, hg⟩
      replace a0 := hg.cell a0
      replace a1 := hg.cell a1
      replace n0 := hg.cell n0
      replace n1 := hg.cell n1
      replace x0 := hg.cell x0
      replace x1 := hg.cell x1
      replace g := g.trans hg
      replace k := k.trans hg
      clear hg
      go_wp2_with fail
      refine (whenJ_c true 10 _).mono ?_
      rintro e w4 ⟨rfl, rfl⟩
      go_wp2_with fail
      obtain ⟨WB, hWB, gB, s0, s1⟩ := box2 WS (.int .i64 0) (.int .i64 10) 3
      (try rw [hWB])
      clear hWB
      replace a0 := gB.cell a0
      replace a1 := gB.cell a1
      replace n0 := gB.cell n0
      replace n1 := gB.cell n1
      replace x0 := gB.cell x0
      replace x1 := gB.cell x1
      replace g := g.trans gB
      replace k := k.trans gB
      refine (HFT.out _ _ _ s0 s1).mono ?_
      rintro e w4 ⟨rfl, rfl⟩
      go_wp2_with fail
      refine (HRA.out _ k).mono ?_
      rintro e W7 ⟨rfl, hg⟩
      replace a0 := hg.cell a0
      replace a1 := hg.cell a1
      replace n0 := hg.cell n0
      replace n1 := hg.cell n1
      replace x0 := hg.cell x0
      replace x1 := hg.cell x1
      replace g := g.trans hg
      replace k := k.trans hg
      clear hg
      go_wp2_with fail
      refine (HTR.out _).mono ?_
      rintro e w4 ⟨rfl, rfl⟩
      go_wp2_with fail
      refine (HAP.out _ g).mono ?_
      rintro e W8 ⟨rfl, hg⟩
      go_wp2_with fail
      go_ret
      exact ⟨by first | rfl | simp, g.trans hg⟩
    have hA : (0 : Int) ≤ i1 := by omega
    have hB : i1 < (on : Int) := by omega
    have hC : (0 : Int) ≤ i2 := by omega
    have hD : i2 < (pn : Int) := by omega
    obtain ⟨j1, rfl⟩ : ∃ j : Nat, i1 = (j : Int) := ⟨i1.toNat, by omega⟩
    obtain ⟨j2, rfl⟩ : ∃ j : Nat, i2 = (j : Int) := ⟨i2.toNat, by omega⟩
    obtain ⟨x, hx⟩ : ∃ x, os[j1]? = some x := ⟨os[j1]'(by rw [OSN.out]; omega), List.getElem?_eq_getElem _⟩
    obtain ⟨y, hy⟩ : ∃ y, ps[j2]? = some y := ⟨ps[j2]'(by rw [PSN.out]; omega), List.getElem?_eq_getElem _⟩
    have hsv : srvE os ps j1 j2 = 0 := by
      rw [srvE_eq, hbad, OSN.out, PSN.out, decide_eq_false (show ¬ (j1 : Int) < 0 by omega), decide_eq_false (show ¬ (on : Int) ≤ j1 by omega), decide_eq_false (show ¬ (j2 : Int) < 0 by omega), decide_eq_false (show ¬ (pn : Int) ≤ j2 by omega)]
      rfl
    have HSV := Lib.hid (fun W (h : Gr w W) => serves_good os ps (.slice po on co) (.slice pp pn cp) j1 j2 x y W (HO9.out.gr h) (HP9.out.gr h) hsv hx hy (hr1 x (List.mem_of_getElem? hx)) (hs1 y (List.mem_of_getElem? hy)) (by omega) (by omega))
    have HRS := Lib.hid (fun W (h : Gr w W) (h4 : Gr W4 W) => refServes_c os ps _ _ j1 j2 x y W (HV4.out.1.gr h4) (HV4.out.2.gr h4) hx hy (hr1 x (List.mem_of_getElem? hx)) (hs1 y (List.mem_of_getElem? hy)) (by omega) (by omega))
    generalize mayB x y = rr at *
    have HFT := Lib.hid (fun b c W (h1 : W.cell? ⟨b, 0, none⟩ = some (.int .i64 0)) h2 => lawFirstJ_two 0 0 b c W h1 h2)
    rw [show firstE [0, 0] = 0 from rfl] at HFT
    have HTR := Lib.hid (fun W => truthJ_good rr W)
    clear hx hy
    go_wp2_with fail
    refine (HRJ.out _ k).mono ?_
    rintro e WQ ⟨rfl, hg⟩
    replace a0 := hg.cell a0
    replace a1 := hg.cell a1
    replace n0 := hg.cell n0
    replace n1 := hg.cell n1
    replace x0 := hg.cell x0
    replace x1 := hg.cell x1
    replace g := g.trans hg
    replace k := k.trans hg
    clear hg
    go_wp2_with fail
    refine (HCJ.out _ g).mono ?_
    rintro e WR ⟨rfl, hg⟩
    replace a0 := hg.cell a0
    replace a1 := hg.cell a1
    replace n0 := hg.cell n0
    replace n1 := hg.cell n1
    replace x0 := hg.cell x0
    replace x1 := hg.cell x1
    replace g := g.trans hg
    replace k := k.trans hg
    clear hg
    go_wp2_with fail
    refine (HSV.out _ g).mono ?_
    rintro e WS ⟨rfl, hg⟩
    replace a0 := hg.cell a0
    replace a1 := hg.cell a1
    replace n0 := hg.cell n0
    replace n1 := hg.cell n1
    replace x0 := hg.cell x0
    replace x1 := hg.cell x1
    replace g := g.trans hg
    replace k := k.trans hg
    clear hg
    go_wp2_with fail
    refine (whenJ_f _ 10 _ (by simp; omega)).mono ?_
    rintro e w4 ⟨rfl, rfl⟩
    go_wp2_with fail
    obtain ⟨WB, hWB, gB, s0, s1⟩ := box2 WS (.int .i64 0) (.int .i64 0) 3
    (try rw [hWB])
    clear hWB
    replace a0 := gB.cell a0
    replace a1 := gB.cell a1
    replace n0 := gB.cell n0
    replace n1 := gB.cell n1
    replace x0 := gB.cell x0
    replace x1 := gB.cell x1
    replace g := g.trans gB
    replace k := k.trans gB
    refine (HFT.out _ _ _ s0 s1).mono ?_
    rintro e w4 ⟨rfl, rfl⟩
    go_wp2_with fail
    refine (HRS.out _ g k).mono ?_
    rintro e W6 ⟨rfl, hg⟩
    replace a0 := hg.cell a0
    replace a1 := hg.cell a1
    replace n0 := hg.cell n0
    replace n1 := hg.cell n1
    replace x0 := hg.cell x0
    replace x1 := hg.cell x1
    replace g := g.trans hg
    replace k := k.trans hg
    clear hg
    go_wp2_with fail
    refine (HRA.out _ k).mono ?_
    rintro e W7 ⟨rfl, hg⟩
    replace a0 := hg.cell a0
    replace a1 := hg.cell a1
    replace n0 := hg.cell n0
    replace n1 := hg.cell n1
    replace x0 := hg.cell x0
    replace x1 := hg.cell x1
    replace g := g.trans hg
    replace k := k.trans hg
    clear hg
    go_wp2_with fail
    refine (HTR.out _).mono ?_
    rintro e w4 ⟨rfl, rfl⟩
    go_wp2_with fail
    refine (HAP.out _ g).mono ?_
    rintro e W8 ⟨rfl, hg⟩
    go_wp2_with fail
    go_ret
    exact ⟨by first | rfl | simp, g.trans hg⟩
  · skip
    have HAP := Lib.hid (fun W (h : Gr w W) => HAP0.out W h)
    rw [appE_bad hbad] at HAP
    by_cases hA : i1 < 0
    · have hsv : srvE os ps i1 i2 = juryE os ps := by
        rw [srvE_eq, firstE, if_neg hbad]
        skip
      have HSV := Lib.hid (serves_bad' os ps (.slice po on co) (.slice pp pn cp) i1 i2 w HO9.out HP9.out (by rw [hsv]; exact hbad))
      rw [hsv] at HSV
      clear hsv
      have HFT := Lib.hid (fun b c W (h1 : W.cell? ⟨b, 0, none⟩ = some (.int .i64 (juryE os ps))) h2 => lawFirstJ_two (juryE os ps) 10 b c W h1 h2)
      rw [show firstE [juryE os ps, 10] = juryE os ps from by rw [firstE, if_neg hbad]] at HFT
      have HTR := Lib.hid (fun W => truthJ_bad (juryE os ps) false hbad W)
      generalize juryE os ps = bad at *
      have q1 : (bad == 0) = false := by simpa using hbad
      have q2 : (bad != 0) = true := by simpa [bne] using q1
      clear hbad
      go_wp2_with fail
      refine (HRJ.out _ k).mono ?_
      rintro e WQ ⟨rfl, hg⟩
      replace a0 := hg.cell a0
      replace a1 := hg.cell a1
      replace n0 := hg.cell n0
      replace n1 := hg.cell n1
      replace x0 := hg.cell x0
      replace x1 := hg.cell x1
      replace g := g.trans hg
      replace k := k.trans hg
      clear hg
      go_wp2_with fail
      refine (HCJ.out _ g).mono ?_
      rintro e WR ⟨rfl, hg⟩
      replace a0 := hg.cell a0
      replace a1 := hg.cell a1
      replace n0 := hg.cell n0
      replace n1 := hg.cell n1
      replace x0 := hg.cell x0
      replace x1 := hg.cell x1
      replace g := g.trans hg
      replace k := k.trans hg
      clear hg
      go_wp2_with fail
      refine (HSV.out _ g).mono ?_
      rintro e WS ⟨rfl, hg⟩
      replace a0 := hg.cell a0
      replace a1 := hg.cell a1
      replace n0 := hg.cell n0
      replace n1 := hg.cell n1
      replace x0 := hg.cell x0
      replace x1 := hg.cell x1
      replace g := g.trans hg
      replace k := k.trans hg
      clear hg
      go_wp2_with fail
      refine (whenJ_c true 10 _).mono ?_
      rintro e w4 ⟨rfl, rfl⟩
      go_wp2_with fail
      obtain ⟨WB, hWB, gB, s0, s1⟩ := box2 WS (.int .i64 bad) (.int .i64 10) 3
      (try rw [hWB])
      clear hWB
      replace a0 := gB.cell a0
      replace a1 := gB.cell a1
      replace n0 := gB.cell n0
      replace n1 := gB.cell n1
      replace x0 := gB.cell x0
      replace x1 := gB.cell x1
      replace g := g.trans gB
      replace k := k.trans gB
      refine (HFT.out _ _ _ s0 s1).mono ?_
      rintro e w4 ⟨rfl, rfl⟩
      go_wp2_with fail
      refine (HTR.out _).mono ?_
      rintro e w4 ⟨rfl, rfl⟩
      go_wp2_with fail
      refine (HAP.out _ g).mono ?_
      rintro e W8 ⟨rfl, hg⟩
      go_wp2_with fail
      go_ret
      exact ⟨by first | rfl | simp, g.trans hg⟩
    by_cases hB : (on : Int) ≤ i1
    · have hsv : srvE os ps i1 i2 = juryE os ps := by
        rw [srvE_eq, firstE, if_neg hbad]
        skip
      have HSV := Lib.hid (serves_bad' os ps (.slice po on co) (.slice pp pn cp) i1 i2 w HO9.out HP9.out (by rw [hsv]; exact hbad))
      rw [hsv] at HSV
      clear hsv
      have HFT := Lib.hid (fun b c W (h1 : W.cell? ⟨b, 0, none⟩ = some (.int .i64 (juryE os ps))) h2 => lawFirstJ_two (juryE os ps) 10 b c W h1 h2)
      rw [show firstE [juryE os ps, 10] = juryE os ps from by rw [firstE, if_neg hbad]] at HFT
      have HTR := Lib.hid (fun W => truthJ_bad (juryE os ps) false hbad W)
      generalize juryE os ps = bad at *
      have q1 : (bad == 0) = false := by simpa using hbad
      have q2 : (bad != 0) = true := by simpa [bne] using q1
      clear hbad
      have hA : (0 : Int) ≤ i1 := by omega
      go_wp2_with fail
      refine (HRJ.out _ k).mono ?_
      rintro e WQ ⟨rfl, hg⟩
      replace a0 := hg.cell a0
      replace a1 := hg.cell a1
      replace n0 := hg.cell n0
      replace n1 := hg.cell n1
      replace x0 := hg.cell x0
      replace x1 := hg.cell x1
      replace g := g.trans hg
      replace k := k.trans hg
      clear hg
      go_wp2_with fail
      refine (HCJ.out _ g).mono ?_
      rintro e WR ⟨rfl, hg⟩
      replace a0 := hg.cell a0
      replace a1 := hg.cell a1
      replace n0 := hg.cell n0
      replace n1 := hg.cell n1
      replace x0 := hg.cell x0
      replace x1 := hg.cell x1
      replace g := g.trans hg
      replace k := k.trans hg
      clear hg
      go_wp2_with fail
      refine (HSV.out _ g).mono ?_
      rintro e WS ⟨rfl, hg⟩
      replace a0 := hg.cell a0
      replace a1 := hg.cell a1
      replace n0 := hg.cell n0
      replace n1 := hg.cell n1
      replace x0 := hg.cell x0
      replace x1 := hg.cell x1
      replace g := g.trans hg
      replace k := k.trans hg
      clear hg
      go_wp2_with fail
      refine (whenJ_c true 10 _).mono ?_
      rintro e w4 ⟨rfl, rfl⟩
      go_wp2_with fail
      obtain ⟨WB, hWB, gB, s0, s1⟩ := box2 WS (.int .i64 bad) (.int .i64 10) 3
      (try rw [hWB])
      clear hWB
      replace a0 := gB.cell a0
      replace a1 := gB.cell a1
      replace n0 := gB.cell n0
      replace n1 := gB.cell n1
      replace x0 := gB.cell x0
      replace x1 := gB.cell x1
      replace g := g.trans gB
      replace k := k.trans gB
      refine (HFT.out _ _ _ s0 s1).mono ?_
      rintro e w4 ⟨rfl, rfl⟩
      go_wp2_with fail
      refine (HTR.out _).mono ?_
      rintro e w4 ⟨rfl, rfl⟩
      go_wp2_with fail
      refine (HAP.out _ g).mono ?_
      rintro e W8 ⟨rfl, hg⟩
      go_wp2_with fail
      go_ret
      exact ⟨by first | rfl | simp, g.trans hg⟩
    by_cases hC : i2 < 0
    · have hsv : srvE os ps i1 i2 = juryE os ps := by
        rw [srvE_eq, firstE, if_neg hbad]
        skip
      have HSV := Lib.hid (serves_bad' os ps (.slice po on co) (.slice pp pn cp) i1 i2 w HO9.out HP9.out (by rw [hsv]; exact hbad))
      rw [hsv] at HSV
      clear hsv
      have HFT := Lib.hid (fun b c W (h1 : W.cell? ⟨b, 0, none⟩ = some (.int .i64 (juryE os ps))) h2 => lawFirstJ_two (juryE os ps) 10 b c W h1 h2)
      rw [show firstE [juryE os ps, 10] = juryE os ps from by rw [firstE, if_neg hbad]] at HFT
      have HTR := Lib.hid (fun W => truthJ_bad (juryE os ps) false hbad W)
      generalize juryE os ps = bad at *
      have q1 : (bad == 0) = false := by simpa using hbad
      have q2 : (bad != 0) = true := by simpa [bne] using q1
      clear hbad
      have hA : (0 : Int) ≤ i1 := by omega
      have hB : i1 < (on : Int) := by omega
      go_wp2_with fail
      refine (HRJ.out _ k).mono ?_
      rintro e WQ ⟨rfl, hg⟩
      replace a0 := hg.cell a0
      replace a1 := hg.cell a1
      replace n0 := hg.cell n0
      replace n1 := hg.cell n1
      replace x0 := hg.cell x0
      replace x1 := hg.cell x1
      replace g := g.trans hg
      replace k := k.trans hg
      clear hg
      go_wp2_with fail
      refine (HCJ.out _ g).mono ?_
      rintro e WR ⟨rfl, hg⟩
      replace a0 := hg.cell a0
      replace a1 := hg.cell a1
      replace n0 := hg.cell n0
      replace n1 := hg.cell n1
      replace x0 := hg.cell x0
      replace x1 := hg.cell x1
      replace g := g.trans hg
      replace k := k.trans hg
      clear hg
      go_wp2_with fail
      refine (HSV.out _ g).mono ?_
      rintro e WS ⟨rfl, hg⟩
      replace a0 := hg.cell a0
      replace a1 := hg.cell a1
      replace n0 := hg.cell n0
      replace n1 := hg.cell n1
      replace x0 := hg.cell x0
      replace x1 := hg.cell x1
      replace g := g.trans hg
      replace k := k.trans hg
      clear hg
      go_wp2_with fail
      refine (whenJ_c true 10 _).mono ?_
      rintro e w4 ⟨rfl, rfl⟩
      go_wp2_with fail
      obtain ⟨WB, hWB, gB, s0, s1⟩ := box2 WS (.int .i64 bad) (.int .i64 10) 3
      (try rw [hWB])
      clear hWB
      replace a0 := gB.cell a0
      replace a1 := gB.cell a1
      replace n0 := gB.cell n0
      replace n1 := gB.cell n1
      replace x0 := gB.cell x0
      replace x1 := gB.cell x1
      replace g := g.trans gB
      replace k := k.trans gB
      refine (HFT.out _ _ _ s0 s1).mono ?_
      rintro e w4 ⟨rfl, rfl⟩
      go_wp2_with fail
      refine (HTR.out _).mono ?_
      rintro e w4 ⟨rfl, rfl⟩
      go_wp2_with fail
      refine (HAP.out _ g).mono ?_
      rintro e W8 ⟨rfl, hg⟩
      go_wp2_with fail
      go_ret
      exact ⟨by first | rfl | simp, g.trans hg⟩
    by_cases hD : (pn : Int) ≤ i2
    · have hsv : srvE os ps i1 i2 = juryE os ps := by
        rw [srvE_eq, firstE, if_neg hbad]
        skip
      have HSV := Lib.hid (serves_bad' os ps (.slice po on co) (.slice pp pn cp) i1 i2 w HO9.out HP9.out (by rw [hsv]; exact hbad))
      rw [hsv] at HSV
      clear hsv
      have HFT := Lib.hid (fun b c W (h1 : W.cell? ⟨b, 0, none⟩ = some (.int .i64 (juryE os ps))) h2 => lawFirstJ_two (juryE os ps) 10 b c W h1 h2)
      rw [show firstE [juryE os ps, 10] = juryE os ps from by rw [firstE, if_neg hbad]] at HFT
      have HTR := Lib.hid (fun W => truthJ_bad (juryE os ps) false hbad W)
      generalize juryE os ps = bad at *
      have q1 : (bad == 0) = false := by simpa using hbad
      have q2 : (bad != 0) = true := by simpa [bne] using q1
      clear hbad
      have hA : (0 : Int) ≤ i1 := by omega
      have hB : i1 < (on : Int) := by omega
      have hC : (0 : Int) ≤ i2 := by omega
      go_wp2_with fail
      refine (HRJ.out _ k).mono ?_
      rintro e WQ ⟨rfl, hg⟩
      replace a0 := hg.cell a0
      replace a1 := hg.cell a1
      replace n0 := hg.cell n0
      replace n1 := hg.cell n1
      replace x0 := hg.cell x0
      replace x1 := hg.cell x1
      replace g := g.trans hg
      replace k := k.trans hg
      clear hg
      go_wp2_with fail
      refine (HCJ.out _ g).mono ?_
      rintro e WR ⟨rfl, hg⟩
      replace a0 := hg.cell a0
      replace a1 := hg.cell a1
      replace n0 := hg.cell n0
      replace n1 := hg.cell n1
      replace x0 := hg.cell x0
      replace x1 := hg.cell x1
      replace g := g.trans hg
      replace k := k.trans hg
      clear hg
      go_wp2_with fail
      refine (HSV.out _ g).mono ?_
      rintro e WS ⟨rfl, hg⟩
      replace a0 := hg.cell a0
      replace a1 := hg.cell a1
      replace n0 := hg.cell n0
      replace n1 := hg.cell n1
      replace x0 := hg.cell x0
      replace x1 := hg.cell x1
      replace g := g.trans hg
      replace k := k.trans hg
      clear hg
      go_wp2_with fail
      refine (whenJ_c true 10 _).mono ?_
      rintro e w4 ⟨rfl, rfl⟩
      go_wp2_with fail
      obtain ⟨WB, hWB, gB, s0, s1⟩ := box2 WS (.int .i64 bad) (.int .i64 10) 3
      (try rw [hWB])
      clear hWB
      replace a0 := gB.cell a0
      replace a1 := gB.cell a1
      replace n0 := gB.cell n0
      replace n1 := gB.cell n1
      replace x0 := gB.cell x0
      replace x1 := gB.cell x1
      replace g := g.trans gB
      replace k := k.trans gB
      refine (HFT.out _ _ _ s0 s1).mono ?_
      rintro e w4 ⟨rfl, rfl⟩
      go_wp2_with fail
      refine (HTR.out _).mono ?_
      rintro e w4 ⟨rfl, rfl⟩
      go_wp2_with fail
      refine (HAP.out _ g).mono ?_
      rintro e W8 ⟨rfl, hg⟩
      go_wp2_with fail
      go_ret
      exact ⟨by first | rfl | simp, g.trans hg⟩
    have hA : (0 : Int) ≤ i1 := by omega
    have hB : i1 < (on : Int) := by omega
    have hC : (0 : Int) ≤ i2 := by omega
    have hD : i2 < (pn : Int) := by omega
    have hsv : srvE os ps i1 i2 = juryE os ps := by rw [srvE_eq, firstE, if_neg hbad]
    have HSV := Lib.hid (serves_bad' os ps (.slice po on co) (.slice pp pn cp) i1 i2 w HO9.out HP9.out (by rw [hsv]; exact hbad))
    rw [hsv] at HSV
    have HFT := Lib.hid (fun b c W (h1 : W.cell? ⟨b, 0, none⟩ = some (.int .i64 (juryE os ps))) h2 => lawFirstJ_two (juryE os ps) 0 b c W h1 h2)
    rw [show firstE [juryE os ps, 0] = juryE os ps from by rw [firstE, if_neg hbad]] at HFT
    have HTR := Lib.hid (fun W => truthJ_bad (juryE os ps) false hbad W)
    clear hsv
    generalize juryE os ps = bad at *
    have q1 : (bad == 0) = false := by simpa using hbad
    have q2 : (bad != 0) = true := by simpa [bne] using q1
    clear hbad
    go_wp2_with fail
    refine (HRJ.out _ k).mono ?_
    rintro e WQ ⟨rfl, hg⟩
    replace a0 := hg.cell a0
    replace a1 := hg.cell a1
    replace n0 := hg.cell n0
    replace n1 := hg.cell n1
    replace x0 := hg.cell x0
    replace x1 := hg.cell x1
    replace g := g.trans hg
    replace k := k.trans hg
    clear hg
    go_wp2_with fail
    refine (HCJ.out _ g).mono ?_
    rintro e WR ⟨rfl, hg⟩
    replace a0 := hg.cell a0
    replace a1 := hg.cell a1
    replace n0 := hg.cell n0
    replace n1 := hg.cell n1
    replace x0 := hg.cell x0
    replace x1 := hg.cell x1
    replace g := g.trans hg
    replace k := k.trans hg
    clear hg
    go_wp2_with fail
    refine (HSV.out _ g).mono ?_
    rintro e WS ⟨rfl, hg⟩
    replace a0 := hg.cell a0
    replace a1 := hg.cell a1
    replace n0 := hg.cell n0
    replace n1 := hg.cell n1
    replace x0 := hg.cell x0
    replace x1 := hg.cell x1
    replace g := g.trans hg
    replace k := k.trans hg
    clear hg
    go_wp2_with fail
    refine (whenJ_f _ 10 _ (by simp; omega)).mono ?_
    rintro e w4 ⟨rfl, rfl⟩
    go_wp2_with fail
    obtain ⟨WB, hWB, gB, s0, s1⟩ := box2 WS (.int .i64 bad) (.int .i64 0) 3
    (try rw [hWB])
    clear hWB
    replace a0 := gB.cell a0
    replace a1 := gB.cell a1
    replace n0 := gB.cell n0
    replace n1 := gB.cell n1
    replace x0 := gB.cell x0
    replace x1 := gB.cell x1
    replace g := g.trans gB
    replace k := k.trans gB
    refine (HFT.out _ _ _ s0 s1).mono ?_
    rintro e w4 ⟨rfl, rfl⟩
    go_wp2_with fail
    refine (HTR.out _).mono ?_
    rintro e w4 ⟨rfl, rfl⟩
    go_wp2_with fail
    refine (HAP.out _ g).mono ?_
    rintro e W8 ⟨rfl, hg⟩
    go_wp2_with fail
    go_ret
    exact ⟨by first | rfl | simp, g.trans hg⟩
end Go.Proofs.YtjojbcgppkfidaaGreat
