/- Sheets (chapter 10): the reference: CheckSheet. -/
import Derived.Test.YtnihclhhbegjhaaGreatDoorGOfG
import Derived.Test.YtnihclhhbegjhaaGreatDoorGNames
namespace Go.Proofs.YtnihclhhbegjhaaGreatDoor
open Go.RowKit Go.Lib
set_option linter.unusedSimpArgs false
set_option linter.unusedVariables false
theorem oneShE_eq (va : Int) (xs : List RowR) (i : Nat) (x : RowR) : oneShE va xs i x = if (!decide (Nm x.nm)) = true then 8 else if dupR xs i x.nm = true then 9 else if (gradeZ x.st.toList == -1) = true then 13 else if (!fitO va x) = true then 2 else valsE x.xs := by
  have hg : (!x.st.toList.isEmpty && gradeZ x.st.toList == -1) = (gradeZ x.st.toList == -1) := by
    cases he : x.st.toList.isEmpty
    · simp
    · have : x.st.toList = [] := by simpa using he
      rw [this]; rfl
  unfold oneShE nmE
  rw [hg]
  by_cases h1 : Nm x.nm <;> cases dupR xs i x.nm <;> cases gradeZ x.st.toList == -1 <;> cases fitO va x <;> by_cases hv : valsE x.xs = 0 <;> simp [firstE, h1, hv]
set_option maxHeartbeats 4000000 in
set_option maxRecDepth 100000 in
theorem refSheet_o {w : World} {xs : List RowR} {b off n cap : Nat} {ro st : ByteArray} {va : Int} (hn : xs.length = n) (h1 : n ≤ 160) (hc : ∀ i x, xs[i]? = some x → RowAt w b (off + i * 3) x) (hN : decide (Nm ro) = true) (hO : outB va 1 16 = false) (h : st.toList = [111, 112, 101, 110]) :
    Calls Tryz.prog 17 #[.agg #[.string ro, .int .i64 va, .string st, .slice (some ⟨b, off, none⟩) n cap]] w fun e w' => e = .returned (.int .i64 (errG (oneShE va xs) xs n 0)) ∧ Gr w w' := by
  have HN := Lib.hid (fun W => refIsName_c ro W)
  rw [hN] at HN
  have HO := Lib.hid (fun W => refOut10_c va 1 16 W)
  rw [hO] at HO
  have HC := Lib.hid hc
  have HNl := Lib.hid hn
  have HX := Lib.hid (fun k (h : k < n) => (show ∃ x, xs[k]? = some x from ⟨xs[k]'(by omega), List.getElem?_eq_getElem _⟩))
  have HS := Lib.hid (fun i x (hi : i < n) (h : xs[i]? = some x) => errG_step (E := oneShE va xs) hi h)
  have HE : Hid (errG (oneShE va xs) xs 0 n = 0) := rfl
  have hz2 : decide ((160 : Int) < n) = false := decide_eq_false (by omega)
  obtain ⟨W, hW, gW, s0, s1, s2, s3⟩ := box4 w (.string ro) (.int .i64 va) (.string st) (.slice (some ⟨b, off, none⟩) n cap) 32
  have HW := Lib.hid hW
  clear hW hc hn hN hO
  generalize errG (oneShE va xs) xs = R at *
  go_enter Tryz.func17, Tryz.ntmps17
  go_wp2_with fail
  rw [HW.out]
  clear HW
  generalize w.heap.size = L at *
  go_wp2_with fail
  refine (HN.out _).mono ?_
  rintro e w4 ⟨rfl, rfl⟩
  go_wp2_with fail
  refine (HO.out _).mono ?_
  rintro e w4 ⟨rfl, rfl⟩
  go_wp2_with fail
  go_loopg [3] n (fun gk s3' wr => ∃ i : Nat, s3' = .int .i64 i ∧ gk + i = n ∧ Gr W wr ∧ Hid (R (n - i) i = R n 0))
  case atStart => exact ⟨0, rfl, by omega, Gr.refl _, by simp [Hid]⟩
  case round =>
    obtain ⟨i, rfl, hi, hg, HF⟩ := hrel
    by_cases hlt : i < n
    · obtain ⟨x, hx⟩ := HX.out i hlt
      obtain ⟨y0, y1, y2, hv, hxl⟩ := (HC.out i x hx).gr (gW.trans hg)
      have hst := HS.out i x hlt hx
      have hone := oneShE_eq va xs i x
      have hi2 : (i : Int) < n := by omega
      obtain ⟨⟨pu, cu, hu, hhv⟩⟩ := id hv
      rw [hu] at y2
      have c0 := cell_new wr #[.string x.nm, .string x.st, .slice pu x.xs.length cu] 91 0 (by simp)
      have c1 := cell_new wr #[.string x.nm, .string x.st, .slice pu x.xs.length cu] 91 1 (by simp)
      have c2 := cell_new wr #[.string x.nm, .string x.st, .slice pu x.xs.length cu] 91 2 (by simp)
      simp only [List.getElem_toArray, List.getElem_cons_zero, List.getElem_cons_succ] at c0 c1 c2
      have g : Gr wr (wr.alloc (.cells #[.string x.nm, .string x.st, .slice pu x.xs.length cu] 91)) := (Gr.refl wr).alloc _
      have r0 := hg.cell s0
      have r1 := hg.cell s1
      have r2 := hg.cell s2
      have r3 := hg.cell s3
      have s0 := g.cell r0
      have s1 := g.cell r1
      have s2 := g.cell r2
      have s3 := g.cell r3
      have HNx := Lib.hid (fun W => refIsName_c x.nm W)
      have HCl := Lib.hid (fun (W' : World) (k : Gr wr W') => refClimber_pos xs n b off cap ro st va x.nm W' (by rw [HNl.out]; exact Nat.le_refl _) (by omega) (fun i x hx => (HC.out i x hx).gr (gW.trans (hg.trans k))))
      have hdup := firstP_dup (n := n) (by rw [HNl.out]; exact Nat.le_refl _) hlt hx
      have HGr := Lib.hid hg
      have HHV := Lib.hid hhv
      have HCs := Lib.hid (fun (W' : World) (k : Gr wr W') => refClass_c x.st W')
      have hneg := gradeZ_neg10 x.st.toList
      have HDrop := Lib.hid (fun k z (h : x.xs[k]? = some z) => valsE_drop h)
      generalize hfp : firstP (isNm x.nm) xs n 0 = fz at *
      generalize hgz : gradeZ x.st.toList = gz at *
      generalize hdR : dupR xs i x.nm = dB at *
      clear hx hv hu hhv hg hfp hdR
      rw [hone] at hst
      clear hone
      cases hnm : decide (Nm x.nm)
      · rw [hnm] at hst HNx
        have HQ : Hid (R n 0 = 8) := by unfold Hid; rw [← HF.out, hst]; rfl
        clear hst HDrop HCs HCl hneg hdup HHV
        generalize x.xs.length = xn at *
        go_wp2_with fail
        refine (HNx.out _).mono ?_
        rintro e w4 ⟨rfl, rfl⟩
        go_wp2_with fail
        go_ret
        exact ⟨by rw [HQ.out]; rfl, (gW.trans HGr.out).trans g⟩
      rw [hnm] at hst HNx
      cases hd : dB
      case true =>
        rw [hd] at hst hdup
        have hlt3 : fz < (i : Int) := of_decide_eq_true hdup
        have HQ : Hid (R n 0 = 9) := by unfold Hid; rw [← HF.out, hst]; rfl
        clear hst HDrop HCs hneg hdup HHV
        generalize x.xs.length = xn at *
        go_wp2_with fail
        refine (HNx.out _).mono ?_
        rintro e w4 ⟨rfl, rfl⟩
        go_wp2_with fail
        refine (HCl.out _ g).mono ?_
        rintro e w5 ⟨rfl, hg⟩
        replace c0 := hg.cell c0
        replace c1 := hg.cell c1
        replace c2 := hg.cell c2
        replace s0 := hg.cell s0
        replace s1 := hg.cell s1
        replace s2 := hg.cell s2
        replace s3 := hg.cell s3
        replace g := g.trans hg
        clear hg
        go_wp2_with fail
        go_ret
        exact ⟨by rw [HQ.out]; rfl, (gW.trans HGr.out).trans g⟩
      rw [hd] at hst hdup
      have hlt3 : ¬ fz < (i : Int) := of_decide_eq_false hdup
      clear hdup
      cases hgr : gz == -1
      case true =>
        rw [hgr] at hst hneg
        have hz3 : gz < 0 := of_decide_eq_true hneg
        have HQ : Hid (R n 0 = 13) := by unfold Hid; rw [← HF.out, hst]; rfl
        clear hst HDrop hneg HHV hgr
        generalize x.xs.length = xn at *
        go_wp2_with fail
        refine (HNx.out _).mono ?_
        rintro e w4 ⟨rfl, rfl⟩
        go_wp2_with fail
        refine (HCl.out _ g).mono ?_
        rintro e w5 ⟨rfl, hg⟩
        replace c0 := hg.cell c0
        replace c1 := hg.cell c1
        replace c2 := hg.cell c2
        replace s0 := hg.cell s0
        replace s1 := hg.cell s1
        replace s2 := hg.cell s2
        replace s3 := hg.cell s3
        replace g := g.trans hg
        clear hg
        go_wp2_with fail
        refine (HCs.out _ g).mono ?_
        rintro e w6 ⟨rfl, hg⟩
        replace c0 := hg.cell c0
        replace c1 := hg.cell c1
        replace c2 := hg.cell c2
        replace s0 := hg.cell s0
        replace s1 := hg.cell s1
        replace s2 := hg.cell s2
        replace s3 := hg.cell s3
        replace g := g.trans hg
        clear hg
        go_wp2_with fail
        go_ret
        exact ⟨by rw [HQ.out]; rfl, (gW.trans HGr.out).trans g⟩
      rw [hgr] at hst hneg
      have hz3 : ¬ gz < 0 := of_decide_eq_false hneg
      clear hneg hgr
      cases he : x.st.toList.isEmpty
      · have he2 : ¬ x.st.toList = [] := by intro q; rw [q] at he; cases he
        have hfit : fitO va x = decide (x.xs.length = 0) := by unfold fitO; rw [he]; rfl
        by_cases hl : x.xs.length = 0
        · have hf1 : fitO va x = true := by rw [hfit]; simpa using hl
          rw [hf1] at hst
          have HSt : Hid (R (n - i) i = if valsE x.xs = 0 then R (n - (i + 1)) (i + 1) else valsE x.xs) := by unfold Hid; rw [hst]; rfl
          have HF2 : Hid (R (n - (i + 1)) (i + 1) = R n 0) := by
            have hx0 : x.xs = [] := List.eq_nil_of_length_eq_zero hl
            unfold Hid; rw [← HF.out, HSt.out, hx0]; rfl
          clear hfit hf1 hst HSt HDrop HHV
          generalize x.xs.length = xn at *
          subst hl
          go_wp2_with fail
          refine (HNx.out _).mono ?_
          rintro e w4 ⟨rfl, rfl⟩
          go_wp2_with fail
          refine (HCl.out _ g).mono ?_
          rintro e w5 ⟨rfl, hg⟩
          replace c0 := hg.cell c0
          replace c1 := hg.cell c1
          replace c2 := hg.cell c2
          replace s0 := hg.cell s0
          replace s1 := hg.cell s1
          replace s2 := hg.cell s2
          replace s3 := hg.cell s3
          replace g := g.trans hg
          clear hg
          go_wp2_with fail
          refine (HCs.out _ g).mono ?_
          rintro e W6 ⟨rfl, hg⟩
          replace c0 := hg.cell c0
          replace c1 := hg.cell c1
          replace c2 := hg.cell c2
          replace s0 := hg.cell s0
          replace s1 := hg.cell s1
          replace s2 := hg.cell s2
          replace s3 := hg.cell s3
          replace g := g.trans hg
          clear hg
          go_wp2_with fail
          refine wp_loop_rounds 1 ?_
          rw [rounds_succ]
          go_wp2_with fail
          go_roundg (gk - 1)
          case measure => omega
          case rel => exact ⟨i + 1, by go_num, by omega, HGr.out.trans g, HF2.out⟩
        · have hf1 : fitO va x = false := by rw [hfit]; simpa using hl
          rw [hf1] at hst
          have HQ : Hid (R n 0 = 2) := by unfold Hid; rw [← HF.out, hst]; rfl
          clear hfit hf1 hst HDrop HHV
          have hl3 : (0 : Int) < x.xs.length := by omega
          have hl4 : decide ((0 : Int) < x.xs.length) = true := decide_eq_true hl3
          clear hl
          generalize x.xs.length = xn at *
          go_wp2_with fail
          refine (HNx.out _).mono ?_
          rintro e w4 ⟨rfl, rfl⟩
          go_wp2_with fail
          refine (HCl.out _ g).mono ?_
          rintro e w5 ⟨rfl, hg⟩
          replace c0 := hg.cell c0
          replace c1 := hg.cell c1
          replace c2 := hg.cell c2
          replace s0 := hg.cell s0
          replace s1 := hg.cell s1
          replace s2 := hg.cell s2
          replace s3 := hg.cell s3
          replace g := g.trans hg
          clear hg
          go_wp2_with fail
          refine (HCs.out _ g).mono ?_
          rintro e w6 ⟨rfl, hg⟩
          replace c0 := hg.cell c0
          replace c1 := hg.cell c1
          replace c2 := hg.cell c2
          replace s0 := hg.cell s0
          replace s1 := hg.cell s1
          replace s2 := hg.cell s2
          replace s3 := hg.cell s3
          replace g := g.trans hg
          clear hg
          go_wp2_with fail
          go_ret
          exact ⟨by rw [HQ.out]; rfl, (gW.trans HGr.out).trans g⟩
      · have he2 : x.st.toList = [] := by simpa using he
        have hfit : fitO va x = decide ((x.xs.length : Int) = va) := by unfold fitO; rw [he]; rfl
        by_cases hl : (x.xs.length : Int) = va
        · have hf1 : fitO va x = true := by rw [hfit]; simpa using hl
          rw [hf1] at hst
          have HSt : Hid (R (n - i) i = if valsE x.xs = 0 then R (n - (i + 1)) (i + 1) else valsE x.xs) := by unfold Hid; rw [hst]; rfl
          have HXX := Lib.hid (fun k (h : k < x.xs.length) => (show ∃ z, x.xs[k]? = some z from ⟨_, List.getElem?_eq_getElem h⟩))
          have HEndV := Lib.hid (fun k (h : x.xs.length ≤ k) => (show valsE (x.xs.drop k) = 0 from by rw [List.drop_of_length_le h]; rfl))
          clear hfit hf1 hst
          have hl3 : ((x.xs.length : Int) != va) = false := by simpa using hl
          clear hl
          generalize x.xs.length = xn at *
          go_wp2_with fail
          refine (HNx.out _).mono ?_
          rintro e w4 ⟨rfl, rfl⟩
          go_wp2_with fail
          refine (HCl.out _ g).mono ?_
          rintro e w5 ⟨rfl, hg⟩
          replace c0 := hg.cell c0
          replace c1 := hg.cell c1
          replace c2 := hg.cell c2
          replace s0 := hg.cell s0
          replace s1 := hg.cell s1
          replace s2 := hg.cell s2
          replace s3 := hg.cell s3
          replace g := g.trans hg
          clear hg
          go_wp2_with fail
          refine (HCs.out _ g).mono ?_
          rintro e W6 ⟨rfl, hg⟩
          replace c0 := hg.cell c0
          replace c1 := hg.cell c1
          replace c2 := hg.cell c2
          replace s0 := hg.cell s0
          replace s1 := hg.cell s1
          replace s2 := hg.cell s2
          replace s3 := hg.cell s3
          replace g := g.trans hg
          clear hg
          go_wp2_with fail
          obtain ⟨Gk, rfl⟩ : ∃ G, G = gk := ⟨_, rfl⟩
          clear s0 s1 s2 s3 r0 r1 r2 r3
          go_loopg [5] xn (fun gk2 s5 wi => ∃ k : Nat, s5 = .int .i64 k ∧ gk2 + k = xn ∧ Gr W6 wi ∧ Hid (valsE (x.xs.drop k) = valsE x.xs))
          case atStart => exact ⟨0, rfl, by omega, Gr.refl _, by simp [Hid]⟩
          case round =>
            obtain ⟨k, rfl, hk, hgi, HFv⟩ := hrel
            replace c2 := hgi.cell c2
            by_cases hkl : k < xn
            · obtain ⟨z, hz⟩ := HXX.out k hkl
              obtain ⟨bv, ov, rfl, hcv⟩ := HHV.out (by omega)
              have cv := (g.trans hgi).cell (hcv k z hz)
              have hdr := HDrop.out k z hz
              have hk2 : (k : Int) < xn := by omega
              have HOv := Lib.hid (fun W => refOut10_c z (-999999999) 999999999 W)
              have hoe : outE z (-999999999) 999999999 = if outB z (-999999999) 999999999 then 3 else 0 := rfl
              rw [hoe] at hdr
              generalize outB z (-999999999) 999999999 = oB at *
              clear hz hcv hoe HHV HXX HDrop
              cases oB
              · simp only [Bool.false_eq_true, if_false, if_true] at hdr
                have HF2 := Lib.hid hdr
                clear hdr
                go_wp2_with fail
                refine (HOv.out _).mono ?_
                rintro e w7 ⟨rfl, rfl⟩
                go_wp2_with fail
                go_roundg (gk - 1)
                case measure => omega
                case rel => exact ⟨k + 1, by go_num, by omega, hgi, by unfold Hid; rw [← HF2.out, HFv.out]⟩
              · simp only [if_true] at hdr
                have HQ : Hid (R n 0 = 3) := by unfold Hid; rw [← HF.out, HSt.out, ← HFv.out, hdr]; rfl
                clear hdr
                go_wp2_with fail
                refine (HOv.out _).mono ?_
                rintro e w7 ⟨rfl, rfl⟩
                go_wp2_with fail
                go_ret
                exact ⟨by rw [HQ.out]; rfl, (gW.trans HGr.out).trans (g.trans hgi)⟩
            · have hkl2 : ¬ (k : Int) < xn := by omega
              have hv0 : valsE x.xs = 0 := by rw [← HFv.out, HEndV.out k (by omega)]
              have HF2 : Hid (R (n - (i + 1)) (i + 1) = R n 0) := by
                unfold Hid; rw [← HF.out, HSt.out, hv0]; rfl
              clear hv0
              go_wp2_with fail
              go_roundg (Gk - 1)
              case measure => omega
              case rel => exact ⟨i + 1, by go_num, by omega, HGr.out.trans (g.trans hgi), HF2.out⟩
        · have hf1 : fitO va x = false := by rw [hfit]; simpa using hl
          rw [hf1] at hst
          have HQ : Hid (R n 0 = 2) := by unfold Hid; rw [← HF.out, hst]; rfl
          clear hfit hf1 hst HDrop HHV
          have hl3 : ((x.xs.length : Int) != va) = true := by simpa using hl
          clear hl
          generalize x.xs.length = xn at *
          go_wp2_with fail
          refine (HNx.out _).mono ?_
          rintro e w4 ⟨rfl, rfl⟩
          go_wp2_with fail
          refine (HCl.out _ g).mono ?_
          rintro e w5 ⟨rfl, hg⟩
          replace c0 := hg.cell c0
          replace c1 := hg.cell c1
          replace c2 := hg.cell c2
          replace s0 := hg.cell s0
          replace s1 := hg.cell s1
          replace s2 := hg.cell s2
          replace s3 := hg.cell s3
          replace g := g.trans hg
          clear hg
          go_wp2_with fail
          refine (HCs.out _ g).mono ?_
          rintro e w6 ⟨rfl, hg⟩
          replace c0 := hg.cell c0
          replace c1 := hg.cell c1
          replace c2 := hg.cell c2
          replace s0 := hg.cell s0
          replace s1 := hg.cell s1
          replace s2 := hg.cell s2
          replace s3 := hg.cell s3
          replace g := g.trans hg
          clear hg
          go_wp2_with fail
          go_ret
          exact ⟨by rw [HQ.out]; rfl, (gW.trans HGr.out).trans g⟩
    · have hin : i = n := by omega
      have hi2 : ¬ (i : Int) < n := by omega
      have s3 := hg.cell s3
      have HQ : Hid (R n 0 = 0) := by unfold Hid; rw [← HF.out, hin, Nat.sub_self]; exact HE.out
      go_wp2_with fail
      go_ret
      exact ⟨by rw [HQ.out]; rfl, gW.trans hg⟩
set_option maxHeartbeats 4000000 in
set_option maxRecDepth 100000 in
theorem refSheet_c {w : World} {xs : List RowR} {b off n cap : Nat} {ro st : ByteArray} {va : Int} (hn : xs.length = n) (h1 : n ≤ 160) (hc : ∀ i x, xs[i]? = some x → RowAt w b (off + i * 3) x) (hN : decide (Nm ro) = true) (hO : outB va 1 16 = false) (h : st.toList = [99, 108, 111, 115, 101, 100]) (hq1 : (st.toList == [111, 112, 101, 110]) = false) :
    Calls Tryz.prog 17 #[.agg #[.string ro, .int .i64 va, .string st, .slice (some ⟨b, off, none⟩) n cap]] w fun e w' => e = .returned (.int .i64 (errG (oneShE va xs) xs n 0)) ∧ Gr w w' := by
  have HN := Lib.hid (fun W => refIsName_c ro W)
  rw [hN] at HN
  have HO := Lib.hid (fun W => refOut10_c va 1 16 W)
  rw [hO] at HO
  have HC := Lib.hid hc
  have HNl := Lib.hid hn
  have HX := Lib.hid (fun k (h : k < n) => (show ∃ x, xs[k]? = some x from ⟨xs[k]'(by omega), List.getElem?_eq_getElem _⟩))
  have HS := Lib.hid (fun i x (hi : i < n) (h : xs[i]? = some x) => errG_step (E := oneShE va xs) hi h)
  have HE : Hid (errG (oneShE va xs) xs 0 n = 0) := rfl
  have hz2 : decide ((160 : Int) < n) = false := decide_eq_false (by omega)
  obtain ⟨W, hW, gW, s0, s1, s2, s3⟩ := box4 w (.string ro) (.int .i64 va) (.string st) (.slice (some ⟨b, off, none⟩) n cap) 32
  have HW := Lib.hid hW
  clear hW hc hn hN hO
  generalize errG (oneShE va xs) xs = R at *
  go_enter Tryz.func17, Tryz.ntmps17
  go_wp2_with fail
  rw [HW.out]
  clear HW
  generalize w.heap.size = L at *
  go_wp2_with fail
  refine (HN.out _).mono ?_
  rintro e w4 ⟨rfl, rfl⟩
  go_wp2_with fail
  refine (HO.out _).mono ?_
  rintro e w4 ⟨rfl, rfl⟩
  go_wp2_with fail
  go_loopg [3] n (fun gk s3' wr => ∃ i : Nat, s3' = .int .i64 i ∧ gk + i = n ∧ Gr W wr ∧ Hid (R (n - i) i = R n 0))
  case atStart => exact ⟨0, rfl, by omega, Gr.refl _, by simp [Hid]⟩
  case round =>
    obtain ⟨i, rfl, hi, hg, HF⟩ := hrel
    by_cases hlt : i < n
    · obtain ⟨x, hx⟩ := HX.out i hlt
      obtain ⟨y0, y1, y2, hv, hxl⟩ := (HC.out i x hx).gr (gW.trans hg)
      have hst := HS.out i x hlt hx
      have hone := oneShE_eq va xs i x
      have hi2 : (i : Int) < n := by omega
      obtain ⟨⟨pu, cu, hu, hhv⟩⟩ := id hv
      rw [hu] at y2
      have c0 := cell_new wr #[.string x.nm, .string x.st, .slice pu x.xs.length cu] 91 0 (by simp)
      have c1 := cell_new wr #[.string x.nm, .string x.st, .slice pu x.xs.length cu] 91 1 (by simp)
      have c2 := cell_new wr #[.string x.nm, .string x.st, .slice pu x.xs.length cu] 91 2 (by simp)
      simp only [List.getElem_toArray, List.getElem_cons_zero, List.getElem_cons_succ] at c0 c1 c2
      have g : Gr wr (wr.alloc (.cells #[.string x.nm, .string x.st, .slice pu x.xs.length cu] 91)) := (Gr.refl wr).alloc _
      have r0 := hg.cell s0
      have r1 := hg.cell s1
      have r2 := hg.cell s2
      have r3 := hg.cell s3
      have s0 := g.cell r0
      have s1 := g.cell r1
      have s2 := g.cell r2
      have s3 := g.cell r3
      have HNx := Lib.hid (fun W => refIsName_c x.nm W)
      have HCl := Lib.hid (fun (W' : World) (k : Gr wr W') => refClimber_pos xs n b off cap ro st va x.nm W' (by rw [HNl.out]; exact Nat.le_refl _) (by omega) (fun i x hx => (HC.out i x hx).gr (gW.trans (hg.trans k))))
      have hdup := firstP_dup (n := n) (by rw [HNl.out]; exact Nat.le_refl _) hlt hx
      have HGr := Lib.hid hg
      have HHV := Lib.hid hhv
      have HCs := Lib.hid (fun (W' : World) (k : Gr wr W') => refClass_c x.st W')
      have hneg := gradeZ_neg10 x.st.toList
      have HDrop := Lib.hid (fun k z (h : x.xs[k]? = some z) => valsE_drop h)
      generalize hfp : firstP (isNm x.nm) xs n 0 = fz at *
      generalize hgz : gradeZ x.st.toList = gz at *
      generalize hdR : dupR xs i x.nm = dB at *
      clear hx hv hu hhv hg hfp hdR
      rw [hone] at hst
      clear hone
      cases hnm : decide (Nm x.nm)
      · rw [hnm] at hst HNx
        have HQ : Hid (R n 0 = 8) := by unfold Hid; rw [← HF.out, hst]; rfl
        clear hst HDrop HCs HCl hneg hdup HHV
        generalize x.xs.length = xn at *
        go_wp2_with fail
        refine (HNx.out _).mono ?_
        rintro e w4 ⟨rfl, rfl⟩
        go_wp2_with fail
        go_ret
        exact ⟨by rw [HQ.out]; rfl, (gW.trans HGr.out).trans g⟩
      rw [hnm] at hst HNx
      cases hd : dB
      case true =>
        rw [hd] at hst hdup
        have hlt3 : fz < (i : Int) := of_decide_eq_true hdup
        have HQ : Hid (R n 0 = 9) := by unfold Hid; rw [← HF.out, hst]; rfl
        clear hst HDrop HCs hneg hdup HHV
        generalize x.xs.length = xn at *
        go_wp2_with fail
        refine (HNx.out _).mono ?_
        rintro e w4 ⟨rfl, rfl⟩
        go_wp2_with fail
        refine (HCl.out _ g).mono ?_
        rintro e w5 ⟨rfl, hg⟩
        replace c0 := hg.cell c0
        replace c1 := hg.cell c1
        replace c2 := hg.cell c2
        replace s0 := hg.cell s0
        replace s1 := hg.cell s1
        replace s2 := hg.cell s2
        replace s3 := hg.cell s3
        replace g := g.trans hg
        clear hg
        go_wp2_with fail
        go_ret
        exact ⟨by rw [HQ.out]; rfl, (gW.trans HGr.out).trans g⟩
      rw [hd] at hst hdup
      have hlt3 : ¬ fz < (i : Int) := of_decide_eq_false hdup
      clear hdup
      cases hgr : gz == -1
      case true =>
        rw [hgr] at hst hneg
        have hz3 : gz < 0 := of_decide_eq_true hneg
        have HQ : Hid (R n 0 = 13) := by unfold Hid; rw [← HF.out, hst]; rfl
        clear hst HDrop hneg HHV hgr
        generalize x.xs.length = xn at *
        go_wp2_with fail
        refine (HNx.out _).mono ?_
        rintro e w4 ⟨rfl, rfl⟩
        go_wp2_with fail
        refine (HCl.out _ g).mono ?_
        rintro e w5 ⟨rfl, hg⟩
        replace c0 := hg.cell c0
        replace c1 := hg.cell c1
        replace c2 := hg.cell c2
        replace s0 := hg.cell s0
        replace s1 := hg.cell s1
        replace s2 := hg.cell s2
        replace s3 := hg.cell s3
        replace g := g.trans hg
        clear hg
        go_wp2_with fail
        refine (HCs.out _ g).mono ?_
        rintro e w6 ⟨rfl, hg⟩
        replace c0 := hg.cell c0
        replace c1 := hg.cell c1
        replace c2 := hg.cell c2
        replace s0 := hg.cell s0
        replace s1 := hg.cell s1
        replace s2 := hg.cell s2
        replace s3 := hg.cell s3
        replace g := g.trans hg
        clear hg
        go_wp2_with fail
        go_ret
        exact ⟨by rw [HQ.out]; rfl, (gW.trans HGr.out).trans g⟩
      rw [hgr] at hst hneg
      have hz3 : ¬ gz < 0 := of_decide_eq_false hneg
      clear hneg hgr
      cases he : x.st.toList.isEmpty
      · have he2 : ¬ x.st.toList = [] := by intro q; rw [q] at he; cases he
        have hfit : fitO va x = decide (x.xs.length = 0) := by unfold fitO; rw [he]; rfl
        by_cases hl : x.xs.length = 0
        · have hf1 : fitO va x = true := by rw [hfit]; simpa using hl
          rw [hf1] at hst
          have HSt : Hid (R (n - i) i = if valsE x.xs = 0 then R (n - (i + 1)) (i + 1) else valsE x.xs) := by unfold Hid; rw [hst]; rfl
          have HF2 : Hid (R (n - (i + 1)) (i + 1) = R n 0) := by
            have hx0 : x.xs = [] := List.eq_nil_of_length_eq_zero hl
            unfold Hid; rw [← HF.out, HSt.out, hx0]; rfl
          clear hfit hf1 hst HSt HDrop HHV
          generalize x.xs.length = xn at *
          subst hl
          go_wp2_with fail
          refine (HNx.out _).mono ?_
          rintro e w4 ⟨rfl, rfl⟩
          go_wp2_with fail
          refine (HCl.out _ g).mono ?_
          rintro e w5 ⟨rfl, hg⟩
          replace c0 := hg.cell c0
          replace c1 := hg.cell c1
          replace c2 := hg.cell c2
          replace s0 := hg.cell s0
          replace s1 := hg.cell s1
          replace s2 := hg.cell s2
          replace s3 := hg.cell s3
          replace g := g.trans hg
          clear hg
          go_wp2_with fail
          refine (HCs.out _ g).mono ?_
          rintro e W6 ⟨rfl, hg⟩
          replace c0 := hg.cell c0
          replace c1 := hg.cell c1
          replace c2 := hg.cell c2
          replace s0 := hg.cell s0
          replace s1 := hg.cell s1
          replace s2 := hg.cell s2
          replace s3 := hg.cell s3
          replace g := g.trans hg
          clear hg
          go_wp2_with fail
          refine wp_loop_rounds 1 ?_
          rw [rounds_succ]
          go_wp2_with fail
          go_roundg (gk - 1)
          case measure => omega
          case rel => exact ⟨i + 1, by go_num, by omega, HGr.out.trans g, HF2.out⟩
        · have hf1 : fitO va x = false := by rw [hfit]; simpa using hl
          rw [hf1] at hst
          have HQ : Hid (R n 0 = 2) := by unfold Hid; rw [← HF.out, hst]; rfl
          clear hfit hf1 hst HDrop HHV
          have hl3 : (0 : Int) < x.xs.length := by omega
          have hl4 : decide ((0 : Int) < x.xs.length) = true := decide_eq_true hl3
          clear hl
          generalize x.xs.length = xn at *
          go_wp2_with fail
          refine (HNx.out _).mono ?_
          rintro e w4 ⟨rfl, rfl⟩
          go_wp2_with fail
          refine (HCl.out _ g).mono ?_
          rintro e w5 ⟨rfl, hg⟩
          replace c0 := hg.cell c0
          replace c1 := hg.cell c1
          replace c2 := hg.cell c2
          replace s0 := hg.cell s0
          replace s1 := hg.cell s1
          replace s2 := hg.cell s2
          replace s3 := hg.cell s3
          replace g := g.trans hg
          clear hg
          go_wp2_with fail
          refine (HCs.out _ g).mono ?_
          rintro e w6 ⟨rfl, hg⟩
          replace c0 := hg.cell c0
          replace c1 := hg.cell c1
          replace c2 := hg.cell c2
          replace s0 := hg.cell s0
          replace s1 := hg.cell s1
          replace s2 := hg.cell s2
          replace s3 := hg.cell s3
          replace g := g.trans hg
          clear hg
          go_wp2_with fail
          go_ret
          exact ⟨by rw [HQ.out]; rfl, (gW.trans HGr.out).trans g⟩
      · have he2 : x.st.toList = [] := by simpa using he
        have hfit : fitO va x = decide ((x.xs.length : Int) = va) := by unfold fitO; rw [he]; rfl
        by_cases hl : (x.xs.length : Int) = va
        · have hf1 : fitO va x = true := by rw [hfit]; simpa using hl
          rw [hf1] at hst
          have HSt : Hid (R (n - i) i = if valsE x.xs = 0 then R (n - (i + 1)) (i + 1) else valsE x.xs) := by unfold Hid; rw [hst]; rfl
          have HXX := Lib.hid (fun k (h : k < x.xs.length) => (show ∃ z, x.xs[k]? = some z from ⟨_, List.getElem?_eq_getElem h⟩))
          have HEndV := Lib.hid (fun k (h : x.xs.length ≤ k) => (show valsE (x.xs.drop k) = 0 from by rw [List.drop_of_length_le h]; rfl))
          clear hfit hf1 hst
          have hl3 : ((x.xs.length : Int) != va) = false := by simpa using hl
          clear hl
          generalize x.xs.length = xn at *
          go_wp2_with fail
          refine (HNx.out _).mono ?_
          rintro e w4 ⟨rfl, rfl⟩
          go_wp2_with fail
          refine (HCl.out _ g).mono ?_
          rintro e w5 ⟨rfl, hg⟩
          replace c0 := hg.cell c0
          replace c1 := hg.cell c1
          replace c2 := hg.cell c2
          replace s0 := hg.cell s0
          replace s1 := hg.cell s1
          replace s2 := hg.cell s2
          replace s3 := hg.cell s3
          replace g := g.trans hg
          clear hg
          go_wp2_with fail
          refine (HCs.out _ g).mono ?_
          rintro e W6 ⟨rfl, hg⟩
          replace c0 := hg.cell c0
          replace c1 := hg.cell c1
          replace c2 := hg.cell c2
          replace s0 := hg.cell s0
          replace s1 := hg.cell s1
          replace s2 := hg.cell s2
          replace s3 := hg.cell s3
          replace g := g.trans hg
          clear hg
          go_wp2_with fail
          obtain ⟨Gk, rfl⟩ : ∃ G, G = gk := ⟨_, rfl⟩
          clear s0 s1 s2 s3 r0 r1 r2 r3
          go_loopg [5] xn (fun gk2 s5 wi => ∃ k : Nat, s5 = .int .i64 k ∧ gk2 + k = xn ∧ Gr W6 wi ∧ Hid (valsE (x.xs.drop k) = valsE x.xs))
          case atStart => exact ⟨0, rfl, by omega, Gr.refl _, by simp [Hid]⟩
          case round =>
            obtain ⟨k, rfl, hk, hgi, HFv⟩ := hrel
            replace c2 := hgi.cell c2
            by_cases hkl : k < xn
            · obtain ⟨z, hz⟩ := HXX.out k hkl
              obtain ⟨bv, ov, rfl, hcv⟩ := HHV.out (by omega)
              have cv := (g.trans hgi).cell (hcv k z hz)
              have hdr := HDrop.out k z hz
              have hk2 : (k : Int) < xn := by omega
              have HOv := Lib.hid (fun W => refOut10_c z (-999999999) 999999999 W)
              have hoe : outE z (-999999999) 999999999 = if outB z (-999999999) 999999999 then 3 else 0 := rfl
              rw [hoe] at hdr
              generalize outB z (-999999999) 999999999 = oB at *
              clear hz hcv hoe HHV HXX HDrop
              cases oB
              · simp only [Bool.false_eq_true, if_false, if_true] at hdr
                have HF2 := Lib.hid hdr
                clear hdr
                go_wp2_with fail
                refine (HOv.out _).mono ?_
                rintro e w7 ⟨rfl, rfl⟩
                go_wp2_with fail
                go_roundg (gk - 1)
                case measure => omega
                case rel => exact ⟨k + 1, by go_num, by omega, hgi, by unfold Hid; rw [← HF2.out, HFv.out]⟩
              · simp only [if_true] at hdr
                have HQ : Hid (R n 0 = 3) := by unfold Hid; rw [← HF.out, HSt.out, ← HFv.out, hdr]; rfl
                clear hdr
                go_wp2_with fail
                refine (HOv.out _).mono ?_
                rintro e w7 ⟨rfl, rfl⟩
                go_wp2_with fail
                go_ret
                exact ⟨by rw [HQ.out]; rfl, (gW.trans HGr.out).trans (g.trans hgi)⟩
            · have hkl2 : ¬ (k : Int) < xn := by omega
              have hv0 : valsE x.xs = 0 := by rw [← HFv.out, HEndV.out k (by omega)]
              have HF2 : Hid (R (n - (i + 1)) (i + 1) = R n 0) := by
                unfold Hid; rw [← HF.out, HSt.out, hv0]; rfl
              clear hv0
              go_wp2_with fail
              go_roundg (Gk - 1)
              case measure => omega
              case rel => exact ⟨i + 1, by go_num, by omega, HGr.out.trans (g.trans hgi), HF2.out⟩
        · have hf1 : fitO va x = false := by rw [hfit]; simpa using hl
          rw [hf1] at hst
          have HQ : Hid (R n 0 = 2) := by unfold Hid; rw [← HF.out, hst]; rfl
          clear hfit hf1 hst HDrop HHV
          have hl3 : ((x.xs.length : Int) != va) = true := by simpa using hl
          clear hl
          generalize x.xs.length = xn at *
          go_wp2_with fail
          refine (HNx.out _).mono ?_
          rintro e w4 ⟨rfl, rfl⟩
          go_wp2_with fail
          refine (HCl.out _ g).mono ?_
          rintro e w5 ⟨rfl, hg⟩
          replace c0 := hg.cell c0
          replace c1 := hg.cell c1
          replace c2 := hg.cell c2
          replace s0 := hg.cell s0
          replace s1 := hg.cell s1
          replace s2 := hg.cell s2
          replace s3 := hg.cell s3
          replace g := g.trans hg
          clear hg
          go_wp2_with fail
          refine (HCs.out _ g).mono ?_
          rintro e w6 ⟨rfl, hg⟩
          replace c0 := hg.cell c0
          replace c1 := hg.cell c1
          replace c2 := hg.cell c2
          replace s0 := hg.cell s0
          replace s1 := hg.cell s1
          replace s2 := hg.cell s2
          replace s3 := hg.cell s3
          replace g := g.trans hg
          clear hg
          go_wp2_with fail
          go_ret
          exact ⟨by rw [HQ.out]; rfl, (gW.trans HGr.out).trans g⟩
    · have hin : i = n := by omega
      have hi2 : ¬ (i : Int) < n := by omega
      have s3 := hg.cell s3
      have HQ : Hid (R n 0 = 0) := by unfold Hid; rw [← HF.out, hin, Nat.sub_self]; exact HE.out
      go_wp2_with fail
      go_ret
      exact ⟨by rw [HQ.out]; rfl, gW.trans hg⟩
set_option maxHeartbeats 4000000 in
set_option maxRecDepth 100000 in
theorem refSheet0_o {w : World} {p : Option Addr} {cap : Nat} {ro st : ByteArray} {va : Int} (hN : decide (Nm ro) = true) (hO : outB va 1 16 = false) (h : st.toList = [111, 112, 101, 110]) :
    Calls Tryz.prog 17 #[.agg #[.string ro, .int .i64 va, .string st, .slice p 0 cap]] w fun e w' => e = .returned (.int .i64 0) ∧ Gr w w' := by
  have HN := Lib.hid (fun W => refIsName_c ro W)
  rw [hN] at HN
  have HO := Lib.hid (fun W => refOut10_c va 1 16 W)
  rw [hO] at HO
  obtain ⟨W, hW, gW, s0, s1, s2, s3⟩ := box4 w (.string ro) (.int .i64 va) (.string st) (.slice p 0 cap) 32
  have HW := Lib.hid hW
  clear hW hN hO
  go_enter Tryz.func17, Tryz.ntmps17
  go_wp2_with fail
  rw [HW.out]
  clear HW
  generalize w.heap.size = L at *
  go_wp2_with fail
  refine (HN.out _).mono ?_
  rintro e w4 ⟨rfl, rfl⟩
  go_wp2_with fail
  refine (HO.out _).mono ?_
  rintro e w4 ⟨rfl, rfl⟩
  go_wp2_with fail
  refine wp_loop_rounds 1 ?_
  rw [rounds_succ]
  go_wp2_with fail
  go_ret
  exact ⟨rfl, gW⟩
set_option maxHeartbeats 4000000 in
set_option maxRecDepth 100000 in
theorem refSheet0_c {w : World} {p : Option Addr} {cap : Nat} {ro st : ByteArray} {va : Int} (hN : decide (Nm ro) = true) (hO : outB va 1 16 = false) (h : st.toList = [99, 108, 111, 115, 101, 100]) (hq1 : (st.toList == [111, 112, 101, 110]) = false) :
    Calls Tryz.prog 17 #[.agg #[.string ro, .int .i64 va, .string st, .slice p 0 cap]] w fun e w' => e = .returned (.int .i64 0) ∧ Gr w w' := by
  have HN := Lib.hid (fun W => refIsName_c ro W)
  rw [hN] at HN
  have HO := Lib.hid (fun W => refOut10_c va 1 16 W)
  rw [hO] at HO
  obtain ⟨W, hW, gW, s0, s1, s2, s3⟩ := box4 w (.string ro) (.int .i64 va) (.string st) (.slice p 0 cap) 32
  have HW := Lib.hid hW
  clear hW hN hO
  go_enter Tryz.func17, Tryz.ntmps17
  go_wp2_with fail
  rw [HW.out]
  clear HW
  generalize w.heap.size = L at *
  go_wp2_with fail
  refine (HN.out _).mono ?_
  rintro e w4 ⟨rfl, rfl⟩
  go_wp2_with fail
  refine (HO.out _).mono ?_
  rintro e w4 ⟨rfl, rfl⟩
  go_wp2_with fail
  refine wp_loop_rounds 1 ?_
  rw [rounds_succ]
  go_wp2_with fail
  go_ret
  exact ⟨rfl, gW⟩
set_option maxHeartbeats 4000000 in
set_option maxRecDepth 100000 in
theorem refSheet_e8 {w : World} {p : Option Addr} {n cap : Nat} {ro st : ByteArray} {va : Int} (hN : decide (Nm ro) = false) :
    Calls Tryz.prog 17 #[.agg #[.string ro, .int .i64 va, .string st, .slice p n cap]] w fun e w' => e = .returned (.int .i64 8) ∧ Gr w w' := by
  have HN := Lib.hid (fun W => refIsName_c ro W)
  rw [hN] at HN
  obtain ⟨W, hW, gW, s0, s1, s2, s3⟩ := box4 w (.string ro) (.int .i64 va) (.string st) (.slice p n cap) 32
  have HW := Lib.hid hW
  clear hW hN
  go_enter Tryz.func17, Tryz.ntmps17
  go_wp2_with fail
  rw [HW.out]
  clear HW
  generalize w.heap.size = L at *
  go_wp2_with fail
  refine (HN.out _).mono ?_
  rintro e w4 ⟨rfl, rfl⟩
  go_wp2_with fail
  go_ret
  exact ⟨rfl, gW⟩
set_option maxHeartbeats 4000000 in
set_option maxRecDepth 100000 in
theorem refSheet_e3 {w : World} {p : Option Addr} {n cap : Nat} {ro st : ByteArray} {va : Int} (hN : decide (Nm ro) = true) (hO : outB va 1 16 = true) :
    Calls Tryz.prog 17 #[.agg #[.string ro, .int .i64 va, .string st, .slice p n cap]] w fun e w' => e = .returned (.int .i64 3) ∧ Gr w w' := by
  have HN := Lib.hid (fun W => refIsName_c ro W)
  rw [hN] at HN
  have HO := Lib.hid (fun W => refOut10_c va 1 16 W)
  rw [hO] at HO
  obtain ⟨W, hW, gW, s0, s1, s2, s3⟩ := box4 w (.string ro) (.int .i64 va) (.string st) (.slice p n cap) 32
  have HW := Lib.hid hW
  clear hW hN hO
  go_enter Tryz.func17, Tryz.ntmps17
  go_wp2_with fail
  rw [HW.out]
  clear HW
  generalize w.heap.size = L at *
  go_wp2_with fail
  refine (HN.out _).mono ?_
  rintro e w4 ⟨rfl, rfl⟩
  go_wp2_with fail
  refine (HO.out _).mono ?_
  rintro e w4 ⟨rfl, rfl⟩
  go_wp2_with fail
  go_ret
  exact ⟨rfl, gW⟩
set_option maxHeartbeats 4000000 in
set_option maxRecDepth 100000 in
theorem refSheet_e13 {w : World} {p : Option Addr} {n cap : Nat} {ro st : ByteArray} {va : Int} (hN : decide (Nm ro) = true) (hO : outB va 1 16 = false) (hq1 : (st.toList == [111, 112, 101, 110]) = false) (hq2 : (st.toList == [99, 108, 111, 115, 101, 100]) = false) :
    Calls Tryz.prog 17 #[.agg #[.string ro, .int .i64 va, .string st, .slice p n cap]] w fun e w' => e = .returned (.int .i64 13) ∧ Gr w w' := by
  have HN := Lib.hid (fun W => refIsName_c ro W)
  rw [hN] at HN
  have HO := Lib.hid (fun W => refOut10_c va 1 16 W)
  rw [hO] at HO
  obtain ⟨W, hW, gW, s0, s1, s2, s3⟩ := box4 w (.string ro) (.int .i64 va) (.string st) (.slice p n cap) 32
  have HW := Lib.hid hW
  clear hW hN hO
  go_enter Tryz.func17, Tryz.ntmps17
  go_wp2_with fail
  rw [HW.out]
  clear HW
  generalize w.heap.size = L at *
  go_wp2_with fail
  refine (HN.out _).mono ?_
  rintro e w4 ⟨rfl, rfl⟩
  go_wp2_with fail
  refine (HO.out _).mono ?_
  rintro e w4 ⟨rfl, rfl⟩
  go_wp2_with fail
  go_ret
  exact ⟨rfl, gW⟩
set_option maxHeartbeats 4000000 in
set_option maxRecDepth 100000 in
theorem refSheet_e5o {w : World} {p : Option Addr} {n cap : Nat} {ro st : ByteArray} {va : Int} (hN : decide (Nm ro) = true) (hO : outB va 1 16 = false) (h : st.toList = [111, 112, 101, 110]) (hm : decide ((160 : Int) < n) = true) :
    Calls Tryz.prog 17 #[.agg #[.string ro, .int .i64 va, .string st, .slice p n cap]] w fun e w' => e = .returned (.int .i64 5) ∧ Gr w w' := by
  have HN := Lib.hid (fun W => refIsName_c ro W)
  rw [hN] at HN
  have HO := Lib.hid (fun W => refOut10_c va 1 16 W)
  rw [hO] at HO
  obtain ⟨W, hW, gW, s0, s1, s2, s3⟩ := box4 w (.string ro) (.int .i64 va) (.string st) (.slice p n cap) 32
  have HW := Lib.hid hW
  clear hW hN hO
  go_enter Tryz.func17, Tryz.ntmps17
  go_wp2_with fail
  rw [HW.out]
  clear HW
  generalize w.heap.size = L at *
  go_wp2_with fail
  refine (HN.out _).mono ?_
  rintro e w4 ⟨rfl, rfl⟩
  go_wp2_with fail
  refine (HO.out _).mono ?_
  rintro e w4 ⟨rfl, rfl⟩
  go_wp2_with fail
  go_ret
  exact ⟨rfl, gW⟩
set_option maxHeartbeats 4000000 in
set_option maxRecDepth 100000 in
theorem refSheet_e5c {w : World} {p : Option Addr} {n cap : Nat} {ro st : ByteArray} {va : Int} (hN : decide (Nm ro) = true) (hO : outB va 1 16 = false) (h : st.toList = [99, 108, 111, 115, 101, 100]) (hq1 : (st.toList == [111, 112, 101, 110]) = false) (hm : decide ((160 : Int) < n) = true) :
    Calls Tryz.prog 17 #[.agg #[.string ro, .int .i64 va, .string st, .slice p n cap]] w fun e w' => e = .returned (.int .i64 5) ∧ Gr w w' := by
  have HN := Lib.hid (fun W => refIsName_c ro W)
  rw [hN] at HN
  have HO := Lib.hid (fun W => refOut10_c va 1 16 W)
  rw [hO] at HO
  obtain ⟨W, hW, gW, s0, s1, s2, s3⟩ := box4 w (.string ro) (.int .i64 va) (.string st) (.slice p n cap) 32
  have HW := Lib.hid hW
  clear hW hN hO
  go_enter Tryz.func17, Tryz.ntmps17
  go_wp2_with fail
  rw [HW.out]
  clear HW
  generalize w.heap.size = L at *
  go_wp2_with fail
  refine (HN.out _).mono ?_
  rintro e w4 ⟨rfl, rfl⟩
  go_wp2_with fail
  refine (HO.out _).mono ?_
  rintro e w4 ⟨rfl, rfl⟩
  go_wp2_with fail
  go_ret
  exact ⟨rfl, gW⟩
theorem headE_eq (ro : ByteArray) (va : Int) (st : ByteArray) (n : Nat) : headE ro va st n = if decide (Nm ro) = true then (if outB va 1 16 = true then 3 else if isOC st = true then 13 else if decide ((160 : Int) < n) = true then 5 else 0) else 8 := by
  unfold headE nmE outE
  by_cases h1 : Nm ro <;> cases outB va 1 16 <;> cases isOC st <;> by_cases h4 : (160 : Int) < n <;> simp [firstE, h1, h4]
theorem refSheet_all {w : World} {xs : List RowR} {p : Option Addr} {n cap : Nat} (ro st : ByteArray) (va : Int) (hv : RowsV w (.slice p n cap) xs) :
    Calls Tryz.prog 17 #[.agg #[.string ro, .int .i64 va, .string st, .slice p n cap]] w fun e w' => e = .returned (.int .i64 (sheetE ro va st xs)) ∧ Gr w w' := by
  obtain ⟨hn, hcap, hh⟩ := hv.atO
  have hS : sheetE ro va st xs = if headE ro va st n = 0 then errG (oneShE va xs) xs n 0 else headE ro va st n := by unfold sheetE; rw [hn]
  rw [headE_eq] at hS
  cases hN : decide (Nm ro)
  · rw [hN] at hS
    rw [show sheetE ro va st xs = 8 from hS]
    exact refSheet_e8 hN
  rw [hN] at hS
  cases hO : outB va 1 16
  case true =>
    rw [hO] at hS
    rw [show sheetE ro va st xs = 3 from hS]
    exact refSheet_e3 hN hO
  rw [hO] at hS
  have key : (st.toList = [111, 112, 101, 110]) ∨ ((st.toList == [111, 112, 101, 110]) = false ∧ st.toList = [99, 108, 111, 115, 101, 100]) ∨ ((st.toList == [111, 112, 101, 110]) = false ∧ (st.toList == [99, 108, 111, 115, 101, 100]) = false) := by
    by_cases h : st.toList = [111, 112, 101, 110]
    · exact .inl h
    by_cases h2 : st.toList = [99, 108, 111, 115, 101, 100]
    · exact .inr (.inl ⟨by simpa using h, h2⟩)
    · exact .inr (.inr ⟨by simpa using h, by simpa using h2⟩)
  rcases key with h | ⟨hq1, h⟩ | ⟨hq1, hq2⟩
  · have hoc : isOC st = false := by unfold isOC; rw [h]; rfl
    rw [hoc] at hS
    cases hm : decide ((160 : Int) < n)
    · rw [hm] at hS
      rw [show sheetE ro va st xs = errG (oneShE va xs) xs n 0 from hS]
      have h160 : n ≤ 160 := by have := of_decide_eq_false hm; omega
      by_cases h0 : 0 < n
      · obtain ⟨b, off, rfl, hc⟩ := hh h0
        exact refSheet_o hn h160 hc hN hO h
      · obtain rfl : n = 0 := by omega
        exact refSheet0_o hN hO h
    · rw [hm] at hS
      rw [show sheetE ro va st xs = 5 from hS]
      exact refSheet_e5o hN hO h hm
  · have hoc : isOC st = false := by unfold isOC; rw [h]; rfl
    rw [hoc] at hS
    cases hm : decide ((160 : Int) < n)
    · rw [hm] at hS
      rw [show sheetE ro va st xs = errG (oneShE va xs) xs n 0 from hS]
      have h160 : n ≤ 160 := by have := of_decide_eq_false hm; omega
      by_cases h0 : 0 < n
      · obtain ⟨b, off, rfl, hc⟩ := hh h0
        exact refSheet_c hn h160 hc hN hO h hq1
      · obtain rfl : n = 0 := by omega
        exact refSheet0_c hN hO h hq1
    · rw [hm] at hS
      rw [show sheetE ro va st xs = 5 from hS]
      exact refSheet_e5c hN hO h hq1 hm
  · have hoc : isOC st = true := by unfold isOC; rw [hq1, hq2]; rfl
    rw [hoc] at hS
    rw [show sheetE ro va st xs = 13 from hS]
    exact refSheet_e13 hN hO hq1 hq2
end Go.Proofs.YtnihclhhbegjhaaGreatDoor
