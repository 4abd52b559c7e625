/- MemberAges: the law, walked. -/
import Derived.Test.YtmlmbgifkmkmgaaGreatMbT
import Derived.Test.YtmlmbgifkmkmgaaGreatMbS
namespace Go.Proofs.YtmlmbgifkmkmgaaGreat
open Go.RowKit Go.Lib
set_option linter.unusedSimpArgs false
set_option linter.unusedVariables false
theorem cli_first {w : World} {p : Option Addr} {n cap : Nat} {cs : List CliR} (h : CliAts w (.slice p n cap) cs) (hn : 0 < n) : ∃ b off x, p = some ⟨b, off, none⟩ ∧ cs[0]? = some x ∧ CliAt w b off x := by
  obtain ⟨⟨p', cap', e, _, hh⟩⟩ := h
  simp only [Value.slice.injEq] at e
  obtain ⟨rfl, rfl, rfl⟩ := e
  obtain ⟨b, off, rfl, hc⟩ := hh hn
  have hx : cs[0]? = some cs[0] := List.getElem?_eq_getElem hn
  exact ⟨b, off, cs[0], rfl, hx, by simpa using hc 0 _ hx⟩
set_option maxHeartbeats 4000000 in
set_option maxRecDepth 100000 in
theorem lawAges_c (cs : List CliR) (xs : List CatR) (vc v : Value) (day : Int) (w : World) (hc : CliAts w vc cs) (hv : CatAts w v xs) (hb : xs.length * 32 ≤ 140737488355328) (hA : AwakeOK w) :
    Calls Tryz.prog 3 #[vc, v, .int .i64 day] w fun e w' => e = .returned (.bool true) ∧ Gr w w' := by
  have HA := Lib.hid hA
  have HCv := Lib.hid (cats_c hv hb)
  have HV := Lib.hid hv
  have HC := Lib.hid hc
  obtain ⟨p, n, cap, rfl, hn⟩ : ∃ p n cap, v = .slice p n cap ∧ n = xs.length := by
    obtain ⟨⟨p, cap, rfl, _⟩⟩ := hv
    exact ⟨p, _, cap, rfl, rfl⟩
  obtain ⟨pc, nc, capc, rfl⟩ : ∃ p n cap, vc = .slice p n cap := by
    obtain ⟨⟨p, cap, rfl, _⟩⟩ := hc
    exact ⟨p, _, cap, rfl⟩
  have HN := Lib.hid hn
  clear hA hv hb hn hc
  go_enter Tryz.func3, Tryz.ntmps3
  go_wp2_with fail
  refine HCv.out.mono ?_
  rintro e W1 ⟨u, rfl, hu, g⟩
  have HU := Lib.hid hu
  clear hu
  go_wp2_with fail
  refine (HA.out _ g).mono ?_
  rintro e W2 ⟨rfl, hg⟩
  replace g := g.trans hg
  replace HU := Lib.hid (HU.out.gr hg)
  clear hg
  go_wp2_with fail
  refine (shortClis_c (HC.out.gr g)).mono ?_
  rintro e W2' ⟨⟨r, rfl, hr⟩, rfl⟩
  clear hr
  cases r
  · go_wp2_with fail
    refine (HA.out _ g).mono ?_
    rintro e W4 ⟨rfl, g4⟩
    go_wp2_with fail
    go_ret
    exact ⟨rfl, g.trans g4⟩
  go_wp2_with fail
  refine (shortCats_c HU.out).mono ?_
  rintro e W2' ⟨⟨r, rfl, hr⟩, rfl⟩
  have HR := Lib.hid hr
  clear hr
  cases r
  · go_wp2_with fail
    refine (HA.out _ g).mono ?_
    rintro e W4 ⟨rfl, g4⟩
    go_wp2_with fail
    go_ret
    exact ⟨rfl, g.trans g4⟩
  have hlen := HR.out rfl
  have HL9 := Lib.hid hlen
  clear hlen HR
  go_wp2_with fail
  refine (refCats_c HU.out).mono ?_
  rintro e W3 ⟨rfl, hg⟩
  replace g := g.trans hg
  replace HU := Lib.hid (HU.out.gr hg)
  clear hg
  have HZ1 := Lib.hid (fun W (gg : Gr w W) => checkCats_c xs _ W (HV.out.gr gg))
  have HGB := Lib.hid (fun W (gg : Gr w W) (h : listE 256 (catE xs) xs ≠ 0) => gaps_bad (HV.out.gr gg) h)
  have HGG := Lib.hid (fun W (gg : Gr w W) (h : listE 256 (catE xs) xs = 0) => gaps_good (HV.out.gr gg) h)
  have HSG := Lib.hid (fun x d W (gg : Gr w W) (h0 : listE 256 (catE xs) xs = 0) (h1 : ageE x d = 0) => suits_good x d W (HV.out.gr gg) h0 h1)
  have HSB := Lib.hid (fun x d W (gg : Gr w W) (h0 : firstE [listE 256 (catE xs) xs, ageE x d] ≠ 0) => suits_bad x d W (HV.out.gr gg) h0)
  generalize listE 256 (catE xs) xs = z at *
  go_wp2_with fail
  refine (checkClis_c cs _ _ (HC.out.gr g)).mono ?_
  rintro e W4 ⟨rfl, hg⟩
  replace g := g.trans hg
  replace HU := Lib.hid (HU.out.gr hg)
  clear hg
  go_wp2_with fail
  refine (refClis_c (HC.out.gr g)).mono ?_
  rintro e W5 ⟨rfl, hg⟩
  replace g := g.trans hg
  replace HU := Lib.hid (HU.out.gr hg)
  clear hg
  generalize listE 160 (cliE cs) cs = zc at *
  go_wp2_with fail
  refine (HZ1.out _ g).mono ?_
  rintro e W6 ⟨rfl, hg⟩
  replace g := g.trans hg
  replace HU := Lib.hid (HU.out.gr hg)
  clear hg
  go_wp2_with fail
  by_cases hz : z = 0
  · subst hz
    refine (HGG.out _ g (by first | rfl | trivial)).mono ?_
    rintro e W7 ⟨gv, rfl, hG, hg⟩
    replace g := g.trans hg
    replace HU := Lib.hid (HU.out.gr hg)
    have HGV := Lib.hid hG
    clear hG hg
    obtain ⟨pg, ng, cg, rfl⟩ : ∃ p n cap, gv = .slice p n cap := by
      obtain ⟨⟨p, cap, rfl, _⟩⟩ := HGV.out
      exact ⟨p, _, cap, rfl⟩
    go_wp2_with fail
    refine (refGaps_c _ (covF xs) (fun a => rfl) HU.out (by have := HL9.out; omega)).mono ?_
    rintro e W8 ⟨gv2, rfl, hG2, hg⟩
    replace g := g.trans hg
    replace HU := Lib.hid (HU.out.gr hg)
    replace HGV := Lib.hid (HGV.out.gr hg)
    have HG2 := Lib.hid hG2
    clear hG2 hg
    go_wp2_with fail
    refine (samePairs_c HGV.out HG2.out (Nat.le_trans (gapL_len _ _) (by omega))).mono ?_
    rintro e W9 ⟨rfl, hg⟩
    replace g := g.trans hg
    replace HU := Lib.hid (HU.out.gr hg)
    clear hg HGV HG2
    rcases Nat.eq_zero_or_pos nc with h0 | h0
    · subst h0
      go_wp2_with fail
      go_ret
      exact ⟨rfl, g⟩
    obtain ⟨bc, oc, x, rfl, hx, hcell⟩ := cli_first (HC.out.gr g) h0
    obtain ⟨c0, c1, c2, c3⟩ := hcell
    have hnc : ((nc : Int) == 0) = false := by simp; omega
    have hnc2 : (0 : Int) < nc := by omega
    clear hx
    by_cases h1 : ageE x day = 0
    · have HAg := Lib.hid (fun W => age_ok x day W h1)
      have HSu := Lib.hid (fun W (gg : Gr w W) => HSG.out x day W gg (by first | rfl | trivial) h1)
      have HCA := Lib.hid (fun W => refCheckAge_c x day W)
      obtain ⟨y0, y1, y2⟩ := ageE_zero h1
      have HRA := Lib.hid (fun W => refAge_c x day W y0 y1 y2)
      clear y0 y1 y2
      have HFi := Lib.hid (fun b cap W h h' => lawFirst_two 0 (ageE x day) b cap W h h')
      rw [h1] at HCA HFi
      rw [show firstE [0, 0] = 0 by simp [firstE]] at HFi
      unfold cliV at HAg HSu HCA HRA
      go_wp2_with fail
      refine (HAg.out _).mono ?_
      rintro e Wa ⟨rfl, hg⟩
      replace g := g.trans hg
      replace c0 := hg.cell c0
      replace c1 := hg.cell c1
      replace c2 := hg.cell c2
      replace c3 := hg.cell c3
      replace HU := Lib.hid (HU.out.gr hg)
      clear hg
      go_wp2_with fail
      refine (HSu.out _ g).mono ?_
      rintro e Wb ⟨u2, rfl, hW2, hg⟩
      replace g := g.trans hg
      replace c0 := hg.cell c0
      replace c1 := hg.cell c1
      replace c2 := hg.cell c2
      replace c3 := hg.cell c3
      replace HU := Lib.hid (HU.out.gr hg)
      have HW2 := Lib.hid hW2
      clear hW2
      clear hg
      go_wp2_with fail
      refine (HCA.out _).mono ?_
      rintro e Wc ⟨rfl, hg⟩
      replace g := g.trans hg
      replace c0 := hg.cell c0
      replace c1 := hg.cell c1
      replace c2 := hg.cell c2
      replace c3 := hg.cell c3
      replace HU := Lib.hid (HU.out.gr hg)
      replace HW2 := Lib.hid (HW2.out.gr hg)
      clear hg
      go_wp2_with fail
      refine (HRA.out _).mono ?_
      rintro e Wd ⟨rfl, hg⟩
      replace g := g.trans hg
      replace c0 := hg.cell c0
      replace c1 := hg.cell c1
      replace c2 := hg.cell c2
      replace c3 := hg.cell c3
      replace HU := Lib.hid (HU.out.gr hg)
      replace HW2 := Lib.hid (HW2.out.gr hg)
      clear hg
      go_wp2_with fail
      refine (integer_good _ _).mono ?_
      rintro e We ⟨rfl, rfl⟩
      go_wp2_with fail
      obtain ⟨WW, hWW, hg, s0, s1⟩ := box2 Wd (.int .i64 0) (.int .i64 0) 3
      rw [hWW]
      clear hWW
      replace g := g.trans hg
      replace HU := Lib.hid (HU.out.gr hg)
      replace HW2 := Lib.hid (HW2.out.gr hg)
      clear hg
      refine (HFi.out _ _ WW s0 s1).mono ?_
      rintro e Wf ⟨rfl, rfl⟩
      go_wp2_with fail
      refine (refSuits_c _ _ HU.out (by have := HL9.out; omega)).mono ?_
      rintro e Wg ⟨u3, rfl, ho3, hg⟩
      replace g := g.trans hg
      replace HW2 := Lib.hid (HW2.out.gr hg)
      clear hg
      have HO3 := Lib.hid (wdsV_of_owns rfl ho3)
      have hle := Nat.le_trans (suitL_len xs ((day - x.bn) / 365)) HL9.out
      clear ho3
      go_wp2_with fail
      refine (words_good HW2.out HO3.out (by omega)).mono ?_
      rintro e Wh ⟨rfl, hg⟩
      go_wp2_with fail
      go_ret
      exact ⟨rfl, g.trans hg⟩
    · have HAg := Lib.hid (fun W => age_bad x day W h1)
      have hne : firstE [0, ageE x day] ≠ 0 := by
        unfold firstE firstE firstE; simp [h1]
      have HSu := Lib.hid (fun W (gg : Gr w W) => HSB.out x day W gg hne)
      have HCA := Lib.hid (fun W => refCheckAge_c x day W)
      have HFi := Lib.hid (fun b cap W h h' => lawFirst_two 0 (ageE x day) b cap W h h')
      generalize ageE x day = z1 at *
      have q3 : (z1 == 0) = false := by simpa using h1
      generalize firstE [0, z1] = err at *
      unfold cliV at HAg HSu HCA
      go_wp2_with fail
      refine (HAg.out _).mono ?_
      rintro e Wa ⟨rfl, hg⟩
      replace g := g.trans hg
      replace c0 := hg.cell c0
      replace c1 := hg.cell c1
      replace c2 := hg.cell c2
      replace c3 := hg.cell c3
      replace HU := Lib.hid (HU.out.gr hg)
      clear hg
      go_wp2_with fail
      refine (HSu.out _ g).mono ?_
      rintro e Wb ⟨rfl, hg⟩
      replace g := g.trans hg
      replace c0 := hg.cell c0
      replace c1 := hg.cell c1
      replace c2 := hg.cell c2
      replace c3 := hg.cell c3
      replace HU := Lib.hid (HU.out.gr hg)
      clear hg
      go_wp2_with fail
      refine (HCA.out _).mono ?_
      rintro e Wc ⟨rfl, hg⟩
      replace g := g.trans hg
      replace c0 := hg.cell c0
      replace c1 := hg.cell c1
      replace c2 := hg.cell c2
      replace c3 := hg.cell c3
      replace HU := Lib.hid (HU.out.gr hg)
      clear hg
      go_wp2_with fail
      refine (integer_bad z1 _ h1 _).mono ?_
      rintro e We ⟨rfl, rfl⟩
      go_wp2_with fail
      obtain ⟨WW, hWW, hg, s0, s1⟩ := box2 Wc (.int .i64 0) (.int .i64 z1) 3
      rw [hWW]
      clear hWW
      replace g := g.trans hg
      replace HU := Lib.hid (HU.out.gr hg)
      clear hg
      refine (HFi.out _ _ WW s0 s1).mono ?_
      rintro e Wf ⟨rfl, rfl⟩
      go_wp2_with fail
      refine (refSuits_c _ _ HU.out (by have := HL9.out; omega)).mono ?_
      rintro e Wg ⟨u3, rfl, ho3, hg⟩
      replace g := g.trans hg
      clear hg
      clear ho3
      go_wp2_with fail
      refine (words_bad err _ hne _).mono ?_
      rintro e Wh ⟨rfl, hg⟩
      go_wp2_with fail
      go_ret
      exact ⟨rfl, g.trans hg⟩
  · have q1 : (z == 0) = false := by simpa using hz
    have q2 : (z != 0) = true := by simpa [bne] using q1
    refine (HGB.out _ g hz).mono ?_
    rintro e W9 ⟨rfl, hg⟩
    replace g := g.trans hg
    replace HU := Lib.hid (HU.out.gr hg)
    clear hg
    rcases Nat.eq_zero_or_pos nc with h0 | h0
    · subst h0
      go_wp2_with fail
      go_ret
      exact ⟨rfl, g⟩
    obtain ⟨bc, oc, x, rfl, hx, hcell⟩ := cli_first (HC.out.gr g) h0
    obtain ⟨c0, c1, c2, c3⟩ := hcell
    have hnc : ((nc : Int) == 0) = false := by simp; omega
    have hnc2 : (0 : Int) < nc := by omega
    clear hx
    by_cases h1 : ageE x day = 0
    · have HAg := Lib.hid (fun W => age_ok x day W h1)
      have hne : firstE [z, ageE x day] ≠ 0 := by
        unfold firstE; simp [hz]
      have HSu := Lib.hid (fun W (gg : Gr w W) => HSB.out x day W gg hne)
      have HCA := Lib.hid (fun W => refCheckAge_c x day W)
      obtain ⟨y0, y1, y2⟩ := ageE_zero h1
      have HRA := Lib.hid (fun W => refAge_c x day W y0 y1 y2)
      clear y0 y1 y2
      have HFi := Lib.hid (fun b cap W h h' => lawFirst_two z (ageE x day) b cap W h h')
      rw [h1] at HCA HFi HSu hne
      generalize firstE [z, 0] = err at *
      unfold cliV at HAg HSu HCA HRA
      go_wp2_with fail
      refine (HAg.out _).mono ?_
      rintro e Wa ⟨rfl, hg⟩
      replace g := g.trans hg
      replace c0 := hg.cell c0
      replace c1 := hg.cell c1
      replace c2 := hg.cell c2
      replace c3 := hg.cell c3
      replace HU := Lib.hid (HU.out.gr hg)
      clear hg
      go_wp2_with fail
      refine (HSu.out _ g).mono ?_
      rintro e Wb ⟨rfl, hg⟩
      replace g := g.trans hg
      replace c0 := hg.cell c0
      replace c1 := hg.cell c1
      replace c2 := hg.cell c2
      replace c3 := hg.cell c3
      replace HU := Lib.hid (HU.out.gr hg)
      clear hg
      go_wp2_with fail
      refine (HCA.out _).mono ?_
      rintro e Wc ⟨rfl, hg⟩
      replace g := g.trans hg
      replace c0 := hg.cell c0
      replace c1 := hg.cell c1
      replace c2 := hg.cell c2
      replace c3 := hg.cell c3
      replace HU := Lib.hid (HU.out.gr hg)
      clear hg
      go_wp2_with fail
      refine (HRA.out _).mono ?_
      rintro e Wd ⟨rfl, hg⟩
      replace g := g.trans hg
      replace c0 := hg.cell c0
      replace c1 := hg.cell c1
      replace c2 := hg.cell c2
      replace c3 := hg.cell c3
      replace HU := Lib.hid (HU.out.gr hg)
      clear hg
      go_wp2_with fail
      refine (integer_good _ _).mono ?_
      rintro e We ⟨rfl, rfl⟩
      go_wp2_with fail
      obtain ⟨WW, hWW, hg, s0, s1⟩ := box2 Wd (.int .i64 z) (.int .i64 0) 3
      rw [hWW]
      clear hWW
      replace g := g.trans hg
      replace HU := Lib.hid (HU.out.gr hg)
      clear hg
      refine (HFi.out _ _ WW s0 s1).mono ?_
      rintro e Wf ⟨rfl, rfl⟩
      go_wp2_with fail
      refine (refSuits_c _ _ HU.out (by have := HL9.out; omega)).mono ?_
      rintro e Wg ⟨u3, rfl, ho3, hg⟩
      replace g := g.trans hg
      clear hg
      clear ho3
      go_wp2_with fail
      refine (words_bad err _ hne _).mono ?_
      rintro e Wh ⟨rfl, hg⟩
      go_wp2_with fail
      go_ret
      exact ⟨rfl, g.trans hg⟩
    · have HAg := Lib.hid (fun W => age_bad x day W h1)
      have hne : firstE [z, ageE x day] ≠ 0 := by
        unfold firstE; simp [hz]
      have HSu := Lib.hid (fun W (gg : Gr w W) => HSB.out x day W gg hne)
      have HCA := Lib.hid (fun W => refCheckAge_c x day W)
      have HFi := Lib.hid (fun b cap W h h' => lawFirst_two z (ageE x day) b cap W h h')
      generalize ageE x day = z1 at *
      have q3 : (z1 == 0) = false := by simpa using h1
      generalize firstE [z, z1] = err at *
      unfold cliV at HAg HSu HCA
      go_wp2_with fail
      refine (HAg.out _).mono ?_
      rintro e Wa ⟨rfl, hg⟩
      replace g := g.trans hg
      replace c0 := hg.cell c0
      replace c1 := hg.cell c1
      replace c2 := hg.cell c2
      replace c3 := hg.cell c3
      replace HU := Lib.hid (HU.out.gr hg)
      clear hg
      go_wp2_with fail
      refine (HSu.out _ g).mono ?_
      rintro e Wb ⟨rfl, hg⟩
      replace g := g.trans hg
      replace c0 := hg.cell c0
      replace c1 := hg.cell c1
      replace c2 := hg.cell c2
      replace c3 := hg.cell c3
      replace HU := Lib.hid (HU.out.gr hg)
      clear hg
      go_wp2_with fail
      refine (HCA.out _).mono ?_
      rintro e Wc ⟨rfl, hg⟩
      replace g := g.trans hg
      replace c0 := hg.cell c0
      replace c1 := hg.cell c1
      replace c2 := hg.cell c2
      replace c3 := hg.cell c3
      replace HU := Lib.hid (HU.out.gr hg)
      clear hg
      go_wp2_with fail
      refine (integer_bad z1 _ h1 _).mono ?_
      rintro e We ⟨rfl, rfl⟩
      go_wp2_with fail
      obtain ⟨WW, hWW, hg, s0, s1⟩ := box2 Wc (.int .i64 z) (.int .i64 z1) 3
      rw [hWW]
      clear hWW
      replace g := g.trans hg
      replace HU := Lib.hid (HU.out.gr hg)
      clear hg
      refine (HFi.out _ _ WW s0 s1).mono ?_
      rintro e Wf ⟨rfl, rfl⟩
      go_wp2_with fail
      refine (refSuits_c _ _ HU.out (by have := HL9.out; omega)).mono ?_
      rintro e Wg ⟨u3, rfl, ho3, hg⟩
      replace g := g.trans hg
      clear hg
      clear ho3
      go_wp2_with fail
      refine (words_bad err _ hne _).mono ?_
      rintro e Wh ⟨rfl, hg⟩
      go_wp2_with fail
      go_ret
      exact ⟨rfl, g.trans hg⟩
end Go.Proofs.YtmlmbgifkmkmgaaGreat
