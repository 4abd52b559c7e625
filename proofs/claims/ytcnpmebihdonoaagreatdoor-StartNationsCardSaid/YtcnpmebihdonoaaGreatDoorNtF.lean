/- StartNations: the law, walked. -/
import Derived.Test.YtcnpmebihdonoaaGreatDoorGNtD
import Derived.Test.YtcnpmebihdonoaaGreatDoorSpL
import Derived.Test.YtcnpmebihdonoaaGreatDoorGSpNa
import Derived.Test.YtcnpmebihdonoaaGreatDoorLsP
import Derived.BigRegion
namespace Go.Proofs.YtcnpmebihdonoaaGreatDoor
open Go.RowKit Go.Lib
set_option linter.unusedSimpArgs false
set_option linter.unusedVariables false
theorem NumS.toInts {w : World} {q : Option Addr} {p : List Nat} {m : Nat} (h : NumS w q p) (hm : p.length = m) : IntS w q m (p.map fun (i : Nat) => (i : Int)) := ⟨by rw [List.length_map, hm], h.ints hm⟩
set_option maxHeartbeats 8000000 in
set_option maxRecDepth 100000 in
theorem lawNations_c (J : InsNOKT) (xs : List EntR) (v : Value) (zs : List Int) (q : Option Addr) (m c : Nat) (w : World) (hv : EntAts w v xs) (hb : xs.length * 40 ≤ 140737488355328) (hzi : IntS w q m zs) (hmc : m ≤ c) (hA : AwakeOK w) :
    Calls Tryz.prog 3 #[v, .slice q m c] w fun e w' => e = .returned (.bool true) ∧ Gr w w' := by
  have HA := Lib.hid hA
  have HCv := Lib.hid (fun W (g : Gr w W) => ents_c (hv.gr g) hb)
  have HSH := Lib.hid (fun W u (h : EntAts W u xs) => shortEnts_c 24 (by omega) h)
  have HRC := Lib.hid (fun W u (h : EntAts W u xs) => refEnts_c h)
  have HEX := Lib.hid (fun h => ent_range (xs := xs) h)
  have HV := Lib.hid hv
  have HZI := Lib.hid hzi
  have HMC := Lib.hid hmc
  obtain ⟨p, n, cap, rfl, HNX⟩ : ∃ p n cap, v = .slice p n cap ∧ Hid (n = xs.length) := by
    obtain ⟨⟨p, cap, rfl, _⟩⟩ := hv
    exact ⟨p, _, cap, rfl, rfl⟩
  have HCK := Lib.hid (fun W (g : Gr w W) => checkEnts_c xs (.slice p n cap) W (hv.gr g))
  obtain ⟨y, hy⟩ : ∃ y, y = listE 160 (entE xs) xs := ⟨_, rfl⟩
  rw [← hy] at HCK
  have HRC2 : Hid (∀ W u, EntAts W u xs → Calls Tryz.prog 15 #[u] W fun e w' => e = .returned (.int .i64 y) ∧ Gr W w') := fun W u h => by
    have := HRC.out W u h
    rwa [← hy] at this
  have HY := Lib.hid hy
  obtain ⟨z, hz⟩ : ∃ z, z = numsE zs := ⟨_, rfl⟩
  have HZ := Lib.hid hz
  have HRN : Hid (∀ W, Gr w W → Calls Tryz.prog 9 #[.slice q m c] W fun e w' => e = .returned (.int .i64 z) ∧ Gr W w') := fun W g => by
    have := refNums_c zs m c q W (hzi.gr g)
    rwa [← hz] at this
  clear hv hb hA hzi hmc hy hz HRC
  go_enter Tryz.func3, Tryz.ntmps3
  go_wp2_with fail
  refine (HCv.out _ (Gr.refl w)).mono ?_
  rintro e W1 ⟨u, rfl, hu, g⟩
  obtain ⟨pu, nu, cu, rfl⟩ : ∃ p n c, u = .slice p n c := by
    obtain ⟨⟨p, cap, rfl, _⟩⟩ := hu
    exact ⟨p, _, cap, rfl⟩
  go_wp2_with fail
  refine (HA.out _ g).mono ?_
  rintro e W2 ⟨rfl, hg⟩
  replace hu := hu.gr hg
  replace g := g.trans hg
  clear hg
  go_wp2_with fail
  refine (HSH.out _ _ hu).mono ?_
  rintro e W3 ⟨⟨sh, rfl, hr⟩, rfl⟩
  cases sh
  · clear hr
    go_wp2_with (refine (HA.out _ g).mono ?_; rintro e Wa ⟨rfl, g4⟩; replace g4 := g.trans g4)
    go_ret
    exact ⟨rfl, g4⟩
  obtain ⟨hn1, hn2⟩ := hr rfl
  have HN1 := Lib.hid hn1
  clear hr hn1 hn2
  by_cases hm30 : 30 < m
  · have hm1 : (30 : Int) < (m : Int) := by omega
    by_cases hm160 : m ≤ 160
    · have hm2 : (m : Int) ≤ 160 := by omega
      go_wp2_with (refine (HA.out _ g).mono ?_; rintro e Wa ⟨rfl, g4⟩; replace g4 := g.trans g4)
      go_ret
      exact ⟨rfl, g4⟩
    have hm2 : ¬ (m : Int) ≤ 160 := by omega
    have hm2' : decide ((m : Int) ≤ 160) = false := decide_eq_false hm2
    by_cases hm162 : 162 < m
    · have hm3 : (162 : Int) < (m : Int) := by omega
      go_wp2_with (refine (HA.out _ g).mono ?_; rintro e Wa ⟨rfl, g4⟩; replace g4 := g.trans g4)
      go_ret
      exact ⟨rfl, g4⟩
    have hm3 : ¬ (162 : Int) < (m : Int) := by omega
    have hm3' : decide ((162 : Int) < (m : Int)) = false := decide_eq_false hm3
    have hz0 : z ≠ 0 := by
      rw [HZ.out]
      unfold numsE
      rw [if_pos (by have := HZI.out.len; omega)]
      decide
    have z1 : (z != 0) = true := bne_iff_ne.2 hz0
    have z2 : (z == 0) = false := by simpa using hz0
    have z3 : (z != z) = false := by simp
    have HRB : Hid (∀ W, Gr w W → Calls Tryz.prog 8 #[.slice q m c] W fun e w' => e = .returned (.tuple #[.slice none 0 0, .slice none 0 0, .int .i64 z]) ∧ Gr W w') := fun W g => by
      have := routes_bad zs m c q W HMC.out (HZI.out.gr g) (by rw [← HZ.out]; exact hz0)
      rwa [← HZ.out] at this
    clear hz0
    go_wp2_with fail
    refine (HRB.out _ g).mono ?_
    rintro e W4 ⟨rfl, hg⟩
    replace hu := hu.gr hg
    replace g := g.trans hg
    clear hg HRB
    go_wp2_with fail
    refine (HRN.out _ g).mono ?_
    rintro e W5 ⟨rfl, hg⟩
    replace hu := hu.gr hg
    replace g := g.trans hg
    clear hg HA
    by_cases hy0 : y = 0
    case neg =>
      have y1 : (y != 0) = true := bne_iff_ne.2 hy0
      have HB1 := Lib.hid (fun W (g : Gr w W) => nb_bad1 y (.slice p n cap) (.slice q m c) W hy0 (HCK.out W g))
      have HB2 := Lib.hid (fun W (g : Gr w W) => few_bad y (.slice p n cap) W hy0 (HCK.out W g))
      have HB3 := Lib.hid (fun W (g : Gr w W) => apart_bad y (.slice p n cap) W hy0 (HCK.out W g))
      have HI := Lib.hid (fun W => int6_err y 0 hy0 W)
      have HLe := Lib.hid (fun W => list6_err y hy0 W)
      clear hy0
      go_wp2_with fail
      refine (HB1.out _ g).mono ?_
      rintro e Wa ⟨rfl, hg⟩
      replace hu := hu.gr hg
      replace g := g.trans hg
      clear hg
      go_wp2_with fail
      refine (HB2.out _ g).mono ?_
      rintro e Wb ⟨rfl, hg⟩
      replace hu := hu.gr hg
      replace g := g.trans hg
      clear hg
      go_wp2_with fail
      refine (HB3.out _ g).mono ?_
      rintro e Wc ⟨rfl, hg⟩
      replace hu := hu.gr hg
      replace g := g.trans hg
      clear hg
      go_wp2_with fail
      refine (HRC2.out _ _ hu).mono ?_
      rintro e Wd ⟨rfl, hg⟩
      replace g := g.trans hg
      clear hg
      go_wp2_with fail
      refine (HI.out _).mono ?_
      rintro e w8 ⟨rfl, rfl⟩
      go_wp2_with fail
      refine (HI.out _).mono ?_
      rintro e w8 ⟨rfl, rfl⟩
      go_wp2_with fail
      refine (HLe.out _).mono ?_
      rintro e w8 ⟨rfl, rfl⟩
      go_wp2_with fail
      go_ret
      exact ⟨rfl, g⟩
    have y1 : (y != 0) = false := by rw [hy0]; rfl
    subst hy0
    obtain ⟨hl160, _⟩ := HEX.out HY.out.symm
    have hn24 : n ≤ 24 := by have := HN1.out; have := HNX.out; omega
    have HFG := Lib.hid (fun W (g : Gr w W) => fewest_good xs (.slice p n cap) W (HV.out.gr g) hl160 (fun W2 g2 => HCK.out W2 (g.trans g2)))
    have HAP : Hid (∀ W, Gr w W → Calls Tryz.prog 14 #[.slice p n cap] W fun e w' => ∃ (pO : Option Addr) (cO : Nat) (o : List Nat), e = .returned (.tuple #[.slice pO n cO, .int .i64 0]) ∧ o.Perm (List.range n) ∧ Greedy none (natO xs o) ∧ NumS w' pO o ∧ Gr W w') := fun W g => by
      refine (apart_c J xs (.slice p n cap) W (HV.out.gr g) hl160 (fun W2 g2 => HCK.out W2 (g.trans g2))).mono ?_
      rintro e w' ⟨pO, cO, o, rfl, h1, h2, h3, h4, h5⟩
      rw [HNX.out]
      exact ⟨pO, cO, o, rfl, h1, h2, .zero fun h0 => h4 (by rw [h1.length_eq, List.length_range] at h0; exact h0), h5⟩
    have HRF := Lib.hid (fun W u (h : EntAts W u xs) => refFewest_c xs u W h hl160)
    have HRO : Hid (∀ W (o : List Nat) (qq : Option Addr) (cc : Nat), o.Perm (List.range n) → NumS W qq o → Calls Tryz.prog 19 #[.int .i64 (n : Int), .slice qq n cc] W fun e w' => e = .returned (.int .i64 0) ∧ Gr W w') := fun W o qq cc hp hq => by
      have hl : o.length = n := by rw [hp.length_eq, List.length_range]
      have := refOrder_c (natI o) n cc qq n W (by rw [natI_len, hl]) (by omega) (by omega) (hq.ints hl)
      rwa [show ordersE (n : Int) (natI o) = 0 from perm_ordersE hp] at this
    have HRB2 : Hid (∀ W u (o : List Nat) (qq : Option Addr) (cc : Nat), EntAts W u xs → o.Perm (List.range n) → IntS W qq n (o.map fun (i : Nat) => (i : Int)) → Calls Tryz.prog 20 #[u, .slice qq n cc] W fun e w' => e = .returned (.int .i64 (pairsF none (natO xs o) : Nat)) ∧ Gr W w') := fun W u o qq cc hu hp hq => by
      have hl : o.length = n := by rw [hp.length_eq, List.length_range]
      exact refNb_c xs u o qq n cc W hu hl (by omega) hq (fun a ha => by have := List.mem_range.1 (hp.mem_iff.1 ha); have := HNX.out; omega)
    have HRZ := Lib.hid (fun W (gg : Gr w W) => refOrder_c zs m c q n W HZI.out.len (by omega) (by omega) (HZI.out.gr gg).out)
    have HPZ := Lib.hid (fun W (gg : Gr w W) => checkOrder_c zs m c q (n : Int) W HZI.out.len (by omega) HMC.out (HZI.out.gr gg).out)
    obtain ⟨oo, hoo⟩ : ∃ o, o = ordersE (n : Int) zs := ⟨_, rfl⟩
    rw [← hoo] at HRZ HPZ
    have HOO := Lib.hid hoo
    clear hoo
    by_cases ho0 : oo = 0
    case neg =>
      have o1 : (oo != 0) = true := bne_iff_ne.2 ho0
      have HB2 := Lib.hid (fun W (g : Gr w W) => nb_bad2 oo (.slice p n cap) n p cap (.slice q m c) W rfl ho0 (HCK.out W g) (fun W2 g2 => HPZ.out W2 (g.trans g2)))
      have HI := Lib.hid (fun W => int6_err oo 0 ho0 W)
      clear ho0
      go_wp2_with fail
      refine (HB2.out _ g).mono ?_
      rintro e Wa ⟨rfl, hg⟩
      replace hu := hu.gr hg
      replace g := g.trans hg
      clear hg
      go_wp2_with fail
      refine (HFG.out _ g).mono ?_
      rintro e Wb ⟨M, hM, hMn, rfl, hg⟩
      replace hu := hu.gr hg
      replace g := g.trans hg
      clear hg
      go_wp2_with fail
      refine (HAP.out _ g).mono ?_
      rintro e Wc ⟨pO, cO, o, rfl, hop, hgd, hno, hg⟩
      replace hu := hu.gr hg
      replace g := g.trans hg
      clear hg
      go_wp2_with fail
      refine (HRC2.out _ _ hu).mono ?_
      rintro e Wd ⟨rfl, hg⟩
      replace hu := hu.gr hg
      replace hno := hno.gr hg
      replace g := g.trans hg
      clear hg
      go_wp2_with fail
      refine (HRF.out _ _ hu).mono ?_
      rintro e We ⟨M2, hM2, hMn2, rfl, hg⟩
      obtain rfl := hM.unique hM2
      replace hu := hu.gr hg
      replace hno := hno.gr hg
      replace g := g.trans hg
      clear hg
      have hMx : Most xs n M := by rw [HNX.out]; exact hM
      have HFV := Lib.hid (greedy_few hgd hop hMx)
      rw [← HNX.out]
      generalize hF : fewV n M = F at *
      clear hF
      have HF0 := Lib.hid (fun W => int6_ok ((F : Nat) : Int) W)
      go_wp2_with fail
      refine (HF0.out _).mono ?_
      rintro e w8 ⟨rfl, rfl⟩
      have HR1 := Lib.hid (HRO.out _ o pO cO hop hno)
      go_wp2_with fail
      refine HR1.out.mono ?_
      rintro e Wf ⟨rfl, hg⟩
      replace hu := hu.gr hg
      replace hno := hno.gr hg
      replace g := g.trans hg
      clear hg
      have HR3 := Lib.hid (HRB2.out _ _ o pO cO hu hop (hno.toInts (by rw [hop.length_eq, List.length_range])))
      rw [HFV.out] at HR3
      have hFF : (((F : Nat) : Int) != ((F : Nat) : Int)) = false := by simp
      go_wp2_with fail
      refine HR3.out.mono ?_
      rintro e Wg ⟨rfl, hg⟩
      replace hu := hu.gr hg
      replace g := g.trans hg
      clear hg hM hM2 hop hgd hno hMx
      go_wp2_with fail
      refine (HRZ.out _ g).mono ?_
      rintro e Wh ⟨rfl, hg⟩
      replace hu := hu.gr hg
      replace g := g.trans hg
      clear hg
      go_wp2_with fail
      refine (HI.out _).mono ?_
      rintro e w8 ⟨rfl, rfl⟩
      go_wp2_with fail
      go_ret
      exact ⟨rfl, g⟩
    have o1 : (oo != 0) = false := by rw [ho0]; rfl
    obtain ⟨qo, hqo, hqp⟩ := ordersE_perm (HOO.out.symm.trans ho0)
    have hmn : n = m := by rw [← HZI.out.len, hqo, List.length_map, hqp.length_eq, List.length_range]
    subst hmn
    have HQP := Lib.hid hqp
    have HQI : Hid (∀ W, Gr w W → IntS W q n (qo.map fun (i : Nat) => (i : Int))) := fun W gg => by
      have := HZI.out.gr gg
      rwa [hqo] at this
    have HNQ := Lib.hid (fun W (gg : Gr w W) => nb_c xs (.slice p n cap) qo q n c W (HV.out.gr gg) HY.out.symm HNX.out.symm (by omega) hqp (.of_ints (fun h0 => (HQI.out W gg).out (by rw [hqp.length_eq, List.length_range] at h0; exact h0))) HMC.out)
    subst ho0
    clear hqo hqp
    go_wp2_with fail
    refine (HNQ.out _ g).mono ?_
    rintro e Wa ⟨rfl, hg⟩
    replace hu := hu.gr hg
    replace g := g.trans hg
    clear hg
    go_wp2_with fail
    refine (HFG.out _ g).mono ?_
    rintro e Wb ⟨M, hM, hMn, rfl, hg⟩
    replace hu := hu.gr hg
    replace g := g.trans hg
    clear hg
    go_wp2_with fail
    refine (HAP.out _ g).mono ?_
    rintro e Wc ⟨pO, cO, o, rfl, hop, hgd, hno, hg⟩
    replace hu := hu.gr hg
    replace g := g.trans hg
    clear hg
    go_wp2_with fail
    refine (HRC2.out _ _ hu).mono ?_
    rintro e Wd ⟨rfl, hg⟩
    replace hu := hu.gr hg
    replace hno := hno.gr hg
    replace g := g.trans hg
    clear hg
    go_wp2_with fail
    refine (HRF.out _ _ hu).mono ?_
    rintro e We ⟨M2, hM2, hMn2, rfl, hg⟩
    obtain rfl := hM.unique hM2
    replace hu := hu.gr hg
    replace hno := hno.gr hg
    replace g := g.trans hg
    clear hg
    have hMx : Most xs n M := by rw [HNX.out]; exact hM
    have HFV := Lib.hid (greedy_few hgd hop hMx)
    rw [← HNX.out]
    generalize hF : fewV n M = F at *
    clear hF
    have HF0 := Lib.hid (fun W => int6_ok ((F : Nat) : Int) W)
    go_wp2_with fail
    refine (HF0.out _).mono ?_
    rintro e w8 ⟨rfl, rfl⟩
    have HR1 := Lib.hid (HRO.out _ o pO cO hop hno)
    go_wp2_with fail
    refine HR1.out.mono ?_
    rintro e Wf ⟨rfl, hg⟩
    replace hu := hu.gr hg
    replace hno := hno.gr hg
    replace g := g.trans hg
    clear hg
    have HR3 := Lib.hid (HRB2.out _ _ o pO cO hu hop (hno.toInts (by rw [hop.length_eq, List.length_range])))
    rw [HFV.out] at HR3
    have hFF : (((F : Nat) : Int) != ((F : Nat) : Int)) = false := by simp
    go_wp2_with fail
    refine HR3.out.mono ?_
    rintro e Wg ⟨rfl, hg⟩
    replace hu := hu.gr hg
    replace g := g.trans hg
    clear hg hM hM2 hop hgd hno hMx
    go_wp2_with fail
    refine (HRZ.out _ g).mono ?_
    rintro e Wh ⟨rfl, hg⟩
    replace hu := hu.gr hg
    replace g := g.trans hg
    clear hg
    have HK3 := Lib.hid (HRB2.out _ _ qo q c hu HQP.out (HQI.out _ g))
    generalize pairsF none (natO xs qo) = K at *
    have HK := Lib.hid (fun W => int6_ok ((K : Nat) : Int) W)
    go_wp2_with fail
    refine HK3.out.mono ?_
    rintro e Wi ⟨rfl, hg⟩
    replace g := g.trans hg
    clear hg
    go_wp2_with fail
    refine (HK.out _).mono ?_
    rintro e w8 ⟨rfl, rfl⟩
    go_wp2_with fail
    go_ret
    exact ⟨rfl, g⟩
  have hm1 : ¬ (30 : Int) < (m : Int) := by omega
  have hm1' : decide ((30 : Int) < (m : Int)) = false := decide_eq_false hm1
  have hm3 : ¬ (162 : Int) < (m : Int) := by omega
  have hm3' : decide ((162 : Int) < (m : Int)) = false := decide_eq_false hm3
  by_cases hz0 : z = 0
  case neg =>
    have z1 : (z != 0) = true := bne_iff_ne.2 hz0
    have z2 : (z == 0) = false := by simpa using hz0
    have z3 : (z != z) = false := by simp
    have HRB : Hid (∀ W, Gr w W → Calls Tryz.prog 8 #[.slice q m c] W fun e w' => e = .returned (.tuple #[.slice none 0 0, .slice none 0 0, .int .i64 z]) ∧ Gr W w') := fun W g => by
      have := routes_bad zs m c q W HMC.out (HZI.out.gr g) (by rw [← HZ.out]; exact hz0)
      rwa [← HZ.out] at this
    clear hz0
    go_wp2_with fail
    refine (HRB.out _ g).mono ?_
    rintro e W4 ⟨rfl, hg⟩
    replace hu := hu.gr hg
    replace g := g.trans hg
    clear hg HRB
    go_wp2_with fail
    refine (HRN.out _ g).mono ?_
    rintro e W5 ⟨rfl, hg⟩
    replace hu := hu.gr hg
    replace g := g.trans hg
    clear hg HA
    by_cases hy0 : y = 0
    case neg =>
      have y1 : (y != 0) = true := bne_iff_ne.2 hy0
      have HB1 := Lib.hid (fun W (g : Gr w W) => nb_bad1 y (.slice p n cap) (.slice q m c) W hy0 (HCK.out W g))
      have HB2 := Lib.hid (fun W (g : Gr w W) => few_bad y (.slice p n cap) W hy0 (HCK.out W g))
      have HB3 := Lib.hid (fun W (g : Gr w W) => apart_bad y (.slice p n cap) W hy0 (HCK.out W g))
      have HI := Lib.hid (fun W => int6_err y 0 hy0 W)
      have HLe := Lib.hid (fun W => list6_err y hy0 W)
      clear hy0
      go_wp2_with fail
      refine (HB1.out _ g).mono ?_
      rintro e Wa ⟨rfl, hg⟩
      replace hu := hu.gr hg
      replace g := g.trans hg
      clear hg
      go_wp2_with fail
      refine (HB2.out _ g).mono ?_
      rintro e Wb ⟨rfl, hg⟩
      replace hu := hu.gr hg
      replace g := g.trans hg
      clear hg
      go_wp2_with fail
      refine (HB3.out _ g).mono ?_
      rintro e Wc ⟨rfl, hg⟩
      replace hu := hu.gr hg
      replace g := g.trans hg
      clear hg
      go_wp2_with fail
      refine (HRC2.out _ _ hu).mono ?_
      rintro e Wd ⟨rfl, hg⟩
      replace g := g.trans hg
      clear hg
      go_wp2_with fail
      refine (HI.out _).mono ?_
      rintro e w8 ⟨rfl, rfl⟩
      go_wp2_with fail
      refine (HI.out _).mono ?_
      rintro e w8 ⟨rfl, rfl⟩
      go_wp2_with fail
      refine (HLe.out _).mono ?_
      rintro e w8 ⟨rfl, rfl⟩
      go_wp2_with fail
      go_ret
      exact ⟨rfl, g⟩
    have y1 : (y != 0) = false := by rw [hy0]; rfl
    subst hy0
    obtain ⟨hl160, _⟩ := HEX.out HY.out.symm
    have hn24 : n ≤ 24 := by have := HN1.out; have := HNX.out; omega
    have HFG := Lib.hid (fun W (g : Gr w W) => fewest_good xs (.slice p n cap) W (HV.out.gr g) hl160 (fun W2 g2 => HCK.out W2 (g.trans g2)))
    have HAP : Hid (∀ W, Gr w W → Calls Tryz.prog 14 #[.slice p n cap] W fun e w' => ∃ (pO : Option Addr) (cO : Nat) (o : List Nat), e = .returned (.tuple #[.slice pO n cO, .int .i64 0]) ∧ o.Perm (List.range n) ∧ Greedy none (natO xs o) ∧ NumS w' pO o ∧ Gr W w') := fun W g => by
      refine (apart_c J xs (.slice p n cap) W (HV.out.gr g) hl160 (fun W2 g2 => HCK.out W2 (g.trans g2))).mono ?_
      rintro e w' ⟨pO, cO, o, rfl, h1, h2, h3, h4, h5⟩
      rw [HNX.out]
      exact ⟨pO, cO, o, rfl, h1, h2, .zero fun h0 => h4 (by rw [h1.length_eq, List.length_range] at h0; exact h0), h5⟩
    have HRF := Lib.hid (fun W u (h : EntAts W u xs) => refFewest_c xs u W h hl160)
    have HRO : Hid (∀ W (o : List Nat) (qq : Option Addr) (cc : Nat), o.Perm (List.range n) → NumS W qq o → Calls Tryz.prog 19 #[.int .i64 (n : Int), .slice qq n cc] W fun e w' => e = .returned (.int .i64 0) ∧ Gr W w') := fun W o qq cc hp hq => by
      have hl : o.length = n := by rw [hp.length_eq, List.length_range]
      have := refOrder_c (natI o) n cc qq n W (by rw [natI_len, hl]) (by omega) (by omega) (hq.ints hl)
      rwa [show ordersE (n : Int) (natI o) = 0 from perm_ordersE hp] at this
    have HRB2 : Hid (∀ W u (o : List Nat) (qq : Option Addr) (cc : Nat), EntAts W u xs → o.Perm (List.range n) → IntS W qq n (o.map fun (i : Nat) => (i : Int)) → Calls Tryz.prog 20 #[u, .slice qq n cc] W fun e w' => e = .returned (.int .i64 (pairsF none (natO xs o) : Nat)) ∧ Gr W w') := fun W u o qq cc hu hp hq => by
      have hl : o.length = n := by rw [hp.length_eq, List.length_range]
      exact refNb_c xs u o qq n cc W hu hl (by omega) hq (fun a ha => by have := List.mem_range.1 (hp.mem_iff.1 ha); have := HNX.out; omega)
    have HRZ := Lib.hid (fun W (gg : Gr w W) => refOrder_c zs m c q n W HZI.out.len (by omega) (by omega) (HZI.out.gr gg).out)
    have HPZ := Lib.hid (fun W (gg : Gr w W) => checkOrder_c zs m c q (n : Int) W HZI.out.len (by omega) HMC.out (HZI.out.gr gg).out)
    obtain ⟨oo, hoo⟩ : ∃ o, o = ordersE (n : Int) zs := ⟨_, rfl⟩
    rw [← hoo] at HRZ HPZ
    have HOO := Lib.hid hoo
    clear hoo
    by_cases ho0 : oo = 0
    case neg =>
      have o1 : (oo != 0) = true := bne_iff_ne.2 ho0
      have HB2 := Lib.hid (fun W (g : Gr w W) => nb_bad2 oo (.slice p n cap) n p cap (.slice q m c) W rfl ho0 (HCK.out W g) (fun W2 g2 => HPZ.out W2 (g.trans g2)))
      have HI := Lib.hid (fun W => int6_err oo 0 ho0 W)
      clear ho0
      go_wp2_with fail
      refine (HB2.out _ g).mono ?_
      rintro e Wa ⟨rfl, hg⟩
      replace hu := hu.gr hg
      replace g := g.trans hg
      clear hg
      go_wp2_with fail
      refine (HFG.out _ g).mono ?_
      rintro e Wb ⟨M, hM, hMn, rfl, hg⟩
      replace hu := hu.gr hg
      replace g := g.trans hg
      clear hg
      go_wp2_with fail
      refine (HAP.out _ g).mono ?_
      rintro e Wc ⟨pO, cO, o, rfl, hop, hgd, hno, hg⟩
      replace hu := hu.gr hg
      replace g := g.trans hg
      clear hg
      go_wp2_with fail
      refine (HRC2.out _ _ hu).mono ?_
      rintro e Wd ⟨rfl, hg⟩
      replace hu := hu.gr hg
      replace hno := hno.gr hg
      replace g := g.trans hg
      clear hg
      go_wp2_with fail
      refine (HRF.out _ _ hu).mono ?_
      rintro e We ⟨M2, hM2, hMn2, rfl, hg⟩
      obtain rfl := hM.unique hM2
      replace hu := hu.gr hg
      replace hno := hno.gr hg
      replace g := g.trans hg
      clear hg
      have hMx : Most xs n M := by rw [HNX.out]; exact hM
      have HFV := Lib.hid (greedy_few hgd hop hMx)
      rw [← HNX.out]
      generalize hF : fewV n M = F at *
      clear hF
      have HF0 := Lib.hid (fun W => int6_ok ((F : Nat) : Int) W)
      go_wp2_with fail
      refine (HF0.out _).mono ?_
      rintro e w8 ⟨rfl, rfl⟩
      have HR1 := Lib.hid (HRO.out _ o pO cO hop hno)
      go_wp2_with fail
      refine HR1.out.mono ?_
      rintro e Wf ⟨rfl, hg⟩
      replace hu := hu.gr hg
      replace hno := hno.gr hg
      replace g := g.trans hg
      clear hg
      have HR3 := Lib.hid (HRB2.out _ _ o pO cO hu hop (hno.toInts (by rw [hop.length_eq, List.length_range])))
      rw [HFV.out] at HR3
      have hFF : (((F : Nat) : Int) != ((F : Nat) : Int)) = false := by simp
      go_wp2_with fail
      refine HR3.out.mono ?_
      rintro e Wg ⟨rfl, hg⟩
      replace hu := hu.gr hg
      replace g := g.trans hg
      clear hg hM hM2 hop hgd hno hMx
      go_wp2_with fail
      refine (HRZ.out _ g).mono ?_
      rintro e Wh ⟨rfl, hg⟩
      replace hu := hu.gr hg
      replace g := g.trans hg
      clear hg
      go_wp2_with fail
      refine (HI.out _).mono ?_
      rintro e w8 ⟨rfl, rfl⟩
      go_wp2_with fail
      go_ret
      exact ⟨rfl, g⟩
    have o1 : (oo != 0) = false := by rw [ho0]; rfl
    obtain ⟨qo, hqo, hqp⟩ := ordersE_perm (HOO.out.symm.trans ho0)
    have hmn : n = m := by rw [← HZI.out.len, hqo, List.length_map, hqp.length_eq, List.length_range]
    subst hmn
    have HQP := Lib.hid hqp
    have HQI : Hid (∀ W, Gr w W → IntS W q n (qo.map fun (i : Nat) => (i : Int))) := fun W gg => by
      have := HZI.out.gr gg
      rwa [hqo] at this
    have HNQ := Lib.hid (fun W (gg : Gr w W) => nb_c xs (.slice p n cap) qo q n c W (HV.out.gr gg) HY.out.symm HNX.out.symm (by omega) hqp (.of_ints (fun h0 => (HQI.out W gg).out (by rw [hqp.length_eq, List.length_range] at h0; exact h0))) HMC.out)
    subst ho0
    clear hqo hqp
    go_wp2_with fail
    refine (HNQ.out _ g).mono ?_
    rintro e Wa ⟨rfl, hg⟩
    replace hu := hu.gr hg
    replace g := g.trans hg
    clear hg
    go_wp2_with fail
    refine (HFG.out _ g).mono ?_
    rintro e Wb ⟨M, hM, hMn, rfl, hg⟩
    replace hu := hu.gr hg
    replace g := g.trans hg
    clear hg
    go_wp2_with fail
    refine (HAP.out _ g).mono ?_
    rintro e Wc ⟨pO, cO, o, rfl, hop, hgd, hno, hg⟩
    replace hu := hu.gr hg
    replace g := g.trans hg
    clear hg
    go_wp2_with fail
    refine (HRC2.out _ _ hu).mono ?_
    rintro e Wd ⟨rfl, hg⟩
    replace hu := hu.gr hg
    replace hno := hno.gr hg
    replace g := g.trans hg
    clear hg
    go_wp2_with fail
    refine (HRF.out _ _ hu).mono ?_
    rintro e We ⟨M2, hM2, hMn2, rfl, hg⟩
    obtain rfl := hM.unique hM2
    replace hu := hu.gr hg
    replace hno := hno.gr hg
    replace g := g.trans hg
    clear hg
    have hMx : Most xs n M := by rw [HNX.out]; exact hM
    have HFV := Lib.hid (greedy_few hgd hop hMx)
    rw [← HNX.out]
    generalize hF : fewV n M = F at *
    clear hF
    have HF0 := Lib.hid (fun W => int6_ok ((F : Nat) : Int) W)
    go_wp2_with fail
    refine (HF0.out _).mono ?_
    rintro e w8 ⟨rfl, rfl⟩
    have HR1 := Lib.hid (HRO.out _ o pO cO hop hno)
    go_wp2_with fail
    refine HR1.out.mono ?_
    rintro e Wf ⟨rfl, hg⟩
    replace hu := hu.gr hg
    replace hno := hno.gr hg
    replace g := g.trans hg
    clear hg
    have HR3 := Lib.hid (HRB2.out _ _ o pO cO hu hop (hno.toInts (by rw [hop.length_eq, List.length_range])))
    rw [HFV.out] at HR3
    have hFF : (((F : Nat) : Int) != ((F : Nat) : Int)) = false := by simp
    go_wp2_with fail
    refine HR3.out.mono ?_
    rintro e Wg ⟨rfl, hg⟩
    replace hu := hu.gr hg
    replace g := g.trans hg
    clear hg hM hM2 hop hgd hno hMx
    go_wp2_with fail
    refine (HRZ.out _ g).mono ?_
    rintro e Wh ⟨rfl, hg⟩
    replace hu := hu.gr hg
    replace g := g.trans hg
    clear hg
    have HK3 := Lib.hid (HRB2.out _ _ qo q c hu HQP.out (HQI.out _ g))
    generalize pairsF none (natO xs qo) = K at *
    have HK := Lib.hid (fun W => int6_ok ((K : Nat) : Int) W)
    go_wp2_with fail
    refine HK3.out.mono ?_
    rintro e Wi ⟨rfl, hg⟩
    replace g := g.trans hg
    clear hg
    go_wp2_with fail
    refine (HK.out _).mono ?_
    rintro e w8 ⟨rfl, rfl⟩
    go_wp2_with fail
    go_ret
    exact ⟨rfl, g⟩
  subst hz0
  have HRG := Lib.hid (fun W (g : Gr w W) => routes_good zs m c q W HMC.out (HZI.out.gr g) HZ.out.symm (by omega))
  have HRS := Lib.hid (fun W (g : Gr w W) => refSecond_c q m c zs W (HZI.out.gr g) HMC.out (by omega))
  go_wp2_with fail
  refine (HRG.out _ g).mono ?_
  rintro e W4 ⟨p1, c1, p2, c2, rfl, ia, ib, hg⟩
  replace hu := hu.gr hg
  replace g := g.trans hg
  clear hg HRG
  go_wp2_with fail
  refine (HRN.out _ g).mono ?_
  rintro e W5 ⟨rfl, hg⟩
  replace ia := ia.gr hg
  replace ib := ib.gr hg
  replace hu := hu.gr hg
  replace g := g.trans hg
  clear hg HA
  go_wp2_with fail
  refine (sameI_c ia (HZI.out.gr g) (by omega)).mono ?_
  rintro e W6 ⟨rfl, hg⟩
  replace ib := ib.gr hg
  replace hu := hu.gr hg
  replace g := g.trans hg
  clear hg ia
  go_wp2_with fail
  refine (HRS.out _ g).mono ?_
  rintro e W7 ⟨p3, c3, rfl, ic, hg⟩
  replace ib := ib.gr hg
  replace hu := hu.gr hg
  replace g := g.trans hg
  clear hg HRS
  go_wp2_with fail
  refine (sameI_c ib ic (by omega)).mono ?_
  rintro e W8 ⟨rfl, hg⟩
  replace hu := hu.gr hg
  replace g := g.trans hg
  clear hg ib ic
  by_cases hy0 : y = 0
  case neg =>
    have y1 : (y != 0) = true := bne_iff_ne.2 hy0
    have HB1 := Lib.hid (fun W (g : Gr w W) => nb_bad1 y (.slice p n cap) (.slice q m c) W hy0 (HCK.out W g))
    have HB2 := Lib.hid (fun W (g : Gr w W) => few_bad y (.slice p n cap) W hy0 (HCK.out W g))
    have HB3 := Lib.hid (fun W (g : Gr w W) => apart_bad y (.slice p n cap) W hy0 (HCK.out W g))
    have HI := Lib.hid (fun W => int6_err y 0 hy0 W)
    have HLe := Lib.hid (fun W => list6_err y hy0 W)
    clear hy0
    go_wp2_with fail
    refine (HB1.out _ g).mono ?_
    rintro e Wa ⟨rfl, hg⟩
    replace hu := hu.gr hg
    replace g := g.trans hg
    clear hg
    go_wp2_with fail
    refine (HB2.out _ g).mono ?_
    rintro e Wb ⟨rfl, hg⟩
    replace hu := hu.gr hg
    replace g := g.trans hg
    clear hg
    go_wp2_with fail
    refine (HB3.out _ g).mono ?_
    rintro e Wc ⟨rfl, hg⟩
    replace hu := hu.gr hg
    replace g := g.trans hg
    clear hg
    go_wp2_with fail
    refine (HRC2.out _ _ hu).mono ?_
    rintro e Wd ⟨rfl, hg⟩
    replace g := g.trans hg
    clear hg
    go_wp2_with fail
    refine (HI.out _).mono ?_
    rintro e w8 ⟨rfl, rfl⟩
    go_wp2_with fail
    refine (HI.out _).mono ?_
    rintro e w8 ⟨rfl, rfl⟩
    go_wp2_with fail
    refine (HLe.out _).mono ?_
    rintro e w8 ⟨rfl, rfl⟩
    go_wp2_with fail
    go_ret
    exact ⟨rfl, g⟩
  have y1 : (y != 0) = false := by rw [hy0]; rfl
  subst hy0
  obtain ⟨hl160, _⟩ := HEX.out HY.out.symm
  have hn24 : n ≤ 24 := by have := HN1.out; have := HNX.out; omega
  have HFG := Lib.hid (fun W (g : Gr w W) => fewest_good xs (.slice p n cap) W (HV.out.gr g) hl160 (fun W2 g2 => HCK.out W2 (g.trans g2)))
  have HAP : Hid (∀ W, Gr w W → Calls Tryz.prog 14 #[.slice p n cap] W fun e w' => ∃ (pO : Option Addr) (cO : Nat) (o : List Nat), e = .returned (.tuple #[.slice pO n cO, .int .i64 0]) ∧ o.Perm (List.range n) ∧ Greedy none (natO xs o) ∧ NumS w' pO o ∧ Gr W w') := fun W g => by
    refine (apart_c J xs (.slice p n cap) W (HV.out.gr g) hl160 (fun W2 g2 => HCK.out W2 (g.trans g2))).mono ?_
    rintro e w' ⟨pO, cO, o, rfl, h1, h2, h3, h4, h5⟩
    rw [HNX.out]
    exact ⟨pO, cO, o, rfl, h1, h2, .zero fun h0 => h4 (by rw [h1.length_eq, List.length_range] at h0; exact h0), h5⟩
  have HRF := Lib.hid (fun W u (h : EntAts W u xs) => refFewest_c xs u W h hl160)
  have HRO : Hid (∀ W (o : List Nat) (qq : Option Addr) (cc : Nat), o.Perm (List.range n) → NumS W qq o → Calls Tryz.prog 19 #[.int .i64 (n : Int), .slice qq n cc] W fun e w' => e = .returned (.int .i64 0) ∧ Gr W w') := fun W o qq cc hp hq => by
    have hl : o.length = n := by rw [hp.length_eq, List.length_range]
    have := refOrder_c (natI o) n cc qq n W (by rw [natI_len, hl]) (by omega) (by omega) (hq.ints hl)
    rwa [show ordersE (n : Int) (natI o) = 0 from perm_ordersE hp] at this
  have HRB2 : Hid (∀ W u (o : List Nat) (qq : Option Addr) (cc : Nat), EntAts W u xs → o.Perm (List.range n) → IntS W qq n (o.map fun (i : Nat) => (i : Int)) → Calls Tryz.prog 20 #[u, .slice qq n cc] W fun e w' => e = .returned (.int .i64 (pairsF none (natO xs o) : Nat)) ∧ Gr W w') := fun W u o qq cc hu hp hq => by
    have hl : o.length = n := by rw [hp.length_eq, List.length_range]
    exact refNb_c xs u o qq n cc W hu hl (by omega) hq (fun a ha => by have := List.mem_range.1 (hp.mem_iff.1 ha); have := HNX.out; omega)
  have HRZ := Lib.hid (fun W (gg : Gr w W) => refOrder_c zs m c q n W HZI.out.len (by omega) (by omega) (HZI.out.gr gg).out)
  have HPZ := Lib.hid (fun W (gg : Gr w W) => checkOrder_c zs m c q (n : Int) W HZI.out.len (by omega) HMC.out (HZI.out.gr gg).out)
  obtain ⟨oo, hoo⟩ : ∃ o, o = ordersE (n : Int) zs := ⟨_, rfl⟩
  rw [← hoo] at HRZ HPZ
  have HOO := Lib.hid hoo
  clear hoo
  by_cases ho0 : oo = 0
  case neg =>
    have o1 : (oo != 0) = true := bne_iff_ne.2 ho0
    have HB2 := Lib.hid (fun W (g : Gr w W) => nb_bad2 oo (.slice p n cap) n p cap (.slice q m c) W rfl ho0 (HCK.out W g) (fun W2 g2 => HPZ.out W2 (g.trans g2)))
    have HI := Lib.hid (fun W => int6_err oo 0 ho0 W)
    clear ho0
    go_wp2_with fail
    refine (HB2.out _ g).mono ?_
    rintro e Wa ⟨rfl, hg⟩
    replace hu := hu.gr hg
    replace g := g.trans hg
    clear hg
    go_wp2_with fail
    refine (HFG.out _ g).mono ?_
    rintro e Wb ⟨M, hM, hMn, rfl, hg⟩
    replace hu := hu.gr hg
    replace g := g.trans hg
    clear hg
    go_wp2_with fail
    refine (HAP.out _ g).mono ?_
    rintro e Wc ⟨pO, cO, o, rfl, hop, hgd, hno, hg⟩
    replace hu := hu.gr hg
    replace g := g.trans hg
    clear hg
    go_wp2_with fail
    refine (HRC2.out _ _ hu).mono ?_
    rintro e Wd ⟨rfl, hg⟩
    replace hu := hu.gr hg
    replace hno := hno.gr hg
    replace g := g.trans hg
    clear hg
    go_wp2_with fail
    refine (HRF.out _ _ hu).mono ?_
    rintro e We ⟨M2, hM2, hMn2, rfl, hg⟩
    obtain rfl := hM.unique hM2
    replace hu := hu.gr hg
    replace hno := hno.gr hg
    replace g := g.trans hg
    clear hg
    have hMx : Most xs n M := by rw [HNX.out]; exact hM
    have HFV := Lib.hid (greedy_few hgd hop hMx)
    rw [← HNX.out]
    generalize hF : fewV n M = F at *
    clear hF
    have HF0 := Lib.hid (fun W => int6_ok ((F : Nat) : Int) W)
    go_wp2_with fail
    refine (HF0.out _).mono ?_
    rintro e w8 ⟨rfl, rfl⟩
    have HR1 := Lib.hid (HRO.out _ o pO cO hop hno)
    go_wp2_with fail
    refine HR1.out.mono ?_
    rintro e Wf ⟨rfl, hg⟩
    replace hu := hu.gr hg
    replace hno := hno.gr hg
    replace g := g.trans hg
    clear hg
    have HR3 := Lib.hid (HRB2.out _ _ o pO cO hu hop (hno.toInts (by rw [hop.length_eq, List.length_range])))
    rw [HFV.out] at HR3
    have hFF : (((F : Nat) : Int) != ((F : Nat) : Int)) = false := by simp
    go_wp2_with fail
    refine HR3.out.mono ?_
    rintro e Wg ⟨rfl, hg⟩
    replace hu := hu.gr hg
    replace g := g.trans hg
    clear hg hM hM2 hop hgd hno hMx
    go_wp2_with fail
    refine (HRZ.out _ g).mono ?_
    rintro e Wh ⟨rfl, hg⟩
    replace hu := hu.gr hg
    replace g := g.trans hg
    clear hg
    go_wp2_with fail
    refine (HI.out _).mono ?_
    rintro e w8 ⟨rfl, rfl⟩
    go_wp2_with fail
    go_ret
    exact ⟨rfl, g⟩
  have o1 : (oo != 0) = false := by rw [ho0]; rfl
  obtain ⟨qo, hqo, hqp⟩ := ordersE_perm (HOO.out.symm.trans ho0)
  have hmn : n = m := by rw [← HZI.out.len, hqo, List.length_map, hqp.length_eq, List.length_range]
  subst hmn
  have HQP := Lib.hid hqp
  have HQI : Hid (∀ W, Gr w W → IntS W q n (qo.map fun (i : Nat) => (i : Int))) := fun W gg => by
    have := HZI.out.gr gg
    rwa [hqo] at this
  have HNQ := Lib.hid (fun W (gg : Gr w W) => nb_c xs (.slice p n cap) qo q n c W (HV.out.gr gg) HY.out.symm HNX.out.symm (by omega) hqp (.of_ints (fun h0 => (HQI.out W gg).out (by rw [hqp.length_eq, List.length_range] at h0; exact h0))) HMC.out)
  subst ho0
  clear hqo hqp
  go_wp2_with fail
  refine (HNQ.out _ g).mono ?_
  rintro e Wa ⟨rfl, hg⟩
  replace hu := hu.gr hg
  replace g := g.trans hg
  clear hg
  go_wp2_with fail
  refine (HFG.out _ g).mono ?_
  rintro e Wb ⟨M, hM, hMn, rfl, hg⟩
  replace hu := hu.gr hg
  replace g := g.trans hg
  clear hg
  go_wp2_with fail
  refine (HAP.out _ g).mono ?_
  rintro e Wc ⟨pO, cO, o, rfl, hop, hgd, hno, hg⟩
  replace hu := hu.gr hg
  replace g := g.trans hg
  clear hg
  go_wp2_with fail
  refine (HRC2.out _ _ hu).mono ?_
  rintro e Wd ⟨rfl, hg⟩
  replace hu := hu.gr hg
  replace hno := hno.gr hg
  replace g := g.trans hg
  clear hg
  go_wp2_with fail
  refine (HRF.out _ _ hu).mono ?_
  rintro e We ⟨M2, hM2, hMn2, rfl, hg⟩
  obtain rfl := hM.unique hM2
  replace hu := hu.gr hg
  replace hno := hno.gr hg
  replace g := g.trans hg
  clear hg
  have hMx : Most xs n M := by rw [HNX.out]; exact hM
  have HFV := Lib.hid (greedy_few hgd hop hMx)
  rw [← HNX.out]
  generalize hF : fewV n M = F at *
  clear hF
  have HF0 := Lib.hid (fun W => int6_ok ((F : Nat) : Int) W)
  go_wp2_with fail
  refine (HF0.out _).mono ?_
  rintro e w8 ⟨rfl, rfl⟩
  have HR1 := Lib.hid (HRO.out _ o pO cO hop hno)
  go_wp2_with fail
  refine HR1.out.mono ?_
  rintro e Wf ⟨rfl, hg⟩
  replace hu := hu.gr hg
  replace hno := hno.gr hg
  replace g := g.trans hg
  clear hg
  have HR3 := Lib.hid (HRB2.out _ _ o pO cO hu hop (hno.toInts (by rw [hop.length_eq, List.length_range])))
  rw [HFV.out] at HR3
  have hFF : (((F : Nat) : Int) != ((F : Nat) : Int)) = false := by simp
  go_wp2_with fail
  refine HR3.out.mono ?_
  rintro e Wg ⟨rfl, hg⟩
  replace hu := hu.gr hg
  replace g := g.trans hg
  clear hg hM hM2 hop hgd hno hMx
  go_wp2_with fail
  refine (HRZ.out _ g).mono ?_
  rintro e Wh ⟨rfl, hg⟩
  replace hu := hu.gr hg
  replace g := g.trans hg
  clear hg
  have HK3 := Lib.hid (HRB2.out _ _ qo q c hu HQP.out (HQI.out _ g))
  generalize pairsF none (natO xs qo) = K at *
  have HK := Lib.hid (fun W => int6_ok ((K : Nat) : Int) W)
  go_wp2_with fail
  refine HK3.out.mono ?_
  rintro e Wi ⟨rfl, hg⟩
  replace g := g.trans hg
  clear hg
  go_wp2_with fail
  refine (HK.out _).mono ?_
  rintro e w8 ⟨rfl, rfl⟩
  go_wp2_with fail
  go_ret
  exact ⟨rfl, g⟩
end Go.Proofs.YtcnpmebihdonoaaGreatDoor
