/- StartSpreads: the law, walked. -/
import Derived.Test.YtcnpmebihdonoaaGreatDoorSpL
import Derived.Test.YtcnpmebihdonoaaGreatDoorGSpM
import Derived.Test.YtcnpmebihdonoaaGreatDoorGDrC
import Derived.Test.YtcnpmebihdonoaaGreatDoorLsP
import Derived.BigRegion
namespace Go.Proofs.YtcnpmebihdonoaaGreatDoor
open Go.RowKit Go.Lib
set_option linter.unusedSimpArgs false
set_option linter.unusedVariables false
theorem OrdL.perm {xs : List EntR} {key : Nat} {r : List Nat} (h : OrdL xs key r) : r.Perm (List.range xs.length) := by
  refine List.Perm.trans ?_ (drawN_perm key xs.length)
  rw [List.perm_iff_count]
  intro a
  have h1 : ∀ q : List Nat, q.count a = (q.filter fun x => keyN xs x == keyN xs a).count a := fun q => by
    rw [List.count_filter]
    simp
  rw [h1 r, h1 (drawN key xs.length).toList, h.flt]
theorem addr_add (b o j : Nat) : (⟨b, o, none⟩ : Addr).add j = ⟨b, o + j, none⟩ := by unfold Addr.add; split <;> simp_all
/-- the slice holds these numbers -/
structure NumS (w : World) (q : Option Addr) (p : List Nat) : Prop where
  mk' ::
  out : 0 < p.length → ∃ g off, q = some ⟨g, off, none⟩ ∧ ∀ (i a : Nat), p[i]? = some a → w.cell? ⟨g, off + i, none⟩ = some (.int .i64 (a : Int))
theorem NumS.gr {w w' : World} {q : Option Addr} {p : List Nat} (h : NumS w q p) (k : Gr w w') : NumS w' q p := ⟨fun h0 => by
  obtain ⟨g, off, e, hc⟩ := h.out h0
  exact ⟨g, off, e, fun i a ha => k.cell (hc i a ha)⟩⟩
theorem NumS.zero {w : World} {q : Option Addr} {p : List Nat} (h : 0 < p.length → ∃ g, q = some ⟨g, 0, none⟩ ∧ ∀ (i a : Nat), p[i]? = some a → w.cell? ⟨g, i, none⟩ = some (.int .i64 (a : Int))) : NumS w q p := ⟨fun h0 => by
  obtain ⟨g, e, hc⟩ := h h0
  exact ⟨g, 0, e, fun i a ha => by rw [Nat.zero_add]; exact hc i a ha⟩⟩
theorem NumS.ints {w : World} {q : Option Addr} {p : List Nat} {m : Nat} (h : NumS w q p) (hm : p.length = m) : 0 < m → ∃ b off, q = some ⟨b, off, none⟩ ∧ ∀ (i : Nat) (z : Int), (natI p)[i]? = some z → w.cell? ⟨b, off + i, none⟩ = some (.int .i64 z) := fun h0 => by
  obtain ⟨g, off, e, hc⟩ := h.out (by omega)
  refine ⟨g, off, e, fun i z hz => ?_⟩
  unfold natI at hz
  rw [List.getElem?_map] at hz
  cases hp : p[i]? with
  | none => rw [hp] at hz; cases hz
  | some a =>
    rw [hp] at hz
    cases hz
    exact hc i a hp
theorem NumS.of_ints {w : World} {q : Option Addr} {p : List Nat} (h : 0 < p.length → ∃ b off, q = some ⟨b, off, none⟩ ∧ ∀ (i : Nat) (z : Int), (p.map fun (i : Nat) => (i : Int))[i]? = some z → w.cell? ⟨b, off + i, none⟩ = some (.int .i64 z)) : NumS w q p := ⟨fun h0 => by
  obtain ⟨b, off, e, hc⟩ := h h0
  exact ⟨b, off, e, fun i a ha => hc i (a : Int) (by rw [List.getElem?_map, ha]; rfl)⟩⟩
theorem NumS.of_own {w : World} {b n : Nat} {q : Option Addr} {c : Nat} {p : List Nat} (h : w.ownsRow b 3 1 (.slice q n c) n (nats p)) (hn : p.length = n) : NumS w q p := .zero fun h0 => by
  obtain ⟨g, c2, e, _, _, _, hc⟩ := own_at h (by omega)
  simp only [Value.slice.injEq] at e
  exact ⟨g, e.1, fun i a ha => hc i _ (by unfold nats; rw [List.getElem?_map, ha]; rfl)⟩
theorem NumS.of_rowP {w : World} {g : Nat} {l : Array Nat} (h : RowP w g l) : NumS w (some ⟨g, 0, none⟩) l.toList := .zero fun h0 => ⟨g, rfl, fun i a ha => by
  have hi : i < l.size := by have := (List.getElem?_eq_some_iff.1 ha).1; simpa using this
  rw [h.cell hi]
  congr 2
  have : l[i] = a := by simpa using (List.getElem?_eq_some_iff.1 ha).2
  simp [Array.getD, hi, this]⟩
theorem nb_c (xs : List EntR) (v : Value) (p : List Nat) (q : Option Addr) (n c : Nat) (w : World) (hv : EntAts w v xs) (hz : listE 160 (entE xs) xs = 0) (hn : xs.length = n) (h1 : n ≤ 1000) (hp : p.Perm (List.range n)) (hq : NumS w q p) (hc : n ≤ c) :
    Calls Tryz.prog 12 #[v, .slice q n c] w fun e w' => e = .returned (.tuple #[.int .i64 (pairsF none (natO xs p) : Nat), .int .i64 0]) ∧ Gr w w' := by
  have hl : p.length = n := by rw [hp.length_eq, List.length_range]
  refine neighbours_c xs v p q n c w hv hl h1 (fun h0 => ?_) (fun a ha => by rw [hn]; exact List.mem_range.1 (hp.mem_iff.1 ha)) (fun W g => ?_) (fun W g => ?_)
  · exact hq.out (by omega)
  · have := checkEnts_c xs v W (hv.gr g)
    rwa [hz] at this
  · have h9 : ordersE ((xs.length : Nat) : Int) (natI p) = 0 := by rw [hn]; exact perm_ordersE hp
    have h8 := checkOrder_c (natI p) n c q ((xs.length : Nat) : Int) W (by rw [natI_len, hl]) h1 hc ((hq.gr g).ints hl)
    rw [h9] at h8
    exact h8
theorem tmod_nat (a b : Nat) : Int.tmod (a : Int) (b : Int) = ((a % b : Nat) : Int) := by
  rw [Int.tmod_eq_emod_of_nonneg (Int.natCast_nonneg _)]; rfl
set_option maxHeartbeats 8000000 in
set_option maxRecDepth 100000 in
theorem lawSpreads_c (I : InsNOK) (J : InsNOKT) (xs : List EntR) (v : Value) (zs : List Int) (q : Option Addr) (m c : Nat) (a0 a1 a2 : Nat) (w : World) (hv : EntAts w v xs) (hb : xs.length * 40 ≤ 140737488355328) (hzl : zs.length = m) (hmc : m ≤ c)
    (hzd : 0 < m → ∃ b off, q = some ⟨b, off, none⟩ ∧ ∀ (i : Nat) (z : Int), zs[i]? = some z → w.cell? ⟨b, off + i, none⟩ = some (.int .i64 z)) (h0 : a0 < 256) (h1 : a1 < 256) (h2 : a2 < 256) (hA : AwakeOK w) :
    Calls Tryz.prog 4 #[v, .slice q m c, .agg #[.int .u8 (a0 : Int), .int .u8 (a1 : Int), .int .u8 (a2 : Int)]] w fun e w' => e = .returned (.bool true) ∧ Gr w w' := by
  obtain ⟨i0, hi3, hz03, hz13, hz23⟩ := info_parts info3
  obtain ⟨WB, hWB, gB, b0, b1, b2⟩ := box3 w (.int .u8 (a0 : Int)) (.int .u8 (a1 : Int)) (.int .u8 (a2 : Int)) 45
  have HWB := Lib.hid hWB
  have HA := Lib.hid hA
  have HCv := Lib.hid (fun W (g : Gr w W) => ents_c (hv.gr g) hb)
  have HSH := Lib.hid (fun W u (h : EntAts W u xs) => shortEnts_c 20 (by omega) h)
  have HRC := Lib.hid (fun W u (h : EntAts W u xs) => refEnts_c h)
  have HEX := Lib.hid (fun h => ent_range (xs := xs) h)
  have HV := Lib.hid hv
  have HZD := Lib.hid hzd
  have HZL := Lib.hid hzl
  have HMC := Lib.hid hmc
  obtain ⟨p, n, cap, rfl, HNX⟩ : ∃ p n cap, v = .slice p n cap ∧ Hid (n = xs.length) := by
    obtain ⟨⟨p, cap, rfl, _⟩⟩ := hv
    exact ⟨p, _, cap, rfl, rfl⟩
  generalize hz : listE 160 (entE xs) xs = z at *
  have HZ := Lib.hid hz
  obtain ⟨B, hB⟩ : ∃ B, B = w.heap.size := ⟨_, rfl⟩
  rw [← hB] at b0 b1 b2
  have HB := Lib.hid hB
  clear hv hb hA hz hWB hzd hzl hmc hB
  go_enter Tryz.func4, Tryz.ntmps4
  go_wp2_with fail
  rw [HWB.out, ← HB.out]
  refine (HCv.out _ gB).mono ?_
  rintro e W1 ⟨u, rfl, hu, hg⟩
  obtain ⟨pu, nu, cu, rfl⟩ : ∃ p n c, u = .slice p n c := by
    obtain ⟨⟨p, cap, rfl, _⟩⟩ := hu
    exact ⟨p, _, cap, rfl⟩
  replace b0 := hg.cell b0
  replace b1 := hg.cell b1
  replace b2 := hg.cell b2
  have g := gB.trans hg
  clear hg gB
  go_wp2_with fail
  refine (HA.out _ g).mono ?_
  rintro e W2 ⟨rfl, hg⟩
  replace b0 := hg.cell b0
  replace b1 := hg.cell b1
  replace b2 := hg.cell b2
  replace hu := hu.gr hg
  replace g := g.trans hg
  clear hg
  go_wp2_with fail
  refine (HSH.out _ _ hu).mono ?_
  rintro e W3 ⟨⟨sh, rfl, hr⟩, rfl⟩
  cases sh
  · clear hr
    go_wp2_with (refine (HA.out _ g).mono ?_; rintro e Wa ⟨rfl, g4⟩; replace g4 := g.trans g4)
    go_ret
    exact ⟨rfl, g4⟩
  obtain ⟨hn1, hn2⟩ := hr rfl
  have HN1 := Lib.hid hn1
  clear hr hn1 hn2
  have HRC1 := Lib.hid (HRC.out _ _ hu)
  by_cases hz0 : z = 0
  case neg =>
    have z2 : (z != 0) = true := bne_iff_ne.2 hz0
    go_wp2_with fail
    refine HRC1.out.mono ?_
    rintro e W4 ⟨rfl, hg⟩
    replace g := g.trans hg
    clear hg
    go_wp2_with (refine (HA.out _ g).mono ?_; rintro e Wa ⟨rfl, g4⟩; replace g4 := g.trans g4)
    go_ret
    exact ⟨rfl, g4⟩
  have z2 : (z != 0) = false := by rw [hz0]; rfl
  by_cases hm30 : 30 < m
  · have hm1 : (30 : Int) < (m : Int) := by omega
    go_wp2_with fail
    refine HRC1.out.mono ?_
    rintro e W4 ⟨rfl, hg⟩
    replace g := g.trans hg
    clear hg
    go_wp2_with (refine (HA.out _ g).mono ?_; rintro e Wa ⟨rfl, g4⟩; replace g4 := g.trans g4)
    go_ret
    exact ⟨rfl, g4⟩
  have hm1 : ¬ (30 : Int) < (m : Int) := by omega
  have hm2 : decide ((30 : Int) < (m : Int)) = false := decide_eq_false hm1
  obtain ⟨hl160, hsd⟩ := HEX.out hz0
  have hn20 : n ≤ 20 := by have := HN1.out; have := HNX.out; omega
  have HZ0 : Hid (listE 160 (entE xs) xs = 0) := HZ.out.trans hz0
  obtain ⟨r0, hr0⟩ : ∃ r, r = a0 % 6 := ⟨_, rfl⟩
  have hr6 : r0 < 6 := by rw [hr0]; exact Nat.mod_lt _ (by omega)
  have ht0 : Int.tmod (a0 : Int) 6 = (r0 : Int) := by rw [hr0]; exact tmod_nat a0 6
  obtain ⟨mn, hmn⟩ : ∃ mn, mn = r0 + 1 := ⟨_, rfl⟩
  obtain ⟨kn, hkn⟩ : ∃ kn, kn = a1 + 1 := ⟨_, rfl⟩
  have em : (1 : Int) + (r0 : Int) = (mn : Int) := by omega
  have ek : (1 : Int) + (a1 : Int) = (kn : Int) := by omega
  have wm : IntKind.i64.wrap (mn : Int) = (mn : Int) := by rw [IntKind.wrap_i64]; omega
  have wk : IntKind.i64.wrap (kn : Int) = (kn : Int) := by rw [IntKind.wrap_i64]; omega
  have wa0 : IntKind.i64.wrap (a0 : Int) = (a0 : Int) := by rw [IntKind.wrap_i64]; omega
  have wa1 : IntKind.i64.wrap (a1 : Int) = (a1 : Int) := by rw [IntKind.wrap_i64]; omega
  have wr0 : IntKind.i64.wrap (r0 : Int) = (r0 : Int) := by rw [IntKind.wrap_i64]; omega
  have HMN := Lib.hid hmn
  have HKN := Lib.hid hkn
  clear hr0 hmn hkn HEX HSH HRC HCv
  go_wp2_with fail
  refine HRC1.out.mono ?_
  rintro e W4 ⟨rfl, hg⟩
  replace b0 := hg.cell b0
  replace b1 := hg.cell b1
  replace b2 := hg.cell b2
  replace hu := hu.gr hg
  replace g := g.trans hg
  clear hg HRC1 HA
  go_wp2_with fail
  go_big_quiet (fail)
  go_wp2_with fail
  replace b0 := ((Gr.refl W4).drewN nq).cell b0
  replace b1 := ((Gr.refl W4).drewN nq).cell b1
  replace b2 := ((Gr.refl W4).drewN nq).cell b2
  replace g := g.drewN nq
  generalize W4.drewN nq = W5 at *
  have HCk : Hid (∀ W, Gr w W → Calls Tryz.prog 41 #[.slice p n cap] W fun e w' => e = .returned (.int .i64 0) ∧ Gr W w') := fun W gg => by
    have := checkEnts_c xs (.slice p n cap) W (HV.out.gr gg)
    rwa [HZ0.out] at this
  have hE : drawE (kn : Int) ((xs.length : Nat) : Int) = 0 := by
    have h7 := HKN.out
    unfold drawE
    rw [decide_eq_false (by omega), decide_eq_false (by omega), decide_eq_false (by omega), decide_eq_false (by omega)]
    rfl
  have HSD := Lib.hid (fun W (gg : Gr w W) => seeded_c I xs (.slice p n cap) (kn : Int) W (HV.out.gr gg) hl160)
  have HSG := Lib.hid (fun W (gg : Gr w W) => seededGood_c I xs (.slice p n cap) (kn : Int) W (HV.out.gr gg) HZ0.out hl160)
  rw [hE] at HSD HSG
  have HSq : Hid (∀ W, Gr w W → Calls Tryz.prog 22 #[.slice p n cap, .int .i64 (kn : Int)] W fun e w' => ∃ po r, e = .returned (.tuple #[.slice po n n, .int .i64 0]) ∧ OrdL xs kn r ∧ NumS w' po r ∧ Gr W w') := fun W g => by
    refine (HSG.out W g).mono ?_
    rintro e w' ⟨u, rfl, hr, hg⟩
    obtain ⟨kn', po, r, hk, rfl, ho, hat⟩ := hr.good rfl
    obtain rfl : kn' = kn := by omega
    rw [HNX.out]
    exact ⟨po, r, rfl, ho, .zero fun h0 => by rw [ho.len] at h0; obtain ⟨g, e, ha⟩ := hat h0; exact ⟨g, e, ha.at_⟩, hg⟩
  have HGr : Hid (∀ W, Gr w W → Calls Tryz.prog 21 #[.slice p n cap, .int .i64 (mn : Int), .int .i64 (kn : Int)] W fun e w' => ∃ G vs r, e = .returned (.tuple #[.slice (some ⟨G, 0, none⟩) mn mn, .int .i64 0]) ∧ OrdL xs kn r ∧ GRow w' G G vs (grpL mn r xs.length) ∧ Gr W w') := fun W g => by
    refine (groups_good _ xs.length mn kn (fun r => OrdL xs kn r) W (by omega) (by omega) (fun r h => h.len) hl160 (fun W2 g2 => HCk.out W2 (g.trans g2)) (fun W2 g2 => (HSD.out W2 (g.trans g2)).mono ?_)).mono ?_
    · rintro e w' ⟨u, rfl, hr, hg⟩
      obtain ⟨kn', po, r, hk, rfl, ho, hat⟩ := hr.good rfl
      obtain rfl : kn' = kn := by omega
      exact ⟨po, r, rfl, ho, hat, hg⟩
    · rintro e w' ⟨G, vs, r, rfl, h1, h2, h3⟩
      exact ⟨G, vs, r, rfl, h1, h2, h3⟩
  have HAp : Hid (∀ W, Gr w W → Calls Tryz.prog 14 #[.slice p n cap] W fun e w' => ∃ (pO : Option Addr) (cO : Nat) (o : List Nat), e = .returned (.tuple #[.slice pO n cO, .int .i64 0]) ∧ o.Perm (List.range n) ∧ Greedy none (natO xs o) ∧ (n ≤ cO ∧ cO ≤ maxLen) ∧ NumS w' pO o ∧ Gr W w') := fun W g => by
    refine (apart_c J xs (.slice p n cap) W (HV.out.gr g) hl160 (fun W2 g2 => HCk.out W2 (g.trans g2))).mono ?_
    rintro e w' ⟨pO, cO, o, rfl, h1, h2, h3, h4, h5⟩
    rw [HNX.out]
    exact ⟨pO, cO, o, rfl, h1, h2, h3, .zero fun h0 => h4 (by rw [h1.length_eq, List.length_range] at h0; exact h0), h5⟩
  have HNB : Hid (∀ W (o : List Nat) (qq : Option Addr) (cc : Nat), Gr w W → o.Perm (List.range n) → NumS W qq o → n ≤ cc → Calls Tryz.prog 12 #[.slice p n cap, .slice qq n cc] W fun e w' => e = .returned (.tuple #[.int .i64 (pairsF none (natO xs o) : Nat), .int .i64 0]) ∧ Gr W w') := fun W o qq cc gg hp hq hc => nb_c xs _ o qq n cc W (HV.out.gr gg) HZ0.out HNX.out.symm (by omega) hp hq hc
  have HRO : Hid (∀ W (o : List Nat) (qq : Option Addr) (cc : Nat), o.Perm (List.range n) → NumS W qq o → Calls Tryz.prog 19 #[.int .i64 (n : Int), .slice qq n cc] W fun e w' => e = .returned (.int .i64 0) ∧ Gr W w') := fun W o qq cc hp hq => by
    have hl : o.length = n := by rw [hp.length_eq, List.length_range]
    have := refOrder_c (natI o) n cc qq n W (by rw [natI_len, hl]) (by omega) (by omega) (hq.ints hl)
    rwa [show ordersE (n : Int) (natI o) = 0 from perm_ordersE hp] at this
  have HRZ := Lib.hid (fun W (gg : Gr w W) => refOrder_c zs m c q n W HZL.out (by omega) (by omega) (fun h0 => by
    obtain ⟨b, off, e, hc⟩ := HZD.out h0
    exact ⟨b, off, e, fun i z hz => gg.cell (hc i z hz)⟩))
  clear hE HSD HSG I J hsd
  refine (HGr.out _ g).mono ?_
  rintro e W6 ⟨G, vs, r2, rfl, ho2, hrow, hg⟩
  replace b1 := hg.cell b1
  replace b2 := hg.cell b2
  replace g := g.trans hg
  clear hg b0
  go_wp2_with fail
  refine (HSq.out _ g).mono ?_
  rintro e W7 ⟨po, r, rfl, ho, hro, hg⟩
  obtain rfl := OrdL.unique ho ho2
  replace b1 := hg.cell b1
  replace b2 := hg.cell b2
  replace hrow := hrow.gr hg
  replace g := g.trans hg
  clear hg ho2
  go_wp2_with fail
  refine (HAp.out _ g).mono ?_
  rintro e W8 ⟨pO, cO, o, rfl, hpo, hgd, hcO, hno, hg⟩
  replace b1 := hg.cell b1
  replace b2 := hg.cell b2
  replace hrow := hrow.gr hg
  replace hro := hro.gr hg
  replace g := g.trans hg
  clear hg
  have hrp : r.Perm (List.range n) := by rw [HNX.out]; exact ho.perm
  have HR1 := Lib.hid (HRO.out W8 r po n hrp hro)
  go_wp2_with fail
  refine HR1.out.mono ?_
  rintro e W9 ⟨rfl, hg⟩
  replace b1 := hg.cell b1
  replace b2 := hg.cell b2
  replace hrow := hrow.gr hg
  replace hro := hro.gr hg
  replace hno := hno.gr hg
  replace g := g.trans hg
  clear hg HR1
  have HR1 := Lib.hid (HRO.out W9 o pO cO hpo hno)
  go_wp2_with fail
  refine HR1.out.mono ?_
  rintro e W10 ⟨rfl, hg⟩
  replace b1 := hg.cell b1
  replace b2 := hg.cell b2
  replace hrow := hrow.gr hg
  replace hro := hro.gr hg
  replace hno := hno.gr hg
  replace g := g.trans hg
  clear hg HR1
  have hmk := make_ints n (by omega) W10
  have hPA : RowA (W10.alloc (.cells (intsA (fillA n 0)) 3)) W10.heap.size (fillA n 0) := heap_alloc_new W10 _
  have gA : Gr W10 (W10.alloc (.cells (intsA (fillA n 0)) 3)) := (Gr.refl W10).alloc _
  go_wp2_with fail
  clear hmk
  generalize W10.alloc (.cells (intsA (fillA n 0)) 3) = WP at *
  obtain ⟨PG, hPG⟩ : ∃ PG, PG = W10.heap.size := ⟨_, rfl⟩
  rw [← hPG] at hPA ⊢
  have HPG : Hid (W10.heap.size ≤ PG) := by unfold Hid; omega
  have hrl : r.length = n := by rw [hrp.length_eq, List.length_range]
  have hol : o.length = n := by rw [hpo.length_eq, List.length_range]
  have HRL := Lib.hid hrl
  have HOL := Lib.hid hol
  have HRP := Lib.hid hrp
  have HRO2 := Lib.hid hro
  have HNO := Lib.hid hno
  have HRW := Lib.hid hrow
  have HG10 := Lib.hid g
  have HB1 := Lib.hid b1
  have HB2 := Lib.hid b2
  have HPO := Lib.hid hpo
  have HGD := Lib.hid hgd
  have HP0 : Hid (RowA WP PG (fillA n 0) ∧ (fillA n 0).size = n ∧ ∀ (k a : Nat), k < 0 → r[k]? = some a → (fillA n 0).getD a 0 = k) := ⟨hPA, fillA_size n 0, fun k a h => absurd h (by omega)⟩
  have HGA := Lib.hid gA
  clear hPG hrl hol hrp hro hno hrow g b1 b2 hpo hgd hPA gA ho hu
  go_loopg [17, 112] n (fun gk s17 s112 wr => ∃ (i : Nat) (f : Array Nat), s112 = .int .i64 (i : Int) ∧ gk + i = n ∧ Hid (RowA wr PG f ∧ f.size = n ∧ ∀ (k a : Nat), k < i → r[k]? = some a → f.getD a 0 = k) ∧ Hid (Gr W10 wr))
  case atStart => exact ⟨0, _, rfl, by omega, HP0.out, HGA.out⟩
  case round =>
    clear HP0 HGA
    obtain ⟨i, f, rfl, hgk, HF, HG⟩ := hrel
    by_cases hlt : i < n
    · obtain ⟨a, ha⟩ : ∃ a, r[i]? = some a := ⟨r[i]'(by have := HRL.out; omega), List.getElem?_eq_getElem _⟩
      have han : a < n := List.mem_range.1 (HRP.out.mem_iff.1 (List.mem_of_getElem? ha))
      obtain ⟨g1, of1, rfl, hc1⟩ := HRO2.out.out (by have := HRL.out; omega)
      have f1 := HG.out.cell (hc1 i a ha)
      have f2 := HF.out.1.cell (i := a) (by rw [HF.out.2.1]; exact han)
      have f3 := HF.out.1.frozen a
      have hii : (i : Int) < n := by omega
      have hai : (a : Int) < n := by omega
      have HF2 : Hid (RowA (wr.setCell ⟨PG, a, none⟩ (.int .i64 (i : Int))) PG (f.setIfInBounds a i) ∧ (f.setIfInBounds a i).size = n ∧ ∀ (k b : Nat), k < i + 1 → r[k]? = some b → (f.setIfInBounds a i).getD b 0 = k) := by
        refine ⟨HF.out.1.set a i, by rw [Array.size_setIfInBounds]; exact HF.out.2.1, fun k b hk hb => ?_⟩
        have hbn : b < n := List.mem_range.1 (HRP.out.mem_iff.1 (List.mem_of_getElem? hb))
        have hsz := HF.out.2.1
        by_cases e : k = i
        · subst e
          rw [ha] at hb
          cases hb
          simp [Array.getD, hsz, han]
        · have hne : ¬ a = b := fun q => by
            subst q
            have := (List.getElem?_inj (List.getElem?_eq_some_iff.1 hb).1 (HRP.out.nodup_iff.2 List.nodup_range)).1 (hb.trans ha.symm)
            omega
          rw [getD_set_ne hne]
          exact HF.out.2.2 k b (by omega) hb
      have HG2 : Hid (Gr W10 (wr.setCell ⟨PG, a, none⟩ (.int .i64 (i : Int)))) := Below.setCell HG.out (p := ⟨PG, a, none⟩) HPG.out _
      clear ha hc1
      go_wp2_with fail
      go_roundg (gk - 1)
      case measure => omega
      case rel => exact ⟨i + 1, _, by go_num, by omega, HF2.out, HG2.out⟩
    · obtain rfl : i = n := by omega
      have hii : (i : Int) ≤ i := by omega
      have HFA : Hid (∀ (k a : Nat), r[k]? = some a → f.getD a 0 = k) := fun k a ha => HF.out.2.2 k a (by have := (List.getElem?_eq_some_iff.1 ha).1; have := HRL.out; omega) ha
      go_wp2_with fail
      have HF1 := Lib.hid HF.out.1
      have HFZ := Lib.hid HF.out.2.1
      have HW11 := Lib.hid HG.out
      clear HF HG
      generalize wr = W11 at *
      have hm0 : 0 < mn := by have := HMN.out; omega
      have hgf := grpL_facts hm0 r i (by rw [HRL.out]; exact Nat.le_refl _)
      have hLl := grpL_len mn r i
      rw [← HNX.out] at HRW
      have HRW2 := Lib.hid (HRW.out.gr HW11.out)
      generalize hLe : grpL mn r i = L at *
      clear hLe HRW
      have HGF := Lib.hid hgf.1
      have HSUM := Lib.hid hgf.2
      have HLL := Lib.hid hLl
      obtain ⟨l0, hl0⟩ : ∃ l, L[0]? = some l := ⟨_, List.getElem?_eq_getElem (by rw [hLl]; exact hm0)⟩
      obtain ⟨v0, hv0⟩ : ∃ v, vs[0]? = some v := ⟨_, List.getElem?_eq_getElem (by rw [HRW2.out.len, hLl]; exact hm0)⟩
      obtain ⟨p0, c0, hv0e, -, -⟩ := own_shape (HRW2.out.own 0 v0 l0 hv0 hl0)
      subst hv0e
      have HV0 := Lib.hid (HRW2.out.cell hv0)
      have hl0l := (HGF.out 0 l0 hl0).1
      have hl0b := lenG_le mn i 0
      have hdn : i / mn ≤ i := Nat.div_le_self _ _
      obtain ⟨y, hy⟩ : ∃ y, y = i / mn := ⟨_, rfl⟩
      rw [← hl0l, ← hy] at hl0b
      have HY := Lib.hid hy
      rw [← hy] at hdn
      obtain ⟨s0, hs0⟩ : ∃ s, s = l0.length := ⟨_, rfl⟩
      rw [← hs0] at hl0b HV0
      clear hgf hLl hl0 hv0 hl0l hy hs0
      go_loopg [18, 19, 20, 125, 133] mn (fun gk s18 s19 s20 s125 s133 wr => ∃ j : Nat, s125 = .int .i64 (j : Int) ∧ s18 = .int .i64 ((L.take j).flatten.length : Nat) ∧ gk + j = mn ∧ Hid (Gr W11 wr))
      case atStart => exact ⟨0, rfl, rfl, by omega, Gr.refl _⟩
      case round =>
        obtain ⟨j, rfl, rfl, hgk2, HG⟩ := hrel
        obtain ⟨GK, rfl⟩ : ∃ G, G = gk := ⟨gk, rfl⟩
        by_cases hjm : j < mn
        · obtain ⟨l, hl⟩ : ∃ l, L[j]? = some l := ⟨_, List.getElem?_eq_getElem (by rw [HLL.out]; exact hjm)⟩
          obtain ⟨v1, hv1⟩ : ∃ v, vs[j]? = some v := ⟨_, List.getElem?_eq_getElem (by rw [HRW2.out.len, HLL.out]; exact hjm)⟩
          have hown := HRW2.out.own j v1 l hv1 hl
          obtain ⟨p1, c1, rfl, -, -⟩ := own_shape hown
          have HV1 := Lib.hid (HRW2.out.cell hv1)
          have f1 := HG.out.cell HV1.out
          obtain ⟨hll, hle⟩ := HGF.out j l hl
          have hlb := lenG_le mn i j
          rw [← hll, ← HY.out] at hlb
          have HLE := Lib.hid hle
          have HCE : Hid (∀ (t a : Nat), l[t]? = some a → ∃ g1, p1 = some ⟨g1, 0, none⟩ ∧ W11.cell? ⟨g1, t, none⟩ = some (.int .i64 (a : Int))) := fun t a ha => by
            obtain ⟨g1, c2, e, _, _, _, hc⟩ := own_at hown (by have := (List.getElem?_eq_some_iff.1 ha).1; omega)
            simp only [Value.slice.injEq] at e
            exact ⟨g1, e.1, hc t _ (by unfold nats; rw [List.getElem?_map, ha]; rfl)⟩
          have hft := flat_take hl
          have hfl := flat_take_le L (j + 1)
          rw [HSUM.out] at hfl
          obtain ⟨s1, hs1⟩ : ∃ s, s = l.length := ⟨_, rfl⟩
          rw [← hs1] at hlb hft HV1 f1
          have HS1 := Lib.hid hs1
          have HFT := Lib.hid hft
          obtain ⟨sm, hsm⟩ : ∃ s, s = (L.take j).flatten.length := ⟨_, rfl⟩
          rw [← hsm] at HFT ⊢
          have hsm2 : sm + s1 ≤ i := by rw [← hsm] at hft; omega
          have hji : (j : Int) < mn := by omega
          clear hl hv1 hown hll hle hft hfl hs1 hsm
          go_wp2_with fail
          go_loopg [20, 133] s1 (fun gk s20 s133 wr => ∃ t : Nat, s133 = .int .i64 (t : Int) ∧ gk + t = s1 ∧ Hid (Gr W11 wr))
          case atStart => exact ⟨0, rfl, by omega, HG.out⟩
          case round =>
            clear f1 HG
            obtain ⟨t, rfl, hgk3, HG⟩ := hrel
            have f1 := HG.out.cell HV1.out
            by_cases htl : t < s1
            · obtain ⟨a, ha⟩ : ∃ a, l[t]? = some a := ⟨l[t]'(by rw [← HS1.out]; exact htl), List.getElem?_eq_getElem _⟩
              obtain ⟨g1, rfl, hc1⟩ := HCE.out t a ha
              obtain ⟨qq, hq1, hq2⟩ := HLE.out t a ha
              have hqi : qq < i := by have := (List.getElem?_eq_some_iff.1 hq1).1; have := HRL.out; omega
              have hai : a < i := List.mem_range.1 (HRP.out.mem_iff.1 (List.mem_of_getElem? hq1))
              have f2 := HG.out.cell hc1
              have f3 := HG.out.cell (HF1.out.cell (i := a) (by rw [HFZ.out]; exact hai))
              rw [HFA.out qq a hq1] at f3
              have hti : (t : Int) < s1 := by omega
              have han : (a : Int) < i := by omega
              have han2 : decide ((i : Int) ≤ (a : Int)) = false := decide_eq_false (by omega)
              have ha0 : decide ((a : Int) < 0) = false := decide_eq_false (by omega)
              have hqd : Int.tdiv (qq : Int) (mn : Int) = (t : Int) := by rw [Int.tdiv_eq_ediv_of_nonneg (Int.natCast_nonneg _), ← hq2]; rfl
              have hwt : IntKind.i64.wrap (t : Int) = (t : Int) := by rw [IntKind.wrap_i64] <;> omega
              have hmz : ¬ (mn : Int) = 0 := by omega
              clear ha hc1 hq1 hq2
              go_wp2_with fail
              go_roundg (gk - 1)
              case measure => omega
              case rel => exact ⟨t + 1, by go_num, by omega, HG.out⟩
            · obtain rfl : t = s1 := by omega
              have hti : (t : Int) ≤ t := by omega
              have f4 := HG.out.cell HV0.out
              have hd1 : decide ((1 : Int) < (t : Int) - (s0 : Int)) = false := decide_eq_false (by omega)
              have hd2 : decide ((1 : Int) < (s0 : Int) - (t : Int)) = false := decide_eq_false (by omega)
              have hw1 : IntKind.i64.wrap ((t : Int) - (s0 : Int)) = (t : Int) - (s0 : Int) := by rw [IntKind.wrap_i64] <;> omega
              have hw2 : IntKind.i64.wrap ((s0 : Int) - (t : Int)) = (s0 : Int) - (t : Int) := by rw [IntKind.wrap_i64] <;> omega
              have hmp : (0 : Int) < (mn : Int) := by omega
              go_wp2_with fail
              go_big_quiet (fail)
              go_wp2_with fail
              go_roundg (GK - 1)
              case measure => omega
              case rel => exact ⟨j + 1, by go_num, by rw [HFT.out]; go_num, by omega, HG.out.drewN _⟩
        · obtain rfl : j = mn := by omega
          have hji : (j : Int) ≤ j := by omega
          have hall : (L.take j).flatten.length = i := by rw [List.take_of_length_le (by rw [HLL.out]; exact Nat.le_refl _), HSUM.out]
          rw [hall]
          have HG12 := Lib.hid ((HG10.out.trans HW11.out).trans HG.out)
          have HB1' := Lib.hid (HG.out.cell (HW11.out.cell HB1.out))
          have HB2' := Lib.hid (HG.out.cell (HW11.out.cell HB2.out))
          have HNO' := Lib.hid ((HNO.out.gr HW11.out).gr HG.out)
          have HR2 := Lib.hid (HNB.out wr o pO cO HG12.out HPO.out HNO'.out hcO.1)
          clear hall HG HF1 HFA HRW2 HGF HV0 HLL HSUM
          go_wp2_with fail
          refine HR2.out.mono ?_
          rintro e W13 ⟨rfl, hg⟩
          have HG13 := Lib.hid (HG12.out.trans hg)
          have HB13 := Lib.hid (hg.cell HB1'.out)
          have HC13 := Lib.hid (hg.cell HB2'.out)
          have HN13 := Lib.hid (HNO'.out.gr hg)
          have HMin : Hid (∀ o' : List Nat, o'.Perm (List.range i) → pairsF none (natO xs o) ≤ pairsF none (natO xs o')) := fun o' ho' => greedy_least HGD.out (natO_perm xs (HPO.out.trans ho'.symm))
          have HRev : Hid (pairsF none (natO xs o.reverse) = pairsF none (natO xs o)) := by
            unfold Hid
            rw [natO_rev, pairsF_rev]
          generalize pairsF none (natO xs o) = M at *
          have HZZ := Lib.hid (HRZ.out _ HG13.out)
          clear hg HB1' HB2' HNO' HG12 HB1 HB2 HRZ HR2 HG10 HW11 HNO HRO2
          by_cases hoz : ordersE (i : Int) zs = 0
          case neg =>
            have hoz2 : (ordersE (i : Int) zs == 0) = false := by simpa using hoz
            clear hoz
            generalize ordersE (i : Int) zs = zz at *
            go_wp2_with fail
            refine HZZ.out.mono ?_
            rintro e W14 ⟨rfl, hg⟩
            have hgV := hg
            generalize W14 = V at *
            have HGV := Lib.hid (HG13.out.trans hgV)
            have HBV := Lib.hid (hgV.cell HB13.out)
            have HCV := Lib.hid (hgV.cell HC13.out)
            have HNV := Lib.hid (HN13.out.gr hgV)
            clear hgV HB13 HC13 HN13 HG13 HZZ
            rcases Nat.eq_zero_or_pos i with hi0 | hi0
            · have hi1 : (i : Int) = 0 := by omega
              have hi2 : ((i : Int) == 0) = true := by rw [hi1]; rfl
              go_wp2_with fail
              go_ret
              exact ⟨rfl, HGV.out⟩
            have hi2 : ((i : Int) == 0) = false := by simp; omega
            have hiz : ¬ (i : Int) = 0 := by omega
            obtain ⟨go, ofo, hpoe, hco⟩ := HNV.out.out (by rw [HOL.out]; exact hi0)
            subst hpoe
            have HCO := Lib.hid hco
            clear hco
            go_wp2_with fail
            go_loopg [25, 26, 242] i (fun gk s25 s26 s242 wr => ∃ t : Nat, s242 = .int .i64 (t : Int) ∧ gk + t = i ∧ Hid (wr.ownsRow V.heap.size 3 1 s25 t (nats (o.reverse.take t))) ∧ Hid (Gr V wr))
            case atStart => exact ⟨0, rfl, by omega, World.ownsRow_nil _ _ _ _, Gr.refl _⟩
            case round =>
              obtain ⟨t, rfl, hgk4, HOW, HG⟩ := hrel
              by_cases hti : t < i
              · obtain ⟨x, hx⟩ : ∃ x, o[i - 1 - t]? = some x := ⟨o[i - 1 - t]'(by rw [HOL.out]; omega), List.getElem?_eq_getElem _⟩
                have f1 := HG.out.cell (HCO.out _ x hx)
                have HQ := Lib.hid (show o.reverse.take (t + 1) = o.reverse.take t ++ [x] from by
                  rw [List.take_add_one, List.getElem?_reverse (by rw [HOL.out]; exact hti), HOL.out, hx]
                  rfl)
                have hj : (i : Int) - 1 - (t : Int) = ((i - 1 - t : Nat) : Int) := by omega
                have hji : ((i - 1 - t : Nat) : Int) < i := by omega
                have hwj : IntKind.i64.wrap ((i : Int) - 1) = (i : Int) - 1 := by rw [IntKind.wrap_i64] <;> omega
                have hwk : IntKind.i64.wrap (((i - 1 - t : Nat) : Int)) = ((i - 1 - t : Nat) : Int) := by rw [IntKind.wrap_i64] <;> omega
                have HOA := Lib.hid (own_kept HOW.out ((Gr.refl wr).alloc (.cells #[.int .i64 (x : Int)] 3)))
                have HSZ : Hid (V.heap.size ≤ wr.heap.size) := HG.out.size
                have htt : (t : Int) < i := by omega
                generalize i - 1 - t = jj at *
                clear hx HOW
                go_wp2_with (at_builtin; refine wpList_append_own_at _ rfl _ _ 23 rfl V.heap.size 3 i0 (.int .i64 0) 1 8 Tryz.underlying23 hi3 hz03 hz13 hz23 rfl (by decide) _ _ _ rfl HOA.out ⟨wr.heap.size, 0, none⟩ 1 1 [.int .i64 (x : Int)] rfl rfl (cell_one_new _ _ _) (by intro u hu; simp at hu; subst hu; rfl) (by unfold maxLen; omega) (by omega) (by simp; have := HSZ.out; omega) ?_; intro v1 w1 hown1 hgrow1 hnil1 hat1; have C1 := Lib.hid hown1; have C2 : Hid (Gr V w1) := Below.grown (HG.out.alloc (.cells #[.int .i64 (x : Int)] 3)) hgrow1 (HG.out.alloc (.cells #[.int .i64 (x : Int)] 3)).size (fun j hj => (own_in HOA.out hj).2); clear hown1 hgrow1 hnil1 hat1)
                go_roundg (gk - 1)
                case measure => omega
                case rel => exact ⟨t + 1, by go_num, by omega, by rw [HQ.out, nats_snoc]; exact C1, C2.out⟩
              · obtain rfl : t = i := by omega
                have htt : (t : Int) ≤ t := by omega
                have hrv : o.reverse.take t = o.reverse := List.take_of_length_le (by rw [List.length_reverse, HOL.out]; exact Nat.le_refl _)
                rw [hrv] at HOW
                obtain ⟨pb, cb, rfl, hcb, -⟩ := own_shape HOW.out
                have hrl2 : o.reverse.length = t := by rw [List.length_reverse]; exact HOL.out
                have HBK := Lib.hid (NumS.of_own HOW.out hrl2)
                have HGW := Lib.hid HG.out
                clear HG HOW hrv
                generalize wr = Y at *
                have hE : (Y.alloc (.cells #[] 3)).heap[Y.heap.size]? = some (.cells #[] 3 (0, 0)) := heap_alloc_new _ _
                have HOE := Lib.hid (own_empty (base := Y.heap.size) hE (Nat.le_refl _))
                have HNW : Hid (∀ (j : Nat) (u : Value), (nats o)[j]? = some u → (Y.alloc (.cells #[] 3)).cell? ((⟨go, ofo, none⟩ : Addr).add j) = some u) := fun j u hu => by
                  have e : (⟨go, ofo, none⟩ : Addr).add j = ⟨go, ofo + j, none⟩ := addr_add go ofo j
                  rw [e]
                  unfold nats at hu
                  rw [List.getElem?_map] at hu
                  cases hoj : o[j]? with
                  | none => rw [hoj] at hu; cases hu
                  | some a =>
                    rw [hoj] at hu
                    cases hu
                    exact (HGW.out.alloc _).cell (HCO.out j a hoj)
                clear hE
                go_wp2_with (at_builtin; refine wpList_append_own_at _ rfl _ _ 23 rfl Y.heap.size 3 i0 (.int .i64 0) 1 8 Tryz.underlying23 hi3 hz03 hz13 hz23 rfl (by decide) _ 0 (nats []) rfl HOE.out ⟨go, ofo, none⟩ t cO (nats o) rfl (by rw [nats_len, HOL.out, Nat.mul_one]) HNW.out (fun u hu => by unfold nats at hu; obtain ⟨z9, _, rfl⟩ := List.mem_map.1 hu; rfl) (by unfold maxLen; omega) (by omega) ((Gr.refl Y).alloc (.cells #[] 3)).size ?_; intro v1 w1 hown1 hgrow1 hnil1 hat1; rw [Nat.zero_add] at hown1; obtain ⟨g9, c9, e9, hg9, _, hc9, _⟩ := own_at hown1 hi0; subst e9; have C1 := Lib.hid (rowP_of_own hown1 HOL.out); have C2 : Hid (Gr Y w1) := Below.grown ((Gr.refl Y).alloc (.cells #[] 3)) hgrow1 ((Gr.refl Y).alloc (.cells #[] 3)).size (fun j hj => (own_in HOE.out hj).2); have C3 := Lib.hid hg9; have C4 := Lib.hid hc9; clear hown1 hgrow1 hnil1 hat1 hg9 hc9)
                have b1 := C2.out.cell (HGW.out.cell HBV.out)
                have b2 := C2.out.cell (HGW.out.cell HCV.out)
                obtain ⟨i1, hi1e⟩ : ∃ x, x = a1 % t := ⟨_, rfl⟩
                obtain ⟨i2, hi2e⟩ : ∃ x, x = a2 % t := ⟨_, rfl⟩
                have q1 : Int.tmod (a1 : Int) (t : Int) = (i1 : Int) := by rw [hi1e]; exact tmod_nat a1 t
                have q2 : Int.tmod (a2 : Int) (t : Int) = (i2 : Int) := by rw [hi2e]; exact tmod_nat a2 t
                have q3 : i1 < t := by rw [hi1e]; exact Nat.mod_lt _ hi0
                have q4 : i2 < t := by rw [hi2e]; exact Nat.mod_lt _ hi0
                have wa2 : IntKind.i64.wrap (a2 : Int) = (a2 : Int) := by rw [IntKind.wrap_i64]; omega
                have wi1 : IntKind.i64.wrap (i1 : Int) = (i1 : Int) := by rw [IntKind.wrap_i64]; omega
                have wi2 : IntKind.i64.wrap (i2 : Int) = (i2 : Int) := by rw [IntKind.wrap_i64]; omega
                clear hi1e hi2e
                go_wp2_with fail
                go_big_quiet (fail)
                go_wp2_with fail
                have ZP : RowP (w1.drewN nq) g9 o.toArray := ⟨C1.out.out⟩
                have HZG : Hid (Gr Y (w1.drewN nq)) := C2.out.drewN nq
                clear b1 b2
                generalize w1.drewN nq = Z at *
                have hsz9 : o.toArray.size = t := by simpa using HOL.out
                have cm := ZP.cell (i := i1) (by rw [hsz9]; exact q3)
                have cj := ZP.cell (i := i2) (by rw [hsz9]; exact q4)
                have fm := ZP.frozen i1
                have fj := ZP.frozen i2
                have HS := Lib.hid (fun X (h : RowP X g9 o.toArray) => (show RowP ((X.setCell ⟨g9, i1, none⟩ (.int .i64 ((o.toArray.getD i2 0 : Nat) : Int))).setCell ⟨g9, i2, none⟩ (.int .i64 ((o.toArray.getD i1 0 : Nat) : Int))) g9 (swapN o.toArray i1 i2) from (h.set i1 (o.toArray.getD i2 0) (by rw [hsz9]; exact q3)).set i2 (o.toArray.getD i1 0) (by rw [Array.size_setIfInBounds, hsz9]; exact q4)))
                have HSG : Hid (∀ va vb : Value, Gr Y ((Z.setCell ⟨g9, i1, none⟩ va).setCell ⟨g9, i2, none⟩ vb)) := fun va vb => Below.setCell (Below.setCell HZG.out (p := ⟨g9, i1, none⟩) C3.out va) (p := ⟨g9, i2, none⟩) C3.out vb
                have hi1t : (i1 : Int) < (t : Int) := by omega
                have hi2t : (i2 : Int) < (t : Int) := by omega
                clear hsz9
                generalize hvj : o.toArray.getD i2 0 = vj at *
                generalize hvm : o.toArray.getD i1 0 = vm at *
                clear q1 q2
                rcases Nat.lt_trichotomy i1 i2 with hne | hee | hne
                · have hne2 : i1 ≠ i2 := by omega
                  clear hvj hvm
                  go_region
                  all_goals go_wp2_with fail
                  refine (HNB.out _ o.reverse pb cb ((HGV.out.trans HGW.out).trans (Gr.drew (HSG.out _ _))) ((List.reverse_perm o).trans HPO.out) (HBK.out.gr (Gr.drew (HSG.out _ _))) hcb).mono ?_
                  rintro e X1 ⟨rfl, hgx⟩
                  rw [HRev.out]
                  have HX1 : Hid (NumS X1 (some ⟨g9, 0, none⟩) (swapN o.toArray i1 i2).toList) := (NumS.of_rowP (RowP.drew (HS.out _ ZP))).gr hgx
                  have HXG : Hid (Gr w X1) := ((HGV.out.trans HGW.out).trans (Gr.drew (HSG.out _ _))).trans hgx
                  have HXP : Hid ((swapN o.toArray i1 i2).toList.Perm (List.range t)) := (swapN_perm (by simp [HOL.out]; omega) (by simp [HOL.out]; omega)).trans HPO.out
                  have HK2 := Lib.hid (HMin.out _ HXP.out)
                  have HN2 := Lib.hid (HNB.out X1 _ _ c9 HXG.out HXP.out HX1.out C4.out.1)
                  generalize pairsF none (natO xs (swapN o.toArray i1 i2).toList) = K2 at *
                  have hk2 : (M : Int) ≤ (K2 : Int) := by have := HK2.out; omega
                  clear hgx
                  go_wp2_with (refine HN2.out.mono ?_; rintro e X2 ⟨rfl, hgx⟩; have HX9 := Lib.hid (HXG.out.trans hgx); clear hgx)
                  go_ret
                  exact ⟨rfl, HX9.out⟩
                · subst hee
                  have hvv : vj = vm := hvj.symm.trans hvm
                  subst hvv
                  clear hvj hvm cj fj
                  go_region
                  all_goals go_wp2_with fail
                  refine (HNB.out _ o.reverse pb cb ((HGV.out.trans HGW.out).trans (Gr.drew (HSG.out _ _))) ((List.reverse_perm o).trans HPO.out) (HBK.out.gr (Gr.drew (HSG.out _ _))) hcb).mono ?_
                  rintro e X1 ⟨rfl, hgx⟩
                  rw [HRev.out]
                  have HX1 : Hid (NumS X1 (some ⟨g9, 0, none⟩) (swapN o.toArray i1 i1).toList) := (NumS.of_rowP (RowP.drew (HS.out _ ZP))).gr hgx
                  have HXG : Hid (Gr w X1) := ((HGV.out.trans HGW.out).trans (Gr.drew (HSG.out _ _))).trans hgx
                  have HXP : Hid ((swapN o.toArray i1 i1).toList.Perm (List.range t)) := (swapN_perm (by simp [HOL.out]; omega) (by simp [HOL.out]; omega)).trans HPO.out
                  have HK2 := Lib.hid (HMin.out _ HXP.out)
                  have HN2 := Lib.hid (HNB.out X1 _ _ c9 HXG.out HXP.out HX1.out C4.out.1)
                  generalize pairsF none (natO xs (swapN o.toArray i1 i1).toList) = K2 at *
                  have hk2 : (M : Int) ≤ (K2 : Int) := by have := HK2.out; omega
                  clear hgx
                  go_wp2_with (refine HN2.out.mono ?_; rintro e X2 ⟨rfl, hgx⟩; have HX9 := Lib.hid (HXG.out.trans hgx); clear hgx)
                  go_ret
                  exact ⟨rfl, HX9.out⟩
                · have hne2 : i1 ≠ i2 := by omega
                  clear hvj hvm
                  go_region
                  all_goals go_wp2_with fail
                  refine (HNB.out _ o.reverse pb cb ((HGV.out.trans HGW.out).trans (Gr.drew (HSG.out _ _))) ((List.reverse_perm o).trans HPO.out) (HBK.out.gr (Gr.drew (HSG.out _ _))) hcb).mono ?_
                  rintro e X1 ⟨rfl, hgx⟩
                  rw [HRev.out]
                  have HX1 : Hid (NumS X1 (some ⟨g9, 0, none⟩) (swapN o.toArray i1 i2).toList) := (NumS.of_rowP (RowP.drew (HS.out _ ZP))).gr hgx
                  have HXG : Hid (Gr w X1) := ((HGV.out.trans HGW.out).trans (Gr.drew (HSG.out _ _))).trans hgx
                  have HXP : Hid ((swapN o.toArray i1 i2).toList.Perm (List.range t)) := (swapN_perm (by simp [HOL.out]; omega) (by simp [HOL.out]; omega)).trans HPO.out
                  have HK2 := Lib.hid (HMin.out _ HXP.out)
                  have HN2 := Lib.hid (HNB.out X1 _ _ c9 HXG.out HXP.out HX1.out C4.out.1)
                  generalize pairsF none (natO xs (swapN o.toArray i1 i2).toList) = K2 at *
                  have hk2 : (M : Int) ≤ (K2 : Int) := by have := HK2.out; omega
                  clear hgx
                  go_wp2_with (refine HN2.out.mono ?_; rintro e X2 ⟨rfl, hgx⟩; have HX9 := Lib.hid (HXG.out.trans hgx); clear hgx)
                  go_ret
                  exact ⟨rfl, HX9.out⟩
          have HPZ := Lib.hid (ordersE_perm hoz)
          rw [hoz] at HZZ
          clear hoz
          go_wp2_with fail
          refine HZZ.out.mono ?_
          rintro e W14a ⟨rfl, hg⟩
          obtain ⟨qo, hqo, hqp⟩ := HPZ.out
          obtain rfl : i = m := by rw [← HZL.out, hqo, List.length_map, hqp.length_eq, List.length_range]
          have HNQ : NumS w q qo := .of_ints fun h9 => by
            obtain ⟨b9, off9, e9, hc9⟩ := HZD.out (by rw [hqp.length_eq, List.length_range] at h9; exact h9)
            exact ⟨b9, off9, e9, fun i z hz => hc9 i z (by rw [hqo]; exact hz)⟩
          have HNK := Lib.hid (HNB.out W14a qo q c (HG13.out.trans hg) hqp (HNQ.gr (HG13.out.trans hg)) HMC.out)
          have hKM := HMin.out qo hqp
          clear hqo hqp HNQ
          generalize pairsF none (natO xs qo) = K at *
          have hkm : (M : Int) ≤ (K : Int) := by omega
          have hkm1 : decide ((K : Int) < (M : Int)) = false := decide_eq_false (by omega)
          have hkm2 : decide (K < M) = false := decide_eq_false (by omega)
          clear hKM
          go_wp2_with fail
          refine HNK.out.mono ?_
          rintro e V ⟨rfl, hgv⟩
          have hgV := hg.trans hgv
          clear hg hgv HNK HPZ
          have HGV := Lib.hid (HG13.out.trans hgV)
          have HBV := Lib.hid (hgV.cell HB13.out)
          have HCV := Lib.hid (hgV.cell HC13.out)
          have HNV := Lib.hid (HN13.out.gr hgV)
          clear hgV HB13 HC13 HN13 HG13 HZZ
          rcases Nat.eq_zero_or_pos i with hi0 | hi0
          · have hi1 : (i : Int) = 0 := by omega
            have hi2 : ((i : Int) == 0) = true := by rw [hi1]; rfl
            go_wp2_with fail
            go_ret
            exact ⟨rfl, HGV.out⟩
          have hi2 : ((i : Int) == 0) = false := by simp; omega
          have hiz : ¬ (i : Int) = 0 := by omega
          obtain ⟨go, ofo, hpoe, hco⟩ := HNV.out.out (by rw [HOL.out]; exact hi0)
          subst hpoe
          have HCO := Lib.hid hco
          clear hco
          go_wp2_with fail
          go_loopg [25, 26, 242] i (fun gk s25 s26 s242 wr => ∃ t : Nat, s242 = .int .i64 (t : Int) ∧ gk + t = i ∧ Hid (wr.ownsRow V.heap.size 3 1 s25 t (nats (o.reverse.take t))) ∧ Hid (Gr V wr))
          case atStart => exact ⟨0, rfl, by omega, World.ownsRow_nil _ _ _ _, Gr.refl _⟩
          case round =>
            obtain ⟨t, rfl, hgk4, HOW, HG⟩ := hrel
            by_cases hti : t < i
            · obtain ⟨x, hx⟩ : ∃ x, o[i - 1 - t]? = some x := ⟨o[i - 1 - t]'(by rw [HOL.out]; omega), List.getElem?_eq_getElem _⟩
              have f1 := HG.out.cell (HCO.out _ x hx)
              have HQ := Lib.hid (show o.reverse.take (t + 1) = o.reverse.take t ++ [x] from by
                rw [List.take_add_one, List.getElem?_reverse (by rw [HOL.out]; exact hti), HOL.out, hx]
                rfl)
              have hj : (i : Int) - 1 - (t : Int) = ((i - 1 - t : Nat) : Int) := by omega
              have hji : ((i - 1 - t : Nat) : Int) < i := by omega
              have hwj : IntKind.i64.wrap ((i : Int) - 1) = (i : Int) - 1 := by rw [IntKind.wrap_i64] <;> omega
              have hwk : IntKind.i64.wrap (((i - 1 - t : Nat) : Int)) = ((i - 1 - t : Nat) : Int) := by rw [IntKind.wrap_i64] <;> omega
              have HOA := Lib.hid (own_kept HOW.out ((Gr.refl wr).alloc (.cells #[.int .i64 (x : Int)] 3)))
              have HSZ : Hid (V.heap.size ≤ wr.heap.size) := HG.out.size
              have htt : (t : Int) < i := by omega
              generalize i - 1 - t = jj at *
              clear hx HOW
              go_wp2_with (at_builtin; refine wpList_append_own_at _ rfl _ _ 23 rfl V.heap.size 3 i0 (.int .i64 0) 1 8 Tryz.underlying23 hi3 hz03 hz13 hz23 rfl (by decide) _ _ _ rfl HOA.out ⟨wr.heap.size, 0, none⟩ 1 1 [.int .i64 (x : Int)] rfl rfl (cell_one_new _ _ _) (by intro u hu; simp at hu; subst hu; rfl) (by unfold maxLen; omega) (by omega) (by simp; have := HSZ.out; omega) ?_; intro v1 w1 hown1 hgrow1 hnil1 hat1; have C1 := Lib.hid hown1; have C2 : Hid (Gr V w1) := Below.grown (HG.out.alloc (.cells #[.int .i64 (x : Int)] 3)) hgrow1 (HG.out.alloc (.cells #[.int .i64 (x : Int)] 3)).size (fun j hj => (own_in HOA.out hj).2); clear hown1 hgrow1 hnil1 hat1)
              go_roundg (gk - 1)
              case measure => omega
              case rel => exact ⟨t + 1, by go_num, by omega, by rw [HQ.out, nats_snoc]; exact C1, C2.out⟩
            · obtain rfl : t = i := by omega
              have htt : (t : Int) ≤ t := by omega
              have hrv : o.reverse.take t = o.reverse := List.take_of_length_le (by rw [List.length_reverse, HOL.out]; exact Nat.le_refl _)
              rw [hrv] at HOW
              obtain ⟨pb, cb, rfl, hcb, -⟩ := own_shape HOW.out
              have hrl2 : o.reverse.length = t := by rw [List.length_reverse]; exact HOL.out
              have HBK := Lib.hid (NumS.of_own HOW.out hrl2)
              have HGW := Lib.hid HG.out
              clear HG HOW hrv
              generalize wr = Y at *
              have hE : (Y.alloc (.cells #[] 3)).heap[Y.heap.size]? = some (.cells #[] 3 (0, 0)) := heap_alloc_new _ _
              have HOE := Lib.hid (own_empty (base := Y.heap.size) hE (Nat.le_refl _))
              have HNW : Hid (∀ (j : Nat) (u : Value), (nats o)[j]? = some u → (Y.alloc (.cells #[] 3)).cell? ((⟨go, ofo, none⟩ : Addr).add j) = some u) := fun j u hu => by
                have e : (⟨go, ofo, none⟩ : Addr).add j = ⟨go, ofo + j, none⟩ := addr_add go ofo j
                rw [e]
                unfold nats at hu
                rw [List.getElem?_map] at hu
                cases hoj : o[j]? with
                | none => rw [hoj] at hu; cases hu
                | some a =>
                  rw [hoj] at hu
                  cases hu
                  exact (HGW.out.alloc _).cell (HCO.out j a hoj)
              clear hE
              go_wp2_with (at_builtin; refine wpList_append_own_at _ rfl _ _ 23 rfl Y.heap.size 3 i0 (.int .i64 0) 1 8 Tryz.underlying23 hi3 hz03 hz13 hz23 rfl (by decide) _ 0 (nats []) rfl HOE.out ⟨go, ofo, none⟩ t cO (nats o) rfl (by rw [nats_len, HOL.out, Nat.mul_one]) HNW.out (fun u hu => by unfold nats at hu; obtain ⟨z9, _, rfl⟩ := List.mem_map.1 hu; rfl) (by unfold maxLen; omega) (by omega) ((Gr.refl Y).alloc (.cells #[] 3)).size ?_; intro v1 w1 hown1 hgrow1 hnil1 hat1; rw [Nat.zero_add] at hown1; obtain ⟨g9, c9, e9, hg9, _, hc9, _⟩ := own_at hown1 hi0; subst e9; have C1 := Lib.hid (rowP_of_own hown1 HOL.out); have C2 : Hid (Gr Y w1) := Below.grown ((Gr.refl Y).alloc (.cells #[] 3)) hgrow1 ((Gr.refl Y).alloc (.cells #[] 3)).size (fun j hj => (own_in HOE.out hj).2); have C3 := Lib.hid hg9; have C4 := Lib.hid hc9; clear hown1 hgrow1 hnil1 hat1 hg9 hc9)
              have b1 := C2.out.cell (HGW.out.cell HBV.out)
              have b2 := C2.out.cell (HGW.out.cell HCV.out)
              obtain ⟨i1, hi1e⟩ : ∃ x, x = a1 % t := ⟨_, rfl⟩
              obtain ⟨i2, hi2e⟩ : ∃ x, x = a2 % t := ⟨_, rfl⟩
              have q1 : Int.tmod (a1 : Int) (t : Int) = (i1 : Int) := by rw [hi1e]; exact tmod_nat a1 t
              have q2 : Int.tmod (a2 : Int) (t : Int) = (i2 : Int) := by rw [hi2e]; exact tmod_nat a2 t
              have q3 : i1 < t := by rw [hi1e]; exact Nat.mod_lt _ hi0
              have q4 : i2 < t := by rw [hi2e]; exact Nat.mod_lt _ hi0
              have wa2 : IntKind.i64.wrap (a2 : Int) = (a2 : Int) := by rw [IntKind.wrap_i64]; omega
              have wi1 : IntKind.i64.wrap (i1 : Int) = (i1 : Int) := by rw [IntKind.wrap_i64]; omega
              have wi2 : IntKind.i64.wrap (i2 : Int) = (i2 : Int) := by rw [IntKind.wrap_i64]; omega
              clear hi1e hi2e
              go_wp2_with fail
              go_big_quiet (fail)
              go_wp2_with fail
              have ZP : RowP (w1.drewN nq) g9 o.toArray := ⟨C1.out.out⟩
              have HZG : Hid (Gr Y (w1.drewN nq)) := C2.out.drewN nq
              clear b1 b2
              generalize w1.drewN nq = Z at *
              have hsz9 : o.toArray.size = t := by simpa using HOL.out
              have cm := ZP.cell (i := i1) (by rw [hsz9]; exact q3)
              have cj := ZP.cell (i := i2) (by rw [hsz9]; exact q4)
              have fm := ZP.frozen i1
              have fj := ZP.frozen i2
              have HS := Lib.hid (fun X (h : RowP X g9 o.toArray) => (show RowP ((X.setCell ⟨g9, i1, none⟩ (.int .i64 ((o.toArray.getD i2 0 : Nat) : Int))).setCell ⟨g9, i2, none⟩ (.int .i64 ((o.toArray.getD i1 0 : Nat) : Int))) g9 (swapN o.toArray i1 i2) from (h.set i1 (o.toArray.getD i2 0) (by rw [hsz9]; exact q3)).set i2 (o.toArray.getD i1 0) (by rw [Array.size_setIfInBounds, hsz9]; exact q4)))
              have HSG : Hid (∀ va vb : Value, Gr Y ((Z.setCell ⟨g9, i1, none⟩ va).setCell ⟨g9, i2, none⟩ vb)) := fun va vb => Below.setCell (Below.setCell HZG.out (p := ⟨g9, i1, none⟩) C3.out va) (p := ⟨g9, i2, none⟩) C3.out vb
              have hi1t : (i1 : Int) < (t : Int) := by omega
              have hi2t : (i2 : Int) < (t : Int) := by omega
              clear hsz9
              generalize hvj : o.toArray.getD i2 0 = vj at *
              generalize hvm : o.toArray.getD i1 0 = vm at *
              clear q1 q2
              rcases Nat.lt_trichotomy i1 i2 with hne | hee | hne
              · have hne2 : i1 ≠ i2 := by omega
                clear hvj hvm
                go_region
                all_goals go_wp2_with fail
                refine (HNB.out _ o.reverse pb cb ((HGV.out.trans HGW.out).trans (Gr.drew (HSG.out _ _))) ((List.reverse_perm o).trans HPO.out) (HBK.out.gr (Gr.drew (HSG.out _ _))) hcb).mono ?_
                rintro e X1 ⟨rfl, hgx⟩
                rw [HRev.out]
                have HX1 : Hid (NumS X1 (some ⟨g9, 0, none⟩) (swapN o.toArray i1 i2).toList) := (NumS.of_rowP (RowP.drew (HS.out _ ZP))).gr hgx
                have HXG : Hid (Gr w X1) := ((HGV.out.trans HGW.out).trans (Gr.drew (HSG.out _ _))).trans hgx
                have HXP : Hid ((swapN o.toArray i1 i2).toList.Perm (List.range t)) := (swapN_perm (by simp [HOL.out]; omega) (by simp [HOL.out]; omega)).trans HPO.out
                have HK2 := Lib.hid (HMin.out _ HXP.out)
                have HN2 := Lib.hid (HNB.out X1 _ _ c9 HXG.out HXP.out HX1.out C4.out.1)
                generalize pairsF none (natO xs (swapN o.toArray i1 i2).toList) = K2 at *
                have hk2 : (M : Int) ≤ (K2 : Int) := by have := HK2.out; omega
                clear hgx
                go_wp2_with (refine HN2.out.mono ?_; rintro e X2 ⟨rfl, hgx⟩; have HX9 := Lib.hid (HXG.out.trans hgx); clear hgx)
                go_ret
                exact ⟨rfl, HX9.out⟩
              · subst hee
                have hvv : vj = vm := hvj.symm.trans hvm
                subst hvv
                clear hvj hvm cj fj
                go_region
                all_goals go_wp2_with fail
                refine (HNB.out _ o.reverse pb cb ((HGV.out.trans HGW.out).trans (Gr.drew (HSG.out _ _))) ((List.reverse_perm o).trans HPO.out) (HBK.out.gr (Gr.drew (HSG.out _ _))) hcb).mono ?_
                rintro e X1 ⟨rfl, hgx⟩
                rw [HRev.out]
                have HX1 : Hid (NumS X1 (some ⟨g9, 0, none⟩) (swapN o.toArray i1 i1).toList) := (NumS.of_rowP (RowP.drew (HS.out _ ZP))).gr hgx
                have HXG : Hid (Gr w X1) := ((HGV.out.trans HGW.out).trans (Gr.drew (HSG.out _ _))).trans hgx
                have HXP : Hid ((swapN o.toArray i1 i1).toList.Perm (List.range t)) := (swapN_perm (by simp [HOL.out]; omega) (by simp [HOL.out]; omega)).trans HPO.out
                have HK2 := Lib.hid (HMin.out _ HXP.out)
                have HN2 := Lib.hid (HNB.out X1 _ _ c9 HXG.out HXP.out HX1.out C4.out.1)
                generalize pairsF none (natO xs (swapN o.toArray i1 i1).toList) = K2 at *
                have hk2 : (M : Int) ≤ (K2 : Int) := by have := HK2.out; omega
                clear hgx
                go_wp2_with (refine HN2.out.mono ?_; rintro e X2 ⟨rfl, hgx⟩; have HX9 := Lib.hid (HXG.out.trans hgx); clear hgx)
                go_ret
                exact ⟨rfl, HX9.out⟩
              · have hne2 : i1 ≠ i2 := by omega
                clear hvj hvm
                go_region
                all_goals go_wp2_with fail
                refine (HNB.out _ o.reverse pb cb ((HGV.out.trans HGW.out).trans (Gr.drew (HSG.out _ _))) ((List.reverse_perm o).trans HPO.out) (HBK.out.gr (Gr.drew (HSG.out _ _))) hcb).mono ?_
                rintro e X1 ⟨rfl, hgx⟩
                rw [HRev.out]
                have HX1 : Hid (NumS X1 (some ⟨g9, 0, none⟩) (swapN o.toArray i1 i2).toList) := (NumS.of_rowP (RowP.drew (HS.out _ ZP))).gr hgx
                have HXG : Hid (Gr w X1) := ((HGV.out.trans HGW.out).trans (Gr.drew (HSG.out _ _))).trans hgx
                have HXP : Hid ((swapN o.toArray i1 i2).toList.Perm (List.range t)) := (swapN_perm (by simp [HOL.out]; omega) (by simp [HOL.out]; omega)).trans HPO.out
                have HK2 := Lib.hid (HMin.out _ HXP.out)
                have HN2 := Lib.hid (HNB.out X1 _ _ c9 HXG.out HXP.out HX1.out C4.out.1)
                generalize pairsF none (natO xs (swapN o.toArray i1 i2).toList) = K2 at *
                have hk2 : (M : Int) ≤ (K2 : Int) := by have := HK2.out; omega
                clear hgx
                go_wp2_with (refine HN2.out.mono ?_; rintro e X2 ⟨rfl, hgx⟩; have HX9 := Lib.hid (HXG.out.trans hgx); clear hgx)
                go_ret
                exact ⟨rfl, HX9.out⟩
end Go.Proofs.YtcnpmebihdonoaaGreatDoor
