/- MemberSpares: the law, walked. -/
import Derived.Test.YtenkbeeiblhnjaaGreatGPoD
import Derived.Test.YtenkbeeiblhnjaaGreatGNmsE
import Derived.Test.YtenkbeeiblhnjaaGreatGMbT
import Derived.Test.YtenkbeeiblhnjaaGreatGMbA
namespace Go.Proofs.YtenkbeeiblhnjaaGreat
open Go.RowKit Go.Lib
set_option linter.unusedSimpArgs false
set_option linter.unusedVariables false
theorem strAts_out {w : World} {p : Option Addr} {n cap : Nat} {l : List ByteArray} (h : StrAts w (.slice p n cap) l) : n = l.length ∧ (n ≤ cap ∧ cap ≤ maxLen) ∧ (0 < n → ∃ b off, p = some ⟨b, off, none⟩ ∧ ∀ i x, l[i]? = some x → StrAt w b (off + i) x) := by
  obtain ⟨⟨p', cap', e, hc, hh⟩⟩ := h
  simp only [Value.slice.injEq] at e
  obtain ⟨rfl, rfl, rfl⟩ := e
  exact ⟨rfl, hc, hh⟩
theorem hasWordS_c {v : Value} {l : List ByteArray} {w : World} (h : StrAts w v l) (h1 : l.length ≤ 1000) (s : ByteArray) :
    Calls Tryz.prog 30 #[v, .string s] w fun e w' => e = .returned (.bool (hasS l s)) ∧ w = w' := by
  obtain ⟨⟨p, cap, rfl, _, hh⟩⟩ := h
  have := hasWordT_c l p l.length cap s w (Nat.le_refl _) h1 (fun h0 => by
    obtain ⟨b, off, e, hc⟩ := hh h0
    exact ⟨b, off, e, fun i t ht => (hc i t ht).nm⟩)
  rwa [List.take_length] at this
theorem hasWordT_s {p : Option Addr} {n cap : Nat} {l : List ByteArray} {w : World} (h : StrAts w (.slice p n cap) l) (h1 : l.length ≤ 1000) (i : Nat) (hi : i ≤ n) (s : ByteArray) :
    Calls Tryz.prog 30 #[.slice p i cap, .string s] w fun e w' => e = .returned (.bool (hasS (l.take i) s)) ∧ w = w' := by
  obtain ⟨⟨p', cap', e, _, hh⟩⟩ := h
  simp only [Value.slice.injEq] at e
  obtain ⟨rfl, rfl, rfl⟩ := e
  exact hasWordT_c l p i cap s w hi (by omega) (fun h0 => by
    obtain ⟨b, off, e, hc⟩ := hh (by omega)
    exact ⟨b, off, e, fun i t ht => (hc i t ht).nm⟩)
set_option maxHeartbeats 4000000 in
set_option maxRecDepth 100000 in
theorem lawSpares_c (I : InsSOK) (cs : List ByteArray) (xs : List TstR) (vc v : Value) (c sp key ds d : Int) (w : World) (hcs : StrAts w vc cs) (h : TstAts w v xs) (hb : xs.length * 24 ≤ 140737488355328) (hA : AwakeOK w) :
    Calls Tryz.prog 5 #[vc, v, .agg #[.int .i64 c, .int .i64 sp, .int .i64 key, .int .i64 ds, .int .i64 d]] w fun e w' => e = .returned (.bool true) ∧ Gr w w' := by
  have HA := Lib.hid hA
  have HCv := Lib.hid (fun W (g : Gr w W) => tsts_c (h.gr g) hb)
  have HSH := Lib.hid (fun W u (h1 : StrAts W vc cs) (h2 : TstAts W u xs) => shortTsts_c h1 h2)
  have HCL := Lib.hid (fun W (h1 : StrAts W vc cs) => refList_c h1)
  have HCT := Lib.hid (fun W u (h2 : TstAts W u xs) => refTsts_c h2)
  have HCP := Lib.hid (fun W => refPick_c c sp key W)
  obtain ⟨e4, h4', H4⟩ := lawDay_e d
  replace H4 := Lib.hid H4
  have hB1 := listE_bnd 160 (strE cs) cs (strE_bnd cs)
  have hB2 := listE_bnd 256 (tstE xs) xs (tstE_bnd xs)
  have HPE := Lib.hid (fun h1 h2 h3 h4 => @poolE_of cs xs c sp key d h1 h2 h3 h4)
  have HPG := Lib.hid (fun (c : Int) (k : Nat) W (g : Gr w W) h0 h20 => pool_good I (cs := cs) (xs := xs) c sp k d (hcs.gr g) (h.gr g) h0 h20)
  have HLG := Lib.hid (fun W (g : Gr w W) h0 => late_good (cs := cs) (xs := xs) sp d (hcs.gr g) (h.gr g) h0)
  have HCS := Lib.hid hcs
  have HTS := Lib.hid h
  have HWC := Lib.hid (fun W (g : Gr w W) h1 s => hasWordS_c (hcs.gr g) h1 s)
  obtain ⟨n, hn⟩ : ∃ n, n = cs.length := ⟨_, rfl⟩
  obtain ⟨m, hm⟩ : ∃ m, m = xs.length := ⟨_, rfl⟩
  obtain ⟨p, cap, rfl⟩ : ∃ p cap, vc = .slice p n cap := by
    obtain ⟨⟨p, cap, rfl, _⟩⟩ := hcs
    exact ⟨p, cap, by rw [hn]⟩
  obtain ⟨pt, capt, rfl, ht⟩ : ∃ p cap, v = .slice p m cap ∧ (0 < m → ∃ b off, p = some ⟨b, off, none⟩ ∧ ∀ i x, xs[i]? = some x → TstAt w b (off + i * 2) x) := by
    obtain ⟨⟨p, cap, rfl, _, hh⟩⟩ := h
    exact ⟨p, cap, by rw [hm], fun h0 => hh (by omega)⟩
  have HT := Lib.hid ht
  have HN := Lib.hid hn
  have HM := Lib.hid hm
  obtain ⟨W0, hW0, g, b0, b1, b2, -, b4⟩ := bx5 w (.int .i64 c) (.int .i64 sp) (.int .i64 key) (.int .i64 ds) (.int .i64 d) 27
  have HW0 := Lib.hid hW0
  clear hA hcs h hb hn hm hW0 I ht
  go_enter Tryz.func5, Tryz.ntmps5
  go_wp2_with fail
  rw [HW0.out]
  clear HW0
  generalize w.heap.size = Bx at *
  refine (HCv.out _ g).mono ?_
  rintro e W1 ⟨u, rfl, hu, hg⟩
  replace b0 := hg.cell b0
  replace b1 := hg.cell b1
  replace b2 := hg.cell b2
  replace b4 := hg.cell b4
  replace g := g.trans hg
  clear hg
  obtain ⟨pu, nu, cu, rfl⟩ : ∃ p n c, u = .slice p n c := by
    obtain ⟨⟨p, cap, rfl, _⟩⟩ := hu
    exact ⟨p, _, cap, rfl⟩
  go_wp2_with fail
  refine (HA.out _ g).mono ?_
  rintro e W2 ⟨rfl, hg⟩
  replace hu := hu.gr hg
  replace b0 := hg.cell b0
  replace b1 := hg.cell b1
  replace b2 := hg.cell b2
  replace b4 := hg.cell b4
  replace g := g.trans hg
  clear hg
  cases h12 : decide ((12 : Int) < n)
  case true =>
    go_wp2_with fail
    refine (HA.out _ g).mono ?_
    rintro e Wa ⟨rfl, g4⟩
    go_wp2_with fail
    go_ret
    exact ⟨rfl, g.trans g4⟩
  cases h20 : decide ((20 : Int) < m)
  case true =>
    go_wp2_with fail
    refine (HA.out _ g).mono ?_
    rintro e Wa ⟨rfl, g4⟩
    go_wp2_with fail
    go_ret
    exact ⟨rfl, g.trans g4⟩
  go_wp2_with fail
  refine (HSH.out _ _ (HCS.out.gr g) hu).mono ?_
  rintro e W3 ⟨⟨r, rfl, hr⟩, rfl⟩
  clear hr
  cases r
  · go_wp2_with fail
    refine (HA.out _ g).mono ?_
    rintro e Wa ⟨rfl, g4⟩
    go_wp2_with fail
    go_ret
    exact ⟨rfl, g.trans g4⟩
  go_wp2_with fail
  refine (HCL.out _ (HCS.out.gr g)).mono ?_
  rintro e W3 ⟨rfl, hg⟩
  replace hu := hu.gr hg
  replace b0 := hg.cell b0
  replace b1 := hg.cell b1
  replace b2 := hg.cell b2
  replace b4 := hg.cell b4
  replace g := g.trans hg
  clear hg
  go_wp2_with fail
  refine (HCT.out _ _ hu).mono ?_
  rintro e W4 ⟨rfl, hg⟩
  replace hu := hu.gr hg
  replace b0 := hg.cell b0
  replace b1 := hg.cell b1
  replace b2 := hg.cell b2
  replace b4 := hg.cell b4
  replace g := g.trans hg
  clear hg
  clear hu HCL HCT HSH
  by_cases hz : listE 160 (strE cs) cs + listE 256 (tstE xs) xs = 0
  rotate_left
  · have hwr : IntKind.i64.wrap (listE 160 (strE cs) cs + listE 256 (tstE xs) xs) = listE 160 (strE cs) cs + listE 256 (tstE xs) xs := by rw [IntKind.wrap_i64]; omega
    clear hB1 hB2
    generalize listE 160 (strE cs) cs = z1 at *
    generalize listE 256 (tstE xs) xs = z2 at *
    generalize hzz : z1 + z2 = z at *
    have q1 : (z == 0) = false := by simpa using hz
    have q2 : (z != 0) = true := by simpa [bne] using q1
    go_wp2_with fail
    refine (HA.out _ g).mono ?_
    rintro e Wa ⟨rfl, g4⟩
    go_wp2_with fail
    go_ret
    exact ⟨rfl, g.trans g4⟩
  have hz1 : listE 160 (strE cs) cs = 0 := by omega
  have hz2 : listE 256 (tstE xs) xs = 0 := by omega
  have HZ1 := Lib.hid hz1
  have HZ2 := Lib.hid hz2
  rw [hz1, hz2]
  clear hz hz1 hz2 hB1 hB2
  go_wp2_with fail
  refine (HCP.out _).mono ?_
  rintro e W5 ⟨rfl, hg⟩
  replace b0 := hg.cell b0
  replace b1 := hg.cell b1
  replace b2 := hg.cell b2
  replace b4 := hg.cell b4
  replace g := g.trans hg
  clear hg
  clear HCP
  by_cases hz : pickE c sp key = 0
  rotate_left
  · generalize pickE c sp key = z at *
    have q1 : (z == 0) = false := by simpa using hz
    have q2 : (z != 0) = true := by simpa [bne] using q1
    go_wp2_with fail
    refine (HA.out _ g).mono ?_
    rintro e Wa ⟨rfl, g4⟩
    go_wp2_with fail
    go_ret
    exact ⟨rfl, g.trans g4⟩
  have HZ3 := Lib.hid hz
  rw [hz]
  clear hz
  go_wp2_with fail
  refine (H4.out _).mono ?_
  rintro e W6 ⟨rfl, rfl⟩
  by_cases hz : e4 = 0
  rotate_left
  · have q1 : (e4 == 0) = false := by simpa using hz
    have q2 : (e4 != 0) = true := by simpa [bne] using q1
    go_wp2_with fail
    refine (HA.out _ g).mono ?_
    rintro e Wa ⟨rfl, g4⟩
    go_wp2_with fail
    go_ret
    exact ⟨rfl, g.trans g4⟩
  subst hz
  have h0 := HPE.out HZ1.out HZ2.out HZ3.out h4'.symm
  have H0 := Lib.hid h0
  obtain ⟨⟨c1, c2⟩, ⟨p1, p2⟩, k1, k2⟩ := pickE_zero HZ3.out
  obtain ⟨-, -, -, d1, d2⟩ := poolE_zero h0
  have n12 : n ≤ 12 := by
    have := of_decide_eq_false h12
    omega
  have m20 : m ≤ 20 := by
    have := of_decide_eq_false h20
    omega
  clear h12 h20
  obtain ⟨kn, hkn⟩ : ∃ k : Nat, key = k := ⟨key.toNat, by omega⟩
  subst hkn
  have HF := Lib.hid (spares_facts h0)
  have HPA := Lib.hid (fun W g => HPG.out c kn W g H0.out (by have := HN.out; omega))
  have HPB := Lib.hid (fun W g => HPG.out (n : Int) kn W g (by have := poolE_all H0.out; rw [← HN.out] at this; exact this) (by have := HN.out; omega))
  have HLA := Lib.hid (fun W g => HLG.out W g (lateE_of H0.out))
  rw [← HN.out] at HF
  have HL0 : Hid (∀ s, -1 ≤ lastC xs d s) := fun s => lastZ_ge (lastD d s) xs (-1)
  have HLZ : Hid (∀ s, lastZ (lastD d s) (xs.take m) (-1) = lastC xs d s) := fun s => by rw [List.take_of_length_le (by have := HM.out; omega)]; rfl
  have HLT : Hid (∀ s i x, xs[i]? = some x → lastZ (lastD d s) (xs.take (i + 1)) (-1) = if lastD d s x then max (lastZ (lastD d s) (xs.take i) (-1)) x.dy else lastZ (lastD d s) (xs.take i) (-1)) := fun s i x hx => lastZ_take (lastD d s) hx (-1)
  generalize poolL cs xs c sp kn d = A at *
  generalize poolL cs xs (n : Int) sp kn d = B at *
  generalize lateL xs sp d cs = Lt at *
  clear h0 HPE HPG HLG HZ1 HZ2 HZ3 h4' H4 H0 k1 k2
  have hla := HF.out.la
  have hlb := HF.out.lb
  have hlc := HF.out.lc
  rw [← HN.out] at hlc
  have HLA0 := Lib.hid hla
  have HLB0 := Lib.hid hlb
  obtain ⟨W8, hW8, gW8, t0, t1, t2⟩ := box3 W5 (.int .i64 (n : Int)) (.int .i64 sp) (.int .i64 (kn : Int)) 25
  have e0 := gW8.cell b0
  have e1 := gW8.cell b1
  have e2 := gW8.cell b2
  have e4 := gW8.cell b4
  rw [← hW8] at e0 e1 e2 e4 t0 t1 t2
  replace g := g.trans gW8
  have HW8 := Lib.hid hW8
  clear gW8 hW8
  go_wp2_with fail
  rw [HW8.out] at e0 e1 e2 e4 t0 t1 t2 ⊢
  clear b0 b1 b2 b4
  have b0 := e0
  have b1 := e1
  have b2 := e2
  have b4 := e4
  clear e0 e1 e2 e4 HW8
  generalize W5.heap.size = Px at *
  refine (HPA.out _ g).mono ?_
  rintro e W7 ⟨ua, rfl, hua, hg⟩
  have hg2 := hg
  replace b0 := hg.cell b0
  replace b1 := hg.cell b1
  replace b2 := hg.cell b2
  replace b4 := hg.cell b4
  replace g := g.trans hg
  clear hg
  replace t0 := hg2.cell t0
  replace t1 := hg2.cell t1
  replace t2 := hg2.cell t2
  clear hg2
  obtain ⟨pa, ca, rfl⟩ : ∃ p c, ua = .slice p A.length c := by
    obtain ⟨⟨p, cap, rfl, _⟩⟩ := hua
    exact ⟨p, cap, rfl⟩
  go_wp2_with fail
  refine (HPB.out _ g).mono ?_
  rintro e W9 ⟨ub, rfl, hub, hg⟩
  replace hua := hua.gr hg
  replace b0 := hg.cell b0
  replace b1 := hg.cell b1
  replace b2 := hg.cell b2
  replace b4 := hg.cell b4
  replace g := g.trans hg
  clear hg
  obtain ⟨pb, cb, rfl⟩ : ∃ p c, ub = .slice p B.length c := by
    obtain ⟨⟨p, cap, rfl, _⟩⟩ := hub
    exact ⟨p, cap, rfl⟩
  go_wp2_with fail
  refine (HLA.out _ g).mono ?_
  rintro e W10 ⟨ul, rfl, hul, hg⟩
  replace hua := hua.gr hg
  replace hub := hub.gr hg
  replace b0 := hg.cell b0
  replace b1 := hg.cell b1
  replace b2 := hg.cell b2
  replace b4 := hg.cell b4
  replace g := g.trans hg
  clear hg
  obtain ⟨pl, cl, rfl⟩ : ∃ p c, ul = .slice p Lt.length c := by
    obtain ⟨⟨p, cap, rfl, _⟩⟩ := hul
    exact ⟨p, cap, rfl⟩
  clear HPA HPB HLA t0 t1 t2
  have HWL := Lib.hid (fun W (g : Gr W10 W) s => hasWordS_c (hul.gr g) (by omega) s)
  have HWB := Lib.hid (fun W (g : Gr W10 W) i hi s => hasWordT_s (hub.gr g) (by omega) i hi s)
  have HWD := Lib.hid (fun W (h : Gr W10 W) s => HWC.out W (g.trans h) (by have := HN.out; omega) s)
  obtain ⟨-, -, hha⟩ := strAts_out hua
  obtain ⟨-, ⟨hcb, hcbm⟩, hhb⟩ := strAts_out hub
  obtain ⟨-, -, hhl⟩ := strAts_out hul
  have HHA := Lib.hid hha
  have HHB := Lib.hid hhb
  have HHL := Lib.hid hhl
  have HGT := Lib.hid g
  have hwr : IntKind.i64.wrap (d - sp) = d - sp := by rw [IntKind.wrap_i64]; omega
  have hm1 : min c (B.length : Int) = (A.length : Int) := hla.symm
  rw [← hlb] at hhl HHL HWL ⊢
  have hal : A.length ≤ B.length := by omega
  clear hua hub hul hha hhb hhl HWC hla HLA0 c1 c2 hlb
  go_wp2_with fail
  go_loopw [15, 126] (fun xv iv wr => ∃ i : Nat, i ≤ A.length ∧ iv = .int .i64 i ∧ Gr W10 wr) (fun _ iv _ => A.length - (intOf iv).toNat)
  case atStart => exact ⟨0, Nat.zero_le _, rfl, Gr.refl _⟩
  case round =>
    obtain ⟨i, hi', rfl, hg⟩ := hrel
    by_cases hlt : i < A.length
    · obtain ⟨x, hx⟩ : ∃ x, A[i]? = some x := ⟨A[i], List.getElem?_eq_getElem _⟩
      have hxB := HF.out.ab i x hx
      obtain ⟨b, off, rfl, hc⟩ := HHA.out (by omega)
      obtain ⟨c0⟩ := (hc i x hx).gr hg
      obtain ⟨b', off', rfl, hc'⟩ := HHB.out (by omega)
      obtain ⟨c0'⟩ := (hc' i x hxB).gr hg
      have hi2 : (i : Int) < A.length := by omega
      have hi3 : (i : Int) < B.length := by omega
      clear hx hxB hc hc'
      go_wp2_with fail
      go_big_quiet (fail)
      go_wp2_with fail
      go_roundw
      case rel => exact ⟨i + 1, by omega, by go_num, by first | exact hg | exact hg.drew | exact hg.drewN _⟩
      case measure => simp [intOf]; omega
    · obtain hiA : i = A.length := by omega
      have hnl : ¬ (i : Int) < A.length := by omega
      have hgx := hg
      go_wp2_with fail
      clear hi' hlt hnl hiA hm1 hal b0 b2 hcbm
      go_loopw [16, 17, 18, 19, 21, 141] (fun bv xv nv lv pv iv wr => ∃ (i : Nat) (bf : Int), i ≤ B.length ∧ iv = .int .i64 i ∧ bv = .int .i64 bf ∧ Hid (∀ s, B[i]? = some s → bf ≤ lastC xs d s) ∧ Gr W10 wr) (fun _ _ _ _ _ iv _ => B.length - (intOf iv).toNat)
      case atStart => exact ⟨0, -1, Nat.zero_le _, rfl, rfl, fun s _ => HL0.out s, hgx⟩
      case round =>
        obtain ⟨i, bf, hi', rfl, rfl, HBF, hg⟩ := hrel
        by_cases hlt : i < B.length
        · obtain ⟨x, hx⟩ : ∃ x, B[i]? = some x := ⟨B[i], List.getElem?_eq_getElem _⟩
          obtain ⟨b', off', rfl, hc'⟩ := HHB.out (by omega)
          obtain ⟨c0'⟩ := (hc' i x hx).gr hg
          have hi3 : (i : Int) < B.length := by omega
          have hicb : (i : Int) ≤ cb := by omega
          have hi0 : (0 : Int) ≤ i := by omega
          have hq1 := fun W (g : Gr W10 W) => HWL.out W g x
          rw [HF.out.inl i x hx] at hq1
          have hq2 := fun W (g : Gr W10 W) => HWB.out W g i (by omega) x
          rw [HF.out.apart i x hx] at hq2
          have hfree := HF.out.free i x hx
          have hbf := HBF.out x hx
          have HO := Lib.hid (fun t (ht : B[i + 1]? = some t) => HF.out.ord i x t hx ht)
          have HQ1 := Lib.hid hq1
          have HQ2 := Lib.hid hq2
          have HLX := Lib.hid (HLZ.out x)
          have HLY := Lib.hid (HLT.out x)
          have HFR := Lib.hid hfree
          have HBX := Lib.hid hbf
          generalize lastC xs d x = zx at *
          clear hfree hbf
          clear hq1 hq2 hx hc' HBF

          go_wp2_with fail
          refine (HQ1.out _ hg).mono ?_
          rintro e Wq ⟨rfl, rfl⟩
          go_wp2_with fail
          refine (HQ2.out _ hg).mono ?_
          rintro e Wq2 ⟨rfl, rfl⟩
          have hgL := hg
          have hmm : m ≤ 20 := m20
          go_wp2_with fail
          go_loopw [19, 21, 159] (fun lv pv jv wr2 => ∃ j : Nat, j ≤ m ∧ jv = .int .i64 j ∧ lv = .int .i64 (lastZ (lastD d x) (xs.take j) (-1)) ∧ Gr W10 wr2) (fun _ _ jv _ => m - (intOf jv).toNat)
          case atStart => exact ⟨0, Nat.zero_le _, rfl, rfl, hgL⟩
          case round =>
            obtain ⟨j, hj', rfl, rfl, hg2⟩ := hrel
            by_cases hjt : j < m
            · obtain ⟨y, hy⟩ : ∃ y, xs[j]? = some y := ⟨xs[j]'(by have := HM.out; omega), List.getElem?_eq_getElem _⟩
              obtain ⟨bt, ot, rfl, hct⟩ := HT.out (by omega)
              obtain ⟨k0, k1⟩ := (hct j y hy).gr (HGT.out.trans hg2)
              have hst := HLY.out j y hy
              have hj2 : (j : Int) < m := by omega
              have ka := (Gr.refl wr).alloc (.cells #[.string y.nm, .int .i64 y.dy] 71)
              have b4' := ka.cell (hg2.cell b4)
              have HGA := Lib.hid (hg2.trans ka)
              rw [show lastD d x y = ((y.nm.toList == x.toList) && decide (y.dy ≤ d)) from rfl] at hst
              generalize lastZ (lastD d x) (xs.take j) (-1) = cu at *
              clear hy hct ka
              cases e0 : (y.nm.toList == x.toList) <;> cases e1 : decide (y.dy ≤ d) <;> rcases Decidable.em (y.dy ≤ cu) with hmx | hmx
              all_goals
                simp only [e0, e1, Bool.false_and, Bool.and_false, Bool.true_and, Bool.false_eq_true, if_false, if_true] at hst
                have HST := Lib.hid hst
                clear hst
                go_wp2_with fail
                go_roundw
                case rel => exact ⟨j + 1, by omega, by go_num, by first | (rw [HST.out]; done) | (rw [HST.out]; congr 1; omega), HGA.out⟩
                case measure => simp [intOf]; omega
            · obtain hjm : j = m := by omega
              have hnj : ¬ (j : Int) < m := by omega
              rw [hjm, HLX.out]
              have b1' := hg2.cell b1
              have b4' := hg2.cell b4
              have hbx := HBX.out
              have hnb : ¬ zx < bf := by omega
              have hnbd : decide (zx < bf) = false := decide_eq_false hnb
              have hfr := HFR.out
              by_cases hz0 : 0 ≤ zx
              · have hz1 : ¬ d - sp ≤ zx := by omega
                have hz0d : decide (0 ≤ zx) = true := decide_eq_true hz0
                have hz1d : decide (d - sp ≤ zx) = false := decide_eq_false hz1
                clear hfr hbx
                go_wp2_with fail
                go_roundw
                case rel => exact ⟨i + 1, zx, by omega, by go_num, rfl, HO.out, hg2⟩
                case measure => simp [intOf]; omega
              · have hz0d : decide (0 ≤ zx) = false := decide_eq_false hz0
                clear hfr hbx
                go_wp2_with fail
                go_roundw
                case rel => exact ⟨i + 1, zx, by omega, by go_num, rfl, HO.out, hg2⟩
                case measure => simp [intOf]; omega
        · obtain hiB : i = B.length := by omega
          have hnl : ¬ (i : Int) < B.length := by omega
          go_wp2_with fail
          clear hnl hiB hi' hlt HBF
          go_loopw [23, 200] (fun xv iv wr => ∃ i : Nat, i ≤ B.length ∧ iv = .int .i64 i ∧ Gr W10 wr) (fun _ iv _ => B.length - (intOf iv).toNat)
          case atStart => exact ⟨0, Nat.zero_le _, rfl, hg⟩
          case round =>
            obtain ⟨k, hk', rfl, hg2⟩ := hrel
            by_cases hlt : k < B.length
            · obtain ⟨x, hx⟩ : ∃ x, Lt[k]? = some x := ⟨Lt[k]'(by have := HLB0.out; omega), List.getElem?_eq_getElem _⟩
              obtain ⟨bl, ol, rfl, hcl⟩ := HHL.out (by omega)
              obtain ⟨c0⟩ := (hcl k x hx).gr hg2
              have hq1 := fun W (g : Gr W10 W) => HWD.out W g x
              rw [HF.out.inc k x hx] at hq1
              have HQ1 := Lib.hid hq1
              have hi2 : (k : Int) < B.length := by omega
              clear hq1 hx hcl
              go_wp2_with fail
              refine (HQ1.out _ hg2).mono ?_
              rintro e Wq ⟨rfl, rfl⟩
              go_wp2_with fail
              go_roundw
              case rel => exact ⟨k + 1, by omega, by go_num, hg2⟩
              case measure => simp [intOf]; omega
            · have hnl : ¬ (k : Int) < B.length := by omega
              go_wp2_with fail
              go_ret
              exact ⟨rfl, HGT.out.trans hg2⟩
end Go.Proofs.YtenkbeeiblhnjaaGreat
