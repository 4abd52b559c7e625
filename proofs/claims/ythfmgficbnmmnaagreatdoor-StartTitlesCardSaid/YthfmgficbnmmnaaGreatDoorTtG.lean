/- Titles: the law, walked. -/
import Derived.Test.YthfmgficbnmmnaaGreatDoorTtF
import Derived.Deep.CutRange
namespace Go.Proofs.YthfmgficbnmmnaaGreatDoor
open Go.RowKit Go.Lib
set_option linter.unusedSimpArgs false
set_option linter.unusedVariables false
theorem racesE_len {l : List RaR} (h : racesE l = 0) : l.length ≤ 32 := by
  unfold racesE at h
  split at h
  · rename_i hm; simp only [List.mem_cons, List.not_mem_nil, or_false] at hm; omega
  · cases h
/-- what is known of a place among the places -/
structure AtP (ps : List PlR) (ns : List ByteArray) (i : Nat) (x : PlR) : Prop where
  new : hasS ((ps.map PlR.nm).take i) x.nm = false
  mem : hasS ns x.nm = true
  two : 0 < i → 2 ≤ x.k
  up : ∀ (j : Nat) (y : PlR), i = j + 1 → ps[j]? = some y → y.k ≤ x.k
theorem atP {ps : List PlR} {ns : List ByteArray} (hp : (ps.map PlR.nm).Perm ns) (nd : ns.Nodup) (pos : ps.Pairwise fun a b => a.k ≤ b.k ∧ 2 ≤ b.k) {i : Nat} {x : PlR} (hx : ps[i]? = some x) : AtP ps ns i x := by
  have hn := hp.nodup_iff.2 nd
  obtain ⟨hi, hxe⟩ := List.getElem?_eq_some_iff.1 hx
  have hpw := List.pairwise_iff_getElem.1 pos
  refine ⟨?_, ?_, fun h => ?_, fun j y e hy => ?_⟩
  · cases h : hasS ((ps.map PlR.nm).take i) x.nm with
    | false => rfl
    | true =>
      rw [hasS_iff, List.mem_iff_getElem] at h
      obtain ⟨j, hj, e⟩ := h
      rw [List.length_take, List.length_map] at hj
      rw [List.getElem_take] at e
      have := (List.pairwise_iff_getElem.1 hn) j i (by rw [List.length_map]; omega) (by rw [List.length_map]; omega) (by omega)
      rw [e, List.getElem_map, hxe] at this
      exact absurd rfl this
  · rw [hasS_iff]
    exact hp.subset (List.mem_map.2 ⟨x, List.mem_of_getElem? hx, rfl⟩)
  · have := (hpw 0 i (by omega) hi h).2
    rw [hxe] at this
    exact this
  · subst e
    obtain ⟨hj, hye⟩ := List.getElem?_eq_some_iff.1 hy
    have := (hpw j (j + 1) hj hi (by omega)).1
    rw [hxe, hye] at this
    exact this
theorem nodup_k : ∀ {ps : List PlR}, (ps.map PlR.nm).Nodup → ∀ {x y : PlR}, x ∈ ps → y ∈ ps → x.nm = y.nm → x = y
  | [], _, _, _, h, _, _ => by cases h
  | a :: ps, hn, x, y, hx, hy, e => by
    rw [List.map_cons, List.nodup_cons] at hn
    rcases List.mem_cons.1 hx with h1 | h1 <;> rcases List.mem_cons.1 hy with h2 | h2
    · rw [h1, h2]
    · exact absurd (List.mem_map.2 ⟨y, h2, by rw [← e, h1]⟩) hn.1
    · exact absurd (List.mem_map.2 ⟨x, h1, by rw [e, h2]⟩) hn.1
    · exact nodup_k hn.2 h1 h2 e
/-- who has lost holds the place behind as many as raced -/
theorem lost_k {ps : List PlR} {ns : List ByteArray} {ls : List (List RaR)} (hp : (ps.map PlR.nm).Perm ns) (ok : NmOk ns)
    (lo : ∀ L ∈ ls, ∀ r ∈ L, (isNb r.a = true → r.w ≠ 1 → (⟨r.a, (L.length : Int) + 1⟩ : PlR) ∈ ps) ∧ (isNb r.b = true → r.w ≠ 2 → (⟨r.b, (L.length : Int) + 1⟩ : PlR) ∈ ps))
    {x : PlR} (hx : x ∈ ps) {L : List RaR} (hL : L ∈ ls) {r : RaR} (hr : r ∈ L)
    (h : (((r.a.toList == x.nm.toList) && (r.w != 1)) || ((r.b.toList == x.nm.toList) && (r.w != 2))) = true) : x.k = (L.length : Int) + 1 := by
  have hn := hp.nodup_iff.2 ok.nd
  have hb : isNb x.nm = true := Nm.yes (ok.nm _ (hp.subset (List.mem_map.2 ⟨x, hx, rfl⟩)))
  obtain ⟨h1, h2⟩ := lo L hL r hr
  rw [Bool.or_eq_true, Bool.and_eq_true, Bool.and_eq_true] at h
  rcases h with ⟨e, hw⟩ | ⟨e, hw⟩
  · have e := ba_inj (beq_iff_eq.1 e)
    rw [e] at h1
    rw [nodup_k hn hx (h1 hb (bne_iff_ne.1 hw)) rfl]
  · have e := ba_inj (beq_iff_eq.1 e)
    rw [e] at h2
    rw [nodup_k hn hx (h2 hb (bne_iff_ne.1 hw)) rfl]
theorem three_facts {k : Int} {s : Nat} (h : (k = 1 ↔ s = 0) ∧ (k = 2 ↔ s = 1) ∧ (k = 3 ↔ (s = 2 ∨ s = 3))) :
    ∃ b1 b2 c2 c3 : Bool, (k == 1) = b1 ∧ ((s : Int) == 0) = b1 ∧ (k == 2) = b2 ∧ ((s : Int) == 1) = b2 ∧ (k == 3) = (c2 || c3) ∧ ((s : Int) == 2) = c2 ∧ ((s : Int) == 3) = c3 := by
  refine ⟨k == 1, k == 2, (s : Int) == 2, (s : Int) == 3, rfl, ?_, rfl, ?_, ?_, rfl, rfl⟩
  all_goals
    rw [Bool.eq_iff_iff]
    simp only [beq_iff_eq, Bool.or_eq_true]
    omega
theorem box3t (w : World) (a0 a1 a2 : Value) (T : Nat) : ∃ W, w.alloc (.cells #[a0, a1, a2] T) = W ∧ Gr w W ∧ W.cell? ⟨w.heap.size, 0, none⟩ = some a0 ∧ W.cell? ⟨w.heap.size, 1, none⟩ = some a1 ∧ W.cell? ⟨w.heap.size, 2, none⟩ = some a2 :=
  ⟨_, rfl, (Gr.refl w).alloc _, cell_new w #[a0, a1, a2] T 0 (by simp), cell_new w #[a0, a1, a2] T 1 (by simp), cell_new w #[a0, a1, a2] T 2 (by simp)⟩
/-- the head of the loop over the rounds -/
structure Hd (ns : List ByteArray) (J : Nat) (W1 wr : World) (j m : Nat) (ls : List Rd) (l : List RaR) (bt : Bool) (s7 : Value) : Prop where
  len : ls.length = m
  own : wr.ownsRow W1.heap.size 30 1 s7 m (ls.map rdV)
  cps : Cpt W1.heap.size wr ls
  gr : Gr W1 wr
  fwd : Fwd ns bt (seedR ns J) j (ls.map Rd.l) l
set_option maxHeartbeats 8000000 in
set_option maxRecDepth 100000 in
theorem lawTitles_c {v vd : Value} {ns : List ByteArray} {ds : List Nat} {w : World} (hv : StrAts w v ns) (hd : U8S w vd ds) (hA : AwakeOK w) :
    Calls Tryz.prog 4 #[v, vd] w fun e w' => e = .returned (.bool true) ∧ Gr w w' := by
  obtain ⟨i0, hi, hz0, hz1, hz2⟩ := info_parts infoSlT
  obtain ⟨i3, hi3, hy0, hy1, hy2⟩ := info_parts infoRaP
  have HI0 := Lib.hid (And.intro hi (And.intro hz0 (And.intro hz1 hz2)))
  have HI3 := Lib.hid (And.intro hi3 (And.intro hy0 (And.intro hy1 hy2)))
  obtain ⟨i9, hi9, hx0, hx1, hx2⟩ := info_parts infoStr6
  have HI9 := Lib.hid (And.intro hi9 (And.intro hx0 (And.intro hx1 hx2)))
  clear hi9 hx0 hx1 hx2
  clear hi hz0 hz1 hz2 hi3 hy0 hy1 hy2
  have el30 : Tryz.prog.elem 30 = 55 := rfl
  have el22 : Tryz.prog.elem 22 = 30 := rfl
  have HV := Lib.hid hv
  have HA := Lib.hid hA
  have HD := Lib.hid hd
  obtain ⟨⟨p, cap, rfl, _, _⟩⟩ := hv
  obtain ⟨⟨pd, capd, rfl, _, _⟩⟩ := hd
  obtain ⟨n, hn⟩ : ∃ n, n = ns.length := ⟨_, rfl⟩
  obtain ⟨md, hmd⟩ : ∃ md, md = ds.length := ⟨_, rfl⟩
  rw [← hn] at HV ⊢
  rw [← hmd] at HD ⊢
  have HN := Lib.hid hn
  have HMD := Lib.hid hmd
  have HNE := Lib.hid (fun V (g : Gr w V) => refNm6_c ns (.slice p n cap) V (HV.out.gr g))
  have HRA := Lib.hid (fun V (g : Gr w V) (h : namesE ns = 0) (h32 : ns.length ≤ 32) => racesT_c ns (.slice p n cap) V (HV.out.gr g) h h32)
  have HSD0 := Lib.hid (fun (h : ns.length ≤ 32) V (g : Gr w V) (s : ByteArray) => seed_c ns (.slice p n cap) s V (HV.out.gr g) (by omega))
  clear hA hn hmd
  go_enter Tryz.func4, Tryz.ntmps4
  go_wp2_with fail
  refine (HA.out _ (Gr.refl _)).mono ?_
  rintro e W0 ⟨rfl, g0⟩
  have G0 := Lib.hid g0
  clear g0
  by_cases h32 : 32 < n
  ·
    as_aux_lemma =>
    have h32i : (32 : Int) < (n : Int) := by omega
    go_wp2_with fail
    refine (HA.out _ G0.out).mono ?_
    rintro e W3 ⟨rfl, g3⟩
    go_wp2_with fail
    go_ret
    exact ⟨rfl, G0.out.trans g3⟩
  have h32i : ¬ (32 : Int) < (n : Int) := by omega
  have HSD := Lib.hid (HSD0.out (by have := HN.out; omega))
  clear HSD0
  by_cases h40 : 40 < md
  ·
    as_aux_lemma =>
    have h40i : (40 : Int) < (md : Int) := by omega
    go_wp2_with fail
    refine (HA.out _ G0.out).mono ?_
    rintro e W3 ⟨rfl, g3⟩
    go_wp2_with fail
    go_ret
    exact ⟨rfl, G0.out.trans g3⟩
  have h40i : ¬ (40 : Int) < (md : Int) := by omega
  by_cases hne : namesE ns = 0
  case neg =>
    as_aux_lemma =>
    have hnb : (namesE ns != 0) = true := bne_iff_ne.2 hne
    have HNE2 := Lib.hid (HNE.out _ G0.out)
    generalize namesE ns = z at *
    go_wp2_with fail
    refine HNE2.out.mono ?_
    rintro e W2 ⟨rfl, g2⟩
    have G2 := Lib.hid (G0.out.trans g2)
    clear g2 HNE2
    go_wp2_with fail
    refine (HA.out _ G2.out).mono ?_
    rintro e W3 ⟨rfl, g3⟩
    go_wp2_with fail
    go_ret
    exact ⟨rfl, G2.out.trans g3⟩
  have HNM := Lib.hid (namesE_ok hne)
  have HNE2 := Lib.hid (HNE.out _ G0.out)
  have HRA2 := Lib.hid (fun V (g : Gr w V) => HRA.out V g hne (by have := HN.out; omega))
  rw [hne] at HNE2
  clear HNE HRA hne
  go_wp2_with fail
  refine HNE2.out.mono ?_
  rintro e W2 ⟨rfl, g2⟩
  have G2 := Lib.hid (G0.out.trans g2)
  clear g2 HNE2 G0
  go_wp2_with fail
  refine (HRA2.out _ G2.out).mono ?_
  rintro e W1 ⟨⟨J, q1, c1, N1, rfl, hN1, hJ4, hJn, hnJ, hra, g1⟩⟩
  have G1 := Lib.hid (G2.out.trans g1)
  have HJ := Lib.hid (And.intro hJ4 (And.intro hJn hnJ))
  have HRS := Lib.hid hra
  have HN1 := Lib.hid hN1
  clear HRA2 G2 g1 hra hJn hnJ hN1
  go_wp2_with fail
  go_loopg [5, 6, 7, 8, 9, 10, 11] J (fun gk s5 s6 s7 s8 s9 s10 s11 wr => ∃ (ls : List Rd) (l : List RaR) (bt : Bool) (at0 : Nat) (p5 : Option Addr) (c5 N m : Nat), s5 = .slice p5 N c5 ∧ s6 = .int .i64 0 ∧ s8 = .int .i64 (at0 : Int) ∧ s9 = .bool bt ∧ s10 = .int .i64 (m : Int) ∧ Hid (N = 2 ^ gk) ∧ gk + m = J ∧ at0 ≤ 100 * m ∧ Hid (RaS wr p5 l) ∧ Hid (Hd ns J W1 wr gk m ls l bt s7))
  case atStart => exact ⟨[], seedR ns J, true, 0, q1, c1, N1, 0, rfl, rfl, rfl, rfl, rfl, HN1.out, rfl, by omega, HRS.out, ⟨rfl, World.ownsRow_nil _ _ _ _, ⟨fun j y h => by simp at h⟩, Gr.refl _, .nil (seedR_len ns J)⟩⟩
  case round =>
    obtain ⟨ls, l, bt, at0, p5, c5, N, m, rfl, rfl, rfl, rfl, rfl, HN2, hgk, hat, HR5, HHD⟩ := hrel
    obtain ⟨j, rfl⟩ : ∃ j, j = gk := ⟨gk, rfl⟩
    have hJ4 := HJ.out.1
    have hlN : l.length = N := by rw [HHD.out.fwd.size]; exact HN2.out.symm
    have HOK := Lib.hid (HHD.out.fwd.ok (seedR_ok HNM.out hJ4 HJ.out.2.2).1)
    have hNb : 1 ≤ N ∧ N ≤ 16 := by
      rw [HN2.out]
      exact ⟨Nat.one_le_two_pow, Nat.le_trans (Nat.pow_le_pow_right (by omega) (show j ≤ 4 by omega)) (by decide)⟩
    obtain ⟨hN1, hN16⟩ := hNb
    have HRE : Hid (racesE l = 0) := HOK.out.races (j := j) (by rw [hlN]; exact HN2.out) (by omega)
    have hm6 : (m : Int) < 6 := by omega
    have HC6 := Lib.hid (races6s_c (cap := c5) HR5.out hlN.symm (by omega))
    have HLN := Lib.hid hlN
    clear hlN
    go_wp2_with fail
    refine HC6.out.mono ?_
    rintro e W3 ⟨u, rfl, hu, g3⟩
    have HRC0 := refCheckRaces_c l u W3 hu (by rw [HLN.out]; omega)
    rw [HRE.out] at HRC0
    have HRC := Lib.hid HRC0
    have L3 := Lib.hid g3
    clear HRC0 hu g3 HC6
    go_wp2_with fail
    refine HRC.out.mono ?_
    rintro e W4 ⟨rfl, g4⟩
    have L4 := Lib.hid (L3.out.trans g4)
    clear g4 HRC L3
    obtain ⟨b5, o5, rfl, hc5⟩ := HR5.out.out (by rw [HLN.out]; omega)
    have hcl := raS_cells (w := W4) (b := b5) (off := o5) (l := l) (fun i r hr => ⟨L4.out.cell (hc5 i r hr).1, L4.out.cell (hc5 i r hr).2.1, L4.out.cell (hc5 i r hr).2.2⟩)
    have hrl := raCs_len l
    rw [HLN.out] at hrl
    have hro := raCs_one l
    obtain ⟨hi3, hy0, hy1, hy2⟩ := HI3.out
    have hHE : (W4.alloc (.cells #[] 55)).heap[W4.heap.size]? = some (.cells #[] 55 (0, 0)) := Array.getElem?_push_size
    go_wp2_with (at_builtin; refine wpList_append_own _ rfl _ _ 30 rfl W4.heap.size 55 i3 (.agg #[.string ⟨#[]⟩, .string ⟨#[]⟩, .int .i64 0]) 3 40 Tryz.underlying30 hi3 hy0 hy1 hy2 rfl (by decide) _ _ _ rfl (own_emptyR hHE (Nat.le_refl _)) ⟨b5, o5, none⟩ N c5 (raCs l) rfl hrl (fun j u hj => Gr.cell (Below.alloc (Gr.refl W4) (Nat.le_refl _) _) (hcl j u hj)) hro (by unfold maxLen; omega) (by omega) (by simp) ?_; intro v1 w1 hown1 hgrow1 hnil)
    clear hnil
    rw [List.nil_append, Nat.zero_add] at hown1
    have HGR : Hid (Gr W4 w1) := Below.grown (Below.alloc (Gr.refl W4) (Nat.le_refl _) _) hgrow1 (by simp) (fun q hq => (own_in (own_emptyR hHE (Nat.le_refl _)) hq).2)
    have HO1 := Lib.hid hown1
    obtain ⟨pq, cq, rfl, hcq1, hcq2⟩ := own_shape hown1
    obtain ⟨gq, rfl⟩ : ∃ gq, pq = some ⟨gq, 0, none⟩ := by
      rcases hown1.2 with ⟨e, h0⟩ | ⟨g, cap, cur, e, _⟩
      · omega
      · simp only [Value.slice.injEq] at e
        exact ⟨g, e.1⟩
    have HCQ := Lib.hid hcq1
    clear hown1 hgrow1 hHE hcl hro hrl hcq1 hcq2 hi3 hy0 hy1 hy2
    go_wp2_with fail
    go_simp
    go_wp2_with fail
    go_loopg [8, 9, 11, 63] N (fun gk s8 s9 s11 s63 wr => ∃ (i : Nat) (cur : List RaR) (b2 : Bool) (at2 : Nat), s63 = .int .i64 (i : Int) ∧ s8 = .int .i64 (at2 : Int) ∧ s9 = .bool b2 ∧ gk + i = N ∧ at2 ≤ 100 * m + i ∧ Hid (b2 = true → bt = true) ∧ Hid (Half ns b2 l cur i) ∧ Hid (wr.ownsRow W4.heap.size 55 3 (.slice (some ⟨gq, 0, none⟩) N cq) N (raCs cur)) ∧ Hid (Gr W4 wr))
    case atStart => exact ⟨0, l, bt, at0, rfl, rfl, rfl, rfl, by omega, fun h => h, Half.start ns bt l, HO1.out, HGR.out⟩
    case round =>
      obtain ⟨i, cur, b2, at2, rfl, rfl, rfl, hgk2, hat2, HB2, HHF, HOW, HG⟩ := hrel
      by_cases hlt : i < N
      · obtain ⟨r, hr⟩ : ∃ r, l[i]? = some r := ⟨l[i]'(by have := HLN.out; omega), List.getElem?_eq_getElem _⟩
        have hcr : cur[i]? = some r := by rw [HHF.out.rest i (Nat.le_refl _)]; exact hr
        have hcl : cur.length = N := by rw [HHF.out.len]; exact HLN.out
        obtain ⟨gz, oz, ez, hcz⟩ := (RaS.of_own HOW.out hcl).out (by omega)
        simp only [Option.some.injEq, Addr.mk.injEq, and_true] at ez
        obtain ⟨rfl, rfl⟩ := ez
        obtain ⟨c0, c1', c2⟩ := hcz i r hcr
        rw [Nat.zero_add] at c0 c1' c2
        have hlt2 : (i : Int) < (N : Int) := by omega
        have HR := Lib.hid hr
        have HCR := Lib.hid hcr
        clear hcz hr hcr
        by_cases hw : r.w = 0
        case neg =>
          as_aux_lemma =>
          have hw2 : (r.w != 0) = true := bne_iff_ne.2 hw
          have HHF2 : Hid (Half ns b2 l cur (i + 1)) := by
            have hbg := HOK.out.beg r (List.mem_of_getElem? HR.out)
            have hwl := walk_le r.a r.b
            exact HHF.out.skip HR.out ⟨rfl, rfl, by omega, by omega, fun _ => rfl, fun _ h => absurd h hw⟩
          obtain ⟨ra, rb, rw'⟩ := r
          simp only at c0 c1' c2 hw2 hw
          clear hcl
          go_wp2_with fail
          go_roundg (gk - 1)
          case measure => omega
          case rel => exact ⟨i + 1, cur, b2, at2, by go_num, rfl, rfl, by omega, by omega, HB2.out, HHF2.out, HOW.out, HG.out⟩
        have hab : isNb r.a = true ∧ isNb r.b = true := by
          have hbg := HOK.out.beg r (List.mem_of_getElem? HR.out)
          rw [hw] at hbg
          unfold walkW at hbg
          rw [isNb_yes, isNb_yes]
          split at hbg
          · split at hbg <;> cases hbg
          · rename_i h1
            split at hbg
            · cases hbg
            · rename_i h2; exact ⟨h1, h2⟩
        obtain ⟨sB, hsB⟩ : ∃ sB, sB = seedN ns r.b := ⟨_, rfl⟩
        obtain ⟨sA, hsA⟩ : ∃ sA, sA = seedN ns r.a := ⟨_, rfl⟩
        have HSB := Lib.hid (fun V (g : Gr w V) => HSD.out V g r.b)
        have HSA := Lib.hid (fun V (g : Gr w V) => HSD.out V g r.a)
        rw [← hsB] at HSB
        rw [← hsA] at HSA
        have hbst : ∀ k, k = (if sB < sA then 2 else 1) → k = if seedN ns r.b < seedN ns r.a then (2 : Int) else 1 := fun k hk => by rw [← hsB, ← hsA]; exact hk
        have HBST := Lib.hid hbst
        clear hsB hsA hbst
        obtain ⟨s1, s2, s3, s4⟩ := own_setR (i := i * 3 + 2) (.int .i64 1) HOW.out (by rw [raCs_len, hcl]; omega)
        rw [raCs_set cur i r 1 HCR.out] at s1
        have hgr1 : Gr W4 (wr.setCell ⟨gq, i * 3 + 2, none⟩ (.int .i64 1)) := Below.setCell HG.out s2 _
        obtain ⟨ra, rb, rw'⟩ := r
        simp only at c0 c1' c2 hw hab HSB HSA HBST s1
        subst hw
        obtain ⟨W5, hW5⟩ : ∃ W5, W5 = wr.setCell ⟨gq, i * 3 + 2, none⟩ (.int .i64 1) := ⟨_, rfl⟩
        have HW5 := Lib.hid hW5
        rw [← hW5] at s1 hgr1
        have HS1 := Lib.hid s1
        have HGR1 := Lib.hid hgr1
        clear s1 s4 hgr1 c0 c1' hW5
        go_wp2_with fail
        rw [← HW5.out]
        have hcl2 : (cur.set i ⟨ra, rb, 1⟩).length = N := by rw [List.length_set]; exact hcl
        have hcr2 : (cur.set i ⟨ra, rb, 1⟩)[i]? = some (⟨ra, rb, 1⟩ : RaR) := List.getElem?_set_self (by omega)
        have gd := (Gr.refl W5).drew
        have HOW5 := Lib.hid (own_kept HS1.out gd)
        have HG5 := Lib.hid (HGR1.out.trans gd)
        obtain ⟨gz, oz, ez, hcz⟩ := (RaS.of_own HOW5.out hcl2).out (by omega)
        simp only [Option.some.injEq, Addr.mk.injEq, and_true] at ez
        obtain ⟨rfl, rfl⟩ := ez
        obtain ⟨c0, c1', c2'⟩ := hcz i _ hcr2
        rw [Nat.zero_add] at c0 c1' c2'
        simp only at c0 c1' c2'
        have gv : Gr w W5.drew := ((G1.out.trans HHD.out.gr).trans L4.out).trans HG5.out
        clear hcz gd HS1 HGR1 HW5 s2 s3 c2 c2' HOW
        refine wp_region_held_drew (S := (fun w' => w'.cell? ⟨gq, i * 3, none⟩ = some (.string ra) ∧ w'.cell? ⟨gq, i * 3 + 1, none⟩ = some (.string rb))) (by kernel_rfl) ⟨c0, c1'⟩ (fun hHeld => ?_)
        generalize W5.drew = V0 at *
        refine wpAnyH_take (i := 0) (v := (.slice p n cap)) (op_at rfl) (by kernel_rfl) (by kernel_rfl) (by kernel_rfl) (fun _ _ _ h => h) (Or.inl ⟨rfl, fun w hSw => ?_⟩) (by assumption) ?_
        · (try dsimp only at hSw); go_simp; try with_reducible rfl
        (try simp only [Act.put, List.setIfInBounds_toArray, List.set_cons_zero, List.set_cons_succ])
        refine wpAnyH_take (i := 1) (v := (.slice (some ⟨gq, 0, none⟩) N cq)) (op_at rfl) (by kernel_rfl) (by kernel_rfl) (by kernel_rfl) (fun _ _ _ h => h) (Or.inl ⟨rfl, fun w hSw => ?_⟩) (by assumption) ?_
        · (try dsimp only at hSw); go_simp; try with_reducible rfl
        (try simp only [Act.put, List.setIfInBounds_toArray, List.set_cons_zero, List.set_cons_succ])
        refine wpAnyH_take (i := 2) (v := (.int .i64 (i : Int))) (op_at rfl) (by kernel_rfl) (by kernel_rfl) (by kernel_rfl) (fun _ _ _ h => h) (Or.inl ⟨rfl, fun w hSw => ?_⟩) (by assumption) ?_
        · (try dsimp only at hSw); go_simp; try with_reducible rfl
        (try simp only [Act.put, List.setIfInBounds_toArray, List.set_cons_zero, List.set_cons_succ])
        refine wpAnyH_take (i := 3) (v := (.pointer (some ⟨gq, i * 3, none⟩))) (op_at rfl) (by kernel_rfl) (by kernel_rfl) (by kernel_rfl) (fun _ _ _ h => h) (Or.inl ⟨rfl, fun w hSw => ?_⟩) (by assumption) ?_
        · (try dsimp only at hSw); go_simp; try with_reducible rfl
        (try simp only [Act.put, List.setIfInBounds_toArray, List.set_cons_zero, List.set_cons_succ])
        refine wpAnyH_take (i := 4) (v := (.pointer (some ⟨gq, i * 3 + 1, none⟩))) (op_at rfl) (by kernel_rfl) (by kernel_rfl) (by kernel_rfl) (fun _ _ _ h => h) (Or.inl ⟨rfl, fun w hSw => ?_⟩) (by assumption) ?_
        · (try dsimp only at hSw); go_simp; try with_reducible rfl
        (try simp only [Act.put, List.setIfInBounds_toArray, List.set_cons_zero, List.set_cons_succ])
        refine wpAnyH_take (i := 5) (v := (.string rb)) (op_at rfl) (by kernel_rfl) (by kernel_rfl) (by kernel_rfl) (fun _ _ _ h => h) (Or.inl ⟨rfl, fun w hSw => ?_⟩) (by assumption) ?_
        · (try dsimp only at hSw); go_simp; try with_reducible rfl
        (try simp only [Act.put, List.setIfInBounds_toArray, List.set_cons_zero, List.set_cons_succ])
        refine wpAnyH_take (i := 7) (v := (.slice p n cap)) (op_at rfl) (by kernel_rfl) (by kernel_rfl) (by kernel_rfl) (fun _ _ _ h => h) (Or.inl ⟨rfl, fun w hSw => ?_⟩) (by assumption) ?_
        · (try dsimp only at hSw); go_simp; try with_reducible rfl
        (try simp only [Act.put, List.setIfInBounds_toArray, List.set_cons_zero, List.set_cons_succ])
        refine wpAnyH_take (i := 8) (v := (.slice (some ⟨gq, 0, none⟩) N cq)) (op_at rfl) (by kernel_rfl) (by kernel_rfl) (by kernel_rfl) (fun _ _ _ h => h) (Or.inl ⟨rfl, fun w hSw => ?_⟩) (by assumption) ?_
        · (try dsimp only at hSw); go_simp; try with_reducible rfl
        (try simp only [Act.put, List.setIfInBounds_toArray, List.set_cons_zero, List.set_cons_succ])
        refine wpAnyH_take (i := 9) (v := (.int .i64 (i : Int))) (op_at rfl) (by kernel_rfl) (by kernel_rfl) (by kernel_rfl) (fun _ _ _ h => h) (Or.inl ⟨rfl, fun w hSw => ?_⟩) (by assumption) ?_
        · (try dsimp only at hSw); go_simp; try with_reducible rfl
        (try simp only [Act.put, List.setIfInBounds_toArray, List.set_cons_zero, List.set_cons_succ])
        refine wpAnyH_take (i := 10) (v := (.pointer (some ⟨gq, i * 3, none⟩))) (op_at rfl) (by kernel_rfl) (by kernel_rfl) (by kernel_rfl) (fun _ _ _ h => h) (Or.inl ⟨rfl, fun w hSw => ?_⟩) (by assumption) ?_
        · (try dsimp only at hSw); go_simp; try with_reducible rfl
        (try simp only [Act.put, List.setIfInBounds_toArray, List.set_cons_zero, List.set_cons_succ])
        refine wpAnyH_take (i := 11) (v := (.pointer (some ⟨gq, i * 3, none⟩))) (op_at rfl) (by kernel_rfl) (by kernel_rfl) (by kernel_rfl) (fun _ _ _ h => h) (Or.inl ⟨rfl, fun w hSw => ?_⟩) (by assumption) ?_
        · (try dsimp only at hSw); go_simp; try with_reducible rfl
        (try simp only [Act.put, List.setIfInBounds_toArray, List.set_cons_zero, List.set_cons_succ])
        refine wpAnyH_take (i := 12) (v := (.string ra)) (op_at rfl) (by kernel_rfl) (by kernel_rfl) (by kernel_rfl) (fun _ _ _ h => h) (Or.inl ⟨rfl, fun w hSw => ?_⟩) (by assumption) ?_
        · (try dsimp only at hSw); go_simp; try with_reducible rfl
        (try simp only [Act.put, List.setIfInBounds_toArray, List.set_cons_zero, List.set_cons_succ])
        refine wpAnyH_ready (rs := [6]) (by kernel_rfl) (by simp) (AllReadyH.cons (op_at rfl) (fun K hK => ?_) AllReadyH.nil)
        go_simp
        (refine (HSB.out _ gv).mono ?_; rintro e w' ⟨rfl, rfl⟩)
        go_wp2_with fail
        refine hK.out _ _ ⟨c0, c1'⟩ (fun hHeld => ?_)
        clear hK K
        (try simp only [Act.put, List.setIfInBounds_toArray, List.set_cons_zero, List.set_cons_succ])
        refine wpAnyH_ready (rs := [13]) (by kernel_rfl) (by simp) (AllReadyH.cons (op_at rfl) (fun K hK => ?_) AllReadyH.nil)
        go_simp
        (refine (HSA.out _ gv).mono ?_; rintro e w' ⟨rfl, rfl⟩)
        go_wp2_with fail
        refine hK.out _ _ ⟨c0, c1'⟩ (fun hHeld => ?_)
        clear hK K
        (try simp only [Act.put, List.setIfInBounds_toArray, List.set_cons_zero, List.set_cons_succ])
        refine wpAnyH_take (i := 14) (v := (.bool (decide ((sB : Int) < (sA : Int))))) (op_at rfl) (by kernel_rfl) (by kernel_rfl) (by kernel_rfl) (fun _ _ _ h => h) (Or.inl ⟨rfl, fun w hSw => ?_⟩) (by assumption) ?_
        · (try dsimp only at hSw); go_simp; try with_reducible rfl
        (try simp only [Act.put, List.setIfInBounds_toArray, List.set_cons_zero, List.set_cons_succ])
        refine wpAnyH_done (by kernel_rfl) ?_ _
        as_aux_lemma =>
        by_cases hs : sB < sA
        · have hsI : (sB : Int) < (sA : Int) := by omega
          obtain ⟨t1, t2, t3, t4⟩ := own_setR (i := i * 3 + 2) (.int .i64 2) HOW5.out (by rw [raCs_len, List.length_set, hcl]; omega)
          rw [raCs_set _ i ⟨ra, rb, 1⟩ 2 hcr2, List.set_set] at t1
          have hc5x : V0.cell? ⟨gq, i * 3 + 2, none⟩ = some (.int .i64 1) := by
            obtain ⟨gz, oz, ez, hcz⟩ := (RaS.of_own HOW5.out hcl2).out (by omega)
            simp only [Option.some.injEq, Addr.mk.injEq, and_true] at ez
            obtain ⟨rfl, rfl⟩ := ez
            have := (hcz i _ hcr2).2.2
            rwa [Nat.zero_add] at this
          have HOX := Lib.hid t1
          have HGX : Hid (Gr W4 (V0.setCell ⟨gq, i * 3 + 2, none⟩ (.int .i64 2))) := Below.setCell HG5.out t2 _
          have HK : Hid ((2 : Int) = if sB < sA then 2 else 1) := by rw [Hid, if_pos hs]
          clear t1 t2 t4 c0 c1' gv
          have hkr : (⟨ra, rb, 0⟩ : RaR).a = ra ∧ (⟨ra, rb, 0⟩ : RaR).b = rb := ⟨rfl, rfl⟩
          have hgwX : Gr w (V0.setCell ⟨gq, i * 3 + 2, none⟩ (.int .i64 2)) := ((G1.out.trans HHD.out.gr).trans L4.out).trans HGX.out
          by_cases hmd : at2 < md
          · have hmdI : (at2 : Int) < (md : Int) := by omega
            obtain ⟨d, hd⟩ : ∃ d, ds[at2]? = some d := ⟨ds[at2]'(by have := HMD.out; omega), List.getElem?_eq_getElem _⟩
            obtain ⟨pd', capd', ed, h8, hcd⟩ := HD.out.out
            simp only [Value.slice.injEq] at ed
            obtain ⟨e1, e2, e3⟩ := ed
            obtain ⟨bd, od, e4, hcd⟩ := hcd (by have := HMD.out; omega)
            rw [← e1] at e4
            subst e4
            have cb := hgwX.cell (hcd at2 d hd)
            have hd8 := h8 d (List.mem_of_getElem? hd)
            clear hcd h8 e1 e2 e3 hd
            by_cases hq : d % 4 = 0
            · have hq1 : Int.tmod (d : Int) 4 = 0 := by rw [Int.tmod_eq_emod_of_nonneg (by omega)]; omega
              have HHF2 : Hid (Half ns b2 l (cur.set i ⟨ra, rb, 2⟩) (i + 1)) := HHF.out.step HR.out (fun h => h) ⟨rfl, rfl, (by decide : (1 : Int) ≤ 2), (by decide : (2 : Int) ≤ 3), fun h => absurd rfl h, fun _ _ => HBST.out _ HK.out⟩
              clear hq hab hcl hcr2 hcl2 hgwX hkr
              go_wp2_with fail
              go_roundg (gk - 1)
              case measure => omega
              case rel => exact ⟨i + 1, cur.set i ⟨ra, rb, 2⟩, b2, at2 + 1, by go_num, by go_num, rfl, by omega, by omega, HB2.out, HHF2.out, HOX.out, HGX.out⟩
            · obtain ⟨q, hqe⟩ : ∃ q, q = d % 4 := ⟨_, rfl⟩
              have hq1 : Int.tmod (d : Int) 4 = (q : Int) := by rw [Int.tmod_eq_emod_of_nonneg (by omega)]; omega
              have hq0 : (0 : Int) < (q : Int) := by omega
              have hq3 : q ≤ 3 := by omega
              obtain ⟨u1, u2, u3, u4⟩ := own_setR (i := i * 3 + 2) (.int .i64 (q : Int)) HOX.out (by rw [raCs_len, List.length_set, hcl]; omega)
              rw [raCs_set _ i ⟨ra, rb, 2⟩ (q : Int) (List.getElem?_set_self (by omega)), List.set_set] at u1
              have HO2 := Lib.hid u1
              have HG2 : Hid (Gr W4 ((V0.setCell ⟨gq, i * 3 + 2, none⟩ (.int .i64 2)).setCell ⟨gq, i * 3 + 2, none⟩ (.int .i64 (q : Int)))) := Below.setCell HGX.out u2 _
              have hcX : (V0.setCell ⟨gq, i * 3 + 2, none⟩ (.int .i64 2)).cell? ⟨gq, i * 3 + 2, none⟩ = some (.int .i64 2) := by
                obtain ⟨gz, oz, ez, hcz⟩ := (RaS.of_own HOX.out (by rw [List.length_set]; exact hcl)).out (by rw [List.length_set]; omega)
                simp only [Option.some.injEq, Addr.mk.injEq, and_true] at ez
                obtain ⟨rfl, rfl⟩ := ez
                have := (hcz i ⟨ra, rb, 2⟩ (List.getElem?_set_self (by omega))).2.2
                rwa [Nat.zero_add] at this
              have HHF2 : Hid (Half ns false l (cur.set i ⟨ra, rb, (q : Int)⟩) (i + 1)) := HHF.out.step HR.out (fun h => by cases h) ⟨rfl, rfl, (by omega : (1 : Int) ≤ (q : Int)), (by omega : (q : Int) ≤ 3), fun h => absurd rfl h, fun h => by cases h⟩
              have HBF : Hid (false = true → bt = true) := fun (h : false = true) => Bool.noConfusion h
              clear hq hqe u1 u4 hab hcl hcr2 hcl2 hgwX hkr
              go_wp2_with fail
              go_roundg (gk - 1)
              case measure => omega
              case rel => exact ⟨i + 1, cur.set i ⟨ra, rb, (q : Int)⟩, false, at2 + 1, by go_num, by go_num, rfl, by omega, by omega, HBF.out, HHF2.out, HO2.out, HG2.out⟩
          · have hmdI : ¬ (at2 : Int) < (md : Int) := by omega
            have HHF2 : Hid (Half ns b2 l (cur.set i ⟨ra, rb, 2⟩) (i + 1)) := HHF.out.step HR.out (fun h => h) ⟨rfl, rfl, (by decide : (1 : Int) ≤ 2), (by decide : (2 : Int) ≤ 3), fun h => absurd rfl h, fun _ _ => HBST.out _ HK.out⟩
            clear hab hcl hcr2 hcl2 hgwX hkr
            go_wp2_with fail
            go_roundg (gk - 1)
            case measure => omega
            case rel => exact ⟨i + 1, cur.set i ⟨ra, rb, 2⟩, b2, at2 + 1, by go_num, by go_num, rfl, by omega, by omega, HB2.out, HHF2.out, HOX.out, HGX.out⟩
        · have hsI : ¬ (sB : Int) < (sA : Int) := by omega
          have HOX := HOW5
          have HGX := HG5
          have HK : Hid ((1 : Int) = if sB < sA then 2 else 1) := by rw [Hid, if_neg hs]
          clear c0 c1' gv
          have hkr : (⟨ra, rb, 0⟩ : RaR).a = ra ∧ (⟨ra, rb, 0⟩ : RaR).b = rb := ⟨rfl, rfl⟩
          have hgwX : Gr w V0 := ((G1.out.trans HHD.out.gr).trans L4.out).trans HGX.out
          by_cases hmd : at2 < md
          · have hmdI : (at2 : Int) < (md : Int) := by omega
            obtain ⟨d, hd⟩ : ∃ d, ds[at2]? = some d := ⟨ds[at2]'(by have := HMD.out; omega), List.getElem?_eq_getElem _⟩
            obtain ⟨pd', capd', ed, h8, hcd⟩ := HD.out.out
            simp only [Value.slice.injEq] at ed
            obtain ⟨e1, e2, e3⟩ := ed
            obtain ⟨bd, od, e4, hcd⟩ := hcd (by have := HMD.out; omega)
            rw [← e1] at e4
            subst e4
            have cb := hgwX.cell (hcd at2 d hd)
            have hd8 := h8 d (List.mem_of_getElem? hd)
            clear hcd h8 e1 e2 e3 hd
            by_cases hq : d % 4 = 0
            · have hq1 : Int.tmod (d : Int) 4 = 0 := by rw [Int.tmod_eq_emod_of_nonneg (by omega)]; omega
              have HHF2 : Hid (Half ns b2 l (cur.set i ⟨ra, rb, 1⟩) (i + 1)) := HHF.out.step HR.out (fun h => h) ⟨rfl, rfl, (by decide : (1 : Int) ≤ 1), (by decide : (1 : Int) ≤ 3), fun h => absurd rfl h, fun _ _ => HBST.out _ HK.out⟩
              clear hq hab hcl hcr2 hcl2 hgwX hkr
              go_wp2_with fail
              go_roundg (gk - 1)
              case measure => omega
              case rel => exact ⟨i + 1, cur.set i ⟨ra, rb, 1⟩, b2, at2 + 1, by go_num, by go_num, rfl, by omega, by omega, HB2.out, HHF2.out, HOX.out, HGX.out⟩
            · obtain ⟨q, hqe⟩ : ∃ q, q = d % 4 := ⟨_, rfl⟩
              have hq1 : Int.tmod (d : Int) 4 = (q : Int) := by rw [Int.tmod_eq_emod_of_nonneg (by omega)]; omega
              have hq0 : (0 : Int) < (q : Int) := by omega
              have hq3 : q ≤ 3 := by omega
              obtain ⟨u1, u2, u3, u4⟩ := own_setR (i := i * 3 + 2) (.int .i64 (q : Int)) HOX.out (by rw [raCs_len, List.length_set, hcl]; omega)
              rw [raCs_set _ i ⟨ra, rb, 1⟩ (q : Int) (List.getElem?_set_self (by omega)), List.set_set] at u1
              have HO2 := Lib.hid u1
              have HG2 : Hid (Gr W4 (V0.setCell ⟨gq, i * 3 + 2, none⟩ (.int .i64 (q : Int)))) := Below.setCell HGX.out u2 _
              have hcX : V0.cell? ⟨gq, i * 3 + 2, none⟩ = some (.int .i64 1) := by
                obtain ⟨gz, oz, ez, hcz⟩ := (RaS.of_own HOX.out (by rw [List.length_set]; exact hcl)).out (by rw [List.length_set]; omega)
                simp only [Option.some.injEq, Addr.mk.injEq, and_true] at ez
                obtain ⟨rfl, rfl⟩ := ez
                have := (hcz i ⟨ra, rb, 1⟩ (List.getElem?_set_self (by omega))).2.2
                rwa [Nat.zero_add] at this
              have HHF2 : Hid (Half ns false l (cur.set i ⟨ra, rb, (q : Int)⟩) (i + 1)) := HHF.out.step HR.out (fun h => by cases h) ⟨rfl, rfl, (by omega : (1 : Int) ≤ (q : Int)), (by omega : (q : Int) ≤ 3), fun h => absurd rfl h, fun h => by cases h⟩
              have HBF : Hid (false = true → bt = true) := fun (h : false = true) => Bool.noConfusion h
              clear hq hqe u1 u4 hab hcl hcr2 hcl2 hgwX hkr
              go_wp2_with fail
              go_roundg (gk - 1)
              case measure => omega
              case rel => exact ⟨i + 1, cur.set i ⟨ra, rb, (q : Int)⟩, false, at2 + 1, by go_num, by go_num, rfl, by omega, by omega, HBF.out, HHF2.out, HO2.out, HG2.out⟩
          · have hmdI : ¬ (at2 : Int) < (md : Int) := by omega
            have HHF2 : Hid (Half ns b2 l (cur.set i ⟨ra, rb, 1⟩) (i + 1)) := HHF.out.step HR.out (fun h => h) ⟨rfl, rfl, (by decide : (1 : Int) ≤ 1), (by decide : (1 : Int) ≤ 3), fun h => absurd rfl h, fun _ _ => HBST.out _ HK.out⟩
            clear hab hcl hcr2 hcl2 hgwX hkr
            go_wp2_with fail
            go_roundg (gk - 1)
            case measure => omega
            case rel => exact ⟨i + 1, cur.set i ⟨ra, rb, 1⟩, b2, at2 + 1, by go_num, by go_num, rfl, by omega, by omega, HB2.out, HHF2.out, HOX.out, HGX.out⟩
      · obtain rfl : i = N := by omega
        have hlt2 : ¬ (i : Int) < (i : Int) := by omega
        have hcl : cur.length = i := by rw [HHF.out.len]; exact HLN.out
        have HDC : Hid (Dec ns b2 l cur) := by
          have h := HHF.out
          rw [← HLN.out] at h
          exact h.dec
        have hLG := L4.out.trans HG.out
        have ho7 := own_kept HHD.out.own hLG
        have hcp7 := HHD.out.cps.gr hLG
        have hW14 : W1.heap.size ≤ W4.heap.size := Nat.le_trans HHD.out.gr.size L4.out.size
        have hW1r : W1.heap.size ≤ wr.heap.size := Nat.le_trans hW14 HG.out.size
        have hoc := own_low (b' := W1.heap.size) HOW.out hW14
        have ga := (Gr.refl wr).alloc (.cells #[.slice (some ⟨gq, 0, none⟩) i cq] 30)
        obtain ⟨hi, hz0, hz1, hz2⟩ := HI0.out
        have hlm : ls.length = m := HHD.out.len
        clear hLG
        rcases Nat.eq_zero_or_pos j with hj0 | hj0
        case inr =>
          as_aux_lemma =>
          obtain ⟨j', rfl⟩ : ∃ j', j = j' + 1 := ⟨j - 1, by omega⟩
          have h1 : ((i : Int) == 1) = false := by
            have h2 := HN2.out
            have h3 := Nat.two_pow_pos j'
            rw [Nat.pow_succ] at h2
            exact beq_eq_false_iff_ne.2 (by omega)
          have hnz : nextE cur = 0 := by
            unfold nextE
            rw [HOK.out.dec (j := j' + 1) (by rw [HLN.out]; exact HN2.out) (by omega) HDC.out, hcl, h1, HDC.out.shut]
            rfl
          have HNZ := Lib.hid hnz
          clear hnz
          go_wp2_with (at_builtin; refine wpList_append_own _ rfl _ _ 22 rfl W1.heap.size 30 i0 (.slice none 0 0) 1 24 Tryz.underlying22 hi hz0 hz1 hz2 rfl (by decide) _ _ _ rfl (own_kept ho7 ga) ⟨wr.heap.size, 0, none⟩ 1 1 [.slice (some ⟨gq, 0, none⟩) i cq] rfl rfl (cell_one6 _ _ _) (by intro u hu; simp at hu; subst hu; rfl) (by unfold maxLen; omega) (by omega) (by simp; omega) ?_; intro v2 w2 hown2 hgrow2 hnil)
          have hcp8 := (hcp7.gr ga).grown (own_kept ho7 ga) hgrow2
          have hoc8 := own_apartT (own_kept hoc ga) (own_kept ho7 ga) (by decide) hgrow2
          have HCP8 : Hid (Cpt W1.heap.size w2 (ls ++ [(⟨some ⟨gq, 0, none⟩, i, cq, cur⟩ : Rd)])) := hcp8.add (y := ⟨some ⟨gq, 0, none⟩, i, cq, cur⟩) hcl hoc8
          have HOW8 : Hid (w2.ownsRow W1.heap.size 30 1 v2 (m + 1) ((ls ++ [(⟨some ⟨gq, 0, none⟩, i, cq, cur⟩ : Rd)]).map rdV)) := by rw [Hid, List.map_append]; exact hown2
          have HGR8 : Hid (Gr W1 w2) := Below.grown (((HHD.out.gr.trans L4.out).trans HG.out).trans ga) hgrow2 (by simp; omega) (fun q hq => (own_in ho7 hq).2)
          have HCR8 : Hid (RaV w2 (.slice (some ⟨gq, 0, none⟩) i cq) cur) := RaV.of_own hcl hoc8
          have HLM : Hid ((ls ++ [(⟨some ⟨gq, 0, none⟩, i, cq, cur⟩ : Rd)]).length = m + 1) := by rw [Hid, List.length_append, hlm]; rfl
          have HFD := Lib.hid (HHD.out.fwd.mono HB2.out)
          have HCL := Lib.hid hcl
          clear hown2 hgrow2 hcp8 hoc8 hcp7 ho7 hoc ga hnil hi hz0 hz1 hz2 hlm hcl hW14 hW1r HOW HHF HHD
          have HNX := Lib.hid (next_ok HCR8.out (by rw [HCL.out]; omega) HNZ.out)
          clear h1
          refine HNX.out.mono ?_
          rintro e W6 ⟨q6, N6, c6, rfl, hr6, hn6, hn6b, g6⟩
          have HR6 := Lib.hid hr6
          have HG6 := Lib.hid g6
          have HN6 : Hid (N6 = 2 ^ j') := by
            rw [Hid, ← hn6]
            refine pairR_len _ _ ?_
            rw [List.length_map, HCL.out, HN2.out, Nat.pow_succ]
            omega
          have hmap : (ls ++ [(⟨some ⟨gq, 0, none⟩, i, cq, cur⟩ : Rd)]).map Rd.l = ls.map Rd.l ++ [cur] := by simp
          have HFD2 : Hid (Fwd ns b2 (seedR ns J) j' ((ls ++ [(⟨some ⟨gq, 0, none⟩, i, cq, cur⟩ : Rd)]).map Rd.l) (pairR (cur.map winR))) := by
            rw [Hid, hmap]
            exact .snoc HFD.out HDC.out
          clear hr6 g6 hn6 hn6b hmap HNX
          go_wp2_with fail
          go_roundg j'
          case measure => omega
          case rel => exact ⟨ls ++ [⟨some ⟨gq, 0, none⟩, i, cq, cur⟩], pairR (cur.map winR), b2, at2, q6, c6, N6, m + 1, rfl, rfl, rfl, rfl, by go_num, HN6.out, by omega, by omega, HR6.out, ⟨HLM.out, own_kept HOW8.out HG6.out, HCP8.out.gr HG6.out, HGR8.out.trans HG6.out, HFD2.out⟩⟩
        · subst hj0
          obtain rfl : i = 1 := HN2.out
          go_wp2_with (at_builtin; refine wpList_append_own _ rfl _ _ 22 rfl W1.heap.size 30 i0 (.slice none 0 0) 1 24 Tryz.underlying22 hi hz0 hz1 hz2 rfl (by decide) _ _ _ rfl (own_kept ho7 ga) ⟨wr.heap.size, 0, none⟩ 1 1 [.slice (some ⟨gq, 0, none⟩) 1 cq] rfl rfl (cell_one6 _ _ _) (by intro u hu; simp at hu; subst hu; rfl) (by unfold maxLen; omega) (by omega) (by simp; omega) ?_; intro v2 w2 hown2 hgrow2 hnil)
          have hcp8 := (hcp7.gr ga).grown (own_kept ho7 ga) hgrow2
          have hoc8 := own_apartT (own_kept hoc ga) (own_kept ho7 ga) (by decide) hgrow2
          have HCP8 : Hid (Cpt W1.heap.size w2 (ls ++ [(⟨some ⟨gq, 0, none⟩, 1, cq, cur⟩ : Rd)])) := hcp8.add (y := ⟨some ⟨gq, 0, none⟩, 1, cq, cur⟩) hcl hoc8
          have HOW8 : Hid (w2.ownsRow W1.heap.size 30 1 v2 (m + 1) ((ls ++ [(⟨some ⟨gq, 0, none⟩, 1, cq, cur⟩ : Rd)]).map rdV)) := by rw [Hid, List.map_append]; exact hown2
          have HGR8 : Hid (Gr W1 w2) := Below.grown (((HHD.out.gr.trans L4.out).trans HG.out).trans ga) hgrow2 (by simp; omega) (fun q hq => (own_in ho7 hq).2)
          have HCR8 : Hid (RaV w2 (.slice (some ⟨gq, 0, none⟩) 1 cq) cur) := RaV.of_own hcl hoc8
          have HLM : Hid ((ls ++ [(⟨some ⟨gq, 0, none⟩, 1, cq, cur⟩ : Rd)]).length = m + 1) := by rw [Hid, List.length_append, hlm]; rfl
          have HFD := Lib.hid (HHD.out.fwd.mono HB2.out)
          have HCL := Lib.hid hcl
          clear hown2 hgrow2 hcp8 hoc8 hcp7 ho7 hoc ga hnil hi hz0 hz1 hz2 hlm hcl hW14 hW1r HOW HHF HHD
          have hJm : 0 + (ls.map Rd.l).length = J := by
            have := HLM.out
            rw [List.length_append, List.length_singleton] at this
            rw [List.length_map]; omega
          have hmap : (ls ++ [(⟨some ⟨gq, 0, none⟩, 1, cq, cur⟩ : Rd)]).map Rd.l = ls.map Rd.l ++ [cur] := by simp
          have hrun := HFD.out.run _ (.one HLN.out HDC.out)
          rw [hJm, ← hmap] at hrun
          have hlast : (ls ++ [(⟨some ⟨gq, 0, none⟩, 1, cq, cur⟩ : Rd)])[m]? = some (⟨some ⟨gq, 0, none⟩, 1, cq, cur⟩ : Rd) := by
            have := HLM.out
            rw [List.length_append, List.length_singleton] at this
            rw [List.getElem?_append_right (by omega), show m - ls.length = 0 by omega]
            rfl
          have HLST := Lib.hid hlast
          generalize hys : ls ++ [(⟨some ⟨gq, 0, none⟩, 1, cq, cur⟩ : Rd)] = ys at *
          have hso := seedR_ok HNM.out HJ.out.1 HJ.out.2.2
          have hre := hrun.rounds (by omega) hso.1
          have hrc := hrun.races (by omega) hso.1
          have hpl := hrun.places
          have HDS : Hid (b2 = true → ∀ x ∈ placesL (ys.map Rd.l), Desc ns J x) := fun hb => hrun.best HNM.out hb rfl HJ.out.2.1
          have HPP : Hid (((placesL (ys.map Rd.l)).map PlR.nm).Perm ns) := hpl.perm.trans hso.2
          have HPO := Lib.hid hpl.pos
          have HLO := Lib.hid hpl.lost
          have hpn : (placesL (ys.map Rd.l)).length = n := by
            have := HPP.out.length_eq
            rw [List.length_map] at this
            rw [this]; exact HN.out.symm
          have hats := HCP8.out.ats HLM.out HOW8.out
          have HAT := Lib.hid hats
          have HPK := places_ok ys v2 w2 hats (fun x hx => Nat.le_trans (racesE_len (hrc x.l (List.mem_map.2 ⟨x, hx, rfl⟩))) (by decide)) hre
          rw [hpn] at HPK
          have HRN := Lib.hid hrun
          have H32 : Hid (∀ L ∈ ys.map Rd.l, L.length ≤ 32) := fun L hL => racesE_len (hrc L hL)
          clear hrun hre hrc hpl hso hats hlast hys hmap hJm HFD HDC
          generalize hps : placesL (ys.map Rd.l) = ps at *
          have HPS := Lib.hid hps
          have HPN := Lib.hid hpn
          clear hps hpn
          refine HPK.mono ?_
          rintro e W6 ⟨q6, c6, rfl, hp6, g6⟩
          have HP6 := Lib.hid hp6
          have HG6 := Lib.hid (HGR8.out.trans g6)
          have HAT6 := Lib.hid (HAT.out.gr g6)
          have HG6w := Lib.hid (G1.out.trans HG6.out)
          clear HPK hp6 g6 HAT
          obtain ⟨pv, cv, rfl, hpv, hAl⟩ := HAT6.out.out
          have HPV := Lib.hid hpv
          have hym := HLM.out
          obtain ⟨bv, ov, rfl, hcv⟩ := hAl (by omega)
          have hc8 := (hcv m _ HLST.out).nm
          have HCV := Lib.hid hcv
          unfold rdV at hc8
          simp only at hc8
          rw [hym]
          have hm1 : IntKind.i64.wrap (((m + 1 : Nat) : Int) - 1) = (m : Int) := by rw [IntKind.wrap_i64]; omega
          have hm2 : (m : Int) < ((m + 1 : Nat) : Int) := by omega
          clear hcv hAl hpv
          go_wp2_with fail
          go_loopg [14, 15, 17, 19, 20, 158] n (fun gk s14 s15 s17 s19 s20 s158 wr => ∃ i : Nat, s158 = .int .i64 (i : Int) ∧ gk + i = n ∧ Hid (wr.ownsRow W6.heap.size 9 1 s14 i (nmC ((ps.map PlR.nm).take i))) ∧ Hid (Gr W6 wr))
          case atStart => exact ⟨0, rfl, by omega, World.ownsRow_nil _ _ _ _, Gr.refl _⟩
          case round =>
            obtain ⟨i, rfl, hgk, HSN, HG⟩ := hrel
            obtain ⟨gp, rfl⟩ : ∃ g, g = gk := ⟨gk, rfl⟩
            by_cases hlt : i < n
            · obtain ⟨x, hx⟩ : ∃ x, ps[i]? = some x := ⟨ps[i]'(by have := HPN.out; omega), List.getElem?_eq_getElem _⟩
              have HAP := Lib.hid (atP HPP.out HNM.out.nd HPO.out hx)
              obtain ⟨bp, op, rfl, hcp⟩ := HP6.out.out (by have := HPN.out; omega)
              obtain ⟨c0, c1'⟩ := hcp i x hx
              have B0 := Lib.hid c0
              have B1 := Lib.hid c1'
              replace c0 := Gr.cell HG.out c0
              replace c1' := Gr.cell HG.out c1'
              have hlt2 : (i : Int) < (n : Int) := by omega
              have hlti : ((ps.map PlR.nm).take i).length = i := by rw [List.length_take, List.length_map]; have := HPN.out; omega
              have HSA := Lib.hid (nmAts_of_own hlti HSN.out)
              obtain ⟨pn, cn, rfl, hsn1, hsn2⟩ := own_shape HSN.out
              have HX := Lib.hid hx
              have gd := (Gr.refl wr).drew
              have HH1 := Lib.hid (fun V (g : Gr wr V) => refHas6_c (HSA.out.gr g) (by rw [hlti]; omega) x.nm)
              have HH2 := Lib.hid (fun V (g : Gr wr V) => refHas6_c (HV.out.gr ((HG6w.out.trans HG.out).trans g)) (by have := HN.out; omega) x.nm)
              rw [HAP.out.new] at HH1
              rw [HAP.out.mem] at HH2
              have c0d := gd.cell c0
              have c1d := gd.cell c1'
              clear hsn1 hsn2 hx
              obtain ⟨xn, xk⟩ := x
              simp only at c0 c1' c0d c1d HH1 HH2
              have HIX := Lib.hid (show i < ps.length by have := HPN.out; omega)
              go_upto_region 35 with fail
              go_cut [207] from 161 to 206 (fun s207 w' => s207 = .bool false ∧ Hid (Gr wr w'))
              case first =>
                as_aux_lemma =>
                rcases Nat.eq_zero_or_pos i with hi0 | hi0
                · have d1 : decide ((0 : Int) < (i : Int)) = false := decide_eq_false (by omega)
                  have HIZ := Lib.hid hi0
                  clear hi0 HX HAP hcp
                  have gv : Gr wr wr.drew := gd
                  clear gd
                  by_cases hk1 : xk = 1
                  · have d3 : (xk == 1) = true := by rw [hk1]; rfl
                    clear hk1
                    refine wp_region_held_drew (S := (fun w' => w'.cell? ⟨bp, op + i * 2, none⟩ = some (.string xn) ∧ w'.cell? ⟨bp, op + i * 2 + 1, none⟩ = some (.int .i64 xk))) (by kernel_rfl) ⟨c0d, c1d⟩ (fun hHeld => ?_)
                    generalize wr.drew = V0 at *
                    refine wpAnyH_take (i := 0) (v := (.slice pn i cn)) (op_at rfl) (by kernel_rfl) (by kernel_rfl) (by kernel_rfl) (fun _ _ _ h => h) (Or.inl ⟨rfl, fun w hSw => ?_⟩) (by assumption) ?_
                    · (try dsimp only at hSw); go_simp; (try with_reducible rfl); try exact HIZ.out
                    (try simp only [Act.put, List.setIfInBounds_toArray, List.set_cons_zero, List.set_cons_succ])
                    refine wpAnyH_take (i := 1) (v := (.slice (some ⟨bp, op, none⟩) n c6)) (op_at rfl) (by kernel_rfl) (by kernel_rfl) (by kernel_rfl) (fun _ _ _ h => h) (Or.inl ⟨rfl, fun w hSw => ?_⟩) (by assumption) ?_
                    · (try dsimp only at hSw); go_simp; (try with_reducible rfl); try exact HIZ.out
                    (try simp only [Act.put, List.setIfInBounds_toArray, List.set_cons_zero, List.set_cons_succ])
                    refine wpAnyH_take (i := 2) (v := (.int .i64 (i : Int))) (op_at rfl) (by kernel_rfl) (by kernel_rfl) (by kernel_rfl) (fun _ _ _ h => h) (Or.inl ⟨rfl, fun w hSw => ?_⟩) (by assumption) ?_
                    · (try dsimp only at hSw); go_simp; (try with_reducible rfl); try exact HIZ.out
                    (try simp only [Act.put, List.setIfInBounds_toArray, List.set_cons_zero, List.set_cons_succ])
                    refine wpAnyH_take (i := 3) (v := (.pointer (some ⟨bp, op + i * 2, none⟩))) (op_at rfl) (by kernel_rfl) (by kernel_rfl) (by kernel_rfl) (fun _ _ _ h => h) (Or.inl ⟨rfl, fun w hSw => ?_⟩) (by assumption) ?_
                    · (try dsimp only at hSw); go_simp; (try with_reducible rfl); try exact HIZ.out
                    (try simp only [Act.put, List.setIfInBounds_toArray, List.set_cons_zero, List.set_cons_succ])
                    refine wpAnyH_take (i := 4) (v := (.pointer (some ⟨bp, op + i * 2, none⟩))) (op_at rfl) (by kernel_rfl) (by kernel_rfl) (by kernel_rfl) (fun _ _ _ h => h) (Or.inl ⟨rfl, fun w hSw => ?_⟩) (by assumption) ?_
                    · (try dsimp only at hSw); go_simp; (try with_reducible rfl); try exact HIZ.out
                    (try simp only [Act.put, List.setIfInBounds_toArray, List.set_cons_zero, List.set_cons_succ])
                    refine wpAnyH_take (i := 5) (v := (.string xn)) (op_at rfl) (by kernel_rfl) (by kernel_rfl) (by kernel_rfl) (fun _ _ _ h => h) (Or.inl ⟨rfl, fun w hSw => ?_⟩) (by assumption) ?_
                    · (try dsimp only at hSw); go_simp; (try with_reducible rfl); try exact HIZ.out
                    (try simp only [Act.put, List.setIfInBounds_toArray, List.set_cons_zero, List.set_cons_succ])
                    refine wpAnyH_ready (rs := [6]) (by kernel_rfl) (by simp) (AllReadyH.cons (op_at rfl) (fun K hK => ?_) AllReadyH.nil)
                    go_simp
                    (refine (HH1.out _ gv).mono ?_; rintro e w' ⟨rfl, rfl⟩)
                    go_wp2_with fail
                    refine hK.out _ _ ⟨c0d, c1d⟩ (fun hHeld => ?_)
                    clear hK K
                    (try simp only [Act.put, List.setIfInBounds_toArray, List.set_cons_zero, List.set_cons_succ])
                    refine wpAnyH_take (i := 7) (v := (.bool false)) (op_at rfl) (by kernel_rfl) (by kernel_rfl) (by kernel_rfl) (fun _ _ _ h => h) (Or.inl ⟨rfl, fun w hSw => ?_⟩) (by assumption) ?_
                    · (try dsimp only at hSw); go_simp; (try with_reducible rfl); try exact HIZ.out
                    (try simp only [Act.put, List.setIfInBounds_toArray, List.set_cons_zero, List.set_cons_succ])
                    refine wpAnyH_take (i := 8) (v := (.slice p n cap)) (op_at rfl) (by kernel_rfl) (by kernel_rfl) (by kernel_rfl) (fun _ _ _ h => h) (Or.inl ⟨rfl, fun w hSw => ?_⟩) (by assumption) ?_
                    · (try dsimp only at hSw); go_simp; (try with_reducible rfl); try exact HIZ.out
                    (try simp only [Act.put, List.setIfInBounds_toArray, List.set_cons_zero, List.set_cons_succ])
                    refine wpAnyH_take (i := 9) (v := (.slice (some ⟨bp, op, none⟩) n c6)) (op_at rfl) (by kernel_rfl) (by kernel_rfl) (by kernel_rfl) (fun _ _ _ h => h) (Or.inl ⟨rfl, fun w hSw => ?_⟩) (by assumption) ?_
                    · (try dsimp only at hSw); go_simp; (try with_reducible rfl); try exact HIZ.out
                    (try simp only [Act.put, List.setIfInBounds_toArray, List.set_cons_zero, List.set_cons_succ])
                    refine wpAnyH_take (i := 10) (v := (.int .i64 (i : Int))) (op_at rfl) (by kernel_rfl) (by kernel_rfl) (by kernel_rfl) (fun _ _ _ h => h) (Or.inl ⟨rfl, fun w hSw => ?_⟩) (by assumption) ?_
                    · (try dsimp only at hSw); go_simp; (try with_reducible rfl); try exact HIZ.out
                    (try simp only [Act.put, List.setIfInBounds_toArray, List.set_cons_zero, List.set_cons_succ])
                    refine wpAnyH_take (i := 11) (v := (.pointer (some ⟨bp, op + i * 2, none⟩))) (op_at rfl) (by kernel_rfl) (by kernel_rfl) (by kernel_rfl) (fun _ _ _ h => h) (Or.inl ⟨rfl, fun w hSw => ?_⟩) (by assumption) ?_
                    · (try dsimp only at hSw); go_simp; (try with_reducible rfl); try exact HIZ.out
                    (try simp only [Act.put, List.setIfInBounds_toArray, List.set_cons_zero, List.set_cons_succ])
                    refine wpAnyH_take (i := 12) (v := (.pointer (some ⟨bp, op + i * 2, none⟩))) (op_at rfl) (by kernel_rfl) (by kernel_rfl) (by kernel_rfl) (fun _ _ _ h => h) (Or.inl ⟨rfl, fun w hSw => ?_⟩) (by assumption) ?_
                    · (try dsimp only at hSw); go_simp; (try with_reducible rfl); try exact HIZ.out
                    (try simp only [Act.put, List.setIfInBounds_toArray, List.set_cons_zero, List.set_cons_succ])
                    refine wpAnyH_take (i := 13) (v := (.string xn)) (op_at rfl) (by kernel_rfl) (by kernel_rfl) (by kernel_rfl) (fun _ _ _ h => h) (Or.inl ⟨rfl, fun w hSw => ?_⟩) (by assumption) ?_
                    · (try dsimp only at hSw); go_simp; (try with_reducible rfl); try exact HIZ.out
                    (try simp only [Act.put, List.setIfInBounds_toArray, List.set_cons_zero, List.set_cons_succ])
                    refine wpAnyH_ready (rs := [14]) (by kernel_rfl) (by simp) (AllReadyH.cons (op_at rfl) (fun K hK => ?_) AllReadyH.nil)
                    go_simp
                    (refine (HH2.out _ gv).mono ?_; rintro e w' ⟨rfl, rfl⟩)
                    go_wp2_with fail
                    refine hK.out _ _ ⟨c0d, c1d⟩ (fun hHeld => ?_)
                    clear hK K
                    (try simp only [Act.put, List.setIfInBounds_toArray, List.set_cons_zero, List.set_cons_succ])
                    refine wpAnyH_take (i := 15) (v := (.bool false)) (op_at rfl) (by kernel_rfl) (by kernel_rfl) (by kernel_rfl) (fun _ _ _ h => h) (Or.inl ⟨rfl, fun w hSw => ?_⟩) (by assumption) ?_
                    · (try dsimp only at hSw); go_simp; (try with_reducible rfl); try exact HIZ.out
                    (try simp only [Act.put, List.setIfInBounds_toArray, List.set_cons_zero, List.set_cons_succ])
                    refine wpAnyH_take (i := 16) (v := (.bool false)) (op_at rfl) (by kernel_rfl) (by kernel_rfl) (by kernel_rfl) (fun _ _ _ h => h) (Or.inl ⟨rfl, fun w hSw => ?_⟩) (by assumption) ?_
                    · (try dsimp only at hSw); go_simp; (try with_reducible rfl); try exact HIZ.out
                    (try simp only [Act.put, List.setIfInBounds_toArray, List.set_cons_zero, List.set_cons_succ])
                    refine wpAnyH_take (i := 17) (v := (.bool false)) (op_at rfl) (by kernel_rfl) (by kernel_rfl) (by kernel_rfl) (fun _ _ _ h => h) (Or.inl ⟨rfl, fun w hSw => ?_⟩) (by assumption) ?_
                    · (try dsimp only at hSw); go_simp; (try with_reducible rfl); try exact HIZ.out
                    (try simp only [Act.put, List.setIfInBounds_toArray, List.set_cons_zero, List.set_cons_succ])
                    refine wpAnyH_take (i := 18) (v := (.int .i64 (i : Int))) (op_at rfl) (by kernel_rfl) (by kernel_rfl) (by kernel_rfl) (fun _ _ _ h => h) (Or.inl ⟨rfl, fun w hSw => ?_⟩) (by assumption) ?_
                    · (try dsimp only at hSw); go_simp; (try with_reducible rfl); try exact HIZ.out
                    (try simp only [Act.put, List.setIfInBounds_toArray, List.set_cons_zero, List.set_cons_succ])
                    refine wpAnyH_take (i := 19) (v := (.bool false)) (op_at rfl) (by kernel_rfl) (by kernel_rfl) (by kernel_rfl) (fun _ _ _ h => h) (Or.inl ⟨rfl, fun w hSw => ?_⟩) (by assumption) ?_
                    · (try dsimp only at hSw); go_simp; (try with_reducible rfl); try exact HIZ.out
                    (try simp only [Act.put, List.setIfInBounds_toArray, List.set_cons_zero, List.set_cons_succ])
                    refine wpAnyH_take (i := 20) (v := (.bool false)) (op_at rfl) (by kernel_rfl) (by kernel_rfl) (by kernel_rfl) (fun _ _ _ h => h) (Or.inl ⟨rfl, fun w hSw => ?_⟩) (by assumption) ?_
                    · (try dsimp only at hSw); go_simp; (try with_reducible rfl); try exact HIZ.out
                    (try simp only [Act.put, List.setIfInBounds_toArray, List.set_cons_zero, List.set_cons_succ])
                    refine wpAnyH_take (i := 21) (v := undef) (op_at rfl) (by kernel_rfl) (by kernel_rfl) (by kernel_rfl) (fun _ _ _ h => h) (Or.inr ⟨rfl, rfl⟩) (by assumption) ?_
                    (try simp only [Act.put, List.setIfInBounds_toArray, List.set_cons_zero, List.set_cons_succ])
                    refine wpAnyH_take (i := 22) (v := undef) (op_at rfl) (by kernel_rfl) (by kernel_rfl) (by kernel_rfl) (fun _ _ _ h => h) (Or.inr ⟨rfl, rfl⟩) (by assumption) ?_
                    (try simp only [Act.put, List.setIfInBounds_toArray, List.set_cons_zero, List.set_cons_succ])
                    refine wpAnyH_take (i := 23) (v := undef) (op_at rfl) (by kernel_rfl) (by kernel_rfl) (by kernel_rfl) (fun _ _ _ h => h) (Or.inr ⟨rfl, rfl⟩) (by assumption) ?_
                    (try simp only [Act.put, List.setIfInBounds_toArray, List.set_cons_zero, List.set_cons_succ])
                    refine wpAnyH_take (i := 24) (v := undef) (op_at rfl) (by kernel_rfl) (by kernel_rfl) (by kernel_rfl) (fun _ _ _ h => h) (Or.inr ⟨rfl, rfl⟩) (by assumption) ?_
                    (try simp only [Act.put, List.setIfInBounds_toArray, List.set_cons_zero, List.set_cons_succ])
                    refine wpAnyH_take (i := 25) (v := undef) (op_at rfl) (by kernel_rfl) (by kernel_rfl) (by kernel_rfl) (fun _ _ _ h => h) (Or.inr ⟨rfl, rfl⟩) (by assumption) ?_
                    (try simp only [Act.put, List.setIfInBounds_toArray, List.set_cons_zero, List.set_cons_succ])
                    refine wpAnyH_take (i := 26) (v := undef) (op_at rfl) (by kernel_rfl) (by kernel_rfl) (by kernel_rfl) (fun _ _ _ h => h) (Or.inr ⟨rfl, rfl⟩) (by assumption) ?_
                    (try simp only [Act.put, List.setIfInBounds_toArray, List.set_cons_zero, List.set_cons_succ])
                    refine wpAnyH_take (i := 27) (v := undef) (op_at rfl) (by kernel_rfl) (by kernel_rfl) (by kernel_rfl) (fun _ _ _ h => h) (Or.inr ⟨rfl, rfl⟩) (by assumption) ?_
                    (try simp only [Act.put, List.setIfInBounds_toArray, List.set_cons_zero, List.set_cons_succ])
                    refine wpAnyH_take (i := 28) (v := undef) (op_at rfl) (by kernel_rfl) (by kernel_rfl) (by kernel_rfl) (fun _ _ _ h => h) (Or.inr ⟨rfl, rfl⟩) (by assumption) ?_
                    (try simp only [Act.put, List.setIfInBounds_toArray, List.set_cons_zero, List.set_cons_succ])
                    refine wpAnyH_take (i := 29) (v := undef) (op_at rfl) (by kernel_rfl) (by kernel_rfl) (by kernel_rfl) (fun _ _ _ h => h) (Or.inr ⟨rfl, rfl⟩) (by assumption) ?_
                    (try simp only [Act.put, List.setIfInBounds_toArray, List.set_cons_zero, List.set_cons_succ])
                    refine wpAnyH_take (i := 30) (v := undef) (op_at rfl) (by kernel_rfl) (by kernel_rfl) (by kernel_rfl) (fun _ _ _ h => h) (Or.inr ⟨rfl, rfl⟩) (by assumption) ?_
                    (try simp only [Act.put, List.setIfInBounds_toArray, List.set_cons_zero, List.set_cons_succ])
                    refine wpAnyH_take (i := 31) (v := undef) (op_at rfl) (by kernel_rfl) (by kernel_rfl) (by kernel_rfl) (fun _ _ _ h => h) (Or.inr ⟨rfl, rfl⟩) (by assumption) ?_
                    (try simp only [Act.put, List.setIfInBounds_toArray, List.set_cons_zero, List.set_cons_succ])
                    refine wpAnyH_take (i := 32) (v := undef) (op_at rfl) (by kernel_rfl) (by kernel_rfl) (by kernel_rfl) (fun _ _ _ h => h) (Or.inr ⟨rfl, rfl⟩) (by assumption) ?_
                    (try simp only [Act.put, List.setIfInBounds_toArray, List.set_cons_zero, List.set_cons_succ])
                    refine wpAnyH_take (i := 33) (v := (.bool false)) (op_at rfl) (by kernel_rfl) (by kernel_rfl) (by kernel_rfl) (fun _ _ _ h => h) (Or.inl ⟨rfl, fun w hSw => ?_⟩) (by assumption) ?_
                    · (try dsimp only at hSw); go_simp; (try with_reducible rfl); try exact HIZ.out
                    (try simp only [Act.put, List.setIfInBounds_toArray, List.set_cons_zero, List.set_cons_succ])
                    refine wpAnyH_take (i := 34) (v := (.bool false)) (op_at rfl) (by kernel_rfl) (by kernel_rfl) (by kernel_rfl) (fun _ _ _ h => h) (Or.inl ⟨rfl, fun w hSw => ?_⟩) (by assumption) ?_
                    · (try dsimp only at hSw); go_simp; (try with_reducible rfl); try exact HIZ.out
                    (try simp only [Act.put, List.setIfInBounds_toArray, List.set_cons_zero, List.set_cons_succ])
                    refine wpAnyH_take (i := 35) (v := (.bool false)) (op_at rfl) (by kernel_rfl) (by kernel_rfl) (by kernel_rfl) (fun _ _ _ h => h) (Or.inl ⟨rfl, fun w hSw => ?_⟩) (by assumption) ?_
                    · (try dsimp only at hSw); go_simp; (try with_reducible rfl); try exact HIZ.out
                    (try simp only [Act.put, List.setIfInBounds_toArray, List.set_cons_zero, List.set_cons_succ])
                    refine wpAnyH_take (i := 36) (v := (.slice (some ⟨bp, op, none⟩) n c6)) (op_at rfl) (by kernel_rfl) (by kernel_rfl) (by kernel_rfl) (fun _ _ _ h => h) (Or.inl ⟨rfl, fun w hSw => ?_⟩) (by assumption) ?_
                    · (try dsimp only at hSw); go_simp; (try with_reducible rfl); try exact HIZ.out
                    (try simp only [Act.put, List.setIfInBounds_toArray, List.set_cons_zero, List.set_cons_succ])
                    refine wpAnyH_take (i := 37) (v := (.int .i64 (i : Int))) (op_at rfl) (by kernel_rfl) (by kernel_rfl) (by kernel_rfl) (fun _ _ _ h => h) (Or.inl ⟨rfl, fun w hSw => ?_⟩) (by assumption) ?_
                    · (try dsimp only at hSw); go_simp; (try with_reducible rfl); try exact HIZ.out
                    (try simp only [Act.put, List.setIfInBounds_toArray, List.set_cons_zero, List.set_cons_succ])
                    refine wpAnyH_take (i := 38) (v := (.pointer (some ⟨bp, op + i * 2, none⟩))) (op_at rfl) (by kernel_rfl) (by kernel_rfl) (by kernel_rfl) (fun _ _ _ h => h) (Or.inl ⟨rfl, fun w hSw => ?_⟩) (by assumption) ?_
                    · (try dsimp only at hSw); go_simp; (try with_reducible rfl); try exact HIZ.out
                    (try simp only [Act.put, List.setIfInBounds_toArray, List.set_cons_zero, List.set_cons_succ])
                    refine wpAnyH_take (i := 39) (v := (.pointer (some ⟨bp, op + i * 2 + 1, none⟩))) (op_at rfl) (by kernel_rfl) (by kernel_rfl) (by kernel_rfl) (fun _ _ _ h => h) (Or.inl ⟨rfl, fun w hSw => ?_⟩) (by assumption) ?_
                    · (try dsimp only at hSw); go_simp; (try with_reducible rfl); try exact HIZ.out
                    (try simp only [Act.put, List.setIfInBounds_toArray, List.set_cons_zero, List.set_cons_succ])
                    refine wpAnyH_take (i := 40) (v := (.int .i64 xk)) (op_at rfl) (by kernel_rfl) (by kernel_rfl) (by kernel_rfl) (fun _ _ _ h => h) (Or.inl ⟨rfl, fun w hSw => ?_⟩) (by assumption) ?_
                    · (try dsimp only at hSw); go_simp; (try with_reducible rfl); try exact HIZ.out
                    (try simp only [Act.put, List.setIfInBounds_toArray, List.set_cons_zero, List.set_cons_succ])
                    refine wpAnyH_take (i := 41) (v := (.bool true)) (op_at rfl) (by kernel_rfl) (by kernel_rfl) (by kernel_rfl) (fun _ _ _ h => h) (Or.inl ⟨rfl, fun w hSw => ?_⟩) (by assumption) ?_
                    · (try dsimp only at hSw); go_simp; (try with_reducible rfl); try exact HIZ.out
                    (try simp only [Act.put, List.setIfInBounds_toArray, List.set_cons_zero, List.set_cons_succ])
                    refine wpAnyH_take (i := 42) (v := (.bool true)) (op_at rfl) (by kernel_rfl) (by kernel_rfl) (by kernel_rfl) (fun _ _ _ h => h) (Or.inl ⟨rfl, fun w hSw => ?_⟩) (by assumption) ?_
                    · (try dsimp only at hSw); go_simp; (try with_reducible rfl); try exact HIZ.out
                    (try simp only [Act.put, List.setIfInBounds_toArray, List.set_cons_zero, List.set_cons_succ])
                    refine wpAnyH_take (i := 43) (v := (.int .i64 (i : Int))) (op_at rfl) (by kernel_rfl) (by kernel_rfl) (by kernel_rfl) (fun _ _ _ h => h) (Or.inl ⟨rfl, fun w hSw => ?_⟩) (by assumption) ?_
                    · (try dsimp only at hSw); go_simp; (try with_reducible rfl); try exact HIZ.out
                    (try simp only [Act.put, List.setIfInBounds_toArray, List.set_cons_zero, List.set_cons_succ])
                    refine wpAnyH_take (i := 44) (v := (.bool false)) (op_at rfl) (by kernel_rfl) (by kernel_rfl) (by kernel_rfl) (fun _ _ _ h => h) (Or.inl ⟨rfl, fun w hSw => ?_⟩) (by assumption) ?_
                    · (try dsimp only at hSw); go_simp; (try with_reducible rfl); try exact HIZ.out
                    (try simp only [Act.put, List.setIfInBounds_toArray, List.set_cons_zero, List.set_cons_succ])
                    refine wpAnyH_take (i := 45) (v := (.bool false)) (op_at rfl) (by kernel_rfl) (by kernel_rfl) (by kernel_rfl) (fun _ _ _ h => h) (Or.inl ⟨rfl, fun w hSw => ?_⟩) (by assumption) ?_
                    · (try dsimp only at hSw); go_simp; (try with_reducible rfl); try exact HIZ.out
                    (try simp only [Act.put, List.setIfInBounds_toArray, List.set_cons_zero, List.set_cons_succ])
                    refine wpAnyH_take (i := 46) (v := (.bool false)) (op_at rfl) (by kernel_rfl) (by kernel_rfl) (by kernel_rfl) (fun _ _ _ h => h) (Or.inl ⟨rfl, fun w hSw => ?_⟩) (by assumption) ?_
                    · (try dsimp only at hSw); go_simp; (try with_reducible rfl); try exact HIZ.out
                    (try simp only [Act.put, List.setIfInBounds_toArray, List.set_cons_zero, List.set_cons_succ])
                    refine wpAnyH_done (by kernel_rfl) ?_ _
                    go_wp2_with fail
                    go_meet
                    case rel => exact ⟨rfl, gv⟩
                  · have d3 : (xk == 1) = false := beq_eq_false_iff_ne.2 hk1
                    clear hk1
                    refine wp_region_held_drew (S := (fun w' => w'.cell? ⟨bp, op + i * 2, none⟩ = some (.string xn) ∧ w'.cell? ⟨bp, op + i * 2 + 1, none⟩ = some (.int .i64 xk))) (by kernel_rfl) ⟨c0d, c1d⟩ (fun hHeld => ?_)
                    generalize wr.drew = V0 at *
                    refine wpAnyH_take (i := 0) (v := (.slice pn i cn)) (op_at rfl) (by kernel_rfl) (by kernel_rfl) (by kernel_rfl) (fun _ _ _ h => h) (Or.inl ⟨rfl, fun w hSw => ?_⟩) (by assumption) ?_
                    · (try dsimp only at hSw); go_simp; (try with_reducible rfl); try exact HIZ.out
                    (try simp only [Act.put, List.setIfInBounds_toArray, List.set_cons_zero, List.set_cons_succ])
                    refine wpAnyH_take (i := 1) (v := (.slice (some ⟨bp, op, none⟩) n c6)) (op_at rfl) (by kernel_rfl) (by kernel_rfl) (by kernel_rfl) (fun _ _ _ h => h) (Or.inl ⟨rfl, fun w hSw => ?_⟩) (by assumption) ?_
                    · (try dsimp only at hSw); go_simp; (try with_reducible rfl); try exact HIZ.out
                    (try simp only [Act.put, List.setIfInBounds_toArray, List.set_cons_zero, List.set_cons_succ])
                    refine wpAnyH_take (i := 2) (v := (.int .i64 (i : Int))) (op_at rfl) (by kernel_rfl) (by kernel_rfl) (by kernel_rfl) (fun _ _ _ h => h) (Or.inl ⟨rfl, fun w hSw => ?_⟩) (by assumption) ?_
                    · (try dsimp only at hSw); go_simp; (try with_reducible rfl); try exact HIZ.out
                    (try simp only [Act.put, List.setIfInBounds_toArray, List.set_cons_zero, List.set_cons_succ])
                    refine wpAnyH_take (i := 3) (v := (.pointer (some ⟨bp, op + i * 2, none⟩))) (op_at rfl) (by kernel_rfl) (by kernel_rfl) (by kernel_rfl) (fun _ _ _ h => h) (Or.inl ⟨rfl, fun w hSw => ?_⟩) (by assumption) ?_
                    · (try dsimp only at hSw); go_simp; (try with_reducible rfl); try exact HIZ.out
                    (try simp only [Act.put, List.setIfInBounds_toArray, List.set_cons_zero, List.set_cons_succ])
                    refine wpAnyH_take (i := 4) (v := (.pointer (some ⟨bp, op + i * 2, none⟩))) (op_at rfl) (by kernel_rfl) (by kernel_rfl) (by kernel_rfl) (fun _ _ _ h => h) (Or.inl ⟨rfl, fun w hSw => ?_⟩) (by assumption) ?_
                    · (try dsimp only at hSw); go_simp; (try with_reducible rfl); try exact HIZ.out
                    (try simp only [Act.put, List.setIfInBounds_toArray, List.set_cons_zero, List.set_cons_succ])
                    refine wpAnyH_take (i := 5) (v := (.string xn)) (op_at rfl) (by kernel_rfl) (by kernel_rfl) (by kernel_rfl) (fun _ _ _ h => h) (Or.inl ⟨rfl, fun w hSw => ?_⟩) (by assumption) ?_
                    · (try dsimp only at hSw); go_simp; (try with_reducible rfl); try exact HIZ.out
                    (try simp only [Act.put, List.setIfInBounds_toArray, List.set_cons_zero, List.set_cons_succ])
                    refine wpAnyH_ready (rs := [6]) (by kernel_rfl) (by simp) (AllReadyH.cons (op_at rfl) (fun K hK => ?_) AllReadyH.nil)
                    go_simp
                    (refine (HH1.out _ gv).mono ?_; rintro e w' ⟨rfl, rfl⟩)
                    go_wp2_with fail
                    refine hK.out _ _ ⟨c0d, c1d⟩ (fun hHeld => ?_)
                    clear hK K
                    (try simp only [Act.put, List.setIfInBounds_toArray, List.set_cons_zero, List.set_cons_succ])
                    refine wpAnyH_take (i := 7) (v := (.bool false)) (op_at rfl) (by kernel_rfl) (by kernel_rfl) (by kernel_rfl) (fun _ _ _ h => h) (Or.inl ⟨rfl, fun w hSw => ?_⟩) (by assumption) ?_
                    · (try dsimp only at hSw); go_simp; (try with_reducible rfl); try exact HIZ.out
                    (try simp only [Act.put, List.setIfInBounds_toArray, List.set_cons_zero, List.set_cons_succ])
                    refine wpAnyH_take (i := 8) (v := (.slice p n cap)) (op_at rfl) (by kernel_rfl) (by kernel_rfl) (by kernel_rfl) (fun _ _ _ h => h) (Or.inl ⟨rfl, fun w hSw => ?_⟩) (by assumption) ?_
                    · (try dsimp only at hSw); go_simp; (try with_reducible rfl); try exact HIZ.out
                    (try simp only [Act.put, List.setIfInBounds_toArray, List.set_cons_zero, List.set_cons_succ])
                    refine wpAnyH_take (i := 9) (v := (.slice (some ⟨bp, op, none⟩) n c6)) (op_at rfl) (by kernel_rfl) (by kernel_rfl) (by kernel_rfl) (fun _ _ _ h => h) (Or.inl ⟨rfl, fun w hSw => ?_⟩) (by assumption) ?_
                    · (try dsimp only at hSw); go_simp; (try with_reducible rfl); try exact HIZ.out
                    (try simp only [Act.put, List.setIfInBounds_toArray, List.set_cons_zero, List.set_cons_succ])
                    refine wpAnyH_take (i := 10) (v := (.int .i64 (i : Int))) (op_at rfl) (by kernel_rfl) (by kernel_rfl) (by kernel_rfl) (fun _ _ _ h => h) (Or.inl ⟨rfl, fun w hSw => ?_⟩) (by assumption) ?_
                    · (try dsimp only at hSw); go_simp; (try with_reducible rfl); try exact HIZ.out
                    (try simp only [Act.put, List.setIfInBounds_toArray, List.set_cons_zero, List.set_cons_succ])
                    refine wpAnyH_take (i := 11) (v := (.pointer (some ⟨bp, op + i * 2, none⟩))) (op_at rfl) (by kernel_rfl) (by kernel_rfl) (by kernel_rfl) (fun _ _ _ h => h) (Or.inl ⟨rfl, fun w hSw => ?_⟩) (by assumption) ?_
                    · (try dsimp only at hSw); go_simp; (try with_reducible rfl); try exact HIZ.out
                    (try simp only [Act.put, List.setIfInBounds_toArray, List.set_cons_zero, List.set_cons_succ])
                    refine wpAnyH_take (i := 12) (v := (.pointer (some ⟨bp, op + i * 2, none⟩))) (op_at rfl) (by kernel_rfl) (by kernel_rfl) (by kernel_rfl) (fun _ _ _ h => h) (Or.inl ⟨rfl, fun w hSw => ?_⟩) (by assumption) ?_
                    · (try dsimp only at hSw); go_simp; (try with_reducible rfl); try exact HIZ.out
                    (try simp only [Act.put, List.setIfInBounds_toArray, List.set_cons_zero, List.set_cons_succ])
                    refine wpAnyH_take (i := 13) (v := (.string xn)) (op_at rfl) (by kernel_rfl) (by kernel_rfl) (by kernel_rfl) (fun _ _ _ h => h) (Or.inl ⟨rfl, fun w hSw => ?_⟩) (by assumption) ?_
                    · (try dsimp only at hSw); go_simp; (try with_reducible rfl); try exact HIZ.out
                    (try simp only [Act.put, List.setIfInBounds_toArray, List.set_cons_zero, List.set_cons_succ])
                    refine wpAnyH_ready (rs := [14]) (by kernel_rfl) (by simp) (AllReadyH.cons (op_at rfl) (fun K hK => ?_) AllReadyH.nil)
                    go_simp
                    (refine (HH2.out _ gv).mono ?_; rintro e w' ⟨rfl, rfl⟩)
                    go_wp2_with fail
                    refine hK.out _ _ ⟨c0d, c1d⟩ (fun hHeld => ?_)
                    clear hK K
                    (try simp only [Act.put, List.setIfInBounds_toArray, List.set_cons_zero, List.set_cons_succ])
                    refine wpAnyH_take (i := 15) (v := (.bool false)) (op_at rfl) (by kernel_rfl) (by kernel_rfl) (by kernel_rfl) (fun _ _ _ h => h) (Or.inl ⟨rfl, fun w hSw => ?_⟩) (by assumption) ?_
                    · (try dsimp only at hSw); go_simp; (try with_reducible rfl); try exact HIZ.out
                    (try simp only [Act.put, List.setIfInBounds_toArray, List.set_cons_zero, List.set_cons_succ])
                    refine wpAnyH_take (i := 16) (v := (.bool false)) (op_at rfl) (by kernel_rfl) (by kernel_rfl) (by kernel_rfl) (fun _ _ _ h => h) (Or.inl ⟨rfl, fun w hSw => ?_⟩) (by assumption) ?_
                    · (try dsimp only at hSw); go_simp; (try with_reducible rfl); try exact HIZ.out
                    (try simp only [Act.put, List.setIfInBounds_toArray, List.set_cons_zero, List.set_cons_succ])
                    refine wpAnyH_take (i := 17) (v := (.bool false)) (op_at rfl) (by kernel_rfl) (by kernel_rfl) (by kernel_rfl) (fun _ _ _ h => h) (Or.inl ⟨rfl, fun w hSw => ?_⟩) (by assumption) ?_
                    · (try dsimp only at hSw); go_simp; (try with_reducible rfl); try exact HIZ.out
                    (try simp only [Act.put, List.setIfInBounds_toArray, List.set_cons_zero, List.set_cons_succ])
                    refine wpAnyH_take (i := 18) (v := (.int .i64 (i : Int))) (op_at rfl) (by kernel_rfl) (by kernel_rfl) (by kernel_rfl) (fun _ _ _ h => h) (Or.inl ⟨rfl, fun w hSw => ?_⟩) (by assumption) ?_
                    · (try dsimp only at hSw); go_simp; (try with_reducible rfl); try exact HIZ.out
                    (try simp only [Act.put, List.setIfInBounds_toArray, List.set_cons_zero, List.set_cons_succ])
                    refine wpAnyH_take (i := 19) (v := (.bool false)) (op_at rfl) (by kernel_rfl) (by kernel_rfl) (by kernel_rfl) (fun _ _ _ h => h) (Or.inl ⟨rfl, fun w hSw => ?_⟩) (by assumption) ?_
                    · (try dsimp only at hSw); go_simp; (try with_reducible rfl); try exact HIZ.out
                    (try simp only [Act.put, List.setIfInBounds_toArray, List.set_cons_zero, List.set_cons_succ])
                    refine wpAnyH_take (i := 20) (v := (.bool false)) (op_at rfl) (by kernel_rfl) (by kernel_rfl) (by kernel_rfl) (fun _ _ _ h => h) (Or.inl ⟨rfl, fun w hSw => ?_⟩) (by assumption) ?_
                    · (try dsimp only at hSw); go_simp; (try with_reducible rfl); try exact HIZ.out
                    (try simp only [Act.put, List.setIfInBounds_toArray, List.set_cons_zero, List.set_cons_succ])
                    refine wpAnyH_take (i := 21) (v := undef) (op_at rfl) (by kernel_rfl) (by kernel_rfl) (by kernel_rfl) (fun _ _ _ h => h) (Or.inr ⟨rfl, rfl⟩) (by assumption) ?_
                    (try simp only [Act.put, List.setIfInBounds_toArray, List.set_cons_zero, List.set_cons_succ])
                    refine wpAnyH_take (i := 22) (v := undef) (op_at rfl) (by kernel_rfl) (by kernel_rfl) (by kernel_rfl) (fun _ _ _ h => h) (Or.inr ⟨rfl, rfl⟩) (by assumption) ?_
                    (try simp only [Act.put, List.setIfInBounds_toArray, List.set_cons_zero, List.set_cons_succ])
                    refine wpAnyH_take (i := 23) (v := undef) (op_at rfl) (by kernel_rfl) (by kernel_rfl) (by kernel_rfl) (fun _ _ _ h => h) (Or.inr ⟨rfl, rfl⟩) (by assumption) ?_
                    (try simp only [Act.put, List.setIfInBounds_toArray, List.set_cons_zero, List.set_cons_succ])
                    refine wpAnyH_take (i := 24) (v := undef) (op_at rfl) (by kernel_rfl) (by kernel_rfl) (by kernel_rfl) (fun _ _ _ h => h) (Or.inr ⟨rfl, rfl⟩) (by assumption) ?_
                    (try simp only [Act.put, List.setIfInBounds_toArray, List.set_cons_zero, List.set_cons_succ])
                    refine wpAnyH_take (i := 25) (v := undef) (op_at rfl) (by kernel_rfl) (by kernel_rfl) (by kernel_rfl) (fun _ _ _ h => h) (Or.inr ⟨rfl, rfl⟩) (by assumption) ?_
                    (try simp only [Act.put, List.setIfInBounds_toArray, List.set_cons_zero, List.set_cons_succ])
                    refine wpAnyH_take (i := 26) (v := undef) (op_at rfl) (by kernel_rfl) (by kernel_rfl) (by kernel_rfl) (fun _ _ _ h => h) (Or.inr ⟨rfl, rfl⟩) (by assumption) ?_
                    (try simp only [Act.put, List.setIfInBounds_toArray, List.set_cons_zero, List.set_cons_succ])
                    refine wpAnyH_take (i := 27) (v := undef) (op_at rfl) (by kernel_rfl) (by kernel_rfl) (by kernel_rfl) (fun _ _ _ h => h) (Or.inr ⟨rfl, rfl⟩) (by assumption) ?_
                    (try simp only [Act.put, List.setIfInBounds_toArray, List.set_cons_zero, List.set_cons_succ])
                    refine wpAnyH_take (i := 28) (v := undef) (op_at rfl) (by kernel_rfl) (by kernel_rfl) (by kernel_rfl) (fun _ _ _ h => h) (Or.inr ⟨rfl, rfl⟩) (by assumption) ?_
                    (try simp only [Act.put, List.setIfInBounds_toArray, List.set_cons_zero, List.set_cons_succ])
                    refine wpAnyH_take (i := 29) (v := undef) (op_at rfl) (by kernel_rfl) (by kernel_rfl) (by kernel_rfl) (fun _ _ _ h => h) (Or.inr ⟨rfl, rfl⟩) (by assumption) ?_
                    (try simp only [Act.put, List.setIfInBounds_toArray, List.set_cons_zero, List.set_cons_succ])
                    refine wpAnyH_take (i := 30) (v := undef) (op_at rfl) (by kernel_rfl) (by kernel_rfl) (by kernel_rfl) (fun _ _ _ h => h) (Or.inr ⟨rfl, rfl⟩) (by assumption) ?_
                    (try simp only [Act.put, List.setIfInBounds_toArray, List.set_cons_zero, List.set_cons_succ])
                    refine wpAnyH_take (i := 31) (v := undef) (op_at rfl) (by kernel_rfl) (by kernel_rfl) (by kernel_rfl) (fun _ _ _ h => h) (Or.inr ⟨rfl, rfl⟩) (by assumption) ?_
                    (try simp only [Act.put, List.setIfInBounds_toArray, List.set_cons_zero, List.set_cons_succ])
                    refine wpAnyH_take (i := 32) (v := undef) (op_at rfl) (by kernel_rfl) (by kernel_rfl) (by kernel_rfl) (fun _ _ _ h => h) (Or.inr ⟨rfl, rfl⟩) (by assumption) ?_
                    (try simp only [Act.put, List.setIfInBounds_toArray, List.set_cons_zero, List.set_cons_succ])
                    refine wpAnyH_take (i := 33) (v := (.bool false)) (op_at rfl) (by kernel_rfl) (by kernel_rfl) (by kernel_rfl) (fun _ _ _ h => h) (Or.inl ⟨rfl, fun w hSw => ?_⟩) (by assumption) ?_
                    · (try dsimp only at hSw); go_simp; (try with_reducible rfl); try exact HIZ.out
                    (try simp only [Act.put, List.setIfInBounds_toArray, List.set_cons_zero, List.set_cons_succ])
                    refine wpAnyH_take (i := 34) (v := (.bool false)) (op_at rfl) (by kernel_rfl) (by kernel_rfl) (by kernel_rfl) (fun _ _ _ h => h) (Or.inl ⟨rfl, fun w hSw => ?_⟩) (by assumption) ?_
                    · (try dsimp only at hSw); go_simp; (try with_reducible rfl); try exact HIZ.out
                    (try simp only [Act.put, List.setIfInBounds_toArray, List.set_cons_zero, List.set_cons_succ])
                    refine wpAnyH_take (i := 35) (v := (.bool false)) (op_at rfl) (by kernel_rfl) (by kernel_rfl) (by kernel_rfl) (fun _ _ _ h => h) (Or.inl ⟨rfl, fun w hSw => ?_⟩) (by assumption) ?_
                    · (try dsimp only at hSw); go_simp; (try with_reducible rfl); try exact HIZ.out
                    (try simp only [Act.put, List.setIfInBounds_toArray, List.set_cons_zero, List.set_cons_succ])
                    refine wpAnyH_take (i := 36) (v := (.slice (some ⟨bp, op, none⟩) n c6)) (op_at rfl) (by kernel_rfl) (by kernel_rfl) (by kernel_rfl) (fun _ _ _ h => h) (Or.inl ⟨rfl, fun w hSw => ?_⟩) (by assumption) ?_
                    · (try dsimp only at hSw); go_simp; (try with_reducible rfl); try exact HIZ.out
                    (try simp only [Act.put, List.setIfInBounds_toArray, List.set_cons_zero, List.set_cons_succ])
                    refine wpAnyH_take (i := 37) (v := (.int .i64 (i : Int))) (op_at rfl) (by kernel_rfl) (by kernel_rfl) (by kernel_rfl) (fun _ _ _ h => h) (Or.inl ⟨rfl, fun w hSw => ?_⟩) (by assumption) ?_
                    · (try dsimp only at hSw); go_simp; (try with_reducible rfl); try exact HIZ.out
                    (try simp only [Act.put, List.setIfInBounds_toArray, List.set_cons_zero, List.set_cons_succ])
                    refine wpAnyH_take (i := 38) (v := (.pointer (some ⟨bp, op + i * 2, none⟩))) (op_at rfl) (by kernel_rfl) (by kernel_rfl) (by kernel_rfl) (fun _ _ _ h => h) (Or.inl ⟨rfl, fun w hSw => ?_⟩) (by assumption) ?_
                    · (try dsimp only at hSw); go_simp; (try with_reducible rfl); try exact HIZ.out
                    (try simp only [Act.put, List.setIfInBounds_toArray, List.set_cons_zero, List.set_cons_succ])
                    refine wpAnyH_take (i := 39) (v := (.pointer (some ⟨bp, op + i * 2 + 1, none⟩))) (op_at rfl) (by kernel_rfl) (by kernel_rfl) (by kernel_rfl) (fun _ _ _ h => h) (Or.inl ⟨rfl, fun w hSw => ?_⟩) (by assumption) ?_
                    · (try dsimp only at hSw); go_simp; (try with_reducible rfl); try exact HIZ.out
                    (try simp only [Act.put, List.setIfInBounds_toArray, List.set_cons_zero, List.set_cons_succ])
                    refine wpAnyH_take (i := 40) (v := (.int .i64 xk)) (op_at rfl) (by kernel_rfl) (by kernel_rfl) (by kernel_rfl) (fun _ _ _ h => h) (Or.inl ⟨rfl, fun w hSw => ?_⟩) (by assumption) ?_
                    · (try dsimp only at hSw); go_simp; (try with_reducible rfl); try exact HIZ.out
                    (try simp only [Act.put, List.setIfInBounds_toArray, List.set_cons_zero, List.set_cons_succ])
                    refine wpAnyH_take (i := 41) (v := (.bool false)) (op_at rfl) (by kernel_rfl) (by kernel_rfl) (by kernel_rfl) (fun _ _ _ h => h) (Or.inl ⟨rfl, fun w hSw => ?_⟩) (by assumption) ?_
                    · (try dsimp only at hSw); go_simp; (try with_reducible rfl); try exact HIZ.out
                    (try simp only [Act.put, List.setIfInBounds_toArray, List.set_cons_zero, List.set_cons_succ])
                    refine wpAnyH_take (i := 42) (v := (.bool false)) (op_at rfl) (by kernel_rfl) (by kernel_rfl) (by kernel_rfl) (fun _ _ _ h => h) (Or.inl ⟨rfl, fun w hSw => ?_⟩) (by assumption) ?_
                    · (try dsimp only at hSw); go_simp; (try with_reducible rfl); try exact HIZ.out
                    (try simp only [Act.put, List.setIfInBounds_toArray, List.set_cons_zero, List.set_cons_succ])
                    refine wpAnyH_take (i := 43) (v := undef) (op_at rfl) (by kernel_rfl) (by kernel_rfl) (by kernel_rfl) (fun _ _ _ h => h) (Or.inr ⟨rfl, rfl⟩) (by assumption) ?_
                    (try simp only [Act.put, List.setIfInBounds_toArray, List.set_cons_zero, List.set_cons_succ])
                    refine wpAnyH_take (i := 44) (v := undef) (op_at rfl) (by kernel_rfl) (by kernel_rfl) (by kernel_rfl) (fun _ _ _ h => h) (Or.inr ⟨rfl, rfl⟩) (by assumption) ?_
                    (try simp only [Act.put, List.setIfInBounds_toArray, List.set_cons_zero, List.set_cons_succ])
                    refine wpAnyH_take (i := 45) (v := (.bool false)) (op_at rfl) (by kernel_rfl) (by kernel_rfl) (by kernel_rfl) (fun _ _ _ h => h) (Or.inl ⟨rfl, fun w hSw => ?_⟩) (by assumption) ?_
                    · (try dsimp only at hSw); go_simp; (try with_reducible rfl); try exact HIZ.out
                    (try simp only [Act.put, List.setIfInBounds_toArray, List.set_cons_zero, List.set_cons_succ])
                    refine wpAnyH_take (i := 46) (v := (.bool false)) (op_at rfl) (by kernel_rfl) (by kernel_rfl) (by kernel_rfl) (fun _ _ _ h => h) (Or.inl ⟨rfl, fun w hSw => ?_⟩) (by assumption) ?_
                    · (try dsimp only at hSw); go_simp; (try with_reducible rfl); try exact HIZ.out
                    (try simp only [Act.put, List.setIfInBounds_toArray, List.set_cons_zero, List.set_cons_succ])
                    refine wpAnyH_done (by kernel_rfl) ?_ _
                    go_wp2_with fail
                    go_meet
                    case rel => exact ⟨rfl, gv⟩
                · obtain ⟨j, hij⟩ : ∃ j, i = j + 1 := ⟨i - 1, by omega⟩
                  obtain ⟨y, hy⟩ : ∃ y, ps[j]? = some y := ⟨ps[j]'(by have := HIX.out; omega), List.getElem?_eq_getElem _⟩
                  have hyk := HAP.out.up j y hij hy
                  have hxk := HAP.out.two hi0
                  have cyd := gd.cell (Gr.cell HG.out (hcp j y hy).2)
                  have hw1 : IntKind.i64.wrap ((i : Int) - 1) = (j : Int) := by rw [IntKind.wrap_i64]; omega
                  have d1 : decide ((0 : Int) < (i : Int)) = true := decide_eq_true (by omega)
                  simp only at hyk hxk
                  have d2 : decide (xk < y.k) = false := decide_eq_false (by omega)
                  have d3 : (xk == 1) = false := beq_eq_false_iff_ne.2 (by omega)
                  have gv : Gr wr wr.drew := gd
                  obtain ⟨yk, hyk2⟩ : ∃ yk, yk = y.k := ⟨_, rfl⟩
                  rw [← hyk2] at cyd d2
                  have hjn : j < n := by omega
                  clear hcp gd hyk hxk hyk2 hy hij
                  refine wp_region_held_drew (S := (fun w' => w'.cell? ⟨bp, op + i * 2, none⟩ = some (.string xn) ∧ w'.cell? ⟨bp, op + i * 2 + 1, none⟩ = some (.int .i64 xk) ∧ w'.cell? ⟨bp, op + j * 2 + 1, none⟩ = some (.int .i64 yk))) (by kernel_rfl) ⟨c0d, c1d, cyd⟩ (fun hHeld => ?_)
                  generalize wr.drew = V0 at *
                  refine wpAnyH_take (i := 0) (v := (.slice pn i cn)) (op_at rfl) (by kernel_rfl) (by kernel_rfl) (by kernel_rfl) (fun _ _ _ h => h) (Or.inl ⟨rfl, fun w hSw => ?_⟩) (by assumption) ?_
                  · (try dsimp only at hSw); go_simp; try with_reducible rfl
                  (try simp only [Act.put, List.setIfInBounds_toArray, List.set_cons_zero, List.set_cons_succ])
                  refine wpAnyH_take (i := 1) (v := (.slice (some ⟨bp, op, none⟩) n c6)) (op_at rfl) (by kernel_rfl) (by kernel_rfl) (by kernel_rfl) (fun _ _ _ h => h) (Or.inl ⟨rfl, fun w hSw => ?_⟩) (by assumption) ?_
                  · (try dsimp only at hSw); go_simp; try with_reducible rfl
                  (try simp only [Act.put, List.setIfInBounds_toArray, List.set_cons_zero, List.set_cons_succ])
                  refine wpAnyH_take (i := 2) (v := (.int .i64 (i : Int))) (op_at rfl) (by kernel_rfl) (by kernel_rfl) (by kernel_rfl) (fun _ _ _ h => h) (Or.inl ⟨rfl, fun w hSw => ?_⟩) (by assumption) ?_
                  · (try dsimp only at hSw); go_simp; try with_reducible rfl
                  (try simp only [Act.put, List.setIfInBounds_toArray, List.set_cons_zero, List.set_cons_succ])
                  refine wpAnyH_take (i := 3) (v := (.pointer (some ⟨bp, op + i * 2, none⟩))) (op_at rfl) (by kernel_rfl) (by kernel_rfl) (by kernel_rfl) (fun _ _ _ h => h) (Or.inl ⟨rfl, fun w hSw => ?_⟩) (by assumption) ?_
                  · (try dsimp only at hSw); go_simp; try with_reducible rfl
                  (try simp only [Act.put, List.setIfInBounds_toArray, List.set_cons_zero, List.set_cons_succ])
                  refine wpAnyH_take (i := 4) (v := (.pointer (some ⟨bp, op + i * 2, none⟩))) (op_at rfl) (by kernel_rfl) (by kernel_rfl) (by kernel_rfl) (fun _ _ _ h => h) (Or.inl ⟨rfl, fun w hSw => ?_⟩) (by assumption) ?_
                  · (try dsimp only at hSw); go_simp; try with_reducible rfl
                  (try simp only [Act.put, List.setIfInBounds_toArray, List.set_cons_zero, List.set_cons_succ])
                  refine wpAnyH_take (i := 5) (v := (.string xn)) (op_at rfl) (by kernel_rfl) (by kernel_rfl) (by kernel_rfl) (fun _ _ _ h => h) (Or.inl ⟨rfl, fun w hSw => ?_⟩) (by assumption) ?_
                  · (try dsimp only at hSw); go_simp; try with_reducible rfl
                  (try simp only [Act.put, List.setIfInBounds_toArray, List.set_cons_zero, List.set_cons_succ])
                  refine wpAnyH_ready (rs := [6]) (by kernel_rfl) (by simp) (AllReadyH.cons (op_at rfl) (fun K hK => ?_) AllReadyH.nil)
                  go_simp
                  (refine (HH1.out _ gv).mono ?_; rintro e w' ⟨rfl, rfl⟩)
                  go_wp2_with fail
                  refine hK.out _ _ ⟨c0d, c1d, cyd⟩ (fun hHeld => ?_)
                  clear hK K
                  (try simp only [Act.put, List.setIfInBounds_toArray, List.set_cons_zero, List.set_cons_succ])
                  refine wpAnyH_take (i := 7) (v := (.bool false)) (op_at rfl) (by kernel_rfl) (by kernel_rfl) (by kernel_rfl) (fun _ _ _ h => h) (Or.inl ⟨rfl, fun w hSw => ?_⟩) (by assumption) ?_
                  · (try dsimp only at hSw); go_simp; try with_reducible rfl
                  (try simp only [Act.put, List.setIfInBounds_toArray, List.set_cons_zero, List.set_cons_succ])
                  refine wpAnyH_take (i := 8) (v := (.slice p n cap)) (op_at rfl) (by kernel_rfl) (by kernel_rfl) (by kernel_rfl) (fun _ _ _ h => h) (Or.inl ⟨rfl, fun w hSw => ?_⟩) (by assumption) ?_
                  · (try dsimp only at hSw); go_simp; try with_reducible rfl
                  (try simp only [Act.put, List.setIfInBounds_toArray, List.set_cons_zero, List.set_cons_succ])
                  refine wpAnyH_take (i := 9) (v := (.slice (some ⟨bp, op, none⟩) n c6)) (op_at rfl) (by kernel_rfl) (by kernel_rfl) (by kernel_rfl) (fun _ _ _ h => h) (Or.inl ⟨rfl, fun w hSw => ?_⟩) (by assumption) ?_
                  · (try dsimp only at hSw); go_simp; try with_reducible rfl
                  (try simp only [Act.put, List.setIfInBounds_toArray, List.set_cons_zero, List.set_cons_succ])
                  refine wpAnyH_take (i := 10) (v := (.int .i64 (i : Int))) (op_at rfl) (by kernel_rfl) (by kernel_rfl) (by kernel_rfl) (fun _ _ _ h => h) (Or.inl ⟨rfl, fun w hSw => ?_⟩) (by assumption) ?_
                  · (try dsimp only at hSw); go_simp; try with_reducible rfl
                  (try simp only [Act.put, List.setIfInBounds_toArray, List.set_cons_zero, List.set_cons_succ])
                  refine wpAnyH_take (i := 11) (v := (.pointer (some ⟨bp, op + i * 2, none⟩))) (op_at rfl) (by kernel_rfl) (by kernel_rfl) (by kernel_rfl) (fun _ _ _ h => h) (Or.inl ⟨rfl, fun w hSw => ?_⟩) (by assumption) ?_
                  · (try dsimp only at hSw); go_simp; try with_reducible rfl
                  (try simp only [Act.put, List.setIfInBounds_toArray, List.set_cons_zero, List.set_cons_succ])
                  refine wpAnyH_take (i := 12) (v := (.pointer (some ⟨bp, op + i * 2, none⟩))) (op_at rfl) (by kernel_rfl) (by kernel_rfl) (by kernel_rfl) (fun _ _ _ h => h) (Or.inl ⟨rfl, fun w hSw => ?_⟩) (by assumption) ?_
                  · (try dsimp only at hSw); go_simp; try with_reducible rfl
                  (try simp only [Act.put, List.setIfInBounds_toArray, List.set_cons_zero, List.set_cons_succ])
                  refine wpAnyH_take (i := 13) (v := (.string xn)) (op_at rfl) (by kernel_rfl) (by kernel_rfl) (by kernel_rfl) (fun _ _ _ h => h) (Or.inl ⟨rfl, fun w hSw => ?_⟩) (by assumption) ?_
                  · (try dsimp only at hSw); go_simp; try with_reducible rfl
                  (try simp only [Act.put, List.setIfInBounds_toArray, List.set_cons_zero, List.set_cons_succ])
                  refine wpAnyH_ready (rs := [14]) (by kernel_rfl) (by simp) (AllReadyH.cons (op_at rfl) (fun K hK => ?_) AllReadyH.nil)
                  go_simp
                  (refine (HH2.out _ gv).mono ?_; rintro e w' ⟨rfl, rfl⟩)
                  go_wp2_with fail
                  refine hK.out _ _ ⟨c0d, c1d, cyd⟩ (fun hHeld => ?_)
                  clear hK K
                  (try simp only [Act.put, List.setIfInBounds_toArray, List.set_cons_zero, List.set_cons_succ])
                  refine wpAnyH_take (i := 15) (v := (.bool false)) (op_at rfl) (by kernel_rfl) (by kernel_rfl) (by kernel_rfl) (fun _ _ _ h => h) (Or.inl ⟨rfl, fun w hSw => ?_⟩) (by assumption) ?_
                  · (try dsimp only at hSw); go_simp; try with_reducible rfl
                  (try simp only [Act.put, List.setIfInBounds_toArray, List.set_cons_zero, List.set_cons_succ])
                  refine wpAnyH_take (i := 16) (v := (.bool false)) (op_at rfl) (by kernel_rfl) (by kernel_rfl) (by kernel_rfl) (fun _ _ _ h => h) (Or.inl ⟨rfl, fun w hSw => ?_⟩) (by assumption) ?_
                  · (try dsimp only at hSw); go_simp; try with_reducible rfl
                  (try simp only [Act.put, List.setIfInBounds_toArray, List.set_cons_zero, List.set_cons_succ])
                  refine wpAnyH_take (i := 17) (v := (.bool false)) (op_at rfl) (by kernel_rfl) (by kernel_rfl) (by kernel_rfl) (fun _ _ _ h => h) (Or.inl ⟨rfl, fun w hSw => ?_⟩) (by assumption) ?_
                  · (try dsimp only at hSw); go_simp; try with_reducible rfl
                  (try simp only [Act.put, List.setIfInBounds_toArray, List.set_cons_zero, List.set_cons_succ])
                  refine wpAnyH_take (i := 18) (v := (.int .i64 (i : Int))) (op_at rfl) (by kernel_rfl) (by kernel_rfl) (by kernel_rfl) (fun _ _ _ h => h) (Or.inl ⟨rfl, fun w hSw => ?_⟩) (by assumption) ?_
                  · (try dsimp only at hSw); go_simp; try with_reducible rfl
                  (try simp only [Act.put, List.setIfInBounds_toArray, List.set_cons_zero, List.set_cons_succ])
                  refine wpAnyH_take (i := 19) (v := (.bool true)) (op_at rfl) (by kernel_rfl) (by kernel_rfl) (by kernel_rfl) (fun _ _ _ h => h) (Or.inl ⟨rfl, fun w hSw => ?_⟩) (by assumption) ?_
                  · (try dsimp only at hSw); go_simp; try with_reducible rfl
                  (try simp only [Act.put, List.setIfInBounds_toArray, List.set_cons_zero, List.set_cons_succ])
                  refine wpAnyH_take (i := 20) (v := (.bool true)) (op_at rfl) (by kernel_rfl) (by kernel_rfl) (by kernel_rfl) (fun _ _ _ h => h) (Or.inl ⟨rfl, fun w hSw => ?_⟩) (by assumption) ?_
                  · (try dsimp only at hSw); go_simp; try with_reducible rfl
                  (try simp only [Act.put, List.setIfInBounds_toArray, List.set_cons_zero, List.set_cons_succ])
                  refine wpAnyH_take (i := 21) (v := (.slice (some ⟨bp, op, none⟩) n c6)) (op_at rfl) (by kernel_rfl) (by kernel_rfl) (by kernel_rfl) (fun _ _ _ h => h) (Or.inl ⟨rfl, fun w hSw => ?_⟩) (by assumption) ?_
                  · (try dsimp only at hSw); go_simp; try with_reducible rfl
                  (try simp only [Act.put, List.setIfInBounds_toArray, List.set_cons_zero, List.set_cons_succ])
                  refine wpAnyH_take (i := 22) (v := (.int .i64 (i : Int))) (op_at rfl) (by kernel_rfl) (by kernel_rfl) (by kernel_rfl) (fun _ _ _ h => h) (Or.inl ⟨rfl, fun w hSw => ?_⟩) (by assumption) ?_
                  · (try dsimp only at hSw); go_simp; try with_reducible rfl
                  (try simp only [Act.put, List.setIfInBounds_toArray, List.set_cons_zero, List.set_cons_succ])
                  refine wpAnyH_take (i := 23) (v := (.pointer (some ⟨bp, op + i * 2, none⟩))) (op_at rfl) (by kernel_rfl) (by kernel_rfl) (by kernel_rfl) (fun _ _ _ h => h) (Or.inl ⟨rfl, fun w hSw => ?_⟩) (by assumption) ?_
                  · (try dsimp only at hSw); go_simp; try with_reducible rfl
                  (try simp only [Act.put, List.setIfInBounds_toArray, List.set_cons_zero, List.set_cons_succ])
                  refine wpAnyH_take (i := 24) (v := (.pointer (some ⟨bp, op + i * 2 + 1, none⟩))) (op_at rfl) (by kernel_rfl) (by kernel_rfl) (by kernel_rfl) (fun _ _ _ h => h) (Or.inl ⟨rfl, fun w hSw => ?_⟩) (by assumption) ?_
                  · (try dsimp only at hSw); go_simp; try with_reducible rfl
                  (try simp only [Act.put, List.setIfInBounds_toArray, List.set_cons_zero, List.set_cons_succ])
                  refine wpAnyH_take (i := 25) (v := (.int .i64 xk)) (op_at rfl) (by kernel_rfl) (by kernel_rfl) (by kernel_rfl) (fun _ _ _ h => h) (Or.inl ⟨rfl, fun w hSw => ?_⟩) (by assumption) ?_
                  · (try dsimp only at hSw); go_simp; try with_reducible rfl
                  (try simp only [Act.put, List.setIfInBounds_toArray, List.set_cons_zero, List.set_cons_succ])
                  refine wpAnyH_take (i := 26) (v := (.slice (some ⟨bp, op, none⟩) n c6)) (op_at rfl) (by kernel_rfl) (by kernel_rfl) (by kernel_rfl) (fun _ _ _ h => h) (Or.inl ⟨rfl, fun w hSw => ?_⟩) (by assumption) ?_
                  · (try dsimp only at hSw); go_simp; try with_reducible rfl
                  (try simp only [Act.put, List.setIfInBounds_toArray, List.set_cons_zero, List.set_cons_succ])
                  refine wpAnyH_take (i := 27) (v := (.int .i64 (i : Int))) (op_at rfl) (by kernel_rfl) (by kernel_rfl) (by kernel_rfl) (fun _ _ _ h => h) (Or.inl ⟨rfl, fun w hSw => ?_⟩) (by assumption) ?_
                  · (try dsimp only at hSw); go_simp; try with_reducible rfl
                  (try simp only [Act.put, List.setIfInBounds_toArray, List.set_cons_zero, List.set_cons_succ])
                  refine wpAnyH_take (i := 28) (v := (.int .i64 (j : Int))) (op_at rfl) (by kernel_rfl) (by kernel_rfl) (by kernel_rfl) (fun _ _ _ h => h) (Or.inl ⟨rfl, fun w hSw => ?_⟩) (by assumption) ?_
                  · (try dsimp only at hSw); go_simp; try with_reducible rfl
                  (try simp only [Act.put, List.setIfInBounds_toArray, List.set_cons_zero, List.set_cons_succ])
                  refine wpAnyH_take (i := 29) (v := (.pointer (some ⟨bp, op + j * 2, none⟩))) (op_at rfl) (by kernel_rfl) (by kernel_rfl) (by kernel_rfl) (fun _ _ _ h => h) (Or.inl ⟨rfl, fun w hSw => ?_⟩) (by assumption) ?_
                  · (try dsimp only at hSw); go_simp; try with_reducible rfl
                  (try simp only [Act.put, List.setIfInBounds_toArray, List.set_cons_zero, List.set_cons_succ])
                  refine wpAnyH_take (i := 30) (v := (.pointer (some ⟨bp, op + j * 2 + 1, none⟩))) (op_at rfl) (by kernel_rfl) (by kernel_rfl) (by kernel_rfl) (fun _ _ _ h => h) (Or.inl ⟨rfl, fun w hSw => ?_⟩) (by assumption) ?_
                  · (try dsimp only at hSw); go_simp; try with_reducible rfl
                  (try simp only [Act.put, List.setIfInBounds_toArray, List.set_cons_zero, List.set_cons_succ])
                  refine wpAnyH_take (i := 31) (v := (.int .i64 yk)) (op_at rfl) (by kernel_rfl) (by kernel_rfl) (by kernel_rfl) (fun _ _ _ h => h) (Or.inl ⟨rfl, fun w hSw => ?_⟩) (by assumption) ?_
                  · (try dsimp only at hSw); go_simp; try with_reducible rfl
                  (try simp only [Act.put, List.setIfInBounds_toArray, List.set_cons_zero, List.set_cons_succ])
                  refine wpAnyH_take (i := 32) (v := (.bool false)) (op_at rfl) (by kernel_rfl) (by kernel_rfl) (by kernel_rfl) (fun _ _ _ h => h) (Or.inl ⟨rfl, fun w hSw => ?_⟩) (by assumption) ?_
                  · (try dsimp only at hSw); go_simp; try with_reducible rfl
                  (try simp only [Act.put, List.setIfInBounds_toArray, List.set_cons_zero, List.set_cons_succ])
                  refine wpAnyH_take (i := 33) (v := (.bool false)) (op_at rfl) (by kernel_rfl) (by kernel_rfl) (by kernel_rfl) (fun _ _ _ h => h) (Or.inl ⟨rfl, fun w hSw => ?_⟩) (by assumption) ?_
                  · (try dsimp only at hSw); go_simp; try with_reducible rfl
                  (try simp only [Act.put, List.setIfInBounds_toArray, List.set_cons_zero, List.set_cons_succ])
                  refine wpAnyH_take (i := 34) (v := (.bool false)) (op_at rfl) (by kernel_rfl) (by kernel_rfl) (by kernel_rfl) (fun _ _ _ h => h) (Or.inl ⟨rfl, fun w hSw => ?_⟩) (by assumption) ?_
                  · (try dsimp only at hSw); go_simp; try with_reducible rfl
                  (try simp only [Act.put, List.setIfInBounds_toArray, List.set_cons_zero, List.set_cons_succ])
                  refine wpAnyH_take (i := 35) (v := (.bool false)) (op_at rfl) (by kernel_rfl) (by kernel_rfl) (by kernel_rfl) (fun _ _ _ h => h) (Or.inl ⟨rfl, fun w hSw => ?_⟩) (by assumption) ?_
                  · (try dsimp only at hSw); go_simp; try with_reducible rfl
                  (try simp only [Act.put, List.setIfInBounds_toArray, List.set_cons_zero, List.set_cons_succ])
                  refine wpAnyH_take (i := 36) (v := (.slice (some ⟨bp, op, none⟩) n c6)) (op_at rfl) (by kernel_rfl) (by kernel_rfl) (by kernel_rfl) (fun _ _ _ h => h) (Or.inl ⟨rfl, fun w hSw => ?_⟩) (by assumption) ?_
                  · (try dsimp only at hSw); go_simp; try with_reducible rfl
                  (try simp only [Act.put, List.setIfInBounds_toArray, List.set_cons_zero, List.set_cons_succ])
                  refine wpAnyH_take (i := 37) (v := (.int .i64 (i : Int))) (op_at rfl) (by kernel_rfl) (by kernel_rfl) (by kernel_rfl) (fun _ _ _ h => h) (Or.inl ⟨rfl, fun w hSw => ?_⟩) (by assumption) ?_
                  · (try dsimp only at hSw); go_simp; try with_reducible rfl
                  (try simp only [Act.put, List.setIfInBounds_toArray, List.set_cons_zero, List.set_cons_succ])
                  refine wpAnyH_take (i := 38) (v := (.pointer (some ⟨bp, op + i * 2, none⟩))) (op_at rfl) (by kernel_rfl) (by kernel_rfl) (by kernel_rfl) (fun _ _ _ h => h) (Or.inl ⟨rfl, fun w hSw => ?_⟩) (by assumption) ?_
                  · (try dsimp only at hSw); go_simp; try with_reducible rfl
                  (try simp only [Act.put, List.setIfInBounds_toArray, List.set_cons_zero, List.set_cons_succ])
                  refine wpAnyH_take (i := 39) (v := (.pointer (some ⟨bp, op + i * 2 + 1, none⟩))) (op_at rfl) (by kernel_rfl) (by kernel_rfl) (by kernel_rfl) (fun _ _ _ h => h) (Or.inl ⟨rfl, fun w hSw => ?_⟩) (by assumption) ?_
                  · (try dsimp only at hSw); go_simp; try with_reducible rfl
                  (try simp only [Act.put, List.setIfInBounds_toArray, List.set_cons_zero, List.set_cons_succ])
                  refine wpAnyH_take (i := 40) (v := (.int .i64 xk)) (op_at rfl) (by kernel_rfl) (by kernel_rfl) (by kernel_rfl) (fun _ _ _ h => h) (Or.inl ⟨rfl, fun w hSw => ?_⟩) (by assumption) ?_
                  · (try dsimp only at hSw); go_simp; try with_reducible rfl
                  (try simp only [Act.put, List.setIfInBounds_toArray, List.set_cons_zero, List.set_cons_succ])
                  refine wpAnyH_take (i := 41) (v := (.bool false)) (op_at rfl) (by kernel_rfl) (by kernel_rfl) (by kernel_rfl) (fun _ _ _ h => h) (Or.inl ⟨rfl, fun w hSw => ?_⟩) (by assumption) ?_
                  · (try dsimp only at hSw); go_simp; try with_reducible rfl
                  (try simp only [Act.put, List.setIfInBounds_toArray, List.set_cons_zero, List.set_cons_succ])
                  refine wpAnyH_take (i := 42) (v := (.bool false)) (op_at rfl) (by kernel_rfl) (by kernel_rfl) (by kernel_rfl) (fun _ _ _ h => h) (Or.inl ⟨rfl, fun w hSw => ?_⟩) (by assumption) ?_
                  · (try dsimp only at hSw); go_simp; try with_reducible rfl
                  (try simp only [Act.put, List.setIfInBounds_toArray, List.set_cons_zero, List.set_cons_succ])
                  refine wpAnyH_take (i := 43) (v := undef) (op_at rfl) (by kernel_rfl) (by kernel_rfl) (by kernel_rfl) (fun _ _ _ h => h) (Or.inr ⟨rfl, rfl⟩) (by assumption) ?_
                  (try simp only [Act.put, List.setIfInBounds_toArray, List.set_cons_zero, List.set_cons_succ])
                  refine wpAnyH_take (i := 44) (v := undef) (op_at rfl) (by kernel_rfl) (by kernel_rfl) (by kernel_rfl) (fun _ _ _ h => h) (Or.inr ⟨rfl, rfl⟩) (by assumption) ?_
                  (try simp only [Act.put, List.setIfInBounds_toArray, List.set_cons_zero, List.set_cons_succ])
                  refine wpAnyH_take (i := 45) (v := (.bool false)) (op_at rfl) (by kernel_rfl) (by kernel_rfl) (by kernel_rfl) (fun _ _ _ h => h) (Or.inl ⟨rfl, fun w hSw => ?_⟩) (by assumption) ?_
                  · (try dsimp only at hSw); go_simp; try with_reducible rfl
                  (try simp only [Act.put, List.setIfInBounds_toArray, List.set_cons_zero, List.set_cons_succ])
                  refine wpAnyH_take (i := 46) (v := (.bool false)) (op_at rfl) (by kernel_rfl) (by kernel_rfl) (by kernel_rfl) (fun _ _ _ h => h) (Or.inl ⟨rfl, fun w hSw => ?_⟩) (by assumption) ?_
                  · (try dsimp only at hSw); go_simp; try with_reducible rfl
                  (try simp only [Act.put, List.setIfInBounds_toArray, List.set_cons_zero, List.set_cons_succ])
                  refine wpAnyH_done (by kernel_rfl) ?_ _
                  go_wp2_with fail
                  go_meet
                  case rel => exact ⟨rfl, gv⟩
              case rest =>
                obtain ⟨rfl, HGC⟩ := hcut
                have HGW : Hid (Gr W6 wc) := HG.out.trans HGC.out
                have hsn3 := own_kept HSN.out HGC.out
                have HS3 := Lib.hid hsn3
                have c0w := HGC.out.cell c0
                have ga := (Gr.refl wc).alloc (.cells #[.string xn] 9)
                obtain ⟨hi9, hx0, hx1, hx2⟩ := HI9.out
                clear c0 c1' c0d c1d gd HH1 HH2 HSA
                go_wp2_with (at_builtin; refine wpList_append_own _ rfl _ _ 48 rfl W6.heap.size 9 i9 (.string ⟨#[]⟩) 1 16 Tryz.underlying48 hi9 hx0 hx1 hx2 rfl (by decide) _ _ _ rfl (own_kept hsn3 ga) ⟨wc.heap.size, 0, none⟩ 1 1 [.string xn] rfl rfl (cell_one6 _ _ _) (by intro u hu; simp at hu; subst hu; rfl) (by unfold maxLen; omega) (by omega) (by have := HGW.out.size; simp; omega) ?_; intro v2 w2 hown2 hgrow2 hnil)
                clear hnil
                have HS4 : Hid (w2.ownsRow W6.heap.size 9 1 v2 (i + 1) (nmC ((ps.map PlR.nm).take (i + 1)))) := by
                  have e : (ps.map PlR.nm).take (i + 1) = (ps.map PlR.nm).take i ++ [xn] := by
                    rw [List.take_add_one, List.getElem?_map, HX.out]; rfl
                  rw [Hid, e, nmC_add]; exact hown2
                have HG2 : Hid (Gr W6 w2) := Below.grown (HGW.out.alloc _) hgrow2 (by have := HGW.out.size; simp; omega) (fun q hq => (own_in HS3.out hq).2)
                clear hown2 hgrow2 ga hsn3 hi9 hx0 hx1 hx2 c0w HSN HG HS3 HGC HGW hcp
                go_wp2_with fail
                go_loopg [17, 19, 20, 218] (m + 1) (fun gk2 s17 s19 s20 s218 wr2 => ∃ k : Nat, s218 = .int .i64 (k : Int) ∧ gk2 + k = m + 1 ∧ Hid (Gr w2 wr2))
                case atStart => exact ⟨0, rfl, by omega, Gr.refl _⟩
                case round =>
                  obtain ⟨k, rfl, hgk2, HGK⟩ := hrel
                  obtain ⟨g2, rfl⟩ : ∃ g, g = gk := ⟨gk, rfl⟩
                  by_cases hlk : k < m + 1
                  · obtain ⟨y, hy⟩ : ∃ y, ys[k]? = some y := ⟨ys[k]'(by have := HLM.out; omega), List.getElem?_eq_getElem _⟩
                    have hra := (HCV.out k y hy).gr HG2.out
                    have hyL : y.l ∈ ys.map Rd.l := List.mem_map.2 ⟨y, List.mem_of_getElem? hy, rfl⟩
                    have cy := HGK.out.cell hra.nm
                    have HOY := Lib.hid hra.ok
                    have HYL := Lib.hid hyL
                    have HHK := HGK
                    obtain ⟨yp, yn, yc, yl⟩ := y
                    simp only at cy HYL
                    have hlk2 : (k : Int) < (m : Int) + 1 := by omega
                    have hyn : yn ≤ 32 := by
                      have h1 : yl.length = yn := HOY.out.len
                      have h2 := H32.out yl HYL.out
                      omega
                    clear hra hyL hy
                    go_wp2_with fail
                    go_loopg [19, 20, 224] yn (fun gk3 s19 s20 s224 wr3 => ∃ q : Nat, s224 = .int .i64 (q : Int) ∧ gk3 + q = yn ∧ Hid (Gr w2 wr3))
                    case atStart => exact ⟨0, rfl, by omega, HHK.out⟩
                    case round =>
                      obtain ⟨q, rfl, hgk3, HGQ⟩ := hrel
                      by_cases hlq : q < yn
                      · obtain ⟨r, hr⟩ : ∃ r, yl[q]? = some r := ⟨yl[q]'(by have : yl.length = yn := HOY.out.len; omega), List.getElem?_eq_getElem _⟩
                        obtain ⟨yb, yo, e, hcr⟩ := HOY.out.ra.out (by have : yl.length = yn := HOY.out.len; show 0 < yl.length; omega)
                        have e : yp = some ⟨yb, yo, none⟩ := e
                        subst e
                        obtain ⟨r0, r1, r2⟩ := hcr q r hr
                        replace r0 := HGQ.out.cell r0
                        replace r1 := HGQ.out.cell r1
                        replace r2 := HGQ.out.cell r2
                        have HRM := Lib.hid (List.mem_of_getElem? hr)
                        obtain ⟨ra, rb, rw'⟩ := r
                        simp only at r0 r1 r2
                        have hlq2 : (q : Int) < (yn : Int) := by omega
                        obtain ⟨lo, hlo⟩ : ∃ lo, lo = (((ra.toList == xn.toList) && (rw' != 1)) || ((rb.toList == xn.toList) && (rw' != 2))) := ⟨_, rfl⟩
                        have HLo := Lib.hid hlo
                        clear hlo hr hcr
                        go_upto_region 44 with fail
                        obtain ⟨WB, hWB, gB, q0, q1, q2⟩ := box3t wr (.string ra) (.string rb) (.int .i64 rw') 55
                        rw [hWB]
                        have pB0 := ((HG2.out.trans HGQ.out).trans gB).cell B0.out
                        have HGB := Lib.hid (HGQ.out.trans gB)
                        clear r0 r1 r2 hWB gB
                        generalize wr.heap.size = By at *
                        go_cut [20] from 228 to 255 (fun s20 w' => s20 = .bool lo ∧ Hid (Gr WB w'))
                        case first =>
                          as_aux_lemma =>
                          cases ha : (ra.toList == xn.toList)
                          · cases hb : (rb.toList == xn.toList)
                            · go_big_quiet (fail)
                              go_wp2_with fail
                              go_meet
                              case rel => exact ⟨by rw [HLo.out, ha, hb]; rfl, (Gr.refl WB).drewN _⟩
                            · cases h2 : (rw' != 2)
                              · go_big_quiet (fail)
                                go_wp2_with fail
                                go_meet
                                case rel => exact ⟨by rw [HLo.out, ha, hb, h2]; rfl, (Gr.refl WB).drewN _⟩
                              · go_big_quiet (fail)
                                go_wp2_with fail
                                go_meet
                                case rel => exact ⟨by rw [HLo.out, ha, hb, h2]; rfl, (Gr.refl WB).drewN _⟩
                          · cases h1 : (rw' != 1)
                            · have h2 : (rw' != 2) = true := by
                                have : rw' = 1 := by simpa using h1
                                rw [this]; rfl
                              cases hb : (rb.toList == xn.toList)
                              · go_big_quiet (fail)
                                go_wp2_with fail
                                go_meet
                                case rel => exact ⟨by rw [HLo.out, ha, hb, h1]; rfl, (Gr.refl WB).drewN _⟩
                              · go_big_quiet (fail)
                                go_wp2_with fail
                                go_meet
                                case rel => exact ⟨by rw [HLo.out, ha, hb, h1, h2]; rfl, (Gr.refl WB).drewN _⟩
                            · go_big_quiet (fail)
                              go_wp2_with fail
                              go_meet
                              case rel => exact ⟨by rw [HLo.out, ha, h1]; rfl, (Gr.refl WB).drewN _⟩
                        case rest =>
                          obtain ⟨rfl, HGC⟩ := hcut
                          have hgc := HGB.out.trans HGC.out
                          cases hlo2 : lo
                          · go_wp2_with fail
                            go_roundg (gk - 1)
                            case measure => omega
                            case rel => exact ⟨q + 1, by go_num, by omega, hgc⟩
                          · have hk : xk = (yl.length : Int) + 1 := lost_k HPP.out HNM.out HLO.out (List.mem_of_getElem? HX.out) HYL.out HRM.out (by rw [← hlo2, HLo.out])
                            have hlen : yl.length = yn := HOY.out.len
                            rw [hlen] at hk
                            have hk1 : (xk == 1) = false := beq_eq_false_iff_ne.2 (by omega)
                            have hk2 : (xk != (yn : Int) + 1) = false := by rw [hk]; simp
                            have p1 := (HG2.out.trans hgc).cell B1.out
                            have hwr : IntKind.i64.wrap ((yn : Int) + 1) = (yn : Int) + 1 := by
                              rw [IntKind.wrap_i64]; omega
                            clear hk hlen
                            go_wp2_with fail
                            go_roundg (gk - 1)
                            case measure => omega
                            case rel => exact ⟨q + 1, by go_num, by omega, hgc⟩
                      · obtain rfl : q = yn := by omega
                        have hlq2 : ¬ (q : Int) < (q : Int) := by omega
                        go_wp2_with fail
                        go_roundg (g2 - 1)
                        case measure => omega
                        case rel => exact ⟨k + 1, by go_num, by omega, HGQ.out⟩
                  · obtain rfl : k = m + 1 := by omega
                    have hlk2 : ¬ (m : Int) + 1 < (m : Int) + 1 := by omega
                    go_wp2_with fail
                    go_roundg (gp - 1)
                    case measure => omega
                    case rel => exact ⟨i + 1, by go_num, by omega, own_kept HS4.out HGK.out, HG2.out.trans HGK.out⟩
            · as_aux_lemma =>
              have hlt2 : ¬ (i : Int) < (n : Int) := by omega
              cases hb2 : b2
              · go_wp2_with fail
                go_ret
                exact ⟨rfl, HG6w.out.trans HG.out⟩
              · have HDS2 := Lib.hid (HDS.out hb2)
                have HHG := HG
                clear HDS
                go_wp2_with fail
                go_loopg [21, 22, 283] n (fun gk4 s21 s22 s283 wr4 => ∃ q : Nat, s283 = .int .i64 (q : Int) ∧ gk4 + q = n ∧ Hid (Gr W6 wr4))
                case atStart => exact ⟨0, rfl, by omega, HHG.out⟩
                case round =>
                  obtain ⟨q, rfl, hgk4, HGQ⟩ := hrel
                  by_cases hlq : q < n
                  · obtain ⟨x, hx⟩ : ∃ x, ps[q]? = some x := ⟨ps[q]'(by have := HPN.out; omega), List.getElem?_eq_getElem _⟩
                    obtain ⟨bp, op, rfl, hcp⟩ := HP6.out.out (by have := HPN.out; omega)
                    obtain ⟨c0, c1'⟩ := hcp q x hx
                    replace c0 := HGQ.out.cell c0
                    replace c1' := HGQ.out.cell c1'
                    obtain ⟨b1, b2', c2, c3, f1, f2, f3, f4, f5, f6, f7⟩ := three_facts ((HDS2.out x (List.mem_of_getElem? hx)).three HNM.out)
                    have HSE := Lib.hid (HSD.out wr (HG6w.out.trans HGQ.out) x.nm)
                    obtain ⟨xn, xk⟩ := x
                    simp only at c0 c1' f1 f2 f3 f4 f5 f6 f7 HSE
                    generalize seedN ns xn = sd at *
                    have hlq2 : (q : Int) < (n : Int) := by omega
                    clear hcp hx
                    go_wp2_with fail
                    refine HSE.out.mono ?_
                    rintro e w9 ⟨rfl, rfl⟩
                    cases c2
                    · rw [Bool.false_or] at f5
                      go_wp2_with fail
                      go_roundg (gk - 1)
                      case measure => omega
                      case rel => exact ⟨q + 1, by go_num, by omega, HGQ.out⟩
                    · rw [Bool.true_or] at f5
                      go_wp2_with fail
                      go_roundg (gk - 1)
                      case measure => omega
                      case rel => exact ⟨q + 1, by go_num, by omega, HGQ.out⟩
                  · have hlq2 : ¬ (q : Int) < (n : Int) := by omega
                    go_wp2_with fail
                    go_ret
                    exact ⟨rfl, HG6w.out.trans HGQ.out⟩
end Go.Proofs.YthfmgficbnmmnaaGreatDoor
