/- Archives (chapter 10): the law OfficeVectors. -/
import Derived.Test.YtbpgifihlppedaaGreatDoorOvZ
namespace Go.Proofs.YtbpgifihlppedaaGreatDoor
open Go.RowKit Go.Lib
set_option linter.unusedSimpArgs false
set_option linter.unusedVariables false
theorem EnS.lens {w : World} {q : Option Addr} {l : List EnR} (h : EnS w q l) : ∀ e ∈ l, e.xs.length = e.n := fun e he => by
  obtain ⟨i, hi⟩ := List.mem_iff_getElem?.1 he
  obtain ⟨b, off, _, hc⟩ := h.out (by have := (List.getElem?_eq_some_iff.1 hi).1; omega)
  exact (hc i e hi).rows.len
theorem ek_bounds {es L : List EnR} (h : es.map ek = L.map ek) (hL : ∀ f ∈ L, f.xs.length ≤ 160 ∧ ∀ y ∈ f.xs, y.xs.length ≤ 19) : ∀ e ∈ es, e.xs.length ≤ 160 ∧ ∀ x ∈ e.xs, x.xs.length ≤ 19 := fun e he => by
  have h1 : ek e ∈ L.map ek := by rw [← h]; exact List.mem_map_of_mem he
  obtain ⟨f, hf, hfe⟩ := List.mem_map.1 h1
  have hx : f.xs.map rk = e.xs.map rk := by
    have := congrArg (fun z => z.2.2.2.2.2.2) hfe
    exact this
  have hb := hL f hf
  refine ⟨by have := congrArg List.length hx; simp only [List.length_map] at this; omega, fun x hxe => ?_⟩
  have h2 : rk x ∈ f.xs.map rk := by rw [hx]; exact List.mem_map_of_mem hxe
  obtain ⟨y, hy, hyx⟩ := List.mem_map.1 h2
  have h3 : y.xs = x.xs := congrArg (fun z => z.2.2) hyx
  rw [← h3]; exact hb.2 y hy
theorem arch_few {l : List EnR} (h : archE l = 0) : ∀ e ∈ l, e.xs.length ≤ 160 := fun e he => by
  have h1 := (arch_ord h).2 e he
  unfold enErr entryE at h1
  refine sheetE_few (ro := e.ro) (va := e.va) (st := e.st) ?_
  simp only [firstE] at h1
  split at h1 <;> try split at h1 <;> try split at h1 <;> try split at h1
  all_goals first | assumption | (exfalso; omega)
theorem firstE_two (x y : Int) : firstE [x, y] = if x = 0 then (if y = 0 then 0 else y) else x := rfl
theorem gapsP_len (l : List EnR) : (gapsP l).length ≤ l.length := by
  have h1 : ∀ gs : List (List EnR), (gs.flatMap gapG).length ≤ gs.length := by
    intro gs
    induction gs with
    | nil => simp
    | cons g gs ih =>
      have := gapG_len g
      simp only [List.flatMap_cons, List.length_append, List.length_cons]
      omega
  exact Nat.le_trans (h1 _) (groups_len _ _)
theorem vecP_len (l : List EnR) : (vecP l).length ≤ l.length := by
  unfold vecP; rw [List.length_map]; exact groups_len _ _
theorem mk_nil (w : World) : MkS w none [] := ⟨fun h => absurd h (by simp)⟩
theorem en_nil (w : World) : EnS w none [] := ⟨fun h => absurd h (by simp)⟩
set_option maxHeartbeats 1000000 in
set_option maxRecDepth 100000 in
theorem lawFirst10_c0 (b n cap : Nat) (es : List Int) (w : World) (hn : es.length = n) (hc : ∀ i x, es[i]? = some x → w.cell? ⟨b, i, none⟩ = some (.int .i64 x)) (hs : n ≤ 1000) :
    Calls Tryz.prog 14 #[.slice (some ⟨b, 0, none⟩) n cap] w fun e w' => e = .returned (.int .i64 (firstE es)) ∧ w = w' := by
  have HN := Lib.hid hn
  have HC := Lib.hid hc
  clear hc
  go_enter Tryz.func14, Tryz.ntmps14
  go_wp2_with fail
  go_loopg [4, 7] n (fun g s4 s7 wr => ∃ k : Nat, s7 = .int .i64 k ∧ g + k = n ∧ wr = w ∧ Hid (firstE (es.drop k) = firstE es))
  case atStart => exact ⟨0, rfl, by omega, rfl, by simp [Hid]⟩
  case round =>
    obtain ⟨k, rfl, hk, rfl, HF⟩ := hrel
    by_cases hlt : k < n
    · obtain ⟨x, hx⟩ : ∃ x, es[k]? = some x := ⟨es[k]'(by omega), List.getElem?_eq_getElem (by omega)⟩
      have hcell := HC.out k x hx
      have hf := firstE_drop hx
      have hi2 : (k : Int) < n := by omega
      by_cases h0 : x = 0
      · subst h0
        rw [if_pos rfl] at hf
        have HF2 := Lib.hid hf
        clear hf hx
        go_wp2_with fail
        go_roundg (gk - 1)
        case measure => omega
        case rel => exact ⟨k + 1, by go_num, by omega, rfl, by unfold Hid; rw [← HF2.out, HF.out]⟩
      · rw [if_neg h0] at hf
        have HF2 := Lib.hid hf
        have h1 : (x == 0) = false := by simpa using h0
        have h2 : (x != 0) = true := by simpa [bne] using h1
        clear hf hx h0
        go_wp2_with fail
        go_ret
        exact ⟨by rw [← HF.out, HF2.out]; rfl, rfl⟩
    · have : es.drop k = [] := List.drop_of_length_le (by omega)
      have HE : Hid (firstE es = 0) := by unfold Hid; rw [← HF.out, this]; rfl
      clear this
      go_wp2_with fail
      go_ret
      exact ⟨by rw [HE.out]; rfl, rfl⟩
theorem lawFirst10_two (x y : Int) (b cap : Nat) (w : World) (hx : w.cell? ⟨b, 0, none⟩ = some (.int .i64 x)) (hy : w.cell? ⟨b, 1, none⟩ = some (.int .i64 y)) :
    Calls Tryz.prog 14 #[.slice (some ⟨b, 0, none⟩) 2 cap] w fun e w' => e = .returned (.int .i64 (firstE [x, y])) ∧ w = w' :=
  lawFirst10_c0 b 2 cap [x, y] w rfl (fun i v h => by
    rcases i with _ | _ | i <;> simp at h <;> subst h <;> assumption) (by omega)
/-- what the program returns, whatever the errors are -/
structure RetVU (e : Ending) (w' : World) (L : List MkR) (A : Int) : Prop where
  mk' ::
  out : ∃ q n c, e = .returned (.tuple #[.slice q n c, .int .i64 A]) ∧ Hid (n = L.length) ∧ MkS w' q L
structure RetLU (e : Ending) (w' : World) (L : List EnR) (A : Int) : Prop where
  mk' ::
  out : ∃ q n c es, e = .returned (.tuple #[.slice q n c, .int .i64 A]) ∧ Hid (n = es.length) ∧ Hid (es.map ek = L.map ek) ∧ EnS w' q es
set_option maxHeartbeats 4000000 in
set_option maxRecDepth 100000 in
theorem lawVectors_c {w : World} {q q2 : Option Addr} {l : List EnR} {v : List MkR} {n cap m cap2 : Nat} (hr : EnS w q l) (hn : n = l.length) (hc1 : n ≤ cap) (hc2 : cap ≤ maxLen) (hb : n * 96 ≤ 140737488355328) (hv : MkS w q2 v) (hm : m = v.length) (hb2 : m * 24 ≤ 140737488355328)
    (hA : ∀ W1, Gr w W1 → Calls Tryz.prog 9 #[] W1 fun e w' => e = .returned (.bool true) ∧ Gr W1 w') :
    Calls Tryz.prog 5 #[.agg #[.slice q n cap], .slice q2 m cap2] w fun e w' => e = .returned (.bool true) ∧ Gr w w' := by
  obtain ⟨W, hW, g, a0⟩ := box1 w (.slice q n cap) 24
  have HW := Lib.hid hW
  have HA := Lib.hid hA
  have HN := Lib.hid hn
  have HM := Lib.hid hm
  have HR := Lib.hid hr
  have HV := Lib.hid hv
  have HE := Lib.hid (fun V (k : Gr w V) => entries_c (cap := cap) (hr.gr k) hn hb)
  have HK := Lib.hid (fun V (k : Gr w V) => marks_c (cap := cap2) (hv.gr k) hm hb2)
  clear hW hA hr hv hb hb2 hn hm
  go_enter Tryz.func5, Tryz.ntmps5
  go_wp2_with fail
  rw [HW.out]
  clear HW
  generalize w.heap.size = L at *
  go_wp2_with fail
  refine (HE.out _ g).mono ?_
  rintro e W9 ⟨qx, cx, rfl, ⟨hcx1, hcx2⟩, hx, hg⟩
  replace a0 := hg.cell a0
  replace g := g.trans hg
  clear hg HE
  go_wp2_with fail
  refine (HK.out _ g).mono ?_
  rintro e WX ⟨qy, cy, rfl, ⟨hcy1, hcy2⟩, hy, hg⟩
  replace a0 := hg.cell a0
  replace hx := hx.gr hg
  replace g := g.trans hg
  clear hg HK
  have HXN := Lib.hid hx
  have HYN := Lib.hid hy
  have HS1 := Lib.hid (fun V (k : Gr _ V) => shortEn_c (cap := cx) (k := 12) (hx.gr k) HN.out (by omega))
  have HS2 := Lib.hid (fun V (k : Gr _ V) => shortMk_c (cap := cy) (hy.gr k) HM.out (Nat.le_trans hcy1 hcy2))
  have gX := Gr.refl WX
  go_wp2_with fail
  refine (HS1.out _ gX).mono ?_
  rintro e W9 ⟨⟨r, rfl, hr1⟩, hg⟩
  replace a0 := hg.cell a0
  replace gX := gX.trans hg
  replace g := g.trans hg
  clear hg HS1
  cases r
  · clear hr1
    go_wp2_with fail
    refine (HA.out _ g).mono ?_
    rintro e W9 ⟨rfl, hg⟩
    replace g := g.trans hg
    go_wp2_with fail
    go_ret
    exact ⟨rfl, g⟩
  obtain ⟨hl12, hfew⟩ := hr1 rfl
  clear hr1
  go_wp2_with fail
  refine (HS2.out _ gX).mono ?_
  rintro e W9 ⟨⟨r, rfl, hr1⟩, hg⟩
  replace a0 := hg.cell a0
  replace gX := gX.trans hg
  replace g := g.trans hg
  clear hg HS2
  cases r
  · clear hr1
    go_wp2_with fail
    refine (HA.out _ g).mono ?_
    rintro e W9 ⟨rfl, hg⟩
    replace g := g.trans hg
    go_wp2_with fail
    go_ret
    exact ⟨rfl, g⟩
  have hm20 : m ≤ 20 := hr1 rfl
  have hn12 : n ≤ 12 := by have := HN.out; omega
  clear hr1
  obtain ⟨A, hA0⟩ : ∃ A, archE l = A := ⟨_, rfl⟩
  obtain ⟨V, hV0⟩ : ∃ V, vecE v = V := ⟨_, rfl⟩
  obtain ⟨T, hT0⟩ : ∃ T, firstE [A, V] = T := ⟨_, rfl⟩
  have HRA := Lib.hid (fun U (k : Gr WX U) => refArch_c (cap := cx) HN.out (by omega) (HXN.out.gr k) hfew)
  have HRV := Lib.hid (fun U (k : Gr WX U) => refVec_c (cap := cy) HM.out (by omega) (HYN.out.gr k))
  have HVU : Hid (∃ LU, (A = 0 → LU = vecL l) ∧ (A ≠ 0 → LU = []) ∧ LU.length ≤ 12 ∧ ∀ U, Gr w U → Calls Tryz.prog 32 #[.agg #[.slice q n cap]] U fun e w' => RetVU e w' LU A ∧ Gr U w') := by
    by_cases h : A = 0
    · have hz : archE l = 0 := hA0.trans h
      refine ⟨vecP l, fun _ => (vec_same (arch_ord hz).1).symm, fun h2 => absurd h h2, Nat.le_trans (vecP_len l) hl12, fun U k => (vector_ok HN.out (by omega) hc1 hc2 (HR.out.gr k) hfew hz).mono ?_⟩
      rintro e w' ⟨⟨⟨q9, c9, rfl, _, h9⟩⟩, hg⟩
      exact ⟨⟨_, _, _, by rw [h], rfl, h9⟩, hg⟩
    · have hz : archE l ≠ 0 := by rw [hA0]; exact h
      refine ⟨[], fun h2 => absurd h2 h, fun _ => rfl, by simp, fun U k => (vector_err HN.out (by omega) (HR.out.gr k) hfew hz).mono ?_⟩
      rintro e w' ⟨rfl, hg⟩
      exact ⟨⟨none, 0, 0, by rw [hA0], rfl, mk_nil _⟩, hg⟩
  have HGU : Hid (∃ LG, (A = 0 → LG = gapsR l) ∧ (A ≠ 0 → LG = []) ∧ LG.length ≤ 12 ∧ ∀ U, Gr w U → Calls Tryz.prog 33 #[.agg #[.slice q n cap]] U fun e w' => RetVU e w' LG A ∧ Gr U w') := by
    by_cases h : A = 0
    · have hz : archE l = 0 := hA0.trans h
      refine ⟨gapsP l, fun _ => (gaps_same (arch_ord hz).1).symm, fun h2 => absurd h h2, Nat.le_trans (gapsP_len l) hl12, fun U k => (gaps_ok HN.out (by omega) hc1 hc2 (HR.out.gr k) hfew hz).mono ?_⟩
      rintro e w' ⟨⟨⟨q9, c9, rfl, _, h9⟩⟩, hg⟩
      exact ⟨⟨_, _, _, by rw [h], rfl, h9⟩, hg⟩
    · have hz : archE l ≠ 0 := by rw [hA0]; exact h
      refine ⟨[], fun h2 => absurd h2 h, fun _ => rfl, by simp, fun U k => (gaps_err HN.out (by omega) (HR.out.gr k) hfew hz).mono ?_⟩
      rintro e w' ⟨rfl, hg⟩
      exact ⟨⟨none, 0, 0, by rw [hA0], rfl, mk_nil _⟩, hg⟩
  have HLU : Hid (∃ LL : List EnR, (T = 0 → LL = lackL l v) ∧ (T ≠ 0 → LL = []) ∧ LL.length ≤ 12 ∧ (∀ f ∈ LL, f.xs.length ≤ 160 ∧ ∀ y ∈ f.xs, y.xs.length ≤ 19) ∧ ∀ U, Gr w U → Calls Tryz.prog 34 #[.agg #[.slice q n cap], .slice q2 m cap2] U fun e w' => RetLU e w' LL T ∧ Gr U w') := by
    have hT1 : firstE [archE l, vecE v] = T := by rw [hA0, hV0]; exact hT0
    by_cases h : T = 0
    · have hz : firstE [archE l, vecE v] = 0 := hT1.trans h
      have hz2 : archE l = 0 := by
        rw [firstE_two] at hz
        by_cases h2 : archE l = 0
        · exact h2
        · rw [if_neg h2] at hz; exact hz
      have h160 := arch_few hz2
      have hlens := HR.out.lens
      refine ⟨lackL l v, fun _ => rfl, fun h2 => absurd h h2, Nat.le_trans (lack_len l v) hl12, fun f hf => ⟨h160 f (lack_sub l v f hf), hfew f (lack_sub l v f hf)⟩, fun U k => (lack_ok HN.out (by omega) (HR.out.gr k) hfew (fun e he => by have := h160 e he; have := hlens e he; omega) HM.out (by omega) (HV.out.gr k) hz).mono ?_⟩
      rintro e w' ⟨⟨⟨q9, c9, es, rfl, h8, h7, h9, _⟩⟩, hg⟩
      exact ⟨⟨_, _, _, es, by rw [h], h8.symm, h7, h9⟩, hg⟩
    · have hz : firstE [archE l, vecE v] ≠ 0 := by rw [hT1]; exact h
      refine ⟨[], fun h2 => absurd h2 h, fun _ => rfl, by simp, (fun f hf => by cases hf), fun U k => (lack_err HN.out (by omega) (HR.out.gr k) hfew HM.out (by omega) (HV.out.gr k) hz).mono ?_⟩
      rintro e w' ⟨rfl, hg⟩
      exact ⟨⟨none, 0, 0, [], by rw [hT1], rfl, rfl, en_nil _⟩, hg⟩
  obtain ⟨LU, hu1, hu2, hu3, hu4⟩ := HVU.out
  obtain ⟨LG, hg1, hg2, hg3, hg4⟩ := HGU.out
  obtain ⟨LL, hl1, hl2, hl3, hl5, hl4⟩ := HLU.out
  have HU4 := Lib.hid hu4
  have HG4 := Lib.hid hg4
  have HL4 := Lib.hid hl4
  have HU := Lib.hid (And.intro hu1 (And.intro hu2 hu3))
  have HG := Lib.hid (And.intro hg1 (And.intro hg2 hg3))
  have HL := Lib.hid (And.intro hl1 (And.intro hl2 (And.intro hl3 hl5)))
  have HT0 := Lib.hid hT0
  rw [hA0] at HRA
  rw [hV0] at HRV
  clear HVU HGU HLU hu1 hu2 hu3 hu4 hg1 hg2 hg3 hg4 hl1 hl2 hl3 hl4 hl5 hA0 hV0 hT0
  have HX := Lib.hid (HXN.out.gr gX)
  have HY := Lib.hid (HYN.out.gr gX)
  clear hx hy hfew
  go_wp2_with fail
  refine (HRA.out _ gX).mono ?_
  rintro e W9 ⟨rfl, hg⟩
  replace a0 := hg.cell a0
  replace gX := gX.trans hg
  replace g := g.trans hg
  clear hg
  go_wp2_with fail
  refine (HU4.out _ g).mono ?_
  rintro e W9 ⟨⟨⟨qu, nu, cu, rfl, hnu, hu⟩⟩, hg⟩
  replace a0 := hg.cell a0
  replace gX := gX.trans hg
  replace g := g.trans hg
  clear hg
  go_wp2_with fail
  refine (HG4.out _ g).mono ?_
  rintro e W9 ⟨⟨⟨qg, ng, cg, rfl, hng, hgp⟩⟩, hg⟩
  replace a0 := hg.cell a0
  replace hu := hu.gr hg
  replace gX := gX.trans hg
  replace g := g.trans hg
  clear hg
  go_wp2_with fail
  refine (HL4.out _ g).mono ?_
  rintro e W9 ⟨⟨⟨ql, nl, cl, es, rfl, hnl, hek, hes⟩⟩, hg⟩
  replace a0 := hg.cell a0
  replace hu := hu.gr hg
  replace hgp := hgp.gr hg
  replace gX := gX.trans hg
  replace g := g.trans hg
  clear hg
  clear HU4 HG4 HL4 HRA
  go_wp2_with fail
  refine (HRV.out _ gX).mono ?_
  rintro e W9 ⟨rfl, hg⟩
  replace hu := hu.gr hg
  replace hgp := hgp.gr hg
  replace hes := hes.gr hg
  replace gX := gX.trans hg
  replace g := g.trans hg
  clear hg
  obtain ⟨W4, hW4, hg, q0, q1⟩ := box2v W9 (.int .i64 A) (.int .i64 V) 3
  replace hu := hu.gr hg
  replace hgp := hgp.gr hg
  replace hes := hes.gr hg
  replace gX := gX.trans hg
  replace g := g.trans hg
  clear hg
  have HW4 := Lib.hid hW4
  clear hW4 a0 HRV
  go_wp2_with fail
  rw [HW4.out]
  refine (lawFirst10_two A V _ _ W4 q0 q1).mono ?_
  rintro e W5 ⟨rfl, rfl⟩
  rw [HT0.out]
  clear HW4 q0 q1
  have hnl2 : Hid (nl = LL.length) := by have := hnl.out; have := congrArg List.length hek.out; simp only [List.length_map] at this; rw [Hid]; omega
  have hu3 := HU.out.2.2
  have hg3 := HG.out.2.2
  obtain ⟨hl3, hl5⟩ := HL.out.2.2
  have hu := hu
  go_upto_if 56 with fail
  go_cut [15, 16] from 18 (fun s15 s16 wx => ∃ pu du pg dg, s15 = .slice pu nu du ∧ s16 = .slice pg ng dg ∧ MkS wx pu LU ∧ MkS wx pg LG ∧ Gr W4 wx)
  case first =>
    by_cases hAz : A = 0
    · have hLU := HU.out.1 hAz
      have hLG := HG.out.1 hAz
      have HRU := Lib.hid (fun U (k : Gr WX U) => refVector_c (cap := cx) HN.out (by omega) (HXN.out.gr k))
      have HRG := Lib.hid (fun U (k : Gr WX U) => refGaps_c (cap := cx) HN.out (by omega) (HXN.out.gr k))
      rw [← hLU] at HRU
      rw [← hLG] at HRG
      have hA1 : (A == 0) = true := beq_iff_eq.2 hAz
      have g4 := Gr.refl W4
      clear hAz hLU hLG HU HG HT0 HL hu hgp hes g
      go_wp2_with fail
      refine (HRU.out _ gX).mono ?_
      rintro e W9 ⟨⟨⟨pu, du, rfl, _, hpu⟩⟩, hg⟩
      replace gX := gX.trans hg
      replace g4 := g4.trans hg
      clear hg
      go_wp2_with fail
      refine (HRG.out _ gX).mono ?_
      rintro e W9 ⟨⟨⟨pg, dg, rfl, _, hpg⟩⟩, hg⟩
      replace hpu := hpu.gr hg
      replace g4 := g4.trans hg
      clear hg HRU HRG
      go_wp2_with fail
      go_meet
      case rel => exact ⟨pu, du, pg, dg, by rw [hnu.out], by rw [hng.out], hpu, hpg, g4⟩
    · have hLU := HU.out.2.1 hAz
      have hLG := HG.out.2.1 hAz
      subst hLU
      subst hLG
      have hA1 : (A == 0) = false := beq_eq_false_iff_ne.2 hAz
      clear hAz HU HG HT0 HL hu hgp hes g
      go_wp2_with fail
      go_meet
      case rel => exact ⟨none, 0, none, 0, by simp [hnu.out], by simp [hng.out], mk_nil W4, mk_nil W4, Gr.refl W4⟩
  case rest =>
    obtain ⟨pu, du, pg, dg, rfl, rfl, hpu, hpg, hg⟩ := hcut
    replace hu := hu.gr hg
    replace hgp := hgp.gr hg
    replace hes := hes.gr hg
    replace gX := gX.trans hg
    replace g := g.trans hg
    clear hg HU HG HT0
    go_upto_if 62 with fail
    go_cut [17] from 18 (fun s17 wx2 => ∃ pl dl, s17 = .slice pl nl dl ∧ EnS wx2 pl LL ∧ Gr wc wx2)
    case first =>
      by_cases hTz : T = 0
      · have hLL := HL.out.1 hTz
        have HRL := Lib.hid (fun U (k : Gr WX U) => refLack_c (cap := cx) (cap2 := cy) HN.out (by omega) (HXN.out.gr k) HM.out (by omega) (HYN.out.gr k))
        rw [← hLL] at HRL
        have hT1 : (T == 0) = true := beq_iff_eq.2 hTz
        clear hTz hLL hu hgp hes hpu hpg g HL
        go_wp2_with fail
        refine (HRL.out _ gX).mono ?_
        rintro e W9 ⟨⟨⟨pl, dl, rfl, _, hpl⟩⟩, hg⟩
        clear HRL
        go_wp2_with fail
        go_meet
        case rel => exact ⟨pl, dl, by rw [hnl2.out], hpl, hg⟩
      · have hLL := HL.out.2.1 hTz
        subst hLL
        have hT1 : (T == 0) = false := beq_eq_false_iff_ne.2 hTz
        clear hTz hu hgp hes hpu hpg g HL
        go_wp2_with fail
        go_meet
        case rel => exact ⟨none, 0, by simp [hnl2.out], en_nil wc, Gr.refl wc⟩
    case rest =>
      obtain ⟨pl, dl, rfl, hpl, hg⟩ := hcut
      replace hu := hu.gr hg
      replace hgp := hgp.gr hg
      replace hes := hes.gr hg
      replace hpu := hpu.gr hg
      replace hpg := hpg.gr hg
      replace g := g.trans hg
      clear hg gX
      clear HX HY HXN HYN
      go_wp2_with fail
      refine (marks_c hu hnu.out (by have := hnu.out; omega)).mono ?_
      rintro e W9 ⟨y1, z1, rfl, _, hs1, hg⟩
      replace hgp := hgp.gr hg
      replace hes := hes.gr hg
      replace hpu := hpu.gr hg
      replace hpg := hpg.gr hg
      replace hpl := hpl.gr hg
      replace g := g.trans hg
      clear hg
      clear hu
      go_wp2_with fail
      refine (sameMk_c hs1 hpu hnu.out (by have := hnu.out; omega)).mono ?_
      rintro e W9 ⟨rfl, hg⟩
      replace hgp := hgp.gr hg
      replace hes := hes.gr hg
      replace hpg := hpg.gr hg
      replace hpl := hpl.gr hg
      replace g := g.trans hg
      clear hg
      clear hs1 hpu
      go_wp2_with fail
      refine (marks_c hgp hng.out (by have := hng.out; omega)).mono ?_
      rintro e W9 ⟨y2, z2, rfl, _, hs1, hg⟩
      replace hes := hes.gr hg
      replace hpg := hpg.gr hg
      replace hpl := hpl.gr hg
      replace g := g.trans hg
      clear hg
      clear hgp
      go_wp2_with fail
      refine (sameMk_c hs1 hpg hng.out (by have := hng.out; omega)).mono ?_
      rintro e W9 ⟨rfl, hg⟩
      replace hes := hes.gr hg
      replace hpl := hpl.gr hg
      replace g := g.trans hg
      clear hg
      clear hs1 hpg
      go_wp2_with fail
      refine (entries_c hes hnl.out (by have := hnl.out; have := congrArg List.length hek.out; simp only [List.length_map] at this; omega)).mono ?_
      rintro e W9 ⟨y3, z3, rfl, _, hs1, hg⟩
      replace hpl := hpl.gr hg
      replace g := g.trans hg
      clear hg
      clear hes
      go_wp2_with fail
      refine (sameEns_c hs1 hpl hnl.out hek.out (by have := hnl.out; have := congrArg List.length hek.out; simp only [List.length_map] at this; omega) (fun e he => by have := (ek_bounds hek.out hl5 e he).1; have := hs1.lens e he; omega) (fun e he x hx => by have := (ek_bounds hek.out hl5 e he).2 x hx; omega)).mono ?_
      rintro e W9 ⟨rfl, hg⟩
      replace g := g.trans hg
      clear hg hs1 hpl
      go_wp2_with fail
      refine (HA.out _ g).mono ?_
      rintro e W9 ⟨rfl, hg⟩
      replace g := g.trans hg
      go_wp2_with fail
      go_ret
      exact ⟨by rfl, g⟩
end Go.Proofs.YtbpgifihlppedaaGreatDoor
