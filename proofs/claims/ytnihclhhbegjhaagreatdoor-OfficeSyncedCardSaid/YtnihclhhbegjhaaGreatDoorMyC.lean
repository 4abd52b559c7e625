/- Archives (chapter 10): the law OfficeSynced. -/
import Derived.Deep.CutBlock
import Derived.Test.YtnihclhhbegjhaaGreatDoorGMyA
namespace Go.Proofs.YtnihclhhbegjhaaGreatDoor
open Go.RowKit Go.Lib
set_option linter.unusedSimpArgs false
set_option linter.unusedVariables false
theorem sync_mrg {l PP L es : List EnR} (hl : archE l = 0) (hP : PP.Sublist l) (hL : L.Sublist l) (hk : es.map ek = L.map ek) (hs : mrgE PP L = l) : archE es = 0 ∧ mrgX PP es = 0 ∧ (mrgR PP es).map ek = l.map ek := by
  have h1 : archE es = 0 := (archE_ek hk).trans (arch_sub hl hL)
  have h2 : archE PP = 0 := arch_sub hl hP
  have h3 : (mrgE PP es).map ek = l.map ek := (mrgE_same rfl hk).trans (by rw [hs])
  have h4 : archE (mrgE PP es) = 0 := (archE_ek h3).trans hl
  have h5 : ¬ ∃ y, y ∈ es ∧ conP PP y := no_con fun x hx y hy hd hn => by
    have hm : ek y ∈ L.map ek := hk ▸ List.mem_map_of_mem hy
    obtain ⟨z, hz, he⟩ := List.mem_map.1 hm
    have e1 : z.de = y.de := congrArg (fun t => t.1) he
    have e2 : z.nu = y.nu := congrArg (fun t => t.2.1) he
    rw [← he, asc_inj (arch_ord hl).1.asc (hP.subset hx) (hL.subset hz) (e1.trans hd) (e2.trans hn)]
  have h6 : mrgX PP es = 0 := (mrgX_cases (by rw [h1, h2]; rfl)).2.1 h5 h4
  exact ⟨h1, h6, by rw [(mrgR_cases PP es).1 h6, h3]⟩
theorem mapG_len {α : Type} {ev : α → Value} {tm tv : TypeId} (hu : Tryz.prog.underlying tm = some (.map 9 tv)) {w : World} {g : Nat} {ks : List (ByteArray × α)} (h : MapG ev w g ks) (ty : TypeId) : (Builtin.len_ #[tm] ty #[.map (some g)]).run Tryz.prog w = .ok (goInt ((ks.length : Nat) : Int)) w := by
  obtain ⟨⟨es, clock, h1, h2⟩⟩ := h
  have hl : es.length = ks.length := by have := congrArg List.length h2; simpa using this
  simp [Builtin.len_, run_undG hu, getObj, Sem.run, h1, Result.andThen, hl]
structure FiX (e : Ending) (P : List EnR) (d : ByteArray) (m : Int) : Prop where
  mk' ::
  out : (e = .returned (.int .i64 (-1)) ∧ ¬ ∃ x ∈ P, x.de = d ∧ x.nu = m) ∨ ∃ k : Nat, e = .returned (.int .i64 (k : Int)) ∧ ∃ x ∈ P, x.de = d ∧ x.nu = m
theorem findX_c {w : World} {q : Option Addr} {P : List EnR} {n c : Nat} (d : ByteArray) (m : Int) (hn : n = P.length) (h1 : n ≤ 1000) (hr : EnS w q P) :
    Calls Tryz.prog 36 #[.slice q n c, .string d, .int .i64 m] w fun e w' => FiX e P d m ∧ Gr w w' := by
  refine (find_c (c := c) (⟨d, m, 0, ⟨#[]⟩, 0, ⟨#[]⟩, none, 0, 0, []⟩ : EnR) hn h1 hr).mono ?_
  rintro e w' ⟨⟨⟨h2, rfl⟩ | ⟨k, x, rfl, h3, h4⟩⟩, hg⟩
  · refine ⟨⟨.inl ⟨rfl, ?_⟩⟩, hg⟩
    rintro ⟨x, hx, rfl, rfl⟩
    have := List.find?_eq_none.1 h2 x hx
    exact this (smk_iff.2 ⟨rfl, rfl⟩)
  · obtain ⟨h5, h6⟩ := smk_iff.1 (List.find?_some h4)
    exact ⟨⟨.inr ⟨k, rfl, x, List.mem_of_getElem? h3, h5.symm, h6.symm⟩⟩, hg⟩
def laterB (P : List EnR) (m : MkR) : Bool := P.any fun e => (e.de.toList == m.de.toList) && decide (m.nu < e.nu)
theorem laterB_iff {P : List EnR} {m : MkR} : laterB P m = true ↔ ∃ e, e ∈ P ∧ e.de = m.de ∧ m.nu < e.nu := by
  unfold laterB
  simp only [List.any_eq_true, Bool.and_eq_true, decide_eq_true_eq, baEq]
theorem laterB_add {P : List EnR} {x : EnR} {m : MkR} : laterB (P ++ [x]) m = (laterB P m || ((x.de.toList == m.de.toList) && decide (m.nu < x.nu))) := by
  unfold laterB; simp
theorem getD_evNO (o : Option Int) : (o.map evNO).getD (.int .i64 0) = .int .i64 (o.getD 0) := by cases o <;> rfl
theorem getD_evBO (o : Option Bool) : (o.map evBO).getD (.bool false) = .bool (o.getD false) := by cases o <;> rfl
def bitB (cut : Int) (i : Nat) : Bool := bits BinOp.and IntKind.i64 (cut / 2 ^ i) 1 == 1
set_option maxHeartbeats 8000000 in
set_option maxRecDepth 100000 in
theorem lawSynced_c {w : World} {pa : Option Addr} {l : List EnR} {n ka : Nat} (cut : Int) (hcut : 0 ≤ cut ∧ cut < 65536) (h1 : EnS w pa l) (hn : n = l.length) (hka : n ≤ ka ∧ ka ≤ maxLen) (hb1 : n * 96 ≤ 140737488355328)
    (hA : ∀ W1, Gr w W1 → Calls Tryz.prog 10 #[] W1 fun e w' => e = .returned (.bool true) ∧ Gr W1 w') :
    Calls Tryz.prog 6 #[.agg #[.slice pa n ka], .int .u16 cut] w fun e w' => e = .returned (.bool true) ∧ Gr w w' := by
  obtain ⟨W, hW, g, a0⟩ := box1 w (.slice pa n ka) 24
  have HW := Lib.hid hW
  have HA := Lib.hid hA
  have HN := Lib.hid hn
  have HR := Lib.hid h1
  have HE := Lib.hid (fun V (k : Gr w V) => entries_c (cap := ka) (h1.gr k) hn hb1)
  obtain ⟨hka1, hka2⟩ := hka
  obtain ⟨hcut1, hcut2⟩ := hcut
  have HAB := Lib.hid (fun U (k : Gr W U) => k.cell a0)
  clear hW hA h1 hb1 hn
  go_enter Tryz.func6, Tryz.ntmps6
  go_wp2_with fail
  rw [HW.out]
  clear HW
  generalize w.heap.size = P1 at *
  have gW := Gr.refl W
  go_wp2_with fail
  refine (HE.out _ g).mono ?_
  rintro e WX ⟨qx, cx, rfl, ⟨hcx1, hcx2⟩, hx, hg⟩
  replace g := g.trans hg
  replace gW := gW.trans hg
  clear hg HE a0
  have HXN := Lib.hid hx
  have gX := Gr.refl WX
  have HS1 := Lib.hid (fun V (k : Gr WX V) => shortEn_c (cap := cx) (k := 12) (hx.gr k) HN.out (by omega))
  clear hx
  go_wp2_with fail
  refine (HS1.out _ gX).mono ?_
  rintro e W9 ⟨⟨r, rfl, hr⟩, hg⟩
  replace g := g.trans hg
  replace gW := gW.trans hg
  replace gX := gX.trans hg
  clear hg HS1
  cases r
  · clear hr
    go_wp2_with fail
    refine (HA.out _ g).mono ?_
    rintro e W9 ⟨rfl, hg⟩
    replace g := g.trans hg
    go_wp2_with fail
    go_ret
    exact ⟨by rfl, g⟩
  obtain ⟨hl12, hfew⟩ := hr rfl
  have hn12 : n ≤ 12 := by have := HN.out; omega
  clear hr hl12
  have HRA := Lib.hid (fun U (k : Gr WX U) => refArch_c (cap := cx) HN.out (by omega) (HXN.out.gr k) hfew)
  by_cases hz : archE l = 0
  · rw [hz] at HRA
    have HZ := Lib.hid hz
    have HFW := Lib.hid hfew
    clear hz hfew
    go_wp2_with fail
    refine (HRA.out _ gX).mono ?_
    rintro e WA ⟨rfl, hg⟩
    replace g := g.trans hg
    replace gW := gW.trans hg
    replace gX := gX.trans hg
    clear hg HRA
    obtain ⟨WB, hWB, hg, c0⟩ := box1 WA (.slice none 0 0) 24
    have hb6 : WB.heap[WA.heap.size]? = some (.cells #[.slice none 0 0] 24 (0, 0)) := by rw [← hWB]; exact heap_alloc_new WA _
    have hsB : WB.heap.size = WA.heap.size + 1 := by rw [← hWB]; simp
    obtain ⟨P6, hP6⟩ : ∃ P, WA.heap.size = P := ⟨_, rfl⟩
    rw [hP6] at hb6 hsB
    have HWB := Lib.hid hWB
    have HP6 := Lib.hid hP6
    have HB6 := Lib.hid hb6
    have HGA := Lib.hid g
    have HGWA := Lib.hid gW
    have HGXA := Lib.hid gX
    have HGAB := Lib.hid hg
    have a0 := HAB.out _ (gW.trans hg)
    have hsw : WA.heap.size ≤ P6 := by omega
    rw [← hWB] at a0
    clear hWB hP6 hb6 c0 hg g gW gX
    go_wp2_with fail
    rw [HWB.out] at a0 ⊢
    rw [HP6.out]
    clear HWB HP6
    go_wp2_with fail
    clear a0
    have HBS : Hid (EnS WB pa l) := HR.out.gr (HGA.out.trans HGAB.out)
    go_loopg [47] n (fun gk s47 wr => ∃ (i np cp : Nat) (qp : Option Addr), s47 = .int .i64 (i : Int) ∧ gk + i = n ∧ Hid (wr.heap[P6]? = some (.cells #[.slice qp np cp] 24 (0, 0))) ∧ Hid (wr.ownsRow (P6 + 1) 77 7 (.slice qp np cp) np (enCs (selL (bitB cut) 0 (l.take i)))) ∧ np ≤ i ∧ Hid (Gr WA wr))
    case atStart => exact ⟨0, 0, 0, none, rfl, by omega, HB6, World.ownsRow_nil _ _ _ _, by omega, HGAB⟩
    case round =>
      obtain ⟨i, np, cp, qp, rfl, hgk, HB, HOWN, hnp, HG⟩ := hrel
      by_cases hlt : i < n
      · obtain ⟨x, hx⟩ : ∃ x, l[i]? = some x := ⟨l[i]'(by have := HN.out; omega), List.getElem?_eq_getElem _⟩
        obtain ⟨b, off, rfl, hcc⟩ := HR.out.out (by have := HN.out; omega)
        obtain ⟨a0, a1, a2, a3, a4, a5, a6, _⟩ := (hcc i x hx).gr (HGA.out.trans HG.out)
        have hi2 : (i : Int) < (n : Int) := by omega
        have HSEL : Hid (selL (bitB cut) 0 (l.take (i + 1)) = selL (bitB cut) 0 (l.take i) ++ (if bitB cut i = true then [x] else [])) := by
          rw [Hid, List.take_add_one, hx, Option.toList_some, selL_app, Nat.zero_add, List.length_take, show min i l.length = i by have := HN.out; omega]
          rfl
        have gB := (Gr.refl wr).alloc (.cells #[.string x.de, .int .i64 x.nu, .int .i64 x.ck, .string x.ro, .int .i64 x.va, .string x.st, .slice x.p x.n x.cap] 77)
        have hb6 := Gr.block gB HB.out
        have hownB := own_kept HOWN.out gB
        have HG8 := Lib.hid (HG.out.trans gB)
        have HBB := Lib.hid hb6
        have HOB := Lib.hid hownB
        have hP6 : P6 < wr.heap.size := (Array.getElem?_eq_some_iff.1 HB.out).1
        have hbt : bitB cut i = (bits BinOp.and IntKind.i64 (cut / 2 ^ i) 1 == 1) := rfl
        rw [hbt] at HSEL
        clear hx hcc gB hb6 hownB hbt
        cases hbit : (bits BinOp.and IntKind.i64 (cut / 2 ^ i) 1 == 1)
        · rw [hbit] at HSEL
          have HO2 : Hid ((wr.alloc (.cells #[.string x.de, .int .i64 x.nu, .int .i64 x.ck, .string x.ro, .int .i64 x.va, .string x.st, .slice x.p x.n x.cap] 77)).ownsRow (P6 + 1) 77 7 (.slice qp np cp) np (enCs (selL (bitB cut) 0 (l.take (i + 1))))) := by
            have h0 := HSEL.out
            simp only [Bool.false_eq_true, if_false, List.append_nil] at h0
            rw [h0]; exact HOB.out
          clear HSEL HOB
          go_wp2_with fail
          go_roundg (gk - 1)
          case measure => omega
          case rel => exact ⟨i + 1, np, cp, qp, by go_num, by omega, HBB, HO2, by omega, HG8⟩
        · rw [hbit] at HSEL
          have h0 := HSEL.out
          simp only [if_true] at h0
          have HSE2 := Lib.hid h0
          clear HSEL h0
          obtain ⟨i0, hi, hz0, hz1, hz2⟩ := info_parts infoEnP
          have c60 := cells1_ofO HBB.out
          have gA := (Gr.refl (wr.alloc (.cells #[.string x.de, .int .i64 x.nu, .int .i64 x.ck, .string x.ro, .int .i64 x.va, .string x.st, .slice x.p x.n x.cap] 77))).alloc (.cells #[.string x.de, .int .i64 x.nu, .int .i64 x.ck, .string x.ro, .int .i64 x.va, .string x.st, .slice x.p x.n x.cap] 77)
          have hownA := own_kept HOB.out gA
          have hb6A := Gr.block gA HBB.out
          have HGA2 := Lib.hid (HG8.out.trans gA)
          have hszA : P6 + 1 ≤ ((wr.alloc (.cells #[.string x.de, .int .i64 x.nu, .int .i64 x.ck, .string x.ro, .int .i64 x.va, .string x.st, .slice x.p x.n x.cap] 77)).alloc (.cells #[.string x.de, .int .i64 x.nu, .int .i64 x.ck, .string x.ro, .int .i64 x.va, .string x.st, .slice x.p x.n x.cap] 77)).heap.size := by have := (Array.getElem?_eq_some_iff.1 hb6A).1; omega
          have hP6A : P6 < ((wr.alloc (.cells #[.string x.de, .int .i64 x.nu, .int .i64 x.ck, .string x.ro, .int .i64 x.va, .string x.st, .slice x.p x.n x.cap] 77)).alloc (.cells #[.string x.de, .int .i64 x.nu, .int .i64 x.ck, .string x.ro, .int .i64 x.va, .string x.st, .slice x.p x.n x.cap] 77)).heap.size := by omega
          have hXC := cell_seven (wr.alloc (.cells #[.string x.de, .int .i64 x.nu, .int .i64 x.ck, .string x.ro, .int .i64 x.va, .string x.st, .slice x.p x.n x.cap] 77)) (.string x.de) (.int .i64 x.nu) (.int .i64 x.ck) (.string x.ro) (.int .i64 x.va) (.string x.st) (.slice x.p x.n x.cap) 77
          rw [World.size_alloc] at hXC
          clear gA
          go_wp2_with (at_builtin; refine wpList_append_own _ rfl _ _ 22 rfl (P6 + 1) 77 i0 (.agg #[.string ⟨#[]⟩, .int .i64 0, .int .i64 0, .string ⟨#[]⟩, .int .i64 0, .string ⟨#[]⟩, .slice none 0 0]) 7 96 Tryz.underlying22 hi hz0 hz1 hz2 rfl (by decide) _ _ _ rfl hownA ⟨wr.heap.size + 1, 0, none⟩ 1 1 [.string x.de, .int .i64 x.nu, .int .i64 x.ck, .string x.ro, .int .i64 x.va, .string x.st, .slice x.p x.n x.cap] rfl rfl hXC (one_seven _ _ _ _ _ _ _ _ _) (by unfold maxLen; omega) (by omega) hszA ?_; intro v1 w1 hown1 hgrow1 hnil; obtain ⟨q1, c1, rfl, hc11, hc12⟩ := own_shape hown1; have hb61 : w1.heap[P6]? = some (.cells #[.slice qp np cp] 24 (0, 0)) := (hgrow1.block P6 hP6A (fun e => by have := (own_in hownA (g := P6) e.symm).2; omega)).trans hb6A; have c61 := cells1_ofO hb61; have f61 : ∀ o, w1.frozen? ⟨P6, o, none⟩ = false := fun o => frozen_of_row _ _ o _ _ hb61)
          have HGR : Hid (Gr WA (w1.setCell ⟨P6, 0, none⟩ (.slice q1 (np + 1) c1))) := Below.setCell (Below.grown HGA2.out hgrow1 HGA2.out.size (fun q hq => by have := (own_in hownA hq).2; omega)) (by show WA.heap.size ≤ P6; omega) _
          have HB9 := Lib.hid (set1O hb61 (.slice q1 (np + 1) c1))
          have hown2 := own_set_low (p := ⟨P6, 0, none⟩) (x := .slice q1 (np + 1) c1) hown1 (by show P6 < P6 + 1; omega)
          have HO2 : Hid ((w1.setCell ⟨P6, 0, none⟩ (.slice q1 (np + 1) c1)).ownsRow (P6 + 1) 77 7 (.slice q1 (np + 1) c1) (np + 1) (enCs (selL (bitB cut) 0 (l.take (i + 1))))) := by
            rw [HSE2.out, enCs_add]; exact hown2
          clear hown1 hown2 hgrow1 hownA hnil hi hz0 hz1 hz2 hb61 c61 f61 hb6A hXC c60
          go_wp2_with fail
          go_roundg (gk - 1)
          case measure => omega
          case rel => exact ⟨i + 1, np + 1, c1, q1, by go_num, by omega, HB9, HO2, by omega, HGR⟩
      · obtain rfl : n = i := by omega
        have hi2 : ¬ (n : Int) < (n : Int) := by omega
        have hown := HOWN.out
        rw [List.take_of_length_le (by have := HN.out; omega)] at hown
        have hsub : (selL (bitB cut) 0 l).Sublist l := selL_sub _ _ _
        generalize selL (bitB cut) 0 l = PP at hown hsub
        obtain ⟨q', c', e', hc1, hc2⟩ := own_shape hown
        simp only [Value.slice.injEq] at e'
        obtain ⟨rfl, _, rfl⟩ := e'
        have hnl : np = PP.length := by have := hown.1; rw [enCs_len] at this; omega
        have HSUB := Lib.hid hsub
        have HGw := Lib.hid (HGA.out.trans HG.out)
        have HGWw := Lib.hid (HGWA.out.trans HG.out)
        have HGXw := Lib.hid (HGXA.out.trans HG.out)
        have hrl := HR.out.gr HGw.out
        have HEP : Hid (EnS wr qp PP) := EnS.of_own hown hnl.symm (fun e he => hrl.rowsX e (hsub.subset he))
        have hap := arch_sub HZ.out hsub
        have hfp : Few PP := fun e he => HFW.out e (hsub.subset he)
        have hfl := fit_of HZ.out HR.out HFW.out
        have hvl := vecP_len PP
        have hgl := gapsP_len PP
        have HVZ := Lib.hid (vec_zero hap)
        have hp12 : np ≤ 12 := by have := hsub.length_le; have := HN.out; omega
        have HVF := Lib.hid (vec_facts (arch_ord hap).1)
        have HSA := Lib.hid (sync_all (arch_ord HZ.out).1 hsub)
        have hvz := vec_zero hap
        have hvo : ∀ (V : World), Gr wr V → Calls Tryz.prog 32 #[.agg #[.slice qp np cp]] V fun e w' => RetMt e w' (vecP PP) ∧ Gr V w' := fun V k => vector_ok (cap := cp) hnl (by omega) hc1 hc2 (HEP.out.gr k) hfp hap
        have hgo : ∀ (V : World), Gr wr V → Calls Tryz.prog 33 #[.agg #[.slice qp np cp]] V fun e w' => RetMt e w' (gapsP PP) ∧ Gr V w' := fun V k => gaps_ok (cap := cp) hnl (by omega) hc1 hc2 (HEP.out.gr k) hfp hap
        generalize vecP PP = v at *
        generalize gapsP PP = gp at *
        have hll := lack_len l v
        obtain ⟨mv, hmv⟩ : ∃ m, v.length = m := ⟨_, rfl⟩
        rw [hmv] at hvl
        have hlk : ∀ (V : World), Gr wr V → ∀ q9 c9, MkS V q9 v → Calls Tryz.prog 34 #[.agg #[.slice pa n ka], .slice q9 mv c9] V fun e w' => RetLk e w' (lackL l v) ∧ Gr V w' := fun V k q9 c9 h9 => lack_ok (cap := ka) (cap2 := c9) HN.out (by omega) (HR.out.gr (HGw.out.trans k)) HFW.out (fun e he => (hfl e he).1) hmv.symm (by omega) h9 (by rw [HZ.out, hvz]; rfl)
        have hlq : ∀ e ∈ lackL l v, e ∈ l ∧ lastN v e.de < e.nu := fun e he => by
          unfold lackL at he
          rw [List.mem_filter] at he
          exact ⟨he.1, by simpa using he.2⟩
        have hls : (lackL l v).Sublist l := List.filter_sublist
        generalize lackL l v = L at *
        obtain ⟨mg, hmg⟩ : ∃ m, gp.length = m := ⟨_, rfl⟩
        obtain ⟨mL, hmL⟩ : ∃ m, L.length = m := ⟨_, rfl⟩
        rw [hmg] at hgl
        rw [hmL] at hll
        have hv12 : mv ≤ 12 := by omega
        have hg12 : mg ≤ 12 := by omega
        have hL12 : mL ≤ 12 := by have := HN.out; omega
        have HMV := Lib.hid hmv
        have HMG := Lib.hid hmg
        have HML := Lib.hid hmL
        have HNL := Lib.hid hnl
        have HLQ := Lib.hid hlq
        have HLS := Lib.hid hls
        have HV1 := Lib.hid hvo
        have HV2 := Lib.hid hgo
        have HLK := Lib.hid hlk
        have HC6 := Lib.hid (fun V (k : Gr wr V) => k.cell (cells1_ofO HB.out))
        have HA0 := Lib.hid (fun V (k : Gr wr V) => HAB.out _ (HGWw.out.trans k))
        have HFP := Lib.hid hfp
        have HAP := Lib.hid hap
        have HFL := Lib.hid hfl
        clear hnl hmv hmg hmL hlq hls hvo hgo hlk hvz hown hsub hrl hap hfp hfl HOWN HB HBS HG HGA HGWA HGXA HGAB HB6 HAB
        have gP := Gr.refl wr
        have c6 := HC6.out _ gP
        go_wp2_with fail
        refine (HV1.out _ gP).mono ?_
        rintro e WV ⟨⟨⟨q9, c9, rfl, hc9, h9⟩⟩, hg⟩
        replace gP := gP.trans hg
        rw [HMV.out] at hc9 ⊢
        have HM9 := Lib.hid h9
        have g9 := Gr.refl WV
        clear hg h9 c6 HV1
        have c6 := HC6.out _ gP
        go_wp2_with fail
        refine (HV2.out _ gP).mono ?_
        rintro e WG ⟨⟨⟨q8, c8, rfl, hc8, h8⟩⟩, hg⟩
        replace gP := gP.trans hg
        replace g9 := g9.trans hg
        rw [HMG.out] at hc8 ⊢
        have HM8 := Lib.hid h8
        have g8 := Gr.refl WG
        clear hg h8 c6 HV2
        have a0 := HA0.out _ gP
        go_wp2_with fail
        refine (HLK.out _ gP q9 c9 (HM9.out.gr g9)).mono ?_
        rintro e WL ⟨⟨⟨q7, c7, es, rfl, he7, hk7, h7, hc7⟩⟩, hg⟩
        replace gP := gP.trans hg
        replace g9 := g9.trans hg
        replace g8 := g8.trans hg
        rw [HML.out] at hc7 he7 ⊢
        have HM7 := Lib.hid h7
        have HK7 := Lib.hid hk7
        have g7 := Gr.refl WL
        clear hg h7 hk7 a0 HLK
        go_wp2_with fail
        refine (marks_c (HM9.out.gr g9) HMV.out.symm (by omega)).mono ?_
        rintro e WK ⟨q6, c6', rfl, _, h6, hg⟩
        replace gP := gP.trans hg
        replace g9 := g9.trans hg
        replace g8 := g8.trans hg
        replace g7 := g7.trans hg
        clear hg
        go_wp2_with fail
        refine (refVec_c HMV.out.symm (by omega) h6).mono ?_
        clear h6
        rintro e WK2 ⟨rfl, hg⟩
        rw [HVZ.out]
        replace gP := gP.trans hg
        replace g9 := g9.trans hg
        replace g8 := g8.trans hg
        replace g7 := g7.trans hg
        clear hg
        go_wp2_with fail
        refine (entries_c (HM7.out.gr g7) he7.symm (by omega)).mono ?_
        rintro e WK3 ⟨q5, c5, rfl, _, h5, hg⟩
        replace gP := gP.trans hg
        replace g9 := g9.trans hg
        replace g8 := g8.trans hg
        replace g7 := g7.trans hg
        clear hg
        obtain ⟨ha7, hX7, hR7⟩ := sync_mrg HZ.out HSUB.out HLS.out HK7.out HSA.out
        have HX7 := Lib.hid hX7
        have HR7 := Lib.hid hR7
        have HF7 := Lib.hid (few_ek HK7.out (fun e he => HFW.out e (HLS.out.subset he)))
        have HA7 := Lib.hid ha7
        clear hX7 hR7 ha7
        go_wp2_with fail
        refine (refArch_c he7.symm (by omega) h5 HF7.out).mono ?_
        clear h5
        rintro e WK4 ⟨rfl, hg⟩
        rw [HA7.out]
        replace gP := gP.trans hg
        replace g9 := g9.trans hg
        replace g8 := g8.trans hg
        replace g7 := g7.trans hg
        clear hg
        have c6 := HC6.out _ gP
        go_wp2_with fail
        refine (merge_c HNL.out he7.symm (by omega) ⟨hc1, hc2⟩ hc7 (HEP.out.gr gP) (HM7.out.gr g7) HFP.out HF7.out).mono ?_
        rintro e WM ⟨⟨⟨q4, n4, c4, fs, rfl, HN4, HK4, h4, hc41, hc42⟩⟩, hg⟩
        rw [HX7.out]
        replace HK4 := Lib.hid (HK4.out.trans HR7.out)
        have hn4 : n4 = n := by have h1 := congrArg List.length HK4.out; have h2 := HN4.out; have h3 := HN.out; simp only [List.length_map] at h1; omega
        subst hn4
        replace gP := gP.trans hg
        replace g9 := g9.trans hg
        replace g8 := g8.trans hg
        replace g7 := g7.trans hg
        obtain ⟨WM2, hWM2, hg2, d0⟩ := box1 WM (.slice q4 n4 c4) 24
        have HFF := Lib.hid (fit_of ((archE_ek HK4.out).trans HZ.out) h4 (few_ek HK4.out HFW.out))
        have HM4 := Lib.hid h4
        have HWM2 := Lib.hid hWM2
        have HG2 := Lib.hid hg2
        have g4 := Gr.refl WM
        clear hg c6 h4 hWM2 hg2
        go_wp2_with fail
        rw [HWM2.out]
        have gP2 := gP.trans HG2.out
        have g92 := g9.trans HG2.out
        have g82 := g8.trans HG2.out
        have g72 := g7.trans HG2.out
        clear gP g9 g8 g7 d0
        refine (entries_c ((HM4.out).gr HG2.out) HN4.out (by omega)).mono ?_
        rintro e WN ⟨q3, c3, rfl, _, h3, hg⟩
        replace gP2 := gP2.trans hg
        replace g92 := g92.trans hg
        replace g82 := g82.trans hg
        replace g72 := g72.trans hg
        clear hg
        go_wp2_with fail
        refine (sameEns_c h3 (HXN.out.gr (HGXw.out.trans gP2)) HN4.out HK4.out (by omega) (fun e he => (HFF.out e he).1) (fun e he => (HFF.out e he).2)).mono ?_
        rintro e WN2 ⟨rfl, hg⟩
        replace gP2 := gP2.trans hg
        replace g92 := g92.trans hg
        replace g82 := g82.trans hg
        replace g72 := g72.trans hg
        have c6 := HC6.out _ gP2
        clear hg h3 g4
        go_wp2_with fail
        refine (entries_c (HEP.out.gr gP2) HNL.out (by omega)).mono ?_
        rintro e WR ⟨q2, c2, rfl, hc2', h2', hg⟩
        replace gP2 := gP2.trans hg
        replace g92 := g92.trans hg
        replace g82 := g82.trans hg
        replace g72 := g72.trans hg
        have HM2 := Lib.hid h2'
        have HGR2 := Lib.hid (Gr.refl WR)
        clear hg h2' c6
        have hmm := @run_makeMap Tryz.prog
        have hmG := mapG_new (ev := evNO) WR
        have gM := (Gr.refl WR).alloc (.map #[] 0)
        go_wp2_with fail
        clear hmm
        obtain ⟨WS, hWS⟩ : ∃ W, W = WR.alloc (.map #[] 0) := ⟨_, rfl⟩
        rw [← hWS] at hmG gM ⊢
        obtain ⟨G1, hG1⟩ : ∃ G, WR.heap.size = G := ⟨_, rfl⟩
        have hG1s : WR.heap.size ≤ G1 := by omega
        rw [hG1] at hmG ⊢
        clear hWS hG1
        have HGS := Lib.hid gM
        have HMS := Lib.hid hmG
        have HPR := Lib.hid gP2
        have H9R := Lib.hid g92
        have H8R := Lib.hid g82
        have HG7 := Lib.hid g72
        clear gM hmG gP2 g92 g82 g72
        go_loopg [126] mg (fun gk s126 wq => ∃ i : Nat, s126 = .int .i64 (i : Int) ∧ gk + i = mg ∧ Hid (MapG evNO wq G1 ((gp.take i).map fun m => (m.de, m.nu))) ∧ Hid (Gr WR wq))
        case atStart => exact ⟨0, rfl, by omega, HMS, HGS⟩
        case round =>
          obtain ⟨i, rfl, hgk, HM, HG⟩ := hrel
          by_cases hlt : i < mg
          · obtain ⟨y, hy⟩ : ∃ y, gp[i]? = some y := ⟨gp[i]'(by have := HMG.out; omega), List.getElem?_eq_getElem _⟩
            obtain ⟨b2, o2, rfl, hc2⟩ := HM8.out.out (by have := HMG.out; omega)
            obtain ⟨y0, y1⟩ := hc2 i y hy
            have gq := (H8R.out.trans HG.out)
            replace y0 := gq.cell y0
            replace y1 := gq.cell y1
            have hlt2 : (i : Int) < (mg : Int) := by omega
            have g1 := (Gr.refl wr).alloc (.cells #[.string y.de, .int .i64 y.nu] 84)
            obtain ⟨ob, hput, hks2⟩ := mapG_put uMapNO (HM.out.gr g1) y.de y.nu
            have hput2 : (Instr.mapUpdate 83 (.map (some G1)) (.string y.de) (.int .i64 y.nu)).run Tryz.prog _ = _ := hput
            rw [put_pr (fun m : MkR => m.nu) HVF.out.gasc hy] at hks2
            have HKS2 := Lib.hid hks2
            have HG2' := Lib.hid (gr_putG (ob := ob) (HG.out.trans g1) hG1s)
            clear hy hc2 g1 gq hks2 hput
            go_wp2_with fail
            go_roundg (gk - 1)
            case measure => omega
            case rel => exact ⟨i + 1, by go_num, by omega, HKS2, HG2'⟩
          · obtain rfl : mg = i := by omega
            obtain ⟨wq, hwq⟩ : ∃ W, W = wr := ⟨wr, rfl⟩
            subst hwq
            have hlt2 : ¬ (mg : Int) < (mg : Int) := by omega
            have hmap := HM.out
            rw [List.take_of_length_le (by have := HMG.out; omega)] at hmap
            have HMA := Lib.hid hmap
            have hmm := @run_makeMap Tryz.prog
            have hmG := mapG_new (ev := evBO) wq
            have gM := (Gr.refl wq).alloc (.map #[] 0)
            clear hmap HM HMS HGS
            go_wp2_with fail
            clear hmm
            obtain ⟨WT, hWT⟩ : ∃ W, W = wq.alloc (.map #[] 0) := ⟨_, rfl⟩
            rw [← hWT] at hmG gM ⊢
            obtain ⟨G2, hG2⟩ : ∃ G, wq.heap.size = G := ⟨_, rfl⟩
            have hG2s : wq.heap.size ≤ G2 := by omega
            rw [hG2] at hmG ⊢
            clear hWT hG2
            have HGT := Lib.hid gM
            have HMT := Lib.hid hmG
            have HPQ := Lib.hid (HPR.out.trans HG.out)
            have H9Q := Lib.hid (H9R.out.trans HG.out)
            have H7Q := Lib.hid (HG7.out.trans HG.out)
            have HRQ := HG
            clear gM hmG HPR H9R HG
            go_loopg [139] mv (fun gk s139 wr => ∃ i : Nat, s139 = .int .i64 (i : Int) ∧ gk + i = mv ∧ Hid (MapG evBO wr G2 ((v.take i).map fun m => (m.de, true))) ∧ Hid (Gr wq wr))
            case atStart => exact ⟨0, rfl, by omega, HMT, HGT⟩
            case round =>
              obtain ⟨i, rfl, hgk, HM, HG⟩ := hrel
              by_cases hlt : i < mv
              · obtain ⟨m, hm⟩ : ∃ y, v[i]? = some y := ⟨v[i]'(by have := HMV.out; omega), List.getElem?_eq_getElem _⟩
                obtain ⟨b2, o2, rfl, hc2⟩ := HM9.out.out (by have := HMV.out; omega)
                obtain ⟨y0, y1⟩ := hc2 i m hm
                have gq := H9Q.out.trans HG.out
                replace y0 := gq.cell y0
                replace y1 := gq.cell y1
                have hlt2 : (i : Int) < (mv : Int) := by omega
                have HMEM := Lib.hid (List.mem_of_getElem? hm)
                obtain ⟨cN, hcn, hex, hno, _⟩ := HVF.out.one m HMEM.out
                rw [hcn] at y1
                have HCN := Lib.hid hcn
                have HEX := Lib.hid hex
                have HNO := Lib.hid hno
                have hc1000 : cN ≤ 1000 := by
                  rcases Nat.eq_zero_or_pos cN with h | h
                  · omega
                  · obtain ⟨e, he, _, h2⟩ := hex cN h (Nat.le_refl _)
                    have := (entry_parts ((arch_ord HAP.out).2 e he)).2.2
                    omega
                obtain ⟨WB1, hWB1, g1, b0, b1⟩ := box2 wr (.string m.de) (.int .i64 (cN : Int)) 84
                rw [← hWB1] at g1 b0 b1
                obtain ⟨ob, hput, hks2⟩ := mapG_put uMapBO (HM.out.gr g1) m.de true
                have hput2 : (Instr.mapUpdate 85 (.map (some G2)) (.string m.de) (.bool true)).run Tryz.prog _ = _ := hput
                have hpp : putG ((v.take i).map fun m => (m.de, true)) m.de true = (v.take (i + 1)).map fun m => (m.de, true) := put_pr (fun _ => true) HVF.out.asc hm
                rw [hpp] at hks2
                have e0 := MapG.cellO (HM.out.gr g1) b0 ob
                have e1 := MapG.cellO (HM.out.gr g1) b1 ob
                have hgr := gr_putG (ob := ob) (HG.out.trans g1) hG2s
                obtain ⟨U0, hU0⟩ : ∃ U, putGB (wr.alloc (.cells #[.string m.de, .int .i64 (cN : Int)] 84)) G2 ob = U := ⟨_, rfl⟩
                obtain ⟨B, hB⟩ : ∃ B, wr.heap.size = B := ⟨_, rfl⟩
                have HU0 := Lib.hid hU0
                have HBB := Lib.hid hB
                rw [hU0] at hks2 e0 e1 hgr
                rw [hB] at e0 e1
                have HKS2 := Lib.hid hks2
                have HE0 := Lib.hid e0
                have HE1 := Lib.hid e1
                have HGU := Lib.hid hgr
                clear hm hc2 g1 gq hks2 hput hpp hcn hex hno b0 b1 e0 e1 hgr hU0 hB hWB1 HM HG
                go_wp2_with fail
                rw [HU0.out]
                try rw [HBB.out]
                clear hput2 HU0 HBB
                go_loopg [24] cN (fun gk s24 wr => ∃ j : Nat, s24 = .int .i64 (j : Int) ∧ 1 ≤ j ∧ gk + j = cN + 1 ∧ Hid (Gr U0 wr))
                case atStart => exact ⟨1, by rfl, by omega, by omega, Gr.refl _⟩
                case round =>
                  obtain ⟨j, rfl, hj1, hgj, HG3⟩ := hrel
                  have q0 := HG3.out.cell HE0.out
                  have q1 := HG3.out.cell HE1.out
                  by_cases hjc : j ≤ cN
                  · have hj2 : (j : Int) ≤ (cN : Int) := by omega
                    go_wp2_with fail
                    refine (findX_c m.de (j : Int) HNL.out (by omega) (HM2.out.gr ((HRQ.out.trans HGU.out).trans HG3.out))).mono ?_
                    rintro e w' ⟨⟨⟨rfl, hno2⟩ | ⟨k, rfl, _⟩⟩, hg⟩
                    · exact absurd (HEX.out j (by omega) hjc) hno2
                    · have hk0 : ¬ ((k : Int) < 0) := by omega
                      have HG4 := Lib.hid (HG3.out.trans hg)
                      clear hg q0 q1
                      go_wp2_with fail
                      go_roundg (gk - 1)
                      case measure => omega
                      case rel => exact ⟨j + 1, by go_num, by omega, by omega, HG4⟩
                  · obtain ⟨U1, hU1⟩ : ∃ U, U = wr := ⟨wr, rfl⟩
                    subst hU1
                    have hj2 : ¬ (j : Int) ≤ (cN : Int) := by omega
                    have HGV := HG3
                    go_wp2_with fail
                    clear q0 q1
                    go_loopg [25, 160] np (fun gk s25 s160 wr => ∃ (i3 : Nat) (bl : Bool), s160 = .int .i64 (i3 : Int) ∧ s25 = .bool bl ∧ gk + i3 = np ∧ Hid (laterB (PP.take i3) m = bl) ∧ Hid (Gr U1 wr))
                    case atStart => exact ⟨0, false, rfl, rfl, by omega, rfl, Gr.refl _⟩
                    case round =>
                      obtain ⟨i3, bl, rfl, rfl, hg3, HBL, HG4⟩ := hrel
                      by_cases hl3 : i3 < np
                      · obtain ⟨x, hx⟩ : ∃ x, PP[i3]? = some x := ⟨PP[i3]'(by have := HNL.out; omega), List.getElem?_eq_getElem _⟩
                        obtain ⟨b3, o3, rfl, hc3⟩ := HM2.out.out (by have := HNL.out; omega)
                        have gq := (((HRQ.out.trans HGU.out).trans HGV.out).trans HG4.out)
                        obtain ⟨a0, a1, a2, a3, a4, a5, a6, _⟩ := (hc3 i3 x hx).gr gq
                        have hl32 : (i3 : Int) < (np : Int) := by omega
                        have HADD : Hid (laterB (PP.take (i3 + 1)) m = (bl || ((x.de.toList == m.de.toList) && decide (m.nu < x.nu)))) := by
                          rw [Hid, List.take_add_one, hx, Option.toList_some, laterB_add, HBL.out]
                        rw [HCN.out] at HADD
                        have q0 := HG4.out.cell (HGV.out.cell HE0.out)
                        have q1 := HG4.out.cell (HGV.out.cell HE1.out)
                        have gB := (Gr.refl wr).alloc (.cells #[.string x.de, .int .i64 x.nu, .int .i64 x.ck, .string x.ro, .int .i64 x.va, .string x.st, .slice x.p x.n x.cap] 65)
                        replace q0 := gB.cell q0
                        replace q1 := gB.cell q1
                        have HG5 := Lib.hid (HG4.out.trans gB)
                        clear hx hc3 gq gB HG4 HBL
                        cases hbl : bl
                        · subst hbl
                          cases hq : (x.de.toList == m.de.toList)
                          · rw [hq] at HADD
                            go_wp2_with fail
                            go_roundg (gk - 1)
                            case measure => omega
                            case rel => exact ⟨i3 + 1, false, by go_num, rfl, by omega, HADD, HG5⟩
                          · rw [hq] at HADD
                            cases hu : decide ((cN : Int) < x.nu)
                            · rw [hu] at HADD
                              have hu2 : ¬ ((cN : Int) < x.nu) := of_decide_eq_false hu
                              go_wp2_with fail
                              go_roundg (gk - 1)
                              case measure => omega
                              case rel => exact ⟨i3 + 1, false, by go_num, rfl, by omega, HADD, HG5⟩
                            · rw [hu] at HADD
                              have hu2 : ((cN : Int) < x.nu) := of_decide_eq_true hu
                              go_wp2_with fail
                              go_roundg (gk - 1)
                              case measure => omega
                              case rel => exact ⟨i3 + 1, true, by go_num, rfl, by omega, HADD, HG5⟩
                        · subst hbl
                          go_wp2_with fail
                          go_roundg (gk - 1)
                          case measure => omega
                          case rel => exact ⟨i3 + 1, true, by go_num, rfl, by omega, HADD, HG5⟩
                      · obtain rfl : np = i3 := by omega
                        obtain ⟨U2, hU2⟩ : ∃ U, U = wr := ⟨wr, rfl⟩
                        subst hU2
                        have hl32 : ¬ (np : Int) < (np : Int) := by omega
                        have hlat := HBL.out
                        rw [List.take_of_length_le (by have := HNL.out; omega)] at hlat
                        have HLAT := Lib.hid hlat
                        have q0 := HG4.out.cell (HGV.out.cell HE0.out)
                        have q1 := HG4.out.cell (HGV.out.cell HE1.out)
                        have HG5 := Lib.hid (HGV.out.trans HG4.out)
                        clear hlat HBL HGV HG4
                        go_wp2_with fail
                        refine (findX_c m.de ((cN : Int) + 1) HNL.out (by omega) (HM2.out.gr ((HRQ.out.trans HGU.out).trans HG5.out))).mono ?_
                        rintro e U3 ⟨⟨⟨rfl, _⟩ | ⟨k, rfl, x, hx, hd, hn⟩⟩, hg⟩
                        · have HGU3 := Lib.hid (HG5.out.trans hg)
                          have hlook := mapG_look uMapNO zeroNO (HMA.out.gr (HGU.out.trans HGU3.out)) m.de
                          rw [getD_evNO] at hlook
                          replace q0 := hg.cell q0
                          replace q1 := hg.cell q1
                          clear hg
                          rcases gap_at HVF.out HMEM.out with ⟨h1, h2⟩ | ⟨h1, h2⟩
                          · rw [h1, HCN.out] at hlook
                            have hbl : bl = true := by rw [← HLAT.out]; exact laterB_iff.2 h2
                            subst hbl
                            clear h1 h2
                            go_upto_region 44 with fail
                            clear hlook
                            clear q0 q1
                            go_wp2_with fail
                            go_loopg [213] mL (fun gk s213 wr => ∃ i4 : Nat, s213 = .int .i64 (i4 : Int) ∧ gk + i4 = mL ∧ Hid (Gr U3 wr))
                            case atStart => exact ⟨0, rfl, by omega, Gr.refl _⟩
                            case round =>
                              obtain ⟨i4, rfl, hg4, HG6⟩ := hrel
                              have q0 := HG6.out.cell (HGU3.out.cell HE0.out)
                              have q1 := HG6.out.cell (HGU3.out.cell HE1.out)
                              by_cases hl4 : i4 < mL
                              · obtain ⟨x, hx⟩ : ∃ x, es[i4]? = some x := ⟨es[i4]'(by omega), List.getElem?_eq_getElem _⟩
                                obtain ⟨b4, o4, rfl, hc4⟩ := HM7.out.out (by omega)
                                have gq := ((H7Q.out.trans HGU.out).trans HGU3.out).trans HG6.out
                                obtain ⟨a0, a1, a2, a3, a4, a5, a6, _⟩ := (hc4 i4 x hx).gr gq
                                have hl42 : (i4 : Int) < (mL : Int) := by omega
                                have HNB : Hid (x.de = m.de → ¬ x.nu ≤ (cN : Int)) := fun hd => by
                                  have h1 : ek x ∈ L.map ek := HK7.out ▸ List.mem_map_of_mem (List.mem_of_getElem? hx)
                                  obtain ⟨z, hz, he⟩ := List.mem_map.1 h1
                                  have e1 : z.de = x.de := congrArg (fun t => t.1) he
                                  have e2 : z.nu = x.nu := congrArg (fun t => t.2.1) he
                                  have h3 := (HLQ.out z hz).2
                                  rw [e1, hd, lastN_at HVF.out.asc HMEM.out, HCN.out, e2] at h3
                                  omega
                                have HQQ : Hid ((x.de.toList == m.de.toList) = true ↔ x.de = m.de) := baEq
                                have gB := (Gr.refl wr).alloc (.cells #[.string x.de, .int .i64 x.nu, .int .i64 x.ck, .string x.ro, .int .i64 x.va, .string x.st, .slice x.p x.n x.cap] 77)
                                replace q0 := gB.cell q0
                                replace q1 := gB.cell q1
                                have HG9 := Lib.hid (HG6.out.trans gB)
                                clear hx hc4 gq gB HG6
                                cases hq : (x.de.toList == m.de.toList)
                                · clear HNB HQQ
                                  go_wp2_with fail
                                  go_roundg (gk - 1)
                                  case measure => omega
                                  case rel => exact ⟨i4 + 1, by go_num, by omega, HG9⟩
                                · have hle : ¬ x.nu ≤ (cN : Int) := HNB.out (HQQ.out.1 hq)
                                  clear HNB HQQ
                                  go_wp2_with fail
                                  go_roundg (gk - 1)
                                  case measure => omega
                                  case rel => exact ⟨i4 + 1, by go_num, by omega, HG9⟩
                              · obtain rfl : mL = i4 := by omega
                                have hl42 : ¬ (mL : Int) < (mL : Int) := by omega
                                have HG9 := Lib.hid (HGU3.out.trans HG6.out)
                                have HK9 := Lib.hid (HKS2.out.gr HG9.out)
                                have HGZ := Lib.hid (HGU.out.trans HG9.out)
                                clear q0 q1
                                go_wp2_with fail
                                go_roundg (mv - (i + 1))
                                case measure => omega
                                case rel => exact ⟨i + 1, by go_num, by omega, HK9, HGZ⟩
                          · rw [h1] at hlook
                            have hbl : bl = false := by
                              cases hb : bl
                              · rfl
                              · rw [hb] at HLAT; exact absurd (laterB_iff.1 HLAT.out) h2
                            subst hbl
                            have hne : ¬ ((0 : Int) = (cN : Int) + 1) := by omega
                            have hbq : ((0 : Int) == (cN : Int) + 1) = false := beq_eq_false_iff_ne.2 hne
                            clear h1 h2
                            go_upto_region 44 with fail
                            clear hlook hne hbq
                            clear q0 q1
                            go_wp2_with fail
                            go_loopg [213] mL (fun gk s213 wr => ∃ i4 : Nat, s213 = .int .i64 (i4 : Int) ∧ gk + i4 = mL ∧ Hid (Gr U3 wr))
                            case atStart => exact ⟨0, rfl, by omega, Gr.refl _⟩
                            case round =>
                              obtain ⟨i4, rfl, hg4, HG6⟩ := hrel
                              have q0 := HG6.out.cell (HGU3.out.cell HE0.out)
                              have q1 := HG6.out.cell (HGU3.out.cell HE1.out)
                              by_cases hl4 : i4 < mL
                              · obtain ⟨x, hx⟩ : ∃ x, es[i4]? = some x := ⟨es[i4]'(by omega), List.getElem?_eq_getElem _⟩
                                obtain ⟨b4, o4, rfl, hc4⟩ := HM7.out.out (by omega)
                                have gq := ((H7Q.out.trans HGU.out).trans HGU3.out).trans HG6.out
                                obtain ⟨a0, a1, a2, a3, a4, a5, a6, _⟩ := (hc4 i4 x hx).gr gq
                                have hl42 : (i4 : Int) < (mL : Int) := by omega
                                have HNB : Hid (x.de = m.de → ¬ x.nu ≤ (cN : Int)) := fun hd => by
                                  have h1 : ek x ∈ L.map ek := HK7.out ▸ List.mem_map_of_mem (List.mem_of_getElem? hx)
                                  obtain ⟨z, hz, he⟩ := List.mem_map.1 h1
                                  have e1 : z.de = x.de := congrArg (fun t => t.1) he
                                  have e2 : z.nu = x.nu := congrArg (fun t => t.2.1) he
                                  have h3 := (HLQ.out z hz).2
                                  rw [e1, hd, lastN_at HVF.out.asc HMEM.out, HCN.out, e2] at h3
                                  omega
                                have HQQ : Hid ((x.de.toList == m.de.toList) = true ↔ x.de = m.de) := baEq
                                have gB := (Gr.refl wr).alloc (.cells #[.string x.de, .int .i64 x.nu, .int .i64 x.ck, .string x.ro, .int .i64 x.va, .string x.st, .slice x.p x.n x.cap] 77)
                                replace q0 := gB.cell q0
                                replace q1 := gB.cell q1
                                have HG9 := Lib.hid (HG6.out.trans gB)
                                clear hx hc4 gq gB HG6
                                cases hq : (x.de.toList == m.de.toList)
                                · clear HNB HQQ
                                  go_wp2_with fail
                                  go_roundg (gk - 1)
                                  case measure => omega
                                  case rel => exact ⟨i4 + 1, by go_num, by omega, HG9⟩
                                · have hle : ¬ x.nu ≤ (cN : Int) := HNB.out (HQQ.out.1 hq)
                                  clear HNB HQQ
                                  go_wp2_with fail
                                  go_roundg (gk - 1)
                                  case measure => omega
                                  case rel => exact ⟨i4 + 1, by go_num, by omega, HG9⟩
                              · obtain rfl : mL = i4 := by omega
                                have hl42 : ¬ (mL : Int) < (mL : Int) := by omega
                                have HG9 := Lib.hid (HGU3.out.trans HG6.out)
                                have HK9 := Lib.hid (HKS2.out.gr HG9.out)
                                have HGZ := Lib.hid (HGU.out.trans HG9.out)
                                clear q0 q1
                                go_wp2_with fail
                                go_roundg (mv - (i + 1))
                                case measure => omega
                                case rel => exact ⟨i + 1, by go_num, by omega, HK9, HGZ⟩
                        · exact absurd hn (HNO.out x hx hd)
              · obtain rfl : mv = i := by omega
                obtain ⟨wk, hwk⟩ : ∃ W, W = wr := ⟨wr, rfl⟩
                subst hwk
                have hlt2 : ¬ (mv : Int) < (mv : Int) := by omega
                have hmap := HM.out
                rw [List.take_of_length_le (by have := HMV.out; omega)] at hmap
                have HMB := Lib.hid hmap
                have HGK := HG
                clear hmap HM HMT HGT
                go_wp2_with fail
                go_loopg [233] np (fun gk s233 wr => ∃ i5 : Nat, s233 = .int .i64 (i5 : Int) ∧ gk + i5 = np ∧ Hid (Gr wk wr))
                case atStart => exact ⟨0, rfl, by omega, Gr.refl _⟩
                case round =>
                  obtain ⟨i5, rfl, hg5, HG8⟩ := hrel
                  by_cases hl5 : i5 < np
                  · obtain ⟨x, hx⟩ : ∃ x, PP[i5]? = some x := ⟨PP[i5]'(by have := HNL.out; omega), List.getElem?_eq_getElem _⟩
                    obtain ⟨b5, o5, rfl, hc5⟩ := HM2.out.out (by have := HNL.out; omega)
                    have gq := (HRQ.out.trans HGK.out).trans HG8.out
                    obtain ⟨a0, a1, a2, a3, a4, a5, a6, _⟩ := (hc5 i5 x hx).gr gq
                    have hl52 : (i5 : Int) < (np : Int) := by omega
                    have gB := (Gr.refl wr).alloc (.cells #[.string x.de, .int .i64 x.nu, .int .i64 x.ck, .string x.ro, .int .i64 x.va, .string x.st, .slice x.p x.n x.cap] 65)
                    obtain ⟨m, hm, hmd⟩ := HVF.out.all x (List.mem_of_getElem? hx)
                    have hl : lookG (v.map fun m => (m.de, true)) x.de = some true := by
                      rw [← hmd]; exact look_pr (fun _ => true) v HVF.out.asc m hm
                    have hlook := mapG_look uMapBO zeroBO (HMB.out.gr (HG8.out.trans gB)) x.de
                    rw [getD_evBO, hl] at hlook
                    have HG9 := Lib.hid (HG8.out.trans gB)
                    clear hx hc5 gq gB HG8 hm hmd hl
                    go_wp2_with fail
                    go_roundg (gk - 1)
                    case measure => omega
                    case rel => exact ⟨i5 + 1, by go_num, by omega, HG9⟩
                  · obtain rfl : np = i5 := by omega
                    have hl52 : ¬ (np : Int) < (np : Int) := by omega
                    have hlen1 := fun ty => mapG_len uMapBO (HMB.out.gr HG8.out) ty
                    have hlen2 := fun ty => mapG_len uMapNO (HMA.out.gr (HGK.out.trans HG8.out)) ty
                    rw [List.length_map, HMV.out] at hlen1
                    rw [List.length_map, HMG.out] at hlen2
                    go_wp2_with fail
                    refine (HA.out _ (HGw.out.trans ((HPQ.out.trans HGK.out).trans HG8.out))).mono ?_
                    rintro e W9 ⟨rfl, hg⟩
                    have g9 := (HGw.out.trans ((HPQ.out.trans HGK.out).trans HG8.out)).trans hg
                    clear hlen1 hlen2
                    go_wp2_with fail
                    go_ret
                    exact ⟨by rfl, g9⟩
  · have hzb : (archE l != 0) = true := bne_iff_ne.2 hz
    have hfw := hfew
    go_wp2_with fail
    refine (HRA.out _ gX).mono ?_
    rintro e WA ⟨rfl, hg⟩
    replace g := g.trans hg
    clear hg
    go_wp2_with fail
    refine (HA.out _ g).mono ?_
    rintro e W9 ⟨rfl, hg⟩
    replace g := g.trans hg
    go_wp2_with fail
    go_ret
    exact ⟨by rfl, g⟩
end Go.Proofs.YtnihclhhbegjhaaGreatDoor
