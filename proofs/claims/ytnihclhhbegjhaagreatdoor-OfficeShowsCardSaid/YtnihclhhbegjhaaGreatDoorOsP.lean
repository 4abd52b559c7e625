/- Archives (chapter 10): the law OfficeShows. -/
import Derived.Test.YtnihclhhbegjhaaGreatDoorOsN
namespace Go.Proofs.YtnihclhhbegjhaaGreatDoor
open Go.RowKit Go.Lib
set_option linter.unusedSimpArgs false
set_option linter.unusedVariables false
theorem when10_c (b : Bool) (n : Int) (w : World) :
    Calls Tryz.prog 26 #[.bool b, .int .i64 n] w fun e w' => e = .returned (.int .i64 (if b then n else 0)) ∧ w = w' := by
  cases b
  all_goals
    go_enter Tryz.func26, Tryz.ntmps26
    go_wp2_with fail
    go_ret
    exact ⟨rfl, rfl⟩
theorem name10_c (s : ByteArray) (w : World) :
    Calls Tryz.prog 16 #[.string s] w fun e w' => e = .returned (.int .i64 (nmE s)) ∧ w = w' := by
  have HI := Lib.hid (refIsName_c s w)
  have HZ : Hid (nmE s = if (!decide (Nm s)) = true then 8 else 0) := by
    rw [Hid]; unfold nmE
    by_cases h : Nm s
    · simp [h]
    · simp [h]
  have HWT := Lib.hid (when10_c true 8 w)
  have HWF := Lib.hid (when10_c false 8 w)
  generalize nmE s = z at *
  generalize decide (Nm s) = b at *
  cases b
  · go_enter Tryz.func16, Tryz.ntmps16
    go_wp2_with fail
    refine HI.out.mono ?_
    rintro e w9 ⟨rfl, rfl⟩
    go_wp2_with fail
    refine HWT.out.mono ?_
    rintro e w9 ⟨rfl, rfl⟩
    go_wp2_with fail
    go_ret
    exact ⟨by rw [HZ.out]; rfl, rfl⟩
  · go_enter Tryz.func16, Tryz.ntmps16
    go_wp2_with fail
    refine HI.out.mono ?_
    rintro e w9 ⟨rfl, rfl⟩
    go_wp2_with fail
    refine HWF.out.mono ?_
    rintro e w9 ⟨rfl, rfl⟩
    go_wp2_with fail
    go_ret
    exact ⟨by rw [HZ.out]; rfl, rfl⟩
theorem str_set {w : World} {v : Value} {L : List ByteArray} {p : Addr} {x : Value} (h : StrAts w v L) (hb : ∀ q n c, v = .slice q n c → ∀ ad, q = some ad → ad.block ≠ p.block) : StrAts (w.setCell p x) v L := by
  obtain ⟨⟨q, cap, rfl, hcap, hh⟩⟩ := h
  refine ⟨q, cap, rfl, hcap, fun h0 => ?_⟩
  obtain ⟨b, off, rfl, hc⟩ := hh h0
  refine ⟨b, off, rfl, fun i s hs => ⟨cell_setO p x (hc i s hs).nm (fun e => hb _ _ _ rfl _ rfl (by rw [e]))⟩⟩
theorem shL_bounds {H : List EnR} {ys : List RowR} (h : ∀ f ∈ H, f.xs.length ≤ 160 ∧ ∀ y ∈ f.xs, y.xs.length ≤ 19) (he : ys.map rk = (shL H).2.2.2.map rk) : ys.length ≤ 160 ∧ ∀ x ∈ ys, x.xs.length ≤ 19 := by
  have hb : (shL H).2.2.2.length ≤ 160 ∧ ∀ y ∈ (shL H).2.2.2, y.xs.length ≤ 19 := by
    unfold shL
    cases hg : H.getLast? with
    | none => simp
    | some x => exact h x (List.mem_of_getLast? hg)
  refine ⟨by have := congrArg List.length he; simp only [List.length_map] at this; omega, fun x hx => ?_⟩
  have h2 : rk x ∈ (shL H).2.2.2.map rk := by rw [← he]; exact List.mem_map_of_mem hx
  obtain ⟨y, hy, hyx⟩ := List.mem_map.1 h2
  have h3 : y.xs = x.xs := congrArg (fun z => z.2.2) hyx
  rw [← h3]; exact hb.2 y hy
/-- a sheet that is returned, whose rows are those of an earlier world -/
structure RetSh0 (w : World) (e : Ending) (h : List EnR) (er : Value) : Prop where
  mk' ::
  out : ∃ ro va st q n k ys, e = .returned (.tuple #[.agg #[.string ro, .int .i64 va, .string st, .slice q n k], er]) ∧ Hid (ro = (shL h).1 ∧ va = (shL h).2.1 ∧ st = (shL h).2.2.1) ∧ RowsX w q n k ys ∧ Hid (ys.map rk = (shL h).2.2.2.map rk)
set_option maxHeartbeats 4000000 in
set_option maxRecDepth 100000 in
theorem refShown_o {w0 w : World} {q : Option Addr} {l : List EnR} {n cap : Nat} (ro : ByteArray) (hn : n = l.length) (h1 : n ≤ 12) (hr : EnS w0 q l) (k0 : Gr w0 w) :
    Calls Tryz.prog 25 #[.slice q n cap, .string ro] w fun e w' => RetSh0 w0 e (hisL l ro) (.bool (!(hisL l ro).isEmpty)) ∧ Gr w w' := by
  have HE := Lib.hid (fun V (g : Gr w V) => his_c (cap := cap) ro hn (by omega) ((hr.gr k0).gr g))
  have hrx := hr.rowsX
  have HRX := Lib.hid (fun e (h : e ∈ hisL l ro) => hrx e (hisL_mem h))
  have HLN := Lib.hid (show (hisL l ro).length ≤ 12 from Nat.le_trans (hisL_len l ro) (by omega))
  generalize hisL l ro = H at *
  clear hr hn hrx k0
  obtain ⟨W2, hW2, g2, z0, z1, z2, z3⟩ := box4 w (.string ⟨#[]⟩) (.int .i64 0) (.string ⟨#[]⟩) (.slice none 0 0) 32
  have hb2 : W2.heap[w.heap.size]? = some (.cells #[.string ⟨#[]⟩, .int .i64 0, .string ⟨#[]⟩, .slice none 0 0] 32 (0, 0)) := by rw [← hW2]; exact heap_alloc_new w _
  have HW2 := Lib.hid hW2
  obtain ⟨Sx, hSx⟩ : ∃ S, w.heap.size = S := ⟨_, rfl⟩
  rw [hSx] at hb2 z0 z1 z2 z3
  have HSX := Lib.hid hSx
  go_enter Tryz.func25, Tryz.ntmps25
  go_wp2_with fail
  try rw [HW2.out]
  try rw [hSx]
  clear HW2 hW2 hSx
  refine (HE.out _ g2).mono ?_
  rintro e W3 ⟨⟨⟨q3, c3, rfl, _, hes⟩⟩, hg⟩
  replace hb2 := Gr.block hg hb2
  replace z0 := hg.cell z0
  replace z1 := hg.cell z1
  replace z2 := hg.cell z2
  replace z3 := hg.cell z3
  have hgg := g2.trans hg
  obtain ⟨m, hm⟩ : ∃ m, m = H.length := ⟨_, rfl⟩
  have HM := Lib.hid hm
  rw [← hm]
  clear g2 hg HE hm
  rcases Nat.eq_zero_or_pos m with h0 | h0
  · subst h0
    obtain rfl : H = [] := List.eq_nil_of_length_eq_zero HM.out.symm
    have f2 : ∀ o, W3.frozen? ⟨Sx, o, none⟩ = false := fun o => frozen_of_row _ _ o _ _ hb2
    have HBS := Lib.hid hb2
    have hsx : w.heap.size ≤ Sx := by have := HSX.out; omega
    have HGF := Lib.hid hgg
    clear hb2 hgg hes
    go_wp2_with fail
    have hb4 := set4O HBS.out (.string ⟨#[]⟩) (.int .i64 0) (.string ⟨#[]⟩) (.slice none 0 0)
    obtain ⟨y0, y1, y2, y3⟩ := cells4_ofO hb4
    refine bodyPost_ret (v := .tuple #[.agg #[.string ⟨#[]⟩, .int .i64 0, .string ⟨#[]⟩, .slice none 0 0], .bool false]) (by simp [results, Tryz.results25, go_sem, y0, y1, y2, y3]) rfl ⟨⟨_, _, _, _, _, _, [], rfl, ⟨rfl, rfl, rfl⟩, rows_nil _, rfl⟩, ?_⟩
    exact Below.setCell (Below.setCell (Below.setCell (Below.setCell HGF.out (by show w.heap.size ≤ Sx; omega) _) (by show w.heap.size ≤ Sx; omega) _) (by show w.heap.size ≤ Sx; omega) _) (by show w.heap.size ≤ Sx; omega) _
  · obtain ⟨b, off, rfl, hc⟩ := hes.out (by have := HM.out; omega)
    obtain ⟨a, rfl⟩ : ∃ a, m = a + 1 := ⟨m - 1, by omega⟩
    obtain ⟨x, hx⟩ : ∃ x, H[a]? = some x := ⟨H[a]'(by have := HM.out; omega), List.getElem?_eq_getElem _⟩
    have HHN : Hid ((!H.isEmpty) = true) := by
      cases H with
      | nil => simp at hx
      | cons _ _ => rfl
    have HSL : Hid (shL H = (x.ro, x.va, x.st, x.xs)) := shL_last (by rw [← HM.out]; exact hx)
    have HRW := Lib.hid (HRX.out x (List.mem_of_getElem? hx))
    obtain ⟨x0, x1, x2, x3, x4, x5, x6, _⟩ := hc a x hx
    have haw : IntKind.i64.wrap (a : Int) = a := by rw [IntKind.wrap_i64]; have := HM.out; have := HLN.out; omega
    have hae : (((a : Int) + 1) == 0) = false := beq_eq_false_iff_ne.2 (by omega)
    have hae2 : ¬ a + 1 = 0 := by omega
    have f2 : ∀ o, W3.frozen? ⟨Sx, o, none⟩ = false := fun o => frozen_of_row _ _ o _ _ hb2
    have HBS := Lib.hid hb2
    have hsx : w.heap.size ≤ Sx := by have := HSX.out; omega
    have HGF := Lib.hid hgg
    clear hx hc hes hb2 hgg
    go_wp2_with fail
    have hGG : Gr w ((((W3.setCell ⟨Sx, 0, none⟩ (.string x.ro)).setCell ⟨Sx, 1, none⟩ (.int .i64 x.va)).setCell ⟨Sx, 2, none⟩ (.string x.st)).setCell ⟨Sx, 3, none⟩ (.slice x.p x.n x.cap)) := Below.setCell (Below.setCell (Below.setCell (Below.setCell HGF.out (by show w.heap.size ≤ Sx; omega) _) (by show w.heap.size ≤ Sx; omega) _) (by show w.heap.size ≤ Sx; omega) _) (by show w.heap.size ≤ Sx; omega) _
    have hb4 := set4O HBS.out (.string x.ro) (.int .i64 x.va) (.string x.st) (.slice x.p x.n x.cap)
    obtain ⟨y0, y1, y2, y3⟩ := cells4_ofO hb4
    refine bodyPost_ret (v := .tuple #[.agg #[.string x.ro, .int .i64 x.va, .string x.st, .slice x.p x.n x.cap], .bool true]) (by simp [results, Tryz.results25, go_sem, y0, y1, y2, y3]) rfl ⟨⟨_, _, _, _, _, _, x.xs, by rw [HHN.out], by rw [HSL.out]; exact ⟨rfl, rfl, rfl⟩, HRW.out, by rw [HSL.out]; rfl⟩, ?_⟩
    exact Below.setCell (Below.setCell (Below.setCell (Below.setCell HGF.out (by show w.heap.size ≤ Sx; omega) _) (by show w.heap.size ≤ Sx; omega) _) (by show w.heap.size ≤ Sx; omega) _) (by show w.heap.size ≤ Sx; omega) _
set_option maxHeartbeats 4000000 in
set_option maxRecDepth 100000 in
theorem lawShows_c {w : World} {q : Option Addr} {l : List EnR} {n cap : Nat} (ro : ByteArray) (hr : EnS w q l) (hn : n = l.length) (hb : n * 96 ≤ 140737488355328)
    (hA : ∀ W1, Gr w W1 → Calls Tryz.prog 10 #[] W1 fun e w' => e = .returned (.bool true) ∧ Gr W1 w') :
    Calls Tryz.prog 4 #[.agg #[.slice q n cap], .string ro] w fun e w' => e = .returned (.bool true) ∧ Gr w w' := by
  obtain ⟨W, hW, g, a0⟩ := box1 w (.slice q n cap) 24
  have HW := Lib.hid hW
  have HA := Lib.hid hA
  have HN := Lib.hid hn
  have HR := Lib.hid hr
  have HE := Lib.hid (fun V (k : Gr w V) => entries_c (cap := cap) (hr.gr k) hn hb)
  clear hW hA hr hb hn
  go_enter Tryz.func4, Tryz.ntmps4
  go_wp2_with fail
  rw [HW.out]
  clear HW
  generalize w.heap.size = L at *
  go_wp2_with fail
  refine (HE.out _ g).mono ?_
  rintro e WX ⟨qx, cx, rfl, ⟨hcx1, hcx2⟩, hx, hg⟩
  replace a0 := hg.cell a0
  replace g := g.trans hg
  clear hg HE
  have HXN := Lib.hid hx
  have HS1 := Lib.hid (fun V (k : Gr _ V) => shortEn_c (cap := cx) (k := 12) (hx.gr k) HN.out (by omega))
  have gX := Gr.refl WX
  clear hx
  rcases Nat.lt_or_ge 60 ro.size with q60 | q60
  · go_wp2_with fail
    refine (HS1.out _ gX).mono ?_
    rintro e W9 ⟨⟨r, rfl, hr1⟩, hg⟩
    replace g := g.trans hg
    clear hg HS1 gX hr1
    cases r
    all_goals
      go_wp2_with fail
      refine (HA.out _ g).mono ?_
      rintro e W9 ⟨rfl, hg⟩
      replace g := g.trans hg
      go_wp2_with fail
      go_ret
      exact ⟨rfl, g⟩
  have q61 : ¬ 60 < ro.size := by omega
  go_wp2_with fail
  refine (HS1.out _ gX).mono ?_
  rintro e W9 ⟨⟨r, rfl, hr1⟩, hg⟩
  replace a0 := hg.cell a0
  replace gX := gX.trans hg
  replace g := g.trans hg
  clear hg HS1
  cases r
  · clear hr1
    go_wp2_with fail
    refine (HA.out _ g).mono ?_
    rintro e W9 ⟨rfl, hg⟩
    replace g := g.trans hg
    go_wp2_with fail
    go_ret
    exact ⟨rfl, g⟩
  obtain ⟨hl12, hfew⟩ := hr1 rfl
  have hn12 : n ≤ 12 := by have := HN.out; omega
  clear hr1
  obtain ⟨A, hA0⟩ : ∃ A, archE l = A := ⟨_, rfl⟩
  obtain ⟨V, hV0⟩ : ∃ V, nmE ro = V := ⟨_, rfl⟩
  obtain ⟨T, hT0⟩ : ∃ T, firstE [A, V] = T := ⟨_, rfl⟩
  have HRA := Lib.hid (fun U (k : Gr WX U) => refArch_c (cap := cx) HN.out (by omega) (HXN.out.gr k) hfew)
  have HNV := Lib.hid (fun U => name10_c ro U)
  have HHI : Hid (∃ (H : List EnR) (E : Int), (T = 0 → H = hisL l ro ∧ E = if H = [] then 10 else 0) ∧ (T ≠ 0 → H = [] ∧ E = T) ∧ H.length ≤ 12 ∧ (∀ f ∈ H, f.xs.length ≤ 160 ∧ ∀ y ∈ f.xs, y.xs.length ≤ 19) ∧ (∀ U, Gr w U → Calls Tryz.prog 21 #[.agg #[.slice q n cap], .string ro] U fun e w' => RetSh e w' H (.int .i64 E) ∧ Gr U w') ∧ ∀ U, Gr w U → Calls Tryz.prog 23 #[.agg #[.slice q n cap], .string ro] U fun e w' => RetVU e w' (H.map mkOf) E ∧ Gr U w') := by
    have hT1 : firstE [archE l, nmE ro] = T := by rw [hA0, hV0]; exact hT0
    by_cases h : T = 0
    · have hz : firstE [archE l, nmE ro] = 0 := hT1.trans h
      have hz2 : archE l = 0 := by
        rw [firstE_two] at hz
        by_cases h2 : archE l = 0
        · exact h2
        · rw [if_neg h2] at hz; exact hz
      have h160 := arch_few hz2
      exact ⟨hisL l ro, _, fun _ => ⟨rfl, rfl⟩, fun h2 => absurd h h2, Nat.le_trans (hisL_len l ro) hl12, fun f hf => ⟨h160 f (hisL_mem hf), hfew f (hisL_mem hf)⟩, fun U k => shown_ok ro HN.out hn12 (HR.out.gr k) hfew hz, fun U k => hist_ok ro HN.out hn12 (HR.out.gr k) hfew hz⟩
    · have hz : firstE [archE l, nmE ro] ≠ 0 := by rw [hT1]; exact h
      refine ⟨[], T, fun h2 => absurd h2 h, fun _ => ⟨rfl, rfl⟩, by simp, (fun f hf => by cases hf), fun U k => ?_, fun U k => ?_⟩
      · have := shown_err (cap := cap) ro HN.out (by omega) (HR.out.gr k) hfew hz
        rw [hT1] at this; exact this
      · have := hist_err (cap := cap) ro HN.out (by omega) (HR.out.gr k) hfew hz
        rw [hT1] at this; exact this
  have HRU : Hid (∃ LR : List ByteArray, (A = 0 → LR = rdR l) ∧ (A ≠ 0 → LR = []) ∧ LR.length ≤ 12 ∧ ∀ U, Gr w U → Calls Tryz.prog 22 #[.agg #[.slice q n cap]] U fun e w' => RetWU e w' LR A ∧ Gr U w') := by
    by_cases h : A = 0
    · have hz : archE l = 0 := hA0.trans h
      refine ⟨rdR l, fun _ => rfl, fun h2 => absurd h h2, Nat.le_trans (rdR_len l) hl12, fun U k => ?_⟩
      have := rounds_ok (cap := cap) HN.out (by omega) (HR.out.gr k) hfew hz
      rw [h]; exact this
    · have hz : archE l ≠ 0 := by rw [hA0]; exact h
      refine ⟨[], fun h2 => absurd h2 h, fun _ => rfl, by simp, fun U k => ?_⟩
      have := rounds_err (cap := cap) HN.out (by omega) (HR.out.gr k) hfew hz
      rw [hA0] at this; exact this
  obtain ⟨H, E, h1, h2, h3, h4, h5, h6⟩ := HHI.out
  obtain ⟨LR, r1, r2, r3, r4⟩ := HRU.out
  have HSH := Lib.hid h5
  have HHY := Lib.hid h6
  have HRD := Lib.hid r4
  have HHF := Lib.hid (And.intro h1 (And.intro h2 (And.intro h3 h4)))
  have HRF := Lib.hid (And.intro r1 (And.intro r2 r3))
  have HT0 := Lib.hid hT0
  rw [hA0] at HRA
  rw [hV0] at HNV
  clear HHI HRU h1 h2 h3 h4 h5 h6 r1 r2 r3 r4 hA0 hV0 hT0 hfew hl12
  go_wp2_with fail
  refine (HRA.out _ gX).mono ?_
  rintro e W9 ⟨rfl, hg⟩
  replace a0 := hg.cell a0
  replace gX := gX.trans hg
  replace g := g.trans hg
  clear hg HRA
  go_wp2_with fail
  refine (HSH.out _ g).mono ?_
  rintro e W9 ⟨⟨⟨ro1, va1, st1, q1, n1, k1, ys1, rfl, hs1, hx1, hm1⟩⟩, hg⟩
  replace a0 := hg.cell a0
  replace gX := gX.trans hg
  replace g := g.trans hg
  clear hg HSH
  obtain ⟨WB, hWB, hg, b0, b1, b2, b3⟩ := box4 W9 (.string ro1) (.int .i64 va1) (.string st1) (.slice q1 n1 k1) 27
  have HWB := Lib.hid hWB
  replace a0 := hg.cell a0
  replace hx1 := hx1.gr hg
  replace gX := gX.trans hg
  replace g := g.trans hg
  have hbs : W9.heap.size < WB.heap.size := by rw [← hWB]; simp
  obtain ⟨S1, hS1⟩ : ∃ S, W9.heap.size = S := ⟨_, rfl⟩
  have HS1 := Lib.hid hS1
  rw [← hWB] at a0
  clear hg hWB
  go_wp2_with fail
  rw [HWB.out] at a0 ⊢
  clear HWB
  try rw [HS1.out]
  rw [HS1.out] at b0 b1 b2 b3 hbs
  clear hS1 HS1
  refine (HRD.out _ g).mono ?_
  rintro e W9 ⟨⟨⟨v1, rfl, hw1⟩⟩, hg⟩
  replace a0 := hg.cell a0
  replace b0 := hg.cell b0
  replace b1 := hg.cell b1
  replace b2 := hg.cell b2
  replace b3 := hg.cell b3
  replace hx1 := hx1.gr hg
  replace gX := gX.trans hg
  replace g := g.trans hg
  clear hg
  clear HRD
  go_wp2_with fail
  refine (HHY.out _ g).mono ?_
  rintro e W9 ⟨⟨⟨qh, nh, ch, rfl, hnh, hmh⟩⟩, hg⟩
  replace b0 := hg.cell b0
  replace b1 := hg.cell b1
  replace b2 := hg.cell b2
  replace b3 := hg.cell b3
  replace hx1 := hx1.gr hg
  replace hw1 := hw1.gr hg
  replace gX := gX.trans hg
  replace g := g.trans hg
  clear hg
  clear HHY a0
  go_wp2_with fail
  refine (HNV.out _).mono ?_
  rintro e W8 ⟨rfl, rfl⟩
  obtain ⟨W4, hW4, hg, q0, q1⟩ := box2v W9 (.int .i64 A) (.int .i64 V) 3
  replace b0 := hg.cell b0
  replace b1 := hg.cell b1
  replace b2 := hg.cell b2
  replace b3 := hg.cell b3
  replace hx1 := hx1.gr hg
  replace hw1 := hw1.gr hg
  replace hmh := hmh.gr hg
  replace gX := gX.trans hg
  replace g := g.trans hg
  clear hg
  have HW4 := Lib.hid hW4
  clear hW4 HNV
  go_wp2_with fail
  rw [HW4.out]
  refine (lawFirst10_two A V _ _ W4 q0 q1).mono ?_
  rintro e W5 ⟨rfl, rfl⟩
  rw [HT0.out]
  clear HW4 q0 q1
  obtain ⟨WC, hWC, hgC, z0, z1, z2, z3⟩ := box4 W4 (.string ⟨#[]⟩) (.int .i64 0) (.string ⟨#[]⟩) (.slice none 0 0) 32
  have hb2 : WC.heap[W4.heap.size]? = some (.cells #[.string ⟨#[]⟩, .int .i64 0, .string ⟨#[]⟩, .slice none 0 0] 32 (0, 0)) := by rw [← hWC]; exact heap_alloc_new W4 _
  have HWC := Lib.hid hWC
  have HB2 := Lib.hid hb2
  have HGC := Lib.hid hgC
  obtain ⟨S2, hS2⟩ : ∃ S, W4.heap.size = S := ⟨_, rfl⟩
  have HS2 := Lib.hid hS2
  have gX4 := gX
  have g4 := g
  clear hWC hb2 z0 z1 z2 z3 hS2 hgC
  go_upto_if 57 with fail
  rw [HWC.out]
  try rw [HS2.out]
  rw [HS2.out] at HB2
  have HGX := Lib.hid (gX4.trans HGC.out)
  have hS2C : S2 < WC.heap.size := (Array.getElem?_eq_some_iff.1 HB2.out).1
  go_cut [15] from 20 (fun s15 wx => StrAts wx s15 LR ∧ Gr WC wx ∧ Hid (∀ q n c, s15 = .slice q n c → ∀ ad, q = some ad → WC.heap.size ≤ ad.block))
  case first =>
    clear b0 b1 b2 b3 hx1 hw1 hmh g gX gX4 g4 HB2
    by_cases hAz : A = 0
    · have hLR := HRF.out.1 hAz
      have HRR := Lib.hid (fun U (k : Gr WX U) => refRounds_c (cap := cx) HN.out (by omega) (HXN.out.gr k))
      rw [← hLR] at HRR
      have hA1 : (A == 0) = true := beq_iff_eq.2 hAz
      clear hAz hLR HRF HHF HT0
      go_wp2_with fail
      refine (HRR.out _ HGX.out).mono ?_
      rintro e W9 ⟨⟨⟨v9, rfl, hv9, hfr⟩⟩, hg⟩
      have HFR := Lib.hid hfr
      clear HRR hfr
      go_wp2_with fail
      go_meet
      case rel => exact ⟨hv9, hg, HFR⟩
    · have hLR := HRF.out.2.1 hAz
      subst hLR
      have hA1 : (A == 0) = false := beq_eq_false_iff_ne.2 hAz
      clear hAz HRF HHF HT0
      go_wp2_with fail
      go_meet
      case rel => exact ⟨str_nil _, Gr.refl _, fun q n c e ad h => by cases e; cases h⟩
  case rest =>
    obtain ⟨hv2, hg1, HFR⟩ := hcut
    have HB3 := Lib.hid (Gr.block hg1 HB2.out)
    have g5 : Gr W4 wc := HGC.out.trans hg1
    have HB0 := Lib.hid (And.intro b0 (And.intro b1 (And.intro b2 b3)))
    clear b0 b1 b2 b3
    have HG5 := Lib.hid g5
    have HGX5 := Lib.hid (HGX.out.trans hg1)
    have hSX : WX.heap.size ≤ S2 := by rw [← HS2.out]; exact gX4.size
    have hS4 : W4.heap.size ≤ S2 := by rw [HS2.out]; omega
    clear hg1 HB2 HGC HWC g5 gX g HGX gX4
    go_upto_if 61 with fail
    go_cut [13, 16] from 17 (fun s13 s16 wx => ∃ pm dm ro2 va2 st2 q2 n2 k2 ys2, s13 = .int .i64 E ∧ s16 = .slice pm nh dm ∧ MkS wx pm (H.map mkOf) ∧ Hid (wx.heap[S2]? = some (.cells #[.string ro2, .int .i64 va2, .string st2, .slice q2 n2 k2] 32 (0, 0))) ∧ Hid (ro2 = (shL H).1 ∧ va2 = (shL H).2.1 ∧ st2 = (shL H).2.2.1) ∧ RowsX wx q2 n2 k2 ys2 ∧ Hid (ys2.map rk = (shL H).2.2.2.map rk) ∧ Hid (Gr W4 wx) ∧ Hid (StrAts wx u15 LR))
    case first =>
      obtain ⟨WQ, hWQ⟩ : ∃ W, W = wc := ⟨wc, rfl⟩
      subst hWQ
      have HV2 := Lib.hid hv2
      clear hx1 hw1 hmh hv2
      by_cases hTz : T = 0
      · obtain ⟨hH, hE⟩ := HHF.out.1 hTz
        have hT1 : (T == 0) = true := beq_iff_eq.2 hTz
        have HLN := Lib.hid HHF.out.2.2.1
        have HSO := Lib.hid (fun U (k : Gr WX U) => refShown_o (cap := cx) ro HN.out hn12 HXN.out k)
        have HHS := Lib.hid (fun U (k : Gr WX U) => his_c (cap := cx) ro HN.out (by omega) (HXN.out.gr k))
        rw [← hH] at HSO HHS
        obtain ⟨bb, hbb⟩ : ∃ b, (!H.isEmpty) = b := ⟨_, rfl⟩
        rw [hbb] at HSO
        have HEB : Hid (E = if bb then 0 else 10) := by
          rw [Hid, hE, ← hbb]
          cases H with
          | nil => rfl
          | cons _ _ => simp
        have HWH := Lib.hid (fun U => when10_c (!bb) 10 U)
        obtain ⟨z0, z1, z2, z3⟩ := cells4_ofO HB3.out
        clear hH hE hbb HHF HRF HT0 hTz
        go_wp2_with fail
        refine (HSO.out _ HGX5.out).mono ?_
        rintro e W9 ⟨⟨⟨ro2, va2, st2, q2, n2, k2, ys2, rfl, hs2, hx2, hm2⟩⟩, hg⟩
        have hbB := Gr.block hg HB3.out
        replace z0 := hg.cell z0
        replace z1 := hg.cell z1
        replace z2 := hg.cell z2
        replace z3 := hg.cell z3
        have f2 : ∀ o, W9.frozen? ⟨S2, o, none⟩ = false := fun o => frozen_of_row _ _ o _ _ hbB
        have HBS := Lib.hid hbB
        have HG9 := Lib.hid (HG5.out.trans hg)
        have HX9 := Lib.hid (HGX5.out.trans hg)
        have HV9 := Lib.hid hg
        have HRX := Lib.hid hx2
        clear hbB hg HSO hx2
        have hGG : Gr W4 ((((W9.setCell ⟨S2, 0, none⟩ (.string ro2)).setCell ⟨S2, 1, none⟩ (.int .i64 va2)).setCell ⟨S2, 2, none⟩ (.string st2)).setCell ⟨S2, 3, none⟩ (.slice q2 n2 k2)) := Below.setCell (Below.setCell (Below.setCell (Below.setCell HG9.out (by show W4.heap.size ≤ S2; omega) _) (by show W4.heap.size ≤ S2; omega) _) (by show W4.heap.size ≤ S2; omega) _) (by show W4.heap.size ≤ S2; omega) _
        have hGX : Gr WX ((((W9.setCell ⟨S2, 0, none⟩ (.string ro2)).setCell ⟨S2, 1, none⟩ (.int .i64 va2)).setCell ⟨S2, 2, none⟩ (.string st2)).setCell ⟨S2, 3, none⟩ (.slice q2 n2 k2)) := Below.setCell (Below.setCell (Below.setCell (Below.setCell HX9.out (by show WX.heap.size ≤ S2; omega) _) (by show WX.heap.size ≤ S2; omega) _) (by show WX.heap.size ≤ S2; omega) _) (by show WX.heap.size ≤ S2; omega) _
        have HGG := Lib.hid hGG
        have HGXX := Lib.hid hGX
        have HB4 := Lib.hid (set4O HBS.out (.string ro2) (.int .i64 va2) (.string st2) (.slice q2 n2 k2))
        have HV4 : Hid (StrAts ((((W9.setCell ⟨S2, 0, none⟩ (.string ro2)).setCell ⟨S2, 1, none⟩ (.int .i64 va2)).setCell ⟨S2, 2, none⟩ (.string st2)).setCell ⟨S2, 3, none⟩ (.slice q2 n2 k2)) u15 LR) := by
          have h0 := HV2.out.gr HV9.out
          have hb : ∀ q n c, u15 = .slice q n c → ∀ ad, q = some ad → ad.block ≠ S2 := fun q n c e ad h => by have := HFR.out q n c e ad h; omega
          exact str_set (str_set (str_set (str_set h0 hb) hb) hb) hb
        clear hGG hGX HV2 HV9
        have HWT := Lib.hid (fun U => (show Calls Tryz.prog 26 #[.bool true, .int .i64 10] U fun e w' => e = .returned (.int .i64 10) ∧ U = w' from when10_c true 10 U))
        have HWF := Lib.hid (fun U => (show Calls Tryz.prog 26 #[.bool false, .int .i64 10] U fun e w' => e = .returned (.int .i64 0) ∧ U = w' from when10_c false 10 U))
        obtain ⟨i0, hi, hz0, hz1, hz2⟩ := info_parts infoMkR
        have HI0 := Lib.hid (And.intro hi (And.intro hz0 (And.intro hz1 hz2)))
        clear hi hz0 hz1 hz2 HWH
        cases bb
        · go_wp2_with fail
          refine (HWT.out _).mono ?_
          rintro e W8 ⟨rfl, rfl⟩
          go_wp2_with fail
          refine (HHS.out _ HGXX.out).mono ?_
          rintro e W10 ⟨⟨⟨q3, c3, rfl, _, hes⟩⟩, hg⟩
          have HES := Lib.hid hes
          have HBZ := Lib.hid (Gr.block hg HB4.out)
          have HVZ := Lib.hid (HV4.out.gr hg)
          have HGZ := Lib.hid (HGG.out.trans hg)
          have HXZ := Lib.hid (HGXX.out.trans hg)
          obtain ⟨m, hm⟩ : ∃ m, m = H.length := ⟨_, rfl⟩
          have HM := Lib.hid hm
          have hm12 : m ≤ 12 := by have := HLN.out; omega
          rw [← hm]
          clear hm hg hes HHS HV4 HB4 HGG HGXX z0 z1 z2 z3 f2
          go_wp2_with fail
          go_loopg [16, 75] m (fun gk s16 s75 wr => ∃ i : Nat, s75 = .int .i64 (i : Int) ∧ gk + i = m ∧ Hid (wr.ownsRow W10.heap.size 67 2 s16 i (mkCs ((H.take i).map mkOf))) ∧ Hid (Gr W10 wr))
          case atStart => exact ⟨0, rfl, by omega, World.ownsRow_nil _ _ _ _, Gr.refl _⟩
          case round =>
            obtain ⟨i, rfl, hgk, HOWN, HG⟩ := hrel
            have hszw := HG.out.size
            by_cases hlt : i < m
            · obtain ⟨x, hx⟩ : ∃ x, H[i]? = some x := ⟨H[i]'(by have := HM.out; omega), List.getElem?_eq_getElem _⟩
              obtain ⟨b, off, rfl, hc⟩ := HES.out.out (by have := HM.out; omega)
              obtain ⟨a0, a1, a2, a3, a4, a5, a6, _⟩ := (hc i x hx).gr HG.out
              have hlt2 : (i : Int) < (m : Int) := by omega
              have HT : Hid (mkCs ((H.take (i + 1)).map mkOf) = mkCs ((H.take i).map mkOf) ++ [.string x.de, .int .i64 x.nu]) := by
                rw [Hid, List.take_add_one, hx, Option.toList_some, List.map_append, List.map_singleton, mkCs_add]; rfl
              have gB := (Gr.refl wr).alloc (.cells #[.string x.de, .int .i64 x.nu, .int .i64 x.ck, .string x.ro, .int .i64 x.va, .string x.st, .slice x.p x.n x.cap] 65)
              have HGB := Lib.hid (HG.out.trans gB)
              have HOB := Lib.hid (own_kept HOWN.out gB)
              have gC := (Gr.refl (wr.alloc (.cells #[.string x.de, .int .i64 x.nu, .int .i64 x.ck, .string x.ro, .int .i64 x.va, .string x.st, .slice x.p x.n x.cap] 65))).alloc (.cells #[.string x.de, .int .i64 x.nu] 67)
              have hownC := own_kept HOB.out gC
              have HGC2 := Lib.hid (HGB.out.trans gC)
              have hszC := HGC2.out.size
              have HC1 := cell_twoM (wr.alloc (.cells #[.string x.de, .int .i64 x.nu, .int .i64 x.ck, .string x.ro, .int .i64 x.va, .string x.st, .slice x.p x.n x.cap] 65)) (.string x.de) (.int .i64 x.nu) 67
              rw [World.size_alloc] at HC1
              obtain ⟨hi, hz0, hz1, hz2⟩ := HI0.out
              clear hx hc gB gC
              go_wp2_with (at_builtin; refine wpList_append_own _ rfl _ _ 58 rfl W10.heap.size 67 i0 (.agg #[.string ⟨#[]⟩, .int .i64 0]) 2 24 Tryz.underlying58 hi hz0 hz1 hz2 rfl (by decide) _ _ _ rfl hownC ⟨wr.heap.size + 1, 0, none⟩ 1 1 [.string x.de, .int .i64 x.nu] rfl rfl HC1 (one_twoM _ _) (by unfold maxLen; omega) (by omega) hszC ?_; intro v9 w9 hown9 hgrow9 hnil)
              have HGR : Hid (Gr W10 w9) := Below.grown HGC2.out hgrow9 hszC (fun q hq => (own_in hownC hq).2)
              have HO1 := Lib.hid hown9
              clear hown9 hgrow9 hownC hnil
              go_wp2_with fail
              go_roundg (gk - 1)
              case measure => omega
              case rel => exact ⟨i + 1, by go_num, by omega, by rw [HT.out]; exact HO1.out, HGR⟩
            · obtain rfl : m = i := by omega
              have hlt2 : ¬ (m : Int) < (m : Int) := by omega
              obtain ⟨q5, c5, rfl, hc51, hc52⟩ := own_shape HOWN.out
              have HV : Hid (MkS wr q5 (H.map mkOf)) := MkS.of_own (n := m) (by have := HOWN.out; rwa [List.take_of_length_le (by have := HM.out; omega)] at this) (by rw [List.length_map]; exact HM.out.symm)
              have HNM : Hid (nh = m) := by rw [Hid, hnh.out, List.length_map]; exact HM.out.symm
              clear HOWN
              go_wp2_with fail
              go_meet
              case rel => exact ⟨q5, c5, ro2, va2, st2, q2, n2, k2, ys2, by rw [HEB.out]; rfl, by rw [HNM.out], HV.out, Gr.block HG.out HBZ.out, hs2, HRX.out.gr (HXZ.out.trans HG.out), hm2, HGZ.out.trans HG.out, HVZ.out.gr HG.out⟩
        · go_wp2_with fail
          refine (HWF.out _).mono ?_
          rintro e W8 ⟨rfl, rfl⟩
          go_wp2_with fail
          refine (HHS.out _ HGXX.out).mono ?_
          rintro e W10 ⟨⟨⟨q3, c3, rfl, _, hes⟩⟩, hg⟩
          have HES := Lib.hid hes
          have HBZ := Lib.hid (Gr.block hg HB4.out)
          have HVZ := Lib.hid (HV4.out.gr hg)
          have HGZ := Lib.hid (HGG.out.trans hg)
          have HXZ := Lib.hid (HGXX.out.trans hg)
          obtain ⟨m, hm⟩ : ∃ m, m = H.length := ⟨_, rfl⟩
          have HM := Lib.hid hm
          have hm12 : m ≤ 12 := by have := HLN.out; omega
          rw [← hm]
          clear hm hg hes HHS HV4 HB4 HGG HGXX z0 z1 z2 z3 f2
          go_wp2_with fail
          go_loopg [16, 75] m (fun gk s16 s75 wr => ∃ i : Nat, s75 = .int .i64 (i : Int) ∧ gk + i = m ∧ Hid (wr.ownsRow W10.heap.size 67 2 s16 i (mkCs ((H.take i).map mkOf))) ∧ Hid (Gr W10 wr))
          case atStart => exact ⟨0, rfl, by omega, World.ownsRow_nil _ _ _ _, Gr.refl _⟩
          case round =>
            obtain ⟨i, rfl, hgk, HOWN, HG⟩ := hrel
            have hszw := HG.out.size
            by_cases hlt : i < m
            · obtain ⟨x, hx⟩ : ∃ x, H[i]? = some x := ⟨H[i]'(by have := HM.out; omega), List.getElem?_eq_getElem _⟩
              obtain ⟨b, off, rfl, hc⟩ := HES.out.out (by have := HM.out; omega)
              obtain ⟨a0, a1, a2, a3, a4, a5, a6, _⟩ := (hc i x hx).gr HG.out
              have hlt2 : (i : Int) < (m : Int) := by omega
              have HT : Hid (mkCs ((H.take (i + 1)).map mkOf) = mkCs ((H.take i).map mkOf) ++ [.string x.de, .int .i64 x.nu]) := by
                rw [Hid, List.take_add_one, hx, Option.toList_some, List.map_append, List.map_singleton, mkCs_add]; rfl
              have gB := (Gr.refl wr).alloc (.cells #[.string x.de, .int .i64 x.nu, .int .i64 x.ck, .string x.ro, .int .i64 x.va, .string x.st, .slice x.p x.n x.cap] 65)
              have HGB := Lib.hid (HG.out.trans gB)
              have HOB := Lib.hid (own_kept HOWN.out gB)
              have gC := (Gr.refl (wr.alloc (.cells #[.string x.de, .int .i64 x.nu, .int .i64 x.ck, .string x.ro, .int .i64 x.va, .string x.st, .slice x.p x.n x.cap] 65))).alloc (.cells #[.string x.de, .int .i64 x.nu] 67)
              have hownC := own_kept HOB.out gC
              have HGC2 := Lib.hid (HGB.out.trans gC)
              have hszC := HGC2.out.size
              have HC1 := cell_twoM (wr.alloc (.cells #[.string x.de, .int .i64 x.nu, .int .i64 x.ck, .string x.ro, .int .i64 x.va, .string x.st, .slice x.p x.n x.cap] 65)) (.string x.de) (.int .i64 x.nu) 67
              rw [World.size_alloc] at HC1
              obtain ⟨hi, hz0, hz1, hz2⟩ := HI0.out
              clear hx hc gB gC
              go_wp2_with (at_builtin; refine wpList_append_own _ rfl _ _ 58 rfl W10.heap.size 67 i0 (.agg #[.string ⟨#[]⟩, .int .i64 0]) 2 24 Tryz.underlying58 hi hz0 hz1 hz2 rfl (by decide) _ _ _ rfl hownC ⟨wr.heap.size + 1, 0, none⟩ 1 1 [.string x.de, .int .i64 x.nu] rfl rfl HC1 (one_twoM _ _) (by unfold maxLen; omega) (by omega) hszC ?_; intro v9 w9 hown9 hgrow9 hnil)
              have HGR : Hid (Gr W10 w9) := Below.grown HGC2.out hgrow9 hszC (fun q hq => (own_in hownC hq).2)
              have HO1 := Lib.hid hown9
              clear hown9 hgrow9 hownC hnil
              go_wp2_with fail
              go_roundg (gk - 1)
              case measure => omega
              case rel => exact ⟨i + 1, by go_num, by omega, by rw [HT.out]; exact HO1.out, HGR⟩
            · obtain rfl : m = i := by omega
              have hlt2 : ¬ (m : Int) < (m : Int) := by omega
              obtain ⟨q5, c5, rfl, hc51, hc52⟩ := own_shape HOWN.out
              have HV : Hid (MkS wr q5 (H.map mkOf)) := MkS.of_own (n := m) (by have := HOWN.out; rwa [List.take_of_length_le (by have := HM.out; omega)] at this) (by rw [List.length_map]; exact HM.out.symm)
              have HNM : Hid (nh = m) := by rw [Hid, hnh.out, List.length_map]; exact HM.out.symm
              clear HOWN
              go_wp2_with fail
              go_meet
              case rel => exact ⟨q5, c5, ro2, va2, st2, q2, n2, k2, ys2, by rw [HEB.out]; rfl, by rw [HNM.out], HV.out, Gr.block HG.out HBZ.out, hs2, HRX.out.gr (HXZ.out.trans HG.out), hm2, HGZ.out.trans HG.out, HVZ.out.gr HG.out⟩
      · obtain ⟨hH, hE⟩ := HHF.out.2.1 hTz
        subst hH
        subst hE
        have hT1 : (E == 0) = false := beq_eq_false_iff_ne.2 hTz
        clear hTz HHF HRF HT0
        go_wp2_with fail
        go_meet
        case rel => exact ⟨none, 0, ⟨#[]⟩, 0, ⟨#[]⟩, none, 0, 0, [], rfl, by simp [hnh.out], mk_nil _, HB3, ⟨rfl, rfl, rfl⟩, rows_nil _, rfl, HG5, HV2⟩
    case rest =>
      obtain ⟨pm, dm, ro2, va2, st2, q2, n2, k2, ys2, rfl, rfl, hmk, HBF, hs2, hx2, hm2, HGF, HVF⟩ := hcut
      have hgf := HGF.out
      obtain ⟨f1, f2, f3⟩ := hs2.out
      obtain ⟨e1, e2, e3⟩ := hs1.out
      obtain rfl : ro2 = ro1 := f1.trans e1.symm
      obtain rfl : va2 = va1 := f2.trans e2.symm
      obtain rfl : st2 = st1 := f3.trans e3.symm
      have hmm : ys1.map rk = ys2.map rk := hm1.out.trans hm2.out.symm
      obtain rfl : n2 = n1 := by have h1 := hx1.len; have h2 := hx2.len; have := congrArg List.length hmm; rw [List.length_map, List.length_map] at this; omega
      have hbd := shL_bounds HHF.out.2.2.2 hm1.out
      obtain ⟨b0, b1, b2, b3⟩ := HB0.out
      replace b0 := hgf.cell b0
      replace b1 := hgf.cell b1
      replace b2 := hgf.cell b2
      replace b3 := hgf.cell b3
      replace hx1 := hx1.gr hgf
      replace hw1 := hw1.gr hgf
      replace hmh := hmh.gr hgf
      obtain ⟨c0, c1, c2, c3⟩ := cells4_ofO HBF.out
      have hvf := HVF.out
      have g := g4.trans hgf
      have hl1 := hx1.len
      have hn160 : n2 ≤ 160 := by have := hbd.1; omega
      have HSS := Lib.hid (sameSh_c (ro := ro2) (st := st2) (va := va2) hx1 hx2 hmm (by omega) (fun x hx => by have := hbd.2 x hx; omega))
      have hH12 := HHF.out.2.2.1
      have hLR12 := HRF.out.2.2
      have HNH := Lib.hid hnh.out
      clear f1 f2 f3 e1 e2 e3 hmm hl1 hbd HHF HRF HT0 hnh hs1 hs2 hm1 hm2 HB3 HG5 HGX5 hgf hx1 hx2 hv2 HFR
      go_wp2_with fail
      refine HSS.out.mono ?_
      rintro e W9 ⟨rfl, hg⟩
      replace hw1 := hw1.gr hg
      replace hmh := hmh.gr hg
      replace hmk := hmk.gr hg
      replace hvf := hvf.gr hg
      replace g := g.trans hg
      clear hg HSS b0 b1 b2 b3 c0 c1 c2 c3
      go_wp2_with fail
      refine (sameStr_c hw1 hvf (by omega)).mono ?_
      rintro e W9 ⟨rfl, hg⟩
      replace hmh := hmh.gr hg
      replace hmk := hmk.gr hg
      replace g := g.trans hg
      clear hg hw1 hvf
      go_wp2_with fail
      refine (marks_c hmh HNH.out (by have := HNH.out; rw [List.length_map] at this; omega)).mono ?_
      rintro e W9 ⟨y1, z1, rfl, _, hs1, hg⟩
      replace hmk := hmk.gr hg
      replace g := g.trans hg
      clear hg hmh
      go_wp2_with fail
      refine (sameMk_c hs1 hmk HNH.out (by have := HNH.out; rw [List.length_map] at this; omega)).mono ?_
      rintro e W9 ⟨rfl, hg⟩
      replace g := g.trans hg
      clear hg hs1 hmk
      go_wp2_with fail
      refine (HA.out _ g).mono ?_
      rintro e W9 ⟨rfl, hg⟩
      replace g := g.trans hg
      go_wp2_with fail
      go_ret
      exact ⟨by rfl, g⟩
end Go.Proofs.YtnihclhhbegjhaaGreatDoor
