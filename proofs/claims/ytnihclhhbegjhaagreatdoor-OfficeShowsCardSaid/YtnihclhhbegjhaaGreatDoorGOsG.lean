/- Archives (chapter 10): the entries of a round, as the program finds them. -/
import Derived.Test.YtnihclhhbegjhaaGreatDoorOsF
import Derived.Shelf.Sort.Plain
import Derived.Shelf.Slices.CompactS
import Derived.Test.YtnihclhhbegjhaaGreatDoorGNames
import Derived.BigRegion
import Derived.BigQuiet
namespace Go.Proofs.YtnihclhhbegjhaaGreatDoor
open Go.RowKit Go.Lib
set_option linter.unusedSimpArgs false
set_option linter.unusedVariables false
theorem srt_his {l : List EnR} {ro : ByteArray} (h : archE l = 0) : srtE (l.filter (isRo ro)) = hisL l ro := his_unique h (srtE_spec _).1 (srtE_spec _).2.2
theorem filter_add (l : List EnR) (x : EnR) (ro : ByteArray) : (l ++ [x]).filter (isRo ro) = if isRo ro x = true then l.filter (isRo ro) ++ [x] else l.filter (isRo ro) := by
  rw [List.filter_append]
  by_cases h : isRo ro x = true
  · rw [if_pos h, List.filter_cons_of_pos h]; rfl
  · rw [if_neg h, List.filter_cons_of_neg h]; simp
set_option maxHeartbeats 4000000 in
set_option maxRecDepth 100000 in
theorem entOf_err {w : World} {q : Option Addr} {l : List EnR} {n cap : Nat} (ro : ByteArray) (hn : n = l.length) (h1 : n ≤ 1000) (hr : EnS w q l) (hf : Few l) (he : firstE [archE l, nmE ro] ≠ 0) :
    Calls Tryz.prog 68 #[.agg #[.slice q n cap], .string ro] w fun e w' => e = .returned (.tuple #[.slice none 0 0, .int .i64 (firstE [archE l, nmE ro])]) ∧ Gr w w' := by
  have HCA := Lib.hid (fun V (g : Gr w V) => checkArch_c (cap := cap) hn h1 (hr.gr g) hf)
  have HCN := Lib.hid (fun V => offName_c ro V)
  have HFI := Lib.hid (fun b cap w => first_two (archE l) (nmE ro) b cap w)
  have hz : (firstE [archE l, nmE ro] != 0) = true := bne_iff_ne.2 he
  generalize firstE [archE l, nmE ro] = z at *
  generalize archE l = z1 at *
  generalize nmE ro = z2 at *
  obtain ⟨W1, hW1, g1, a0⟩ := box1 w (.slice q n cap) 24
  have HW := Lib.hid hW1
  clear hW1 hr hf hn he
  go_enter Tryz.func68, Tryz.ntmps68
  go_wp2_with fail
  rw [HW.out]
  clear HW
  go_wp2_with fail
  refine (HCA.out _ g1).mono ?_
  rintro e W2 ⟨rfl, hg2⟩
  replace a0 := hg2.cell a0
  replace g1 := g1.trans hg2
  clear hg2
  go_wp2_with fail
  refine (HCN.out _).mono ?_
  rintro e W3 ⟨rfl, hg3⟩
  replace a0 := hg3.cell a0
  replace g1 := g1.trans hg3
  clear hg3
  obtain ⟨W4, hW4, g4, q0, q1⟩ := box2v W3 (.int .i64 z1) (.int .i64 z2) 37
  have HW4 := Lib.hid hW4
  clear hW4
  go_wp2_with fail
  rw [HW4.out]
  refine (HFI.out _ _ W4 q0 q1).mono ?_
  rintro e W5 ⟨rfl, rfl⟩
  go_wp2_with fail
  exact bodyPost_ret (v := .tuple #[.slice none 0 0, .int .i64 z]) (by simp [results, Tryz.results68, go_sem]) rfl ⟨rfl, g1.trans g4⟩
set_option maxHeartbeats 4000000 in
set_option maxRecDepth 100000 in
theorem entOf_ok {w : World} {q : Option Addr} {l : List EnR} {n cap : Nat} (ro : ByteArray) (hn : n = l.length) (h1 : n ≤ 12) (hr : EnS w q l) (hf : Few l) (he : firstE [archE l, nmE ro] = 0) :
    Calls Tryz.prog 68 #[.agg #[.slice q n cap], .string ro] w fun e w' => (∃ q2 m c2, e = .returned (.tuple #[.slice q2 m c2, .int .i64 (if m = 0 then 10 else 0)]) ∧ Hid (m = (hisL l ro).length) ∧ EnS w' q2 (hisL l ro)) ∧ Gr w w' := by
  have ha0 : archE l = 0 := by
    have hh : ∀ a b : Int, firstE [a, b] = if a = 0 then (if b = 0 then 0 else b) else a := fun _ _ => rfl
    rw [hh] at he
    by_cases h2 : archE l = 0
    · exact h2
    · rw [if_neg h2] at he; exact he
  have HSH := Lib.hid (srt_his (ro := ro) ha0)
  have h1 : n ≤ 1000 := by omega
  have HCA := Lib.hid (fun V (g : Gr w V) => checkArch_c (cap := cap) hn h1 (hr.gr g) hf)
  have HCN := Lib.hid (fun V => offName_c ro V)
  have HFI := Lib.hid (fun b cap w => first_two (archE l) (nmE ro) b cap w)
  rw [he] at HFI
  generalize archE l = z1 at *
  generalize nmE ro = z2 at *
  obtain ⟨i0, hi, hz0, hz1, hz2⟩ := info_parts infoEnP
  have HI0 := Lib.hid (And.intro hi (And.intro hz0 (And.intro hz1 hz2)))
  have HN := Lib.hid hn
  have HR := Lib.hid hr.out
  have HRX := Lib.hid hr.rowsX
  obtain ⟨W1, hW1, g1, a0⟩ := box1 w (.slice q n cap) 24
  have HW := Lib.hid hW1
  clear hW1 hr hf hn he hi hz0 hz1 hz2 ha0
  go_enter Tryz.func68, Tryz.ntmps68
  go_wp2_with fail
  rw [HW.out]
  clear HW
  go_wp2_with fail
  refine (HCA.out _ g1).mono ?_
  rintro e W2 ⟨rfl, hg2⟩
  replace a0 := hg2.cell a0
  replace g1 := g1.trans hg2
  clear hg2
  go_wp2_with fail
  refine (HCN.out _).mono ?_
  rintro e W3 ⟨rfl, hg3⟩
  replace a0 := hg3.cell a0
  replace g1 := g1.trans hg3
  clear hg3
  obtain ⟨W4, hW4, g4, q0, q1⟩ := box2v W3 (.int .i64 z1) (.int .i64 z2) 37
  have HW4 := Lib.hid hW4
  clear hW4
  go_wp2_with fail
  rw [HW4.out]
  refine (HFI.out _ _ W4 q0 q1).mono ?_
  rintro e W5 ⟨rfl, rfl⟩
  replace a0 := g4.cell a0
  have HG4 := Lib.hid (g1.trans g4)
  have HA0 := Lib.hid a0
  clear HCA HCN HFI HW4 q0 q1 g1 g4
  go_wp2_with fail
  clear a0
  go_loopg [7, 22] n (fun gk s7 s22 wr => ∃ (i : Nat) (m : Nat), s22 = .int .i64 (i : Int) ∧ gk + i = n ∧ m ≤ i ∧ Hid (m = ((l.take i).filter (isRo ro)).length) ∧ Hid (wr.ownsRow w.heap.size 77 7 s7 m (enCs ((l.take i).filter (isRo ro)))) ∧ Hid (Gr w wr))
  case atStart => exact ⟨0, 0, rfl, by omega, Nat.le_refl _, rfl, World.ownsRow_nil _ _ _ _, HG4.out⟩
  case round =>
    obtain ⟨i, m, rfl, hgk, hmi, HMR, HOWN, HG⟩ := hrel
    have hszw := HG.out.size
    by_cases hlt : i < n
    · obtain ⟨x, hx⟩ : ∃ x, l[i]? = some x := ⟨l[i]'(by have := HN.out; omega), List.getElem?_eq_getElem _⟩
      obtain ⟨b, off, rfl, hc⟩ := HR.out (by have := HN.out; omega)
      obtain ⟨a0, a1, a2, a3, a4, a5, a6, _⟩ := (hc i x hx).gr HG.out
      have hlt2 : (i : Int) < (n : Int) := by omega
      have HT : Hid ((l.take (i + 1)).filter (isRo ro) = if isRo ro x = true then (l.take i).filter (isRo ro) ++ [x] else (l.take i).filter (isRo ro)) := by
        rw [Hid, List.take_add_one, hx]; exact filter_add _ _ _
      have gB := (Gr.refl wr).alloc (.cells #[.string x.de, .int .i64 x.nu, .int .i64 x.ck, .string x.ro, .int .i64 x.va, .string x.st, .slice x.p x.n x.cap] 77)
      have HGB := Lib.hid (HG.out.trans gB)
      have HOB := Lib.hid (own_kept HOWN.out gB)
      clear hx hc gB
      cases hq : (x.ro.toList == ro.toList)
      · have hTT := HT.out
        rw [if_neg (by unfold isRo; rw [hq]; simp)] at hTT
        have HTT := Lib.hid hTT
        clear hTT
        go_wp2_with fail
        go_roundg (gk - 1)
        case measure => omega
        case rel => exact ⟨i + 1, m, by go_num, by omega, by omega, by rw [HTT.out]; exact HMR, by rw [HTT.out]; exact HOB.out, HGB.out⟩
      · have hTT := HT.out
        rw [if_pos (by unfold isRo; exact hq)] at hTT
        have HTT := Lib.hid hTT
        clear hTT
        obtain ⟨hi, hz0, hz1, hz2⟩ := HI0.out
        have gC := (Gr.refl (wr.alloc (.cells #[.string x.de, .int .i64 x.nu, .int .i64 x.ck, .string x.ro, .int .i64 x.va, .string x.st, .slice x.p x.n x.cap] 77))).alloc (.cells #[.string x.de, .int .i64 x.nu, .int .i64 x.ck, .string x.ro, .int .i64 x.va, .string x.st, .slice x.p x.n x.cap] 77)
        have hownC := own_kept HOB.out gC
        have HGC := Lib.hid (HGB.out.trans gC)
        have hszC := HGC.out.size
        have HC7 := cell_seven (wr.alloc (.cells #[.string x.de, .int .i64 x.nu, .int .i64 x.ck, .string x.ro, .int .i64 x.va, .string x.st, .slice x.p x.n x.cap] 77)) (.string x.de) (.int .i64 x.nu) (.int .i64 x.ck) (.string x.ro) (.int .i64 x.va) (.string x.st) (.slice x.p x.n x.cap) 77
        rw [World.size_alloc] at HC7
        clear gC
        go_wp2_with (at_builtin; refine wpList_append_own _ rfl _ _ 22 rfl w.heap.size 77 i0 (.agg #[.string ⟨#[]⟩, .int .i64 0, .int .i64 0, .string ⟨#[]⟩, .int .i64 0, .string ⟨#[]⟩, .slice none 0 0]) 7 96 Tryz.underlying22 hi hz0 hz1 hz2 rfl (by decide) _ _ _ rfl hownC ⟨wr.heap.size + 1, 0, none⟩ 1 1 [.string x.de, .int .i64 x.nu, .int .i64 x.ck, .string x.ro, .int .i64 x.va, .string x.st, .slice x.p x.n x.cap] rfl rfl HC7 (one_seven _ _ _ _ _ _ _ _ _) (by unfold maxLen; omega) (by omega) hszC ?_; intro v1 w1 hown1 hgrow1 hnil)
        have HGR : Hid (Gr w w1) := Below.grown HGC.out hgrow1 hszC (fun q hq => (own_in hownC hq).2)
        have HO1 := Lib.hid hown1
        clear hown1 hgrow1 hownC hnil
        go_wp2_with fail
        go_roundg (gk - 1)
        case measure => omega
        case rel => exact ⟨i + 1, m + 1, by go_num, by omega, by omega, by rw [HTT.out, Hid, List.length_append, ← HMR.out]; rfl, by rw [HTT.out, Hid, enCs_add]; exact HO1.out, HGR.out⟩
    · obtain rfl : n = i := by omega
      have hlt2 : ¬ (n : Int) < (n : Int) := by omega
      obtain ⟨q2, c2, rfl, hc21, hc22⟩ := own_shape HOWN.out
      have hL : l.take n = l := List.take_of_length_le (by have := HN.out; omega)
      have hown := HOWN.out
      have hmr := HMR.out
      rw [hL] at hown hmr
      have HST := Lib.hid (sortEn_c (l.filter (isRo ro)) q2 m c2 hmr (by omega) HG.out hown (fun e he => HRX.out e (List.mem_filter.1 he).1))
      have HMH : Hid (m = (hisL l ro).length) := by rw [Hid, ← HSH.out, (srtE_spec _).2.1]; exact hmr
      clear hown hmr hL HOWN
      go_wp2_with fail
      refine HST.out.mono ?_
      rintro e W9 ⟨rfl, hes, hg9⟩
      rw [HSH.out] at hes
      have HES := Lib.hid hes
      have HG9 := Lib.hid hg9
      clear hes hg9 HST
      have HIF := Lib.hid (fun (b : Bool) W => if_c b 10 W)
      rcases Nat.eq_zero_or_pos m with h0 | h0
      · subst h0
        go_wp2_with fail
        refine (HIF.out _ _).mono ?_
        rintro e W10 ⟨rfl, rfl⟩
        go_wp2_with fail
        exact bodyPost_ret (v := .tuple #[.slice q2 0 c2, .int .i64 10]) (by simp [results, Tryz.results68, go_sem]) rfl ⟨⟨q2, 0, c2, rfl, HMH, HES.out⟩, HG9.out⟩
      · have hd : (((m : Nat) : Int) == 0) = false := beq_eq_false_iff_ne.2 (by omega)
        have h1 : ¬ m = 0 := by omega
        go_wp2_with fail
        refine (HIF.out _ _).mono ?_
        rintro e W10 ⟨rfl, rfl⟩
        go_wp2_with fail
        exact bodyPost_ret (v := .tuple #[.slice q2 m c2, .int .i64 0]) (by simp [results, Tryz.results68, go_sem]) rfl ⟨⟨q2, m, c2, by rw [if_neg h1], HMH, HES.out⟩, HG9.out⟩
end Go.Proofs.YtnihclhhbegjhaaGreatDoor
namespace Go.Proofs.YtnihclhhbegjhaaGreatDoor
open Go.RowKit Go.Lib
set_option linter.unusedSimpArgs false
set_option linter.unusedVariables false
/-- the sheet that is shown, of the entries of a round -/
def shL (h : List EnR) : ByteArray × Int × ByteArray × List RowR := match h.getLast? with
  | none => (⟨#[]⟩, 0, ⟨#[]⟩, [])
  | some x => (x.ro, x.va, x.st, x.xs)
theorem shL_last {h : List EnR} {x : EnR} (e : h[h.length - 1]? = some x) : shL h = (x.ro, x.va, x.st, x.xs) := by
  unfold shL
  rw [List.getLast?_eq_getElem?, e]
/-- a sheet that is returned -/
structure RetSh (e : Ending) (w' : World) (h : List EnR) (er : Value) : Prop where
  mk' ::
  out : ∃ ro va st q n k ys, e = .returned (.tuple #[.agg #[.string ro, .int .i64 va, .string st, .slice q n k], er]) ∧ Hid (ro = (shL h).1 ∧ va = (shL h).2.1 ∧ st = (shL h).2.2.1) ∧ RowsX w' q n k ys ∧ Hid (ys.map rk = (shL h).2.2.2.map rk)
theorem rows_nil (w : World) : RowsX w none 0 0 [] := ⟨rfl, ⟨Nat.le_refl _, by unfold maxLen; omega⟩, fun h => absurd h (by omega)⟩
set_option maxHeartbeats 4000000 in
set_option maxRecDepth 100000 in
theorem shown_err {w : World} {q : Option Addr} {l : List EnR} {n cap : Nat} (ro : ByteArray) (hn : n = l.length) (h1 : n ≤ 1000) (hr : EnS w q l) (hf : Few l) (he : firstE [archE l, nmE ro] ≠ 0) :
    Calls Tryz.prog 21 #[.agg #[.slice q n cap], .string ro] w fun e w' => RetSh e w' [] (.int .i64 (firstE [archE l, nmE ro])) ∧ Gr w w' := by
  have HE := Lib.hid (fun V (g : Gr w V) => entOf_err (cap := cap) ro hn h1 (hr.gr g) hf he)
  have hz : (firstE [archE l, nmE ro] != 0) = true := bne_iff_ne.2 he
  generalize firstE [archE l, nmE ro] = z at *
  clear hr hf hn he
  obtain ⟨W1, hW1, g1, a0⟩ := box1 w (.slice q n cap) 24
  have hs1 : W1.heap.size = w.heap.size + 1 := by rw [← hW1]; simp
  obtain ⟨W2, hW2, g2, z0, z1, z2, z3⟩ := box4 W1 (.string ⟨#[]⟩) (.int .i64 0) (.string ⟨#[]⟩) (.slice none 0 0) 27
  have hb2 : W2.heap[W1.heap.size]? = some (.cells #[.string ⟨#[]⟩, .int .i64 0, .string ⟨#[]⟩, .slice none 0 0] 27 (0, 0)) := by rw [← hW2]; exact heap_alloc_new W1 _
  replace a0 := g2.cell a0
  have HW := Lib.hid hW1
  have HW2 := Lib.hid hW2
  obtain ⟨Sx, hSx⟩ : ∃ S, w.heap.size + 1 = S := ⟨_, rfl⟩
  rw [hs1, hSx] at hb2 z0 z1 z2 z3
  have HSX := Lib.hid hSx
  go_enter Tryz.func21, Tryz.ntmps21
  go_wp2_with fail
  try rw [HW.out]
  try rw [HW2.out]
  try rw [hs1]
  try rw [hSx]
  clear HW HW2 hW1 hW2 hs1 hSx
  refine (HE.out _ (g1.trans g2)).mono ?_
  rintro e W3 ⟨rfl, hg⟩
  replace hb2 := Gr.block hg hb2
  replace z0 := hg.cell z0
  replace z1 := hg.cell z1
  replace z2 := hg.cell z2
  replace z3 := hg.cell z3
  have f2 : ∀ o, W3.frozen? ⟨Sx, o, none⟩ = false := fun o => frozen_of_row _ _ o _ _ hb2
  have HBS := Lib.hid hb2
  have hsx : w.heap.size ≤ Sx := by have := HSX.out; omega
  have HGF := Lib.hid ((g1.trans g2).trans hg)
  clear hb2 g1 g2 hg HE
  go_wp2_with fail
  have hb4 := set4O HBS.out (.string ⟨#[]⟩) (.int .i64 0) (.string ⟨#[]⟩) (.slice none 0 0)
  obtain ⟨y0, y1, y2, y3⟩ := cells4_ofO hb4
  refine bodyPost_ret (v := .tuple #[.agg #[.string ⟨#[]⟩, .int .i64 0, .string ⟨#[]⟩, .slice none 0 0], .int .i64 z]) (by simp [results, Tryz.results21, go_sem, y0, y1, y2, y3]) rfl ⟨⟨_, _, _, _, _, _, [], rfl, ⟨rfl, rfl, rfl⟩, rows_nil _, rfl⟩, ?_⟩
  exact Below.setCell (Below.setCell (Below.setCell (Below.setCell HGF.out (by show w.heap.size ≤ Sx; omega) _) (by show w.heap.size ≤ Sx; omega) _) (by show w.heap.size ≤ Sx; omega) _) (by show w.heap.size ≤ Sx; omega) _
set_option maxHeartbeats 4000000 in
set_option maxRecDepth 100000 in
theorem shown_ok {w : World} {q : Option Addr} {l : List EnR} {n cap : Nat} (ro : ByteArray) (hn : n = l.length) (h1 : n ≤ 12) (hr : EnS w q l) (hf : Few l) (he : firstE [archE l, nmE ro] = 0) :
    Calls Tryz.prog 21 #[.agg #[.slice q n cap], .string ro] w fun e w' => RetSh e w' (hisL l ro) (.int .i64 (if hisL l ro = [] then 10 else 0)) ∧ Gr w w' := by
  have ha0 : archE l = 0 := by
    have hh : ∀ a b : Int, firstE [a, b] = if a = 0 then (if b = 0 then 0 else b) else a := fun _ _ => rfl
    rw [hh] at he
    by_cases h2 : archE l = 0
    · exact h2
    · rw [if_neg h2] at he; exact he
  have hle := hr.lens
  have HLN := Lib.hid (show (hisL l ro).length ≤ 12 from Nat.le_trans (hisL_len l ro) (by omega))
  have HX160 := Lib.hid (fun e (h : e ∈ hisL l ro) => (show e.n ≤ 1000 ∧ ∀ x ∈ e.xs, x.xs.length ≤ 1000 from ⟨by have := arch_few ha0 e (hisL_mem h); have := hle e (hisL_mem h); omega, fun x hx => by have := hf e (hisL_mem h) x hx; omega⟩))
  have HE := Lib.hid (fun V (g : Gr w V) => entOf_ok (cap := cap) ro hn h1 (hr.gr g) hf he)
  generalize hisL l ro = H at *
  clear hr hf hn he ha0 hle
  obtain ⟨W1, hW1, g1, a0⟩ := box1 w (.slice q n cap) 24
  have hs1 : W1.heap.size = w.heap.size + 1 := by rw [← hW1]; simp
  obtain ⟨W2, hW2, g2, z0, z1, z2, z3⟩ := box4 W1 (.string ⟨#[]⟩) (.int .i64 0) (.string ⟨#[]⟩) (.slice none 0 0) 27
  have hb2 : W2.heap[W1.heap.size]? = some (.cells #[.string ⟨#[]⟩, .int .i64 0, .string ⟨#[]⟩, .slice none 0 0] 27 (0, 0)) := by rw [← hW2]; exact heap_alloc_new W1 _
  replace a0 := g2.cell a0
  have HW := Lib.hid hW1
  have HW2 := Lib.hid hW2
  obtain ⟨Sx, hSx⟩ : ∃ S, w.heap.size + 1 = S := ⟨_, rfl⟩
  rw [hs1, hSx] at hb2 z0 z1 z2 z3
  have HSX := Lib.hid hSx
  go_enter Tryz.func21, Tryz.ntmps21
  go_wp2_with fail
  try rw [HW.out]
  try rw [HW2.out]
  try rw [hs1]
  try rw [hSx]
  clear HW HW2 hW1 hW2 hs1 hSx
  refine (HE.out _ (g1.trans g2)).mono ?_
  rintro e W3 ⟨⟨q3, m, c3, rfl, hm, hes⟩, hg⟩
  have HM := Lib.hid hm.out
  replace hb2 := Gr.block hg hb2
  replace z0 := hg.cell z0
  replace z1 := hg.cell z1
  replace z2 := hg.cell z2
  replace z3 := hg.cell z3
  have hgg := (g1.trans g2).trans hg
  clear g1 g2 hg HE hm a0
  rcases Nat.eq_zero_or_pos m with h0 | h0
  · subst h0
    obtain rfl : H = [] := List.eq_nil_of_length_eq_zero HM.out.symm
    have f2 : ∀ o, W3.frozen? ⟨Sx, o, none⟩ = false := fun o => frozen_of_row _ _ o _ _ hb2
    have HBS := Lib.hid hb2
    have hsx : w.heap.size ≤ Sx := by have := HSX.out; omega
    have HGF := Lib.hid hgg
    clear hb2 hgg hes
    go_wp2_with fail
    have hb4 := set4O HBS.out (.string ⟨#[]⟩) (.int .i64 0) (.string ⟨#[]⟩) (.slice none 0 0)
    obtain ⟨y0, y1, y2, y3⟩ := cells4_ofO hb4
    refine bodyPost_ret (v := .tuple #[.agg #[.string ⟨#[]⟩, .int .i64 0, .string ⟨#[]⟩, .slice none 0 0], .int .i64 10]) (by simp [results, Tryz.results21, go_sem, y0, y1, y2, y3]) rfl ⟨⟨_, _, _, _, _, _, [], rfl, ⟨rfl, rfl, rfl⟩, rows_nil _, rfl⟩, ?_⟩
    exact Below.setCell (Below.setCell (Below.setCell (Below.setCell HGF.out (by show w.heap.size ≤ Sx; omega) _) (by show w.heap.size ≤ Sx; omega) _) (by show w.heap.size ≤ Sx; omega) _) (by show w.heap.size ≤ Sx; omega) _
  · have hm1 : ¬ m = 0 := by omega
    obtain ⟨b, off, rfl, hc⟩ := hes.out (by have := HM.out; omega)
    obtain ⟨a, rfl⟩ : ∃ a, m = a + 1 := ⟨m - 1, by omega⟩
    obtain ⟨x, hx⟩ : ∃ x, H[a]? = some x := ⟨H[a]'(by have := HM.out; omega), List.getElem?_eq_getElem _⟩
    have HHN : Hid (¬ H = []) := fun e => by rw [e] at hx; simp at hx
    have HSL : Hid (shL H = (x.ro, x.va, x.st, x.xs)) := shL_last (by rw [← HM.out]; exact hx)
    obtain ⟨hxn, hxl⟩ := HX160.out x (List.mem_of_getElem? hx)
    obtain ⟨x0, x1, x2, x3, x4, x5, x6, xr⟩ := hc a x hx
    have HSZ3 := Lib.hid (show Sx < W3.heap.size from (Array.getElem?_eq_some_iff.1 hb2).1)
    have HCP := Lib.hid (copySh_c (ro := x.ro) (st := x.st) (va := x.va) xr hxn hxl)
    have haw : IntKind.i64.wrap (a : Int) = a := by rw [IntKind.wrap_i64]; have := HM.out; have := HLN.out; omega
    have hae : (((a + 1 : Nat) : Int) != 0) = true := bne_iff_ne.2 (by omega)
    clear hx hc hes HX160 hxl xr
    go_wp2_with fail
    refine HCP.out.mono ?_
    rintro e W4 ⟨q4, k4, ys, rfl, hcp, hmp, hg⟩
    replace hb2 := Gr.block hg hb2
    replace z0 := hg.cell z0
    replace z1 := hg.cell z1
    replace z2 := hg.cell z2
    replace z3 := hg.cell z3
    have f2 : ∀ o, W4.frozen? ⟨Sx, o, none⟩ = false := fun o => frozen_of_row _ _ o _ _ hb2
    have HBS := Lib.hid hb2
    have hsx : w.heap.size ≤ Sx := by have := HSX.out; omega
    have HGF := Lib.hid (hgg.trans hg)
    have HRW := Lib.hid hcp
    have HMP := Lib.hid hmp
    clear hb2 hgg hg hcp hmp HCP x0 x1 x2 x3 x4 x5 x6
    go_wp2_with fail
    have hb4 := set4O HBS.out (.string x.ro) (.int .i64 x.va) (.string x.st) (.slice q4 x.n k4)
    obtain ⟨y0, y1, y2, y3⟩ := cells4_ofO hb4
    refine bodyPost_ret (v := .tuple #[.agg #[.string x.ro, .int .i64 x.va, .string x.st, .slice q4 x.n k4], .int .i64 0]) (by simp [results, Tryz.results21, go_sem, y0, y1, y2, y3]) rfl ⟨⟨_, _, _, _, _, _, ys, rfl, by rw [HSL.out]; exact ⟨rfl, rfl, rfl⟩, ((((HRW.out.set_low _ _ HSZ3.out).set_low _ _ HSZ3.out).set_low _ _ HSZ3.out).set_low _ _ HSZ3.out).rows, by rw [HSL.out]; exact HMP.out⟩, ?_⟩
    exact Below.setCell (Below.setCell (Below.setCell (Below.setCell HGF.out (by show w.heap.size ≤ Sx; omega) _) (by show w.heap.size ≤ Sx; omega) _) (by show w.heap.size ≤ Sx; omega) _) (by show w.heap.size ≤ Sx; omega) _
end Go.Proofs.YtnihclhhbegjhaaGreatDoor
namespace Go.Proofs.YtnihclhhbegjhaaGreatDoor
open Go.RowKit Go.Lib
set_option linter.unusedSimpArgs false
set_option linter.unusedVariables false
def mkOf (e : EnR) : MkR := ⟨e.de, e.nu⟩
theorem mark_c (x : EnR) (w : World) :
    Calls Tryz.prog 72 #[enV x] w fun e w' => e = .returned (.agg #[.string x.de, .int .i64 x.nu]) ∧ Gr w w' := by
  unfold enV
  obtain ⟨W1, hW1, g, a0, a1, a2, a3, a4, a5, a6⟩ := bx7 w (.string x.de) (.int .i64 x.nu) (.int .i64 x.ck) (.string x.ro) (.int .i64 x.va) (.string x.st) (.slice x.p x.n x.cap) 77
  have HW := Lib.hid hW1
  have hs1 : W1.heap.size = w.heap.size + 1 := by rw [← hW1]; simp
  have HS1 := Lib.hid hs1
  clear hW1 hs1
  go_enter Tryz.func72, Tryz.ntmps72
  go_wp2_with fail
  try rw [HW.out]
  go_wp2_with fail
  have y0 := cell_new W1 #[.string x.de, .int .i64 x.nu] 84 0 (by simp)
  have y1 := cell_new W1 #[.string x.de, .int .i64 x.nu] 84 1 (by simp)
  rw [HS1.out] at y0 y1
  simp only [List.getElem_toArray, List.getElem_cons_zero, List.getElem_cons_succ] at y0 y1
  exact bodyPost_ret (v := .agg #[.string x.de, .int .i64 x.nu]) (by simp [results, Tryz.results72, go_sem, y0, y1]) rfl ⟨rfl, g.alloc _⟩
set_option maxHeartbeats 4000000 in
set_option maxRecDepth 100000 in
theorem hist_err {w : World} {q : Option Addr} {l : List EnR} {n cap : Nat} (ro : ByteArray) (hn : n = l.length) (h1 : n ≤ 1000) (hr : EnS w q l) (hf : Few l) (he : firstE [archE l, nmE ro] ≠ 0) :
    Calls Tryz.prog 23 #[.agg #[.slice q n cap], .string ro] w fun e w' => RetVU e w' [] (firstE [archE l, nmE ro]) ∧ Gr w w' := by
  have HE := Lib.hid (fun V (g : Gr w V) => entOf_err (cap := cap) ro hn h1 (hr.gr g) hf he)
  have hz : (firstE [archE l, nmE ro] != 0) = true := bne_iff_ne.2 he
  generalize firstE [archE l, nmE ro] = z at *
  obtain ⟨W1, hW1, g1, a0⟩ := box1 w (.slice q n cap) 24
  have HW := Lib.hid hW1
  clear hW1 hr hf hn he
  go_enter Tryz.func23, Tryz.ntmps23
  go_wp2_with fail
  rw [HW.out]
  clear HW
  go_wp2_with fail
  refine (HE.out _ g1).mono ?_
  rintro e W3 ⟨rfl, hg⟩
  go_wp2_with fail
  exact bodyPost_ret (v := .tuple #[.slice none 0 0, .int .i64 z]) (by simp [results, Tryz.results23, go_sem]) rfl ⟨⟨none, 0, 0, rfl, rfl, mk_nil _⟩, g1.trans hg⟩
set_option maxHeartbeats 4000000 in
set_option maxRecDepth 100000 in
theorem hist_ok {w : World} {q : Option Addr} {l : List EnR} {n cap : Nat} (ro : ByteArray) (hn : n = l.length) (h1 : n ≤ 12) (hr : EnS w q l) (hf : Few l) (he : firstE [archE l, nmE ro] = 0) :
    Calls Tryz.prog 23 #[.agg #[.slice q n cap], .string ro] w fun e w' => RetVU e w' ((hisL l ro).map mkOf) (if hisL l ro = [] then 10 else 0) ∧ Gr w w' := by
  obtain ⟨i0, hi, hz0, hz1, hz2⟩ := info_parts infoMkP
  have HI0 := Lib.hid (And.intro hi (And.intro hz0 (And.intro hz1 hz2)))
  have HE := Lib.hid (fun V (g : Gr w V) => entOf_ok (cap := cap) ro hn h1 (hr.gr g) hf he)
  have HLN := Lib.hid (show (hisL l ro).length ≤ 12 from Nat.le_trans (hisL_len l ro) (by omega))
  generalize hisL l ro = H at *
  obtain ⟨W1, hW1, g1, a0⟩ := box1 w (.slice q n cap) 24
  have HW := Lib.hid hW1
  clear hW1 hr hf hn he hi hz0 hz1 hz2
  go_enter Tryz.func23, Tryz.ntmps23
  go_wp2_with fail
  rw [HW.out]
  clear HW
  go_wp2_with fail
  refine (HE.out _ g1).mono ?_
  rintro e W3 ⟨⟨q3, m, c3, rfl, hm, hes⟩, hg⟩
  have HM := Lib.hid hm.out
  have HG3 := Lib.hid (g1.trans hg)
  clear g1 hg HE hm a0
  rcases Nat.eq_zero_or_pos m with h0 | h0
  · subst h0
    obtain rfl : H = [] := List.eq_nil_of_length_eq_zero HM.out.symm
    clear hes
    go_wp2_with fail
    exact bodyPost_ret (v := .tuple #[.slice none 0 0, .int .i64 10]) (by simp [results, Tryz.results23, go_sem]) rfl ⟨⟨none, 0, 0, rfl, rfl, mk_nil _⟩, HG3.out⟩
  · have hm1 : ¬ m = 0 := by omega
    have HHN : Hid (¬ H = []) := fun e => by rw [e] at HM; have := HM.out; simp at this; omega
    obtain ⟨b, off, rfl, hc⟩ := hes.out (by have := HM.out; omega)
    have HC := Lib.hid hc
    have hm12 : m ≤ 12 := by have := HLN.out; have := HM.out; omega
    clear hes hc
    go_wp2_with fail
    go_loopg [8, 22] m (fun gk s8 s22 wr => ∃ i : Nat, s22 = .int .i64 (i : Int) ∧ gk + i = m ∧ Hid (wr.ownsRow W3.heap.size 84 2 s8 i (mkCs ((H.take i).map mkOf))) ∧ Hid (Gr W3 wr))
    case atStart => exact ⟨0, rfl, by omega, World.ownsRow_nil _ _ _ _, Gr.refl _⟩
    case round =>
      obtain ⟨i, rfl, hgk, HOWN, HG⟩ := hrel
      have hszw := HG.out.size
      by_cases hlt : i < m
      · obtain ⟨x, hx⟩ : ∃ x, H[i]? = some x := ⟨H[i]'(by have := HM.out; omega), List.getElem?_eq_getElem _⟩
        obtain ⟨a0, a1, a2, a3, a4, a5, a6, _⟩ := (HC.out i x hx).gr HG.out
        have hlt2 : (i : Int) < (m : Int) := by omega
        have HT : Hid (mkCs ((H.take (i + 1)).map mkOf) = mkCs ((H.take i).map mkOf) ++ [.string x.de, .int .i64 x.nu]) := by
          rw [Hid, List.take_add_one, hx, Option.toList_some, List.map_append, List.map_singleton, mkCs_add]; rfl
        have gB := (Gr.refl wr).alloc (.cells #[.string x.de, .int .i64 x.nu, .int .i64 x.ck, .string x.ro, .int .i64 x.va, .string x.st, .slice x.p x.n x.cap] 77)
        have HMK := Lib.hid (fun V => mark_c x V)
        unfold enV at HMK
        clear hx
        go_wp2_with fail
        refine (HMK.out _).mono ?_
        rintro e V ⟨rfl, hg⟩
        have gV := gB.trans hg
        have hownV := own_kept HOWN.out gV
        have HGV : Hid (Gr W3 V) := HG.out.trans gV
        have hszV := HGV.out.size
        obtain ⟨hi, hz0, hz1, hz2⟩ := HI0.out
        clear hg gB gV a0 a1 a2 a3 a4 a5 a6
        go_wp2_with (at_builtin; refine wpList_append_own _ rfl _ _ 55 rfl W3.heap.size 84 i0 (.agg #[.string ⟨#[]⟩, .int .i64 0]) 2 24 Tryz.underlying55 hi hz0 hz1 hz2 rfl (by decide) _ _ _ rfl (own_kept hownV ((Gr.refl V).alloc _)) ⟨V.heap.size, 0, none⟩ 1 1 [.string x.de, .int .i64 x.nu] rfl rfl (cell_twoM _ _ _ _) (one_twoM _ _) (by unfold maxLen; omega) (by omega) (by simp; omega) ?_; intro v1 w1 hown1 hgrow1 hnil)
        have HGR : Hid (Gr W3 w1) := Below.grown (HGV.out.alloc _) hgrow1 (by simp; omega) (fun q hq => (own_in hownV hq).2)
        have HO1 := Lib.hid hown1
        clear hown1 hgrow1 hownV hnil
        go_wp2_with fail
        go_roundg (gk - 1)
        case measure => omega
        case rel => exact ⟨i + 1, by go_num, by omega, by rw [HT.out]; exact HO1.out, HGR⟩
      · obtain rfl : m = i := by omega
        have hlt2 : ¬ (m : Int) < (m : Int) := by omega
        obtain ⟨q5, c5, rfl, hc51, hc52⟩ := own_shape HOWN.out
        have HV : Hid (MkS wr q5 (H.map mkOf)) := MkS.of_own (n := m) (by have := HOWN.out; rwa [List.take_of_length_le (by have := HM.out; omega)] at this) (by rw [List.length_map]; exact HM.out.symm)
        clear HOWN
        go_wp2_with fail
        exact bodyPost_ret (v := .tuple #[.slice q5 m c5, .int .i64 0]) (by simp [results, Tryz.results23, go_sem]) rfl ⟨⟨q5, m, c5, rfl, by rw [Hid, List.length_map]; exact HM.out, HV.out⟩, HG3.out.trans HG.out⟩
end Go.Proofs.YtnihclhhbegjhaaGreatDoor
namespace Go.Proofs.YtnihclhhbegjhaaGreatDoor
open Go.RowKit Go.Lib
set_option linter.unusedSimpArgs false
set_option linter.unusedVariables false
def toBA (z : List UInt8) : ByteArray := ⟨z.toArray⟩
theorem toBA_list (z : List UInt8) : (toBA z).toList = z := by
  rw [ByteArray.toList_eq]; rfl
theorem toBA_of (s : ByteArray) : toBA s.toList = s := baI (toBA_list _)
def AscB (r : List ByteArray) : Prop := r.Pairwise fun a b => ltS a b = true
theorem ltS_trans {a b c : ByteArray} (h1 : ltS a b = true) (h2 : ltS b c = true) : ltS a c = true := less_trans _ _ _ h1 h2
theorem ltS_asy {a b : ByteArray} (h1 : ltS a b = true) (h2 : ltS b a = true) : False := by
  have := ltS_trans h1 h2
  rw [ltS_irr] at this; cases this
theorem ltS_ge {a b : ByteArray} (h : ltS a b = false) (hn : ¬ a.toList = b.toList) : ltS b a = true := by
  have := less_tri b.toList a.toList
  unfold ltS at *
  rw [h] at this
  rw [this]
  simp [hn]
theorem asc_unique : ∀ (A B : List ByteArray), AscB A → AscB B → (∀ z, z ∈ A ↔ z ∈ B) → A = B
  | [], [], _, _, _ => rfl
  | [], b :: B, _, _, h => by have := (h b).2 (by simp); cases this
  | a :: A, [], _, _, h => by have := (h a).1 (by simp); cases this
  | a :: A, b :: B, hA, hB, h => by
    have pA := List.pairwise_cons.1 hA
    have pB := List.pairwise_cons.1 hB
    have e : a = b := by
      rcases List.mem_cons.1 ((h a).1 (by simp)) with e | e
      · exact e
      · rcases List.mem_cons.1 ((h b).2 (by simp)) with e2 | e2
        · exact e2.symm
        · exact (ltS_asy (pA.1 b e2) (pB.1 a e)).elim
    subst e
    congr 1
    refine asc_unique A B pA.2 pB.2 fun z => ⟨fun hz => ?_, fun hz => ?_⟩
    · rcases List.mem_cons.1 ((h z).1 (by simp [hz])) with e | e
      · subst e
        have := pA.1 z hz
        rw [ltS_irr] at this; cases this
      · exact e
    · rcases List.mem_cons.1 ((h z).2 (by simp [hz])) with e | e
      · subst e
        have := pB.1 z hz
        rw [ltS_irr] at this; cases this
      · exact e
/-- the place of a name -/
def posN (r : List ByteArray) (s : ByteArray) : Nat := (r.takeWhile fun z => ltS z s).length
def hasN (r : List ByteArray) (s : ByteArray) : Bool := match r[posN r s]? with
  | some z => z.toList == s.toList
  | none => false
/-- one name more, unless it is there -/
def insN (r : List ByteArray) (s : ByteArray) : List ByteArray := if hasN r s = true then r else r.take (posN r s) ++ s :: r.drop (posN r s)
/-- the rounds, as the reference finds them -/
def rdR (l : List EnR) : List ByteArray := l.foldl (fun r e => insN r e.ro) []
theorem rdR_add (l : List EnR) (e : EnR) : rdR (l ++ [e]) = insN (rdR l) e.ro := by unfold rdR; rw [List.foldl_append]; rfl
theorem posN_le (r : List ByteArray) (s : ByteArray) : posN r s ≤ r.length := (List.takeWhile_sublist _).length_le
theorem posN_of {r : List ByteArray} {s : ByteArray} {k : Nat} (hk : k ≤ r.length) (h1 : ∀ j z, j < k → r[j]? = some z → ltS z s = true) (h2 : ∀ z, r[k]? = some z → ltS z s = false) : posN r s = k := by
  have hs : r = r.take k ++ r.drop k := (List.take_append_drop k r).symm
  have ha : ∀ z ∈ r.take k, ltS z s = true := fun z hz => by
    obtain ⟨j, hj⟩ := List.getElem?_of_mem hz
    rw [List.getElem?_take] at hj
    split at hj
    · exact h1 j z (by assumption) hj
    · cases hj
  unfold posN
  rw [hs, List.takeWhile_append_of_pos ha]
  have hd : (r.drop k).takeWhile (fun z => ltS z s) = [] := by
    cases hh : r.drop k with
    | nil => rfl
    | cons z t =>
      have hz : r[k]? = some z := by
        have : (r.drop k)[0]? = some z := by rw [hh]; rfl
        rwa [List.getElem?_drop, Nat.add_zero] at this
      rw [List.takeWhile_cons_of_neg (by rw [h2 z hz]; simp)]
  rw [hd, List.append_nil, List.length_take]
  omega
theorem insN_len (r : List ByteArray) (s : ByteArray) : (insN r s).length ≤ r.length + 1 := by
  unfold insN
  split
  · omega
  · rw [List.length_append, List.length_take, List.length_cons, List.length_drop]; have := posN_le r s; omega
theorem insN_spec {r : List ByteArray} (s : ByteArray) (h : AscB r) : AscB (insN r s) ∧ ∀ z, z ∈ insN r s ↔ z ∈ r ∨ z = s := by
  have htake : r.take (posN r s) = r.takeWhile fun z => ltS z s := by
    unfold posN
    conv => lhs; rw [← List.takeWhile_append_dropWhile (p := fun z => ltS z s) (l := r)]
    rw [List.takeWhile_append_dropWhile]
    exact List.prefix_iff_eq_take.1 (List.takeWhile_prefix _) |>.symm
  have hlow : ∀ z ∈ r.take (posN r s), ltS z s = true := fun z hz => by
    rw [htake] at hz
    have := List.all_takeWhile (p := fun z => ltS z s) (l := r)
    rw [List.all_eq_true] at this
    exact this z hz
  have hsplit := List.take_append_drop (posN r s) r
  have hp := h
  unfold AscB at hp
  rw [← hsplit, List.pairwise_append] at hp
  obtain ⟨p1, p2, p3⟩ := hp
  unfold insN
  cases hd : r.drop (posN r s) with
  | nil =>
    have hn : hasN r s = false := by
      unfold hasN
      have : r.length ≤ posN r s := by have := congrArg List.length hd; rw [List.length_drop] at this; simp at this; omega
      rw [List.getElem?_eq_none this]
    rw [if_neg (by rw [hn]; simp)]
    have hr : r = r.take (posN r s) := by rw [hd, List.append_nil] at hsplit; exact hsplit.symm
    refine ⟨?_, fun z => ?_⟩
    · unfold AscB
      rw [List.pairwise_append]
      exact ⟨p1, by simp, fun a ha b hb => by simp at hb; subst hb; exact hlow a ha⟩
    · rw [← hr]; simp
  | cons b B =>
    rw [hd] at p2 p3
    have hb0 : r[posN r s]? = some b := by
      have : (r.drop (posN r s))[0]? = some b := by rw [hd]; rfl
      rwa [List.getElem?_drop, Nat.add_zero] at this
    have hbs : ltS b s = false := by
      have h1 := List.head?_dropWhile_not (fun z => ltS z s) r
      have h2 : r.dropWhile (fun z => ltS z s) = b :: B := by
        have e1 := List.takeWhile_append_dropWhile (p := fun z => ltS z s) (l := r)
        rw [← htake] at e1
        have e2 := hsplit
        rw [hd] at e2
        exact List.append_cancel_left (e1.trans e2.symm)
      rw [h2] at h1
      simpa using h1
    have hh : hasN r s = (b.toList == s.toList) := by unfold hasN; rw [hb0]
    by_cases he : b.toList = s.toList
    · rw [if_pos (by rw [hh]; simpa using he)]
      refine ⟨h, fun z => ⟨.inl, fun hz => ?_⟩⟩
      rcases hz with hz | hz
      · exact hz
      · subst hz
        rw [← baI he]
        exact List.mem_of_getElem? hb0
    · rw [if_neg (by rw [hh]; simpa using he)]
      have hsb := ltS_ge hbs he
      have pB := List.pairwise_cons.1 p2
      refine ⟨?_, fun z => ?_⟩
      · unfold AscB
        rw [List.pairwise_append]
        refine ⟨p1, List.pairwise_cons.2 ⟨fun z hz => ?_, p2⟩, fun a ha z hz => ?_⟩
        · rcases List.mem_cons.1 hz with rfl | hz
          · exact hsb
          · exact ltS_trans hsb (pB.1 z hz)
        · rcases List.mem_cons.1 hz with rfl | hz
          · exact hlow a ha
          · exact p3 a ha z hz
      · conv => rhs; rw [← hsplit, hd]
        simp only [List.mem_append, List.mem_cons]
        constructor
        · rintro (h1 | h1 | h1 | h1)
          · exact .inl (.inl h1)
          · exact .inr h1
          · exact .inl (.inr (.inl h1))
          · exact .inl (.inr (.inr h1))
        · rintro ((h1 | h1 | h1) | h1)
          · exact .inl h1
          · exact .inr (.inr (.inl h1))
          · exact .inr (.inr (.inr h1))
          · exact .inr (.inl h1)
theorem rdR_spec (l : List EnR) : AscB (rdR l) ∧ ∀ z, z ∈ rdR l ↔ ∃ e ∈ l, e.ro = z := by
  have key : ∀ (l : List EnR) (r : List ByteArray), AscB r → AscB (l.foldl (fun r e => insN r e.ro) r) ∧ ∀ z, z ∈ l.foldl (fun r e => insN r e.ro) r ↔ z ∈ r ∨ ∃ e ∈ l, e.ro = z := by
    intro l
    induction l with
    | nil => intro r h; exact ⟨h, fun z => by simp⟩
    | cons x l ih =>
      intro r h
      obtain ⟨h1, h2⟩ := insN_spec x.ro h
      obtain ⟨h3, h4⟩ := ih _ h1
      refine ⟨h3, fun z => ?_⟩
      rw [List.foldl_cons, h4, h2]
      simp only [List.mem_cons, exists_eq_or_imp]
      constructor
      · rintro ((h | h) | h)
        · exact .inl h
        · exact .inr (.inl h.symm)
        · exact .inr (.inr h)
      · rintro (h | h | h)
        · exact .inl (.inl h)
        · exact .inl (.inr h.symm)
        · exact .inr h
  obtain ⟨h1, h2⟩ := key l [] List.Pairwise.nil
  exact ⟨h1, fun z => by rw [rdR, h2]; simp⟩
theorem rdR_len (l : List EnR) : (rdR l).length ≤ l.length := by
  have key : ∀ (l : List EnR) (r : List ByteArray), (l.foldl (fun r e => insN r e.ro) r).length ≤ r.length + l.length := by
    intro l
    induction l with
    | nil => intro r; simp
    | cons x l ih =>
      intro r
      have h1 := ih (insN r x.ro)
      have h2 := insN_len r x.ro
      rw [List.foldl_cons, List.length_cons]
      omega
  simpa [rdR] using key l []
theorem compact_spec (zs : List (List UInt8)) (h : zs.Pairwise (fun a b => a ≤ b)) : (Lib.compact zs).Pairwise (fun a b => a < b) ∧ ∀ z, z ∈ Lib.compact zs ↔ z ∈ zs := by
  have hle : ∀ i j, i < j → j < zs.length → zs.toArray[i]! ≤ zs.toArray[j]! := fun i j hij hj => by
    have := List.pairwise_iff_getElem.1 h i j (by omega) hj hij
    rw [getElem!_pos zs.toArray i (by simpa using (show i < zs.length by omega)), getElem!_pos zs.toArray j (by simpa using hj)]
    simpa using this
  constructor
  · unfold Lib.compact Lib.compactUpTo
    rw [List.pairwise_map]
    refine List.Pairwise.imp_of_mem ?_ (List.Pairwise.filter _ List.pairwise_lt_range)
    intro i j hi hj hij
    obtain ⟨hj1, hj2⟩ := List.mem_filter.1 hj
    have hjl := List.mem_range.1 hj1
    unfold Lib.keeps at hj2
    have hne := (of_decide_eq_true hj2).resolve_left (by omega)
    have h1 : zs.toArray[j - 1]! < zs.toArray[j]! := by
      have := hle (j - 1) j (by omega) hjl
      by_cases hlt : zs.toArray[j - 1]! < zs.toArray[j]!
      · exact hlt
      · exact absurd (List.le_antisymm (List.not_lt.1 hlt) this) hne
    rcases Nat.lt_or_ge i (j - 1) with hlt | hge
    · exact List.lt_of_le_of_lt (hle i (j - 1) hlt (by omega)) h1
    · obtain rfl : i = j - 1 := by omega
      exact h1
  · intro z
    unfold Lib.compact Lib.compactUpTo
    rw [List.mem_map]
    constructor
    · rintro ⟨j, hj, rfl⟩
      have hjl := List.mem_range.1 (List.mem_filter.1 hj).1
      rw [getElem!_pos zs.toArray j (by simpa using hjl)]
      simp
    · intro hz
      obtain ⟨i, hi⟩ := List.getElem?_of_mem hz
      have hil := (List.getElem?_eq_some_iff.1 hi).1
      have hv : zs.toArray[i]! = z := by
        rw [getElem!_pos zs.toArray i (by simpa using hil)]
        simpa using (List.getElem?_eq_some_iff.1 hi).2
      clear hi
      induction i with
      | zero => exact ⟨0, List.mem_filter.2 ⟨List.mem_range.2 hil, by simp [Lib.keeps]⟩, hv⟩
      | succ i ih =>
        by_cases hk : zs.toArray[i + 1]! = zs.toArray[i]!
        · exact ih (by omega) (hk ▸ hv)
        · exact ⟨i + 1, List.mem_filter.2 ⟨List.mem_range.2 hil, decide_eq_true (Or.inr hk)⟩, hv⟩
/-- the rounds, as the program finds them -/
def rdP (l : List EnR) : List (List UInt8) := Lib.compact ((l.map fun e => e.ro.toList).mergeSort fun x y => decide (x ≤ y))
theorem rd_same (l : List EnR) : (rdP l).map toBA = rdR l := by
  obtain ⟨h1, h2⟩ := rdR_spec l
  have hs : ((l.map fun e => e.ro.toList).mergeSort fun x y => decide (x ≤ y)).Pairwise (fun a b => a ≤ b) := by
    have := List.pairwise_mergeSort (le := fun (x y : List UInt8) => decide (x ≤ y)) (fun a b c p q => decide_eq_true (List.le_trans (of_decide_eq_true p) (of_decide_eq_true q))) (fun a b => by rcases List.le_total a b with h | h <;> simp [h]) (l.map fun e => e.ro.toList)
    exact this.imp fun h => of_decide_eq_true h
  obtain ⟨c1, c2⟩ := compact_spec _ hs
  refine asc_unique _ _ ?_ h1 fun z => ?_
  · unfold AscB rdP
    rw [List.pairwise_map]
    refine c1.imp fun {a b} h => ?_
    unfold ltS
    rw [toBA_list, toBA_list, bytesLess_eq]
    exact decide_eq_true h
  · rw [h2, List.mem_map]
    constructor
    · rintro ⟨x, hx, rfl⟩
      have := (c2 x).1 hx
      rw [List.mem_mergeSort, List.mem_map] at this
      obtain ⟨e, he, rfl⟩ := this
      exact ⟨e, he, (toBA_of _).symm⟩
    · rintro ⟨e, he, rfl⟩
      exact ⟨e.ro.toList, (c2 _).2 (by rw [List.mem_mergeSort, List.mem_map]; exact ⟨e, he, rfl⟩), toBA_of _⟩
end Go.Proofs.YtnihclhhbegjhaaGreatDoor
namespace Go.Proofs.YtnihclhhbegjhaaGreatDoor
open Go.RowKit Go.Lib
set_option linter.unusedSimpArgs false
set_option linter.unusedVariables false
/-- the cell of a word -/
structure StrAt (w : World) (b off : Nat) (x : ByteArray) : Prop where
  nm : w.cell? ⟨b, off, none⟩ = some (.string x)
theorem StrAt.gr {w w' : World} {b off : Nat} {x : ByteArray} (h : StrAt w b off x) (k : Gr w w') : StrAt w' b off x := ⟨k.cell h.nm⟩
/-- the slice v reads as these words -/
structure StrAts (w : World) (v : Value) (xs : List ByteArray) : Prop where
  mk' ::
  out : ∃ p cap, v = .slice p xs.length cap ∧ (xs.length ≤ cap ∧ cap ≤ maxLen) ∧ (0 < xs.length → ∃ b off, p = some ⟨b, off, none⟩ ∧ ∀ i x, xs[i]? = some x → StrAt w b (off + i) x)
theorem StrAts.gr {w w' : World} {v : Value} {xs : List ByteArray} (h : StrAts w v xs) (k : Gr w w') : StrAts w' v xs := by
  obtain ⟨⟨p, cap, rfl, hcap, hh⟩⟩ := h
  refine ⟨p, cap, rfl, hcap, fun h0 => ?_⟩
  obtain ⟨b, off, h1, h2⟩ := hh h0
  exact ⟨b, off, h1, fun i x hx => (h2 i x hx).gr k⟩
end Go.Proofs.YtnihclhhbegjhaaGreatDoor
namespace Go.Proofs.YtnihclhhbegjhaaGreatDoor
open Go.RowKit Go.Lib
set_option linter.unusedSimpArgs false
set_option linter.unusedVariables false
set_option maxHeartbeats 1000000 in
set_option maxRecDepth 100000 in
theorem sameWds_pos (ns : List ByteArray) (n b off b2 off2 cap cap2 : Nat) (w : World) (hn : ns.length = n) (h1 : n ≤ 1000) (ha : ∀ i s, ns[i]? = some s → w.cell? ⟨b, off + i, none⟩ = some (.string s)) (hb : ∀ i s, ns[i]? = some s → w.cell? ⟨b2, off2 + i, none⟩ = some (.string s)) :
    Calls Tryz.prog 29 #[.slice (some ⟨b, off, none⟩) n cap, .slice (some ⟨b2, off2, none⟩) n cap2] w fun e w' => e = .returned (.bool true) ∧ Gr w w' := by
  have HX := Lib.hid (fun k (h : k < n) => (show ∃ x, ns[k]? = some x from ⟨ns[k]'(by omega), List.getElem?_eq_getElem _⟩))
  have HA := Lib.hid ha
  have HB := Lib.hid hb
  clear ha hb hn
  go_enter Tryz.func29, Tryz.ntmps29
  go_wp2_with fail
  go_loopg [5] n (fun gk s5 wr => ∃ i : Nat, s5 = .int .i64 i ∧ gk + i = n ∧ Gr w wr)
  case atStart => exact ⟨0, rfl, by omega, Gr.refl _⟩
  case round =>
    obtain ⟨i, rfl, hi, hnx⟩ := hrel
    by_cases hlt : i < n
    · obtain ⟨x, hx⟩ := HX.out i hlt
      have c0 := hnx.cell (HA.out i x hx)
      have c1 := hnx.cell (HB.out i x hx)
      have hi2 : (i : Int) < n := by omega
      clear hx
      go_wp2_with fail
      go_quiet (fail)
      go_wp2_with fail
      go_roundg (gk - 1)
      case measure => omega
      case rel => exact ⟨i + 1, by go_num, by omega, hnx.drewN _⟩
    · obtain rfl : i = n := by omega
      go_wp2_with fail
      go_ret
      exact ⟨rfl, hnx⟩
theorem sameWds_nil (p p2 : Option Addr) (cap cap2 : Nat) (w : World) :
    Calls Tryz.prog 29 #[.slice p 0 cap, .slice p2 0 cap2] w fun e w' => e = .returned (.bool true) ∧ Gr w w' := by
  go_enter Tryz.func29, Tryz.ntmps29
  go_wp2_with fail
  refine wp_loop_rounds 2 ?_
  rw [rounds_succ]
  go_wp2_with fail
  go_ret
  exact ⟨rfl, Gr.refl _⟩
theorem sameStr_c {v v2 : Value} {ns : List ByteArray} {w : World} (h : StrAts w v ns) (h2 : StrAts w v2 ns) (hs : ns.length ≤ 1000) :
    Calls Tryz.prog 29 #[v, v2] w fun e w' => e = .returned (.bool true) ∧ Gr w w' := by
  obtain ⟨⟨p, cap, rfl, _, ha⟩⟩ := h
  obtain ⟨⟨p2, cap2, rfl, _, hb⟩⟩ := h2
  rcases Nat.eq_zero_or_pos ns.length with h0 | h0
  · rw [h0]; exact sameWds_nil p p2 cap cap2 w
  · obtain ⟨b, off, rfl, h3⟩ := ha h0
    obtain ⟨b2, off2, rfl, h4⟩ := hb h0
    exact sameWds_pos ns _ b off b2 off2 cap cap2 w rfl hs (fun i s hi => (h3 i s hi).nm) (fun i s hi => (h4 i s hi).nm)
end Go.Proofs.YtnihclhhbegjhaaGreatDoor
