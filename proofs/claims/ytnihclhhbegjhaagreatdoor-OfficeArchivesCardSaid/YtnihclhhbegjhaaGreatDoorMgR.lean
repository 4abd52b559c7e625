/- Archives (chapter 10): what the laws of archives share. -/
import Derived.Test.YtnihclhhbegjhaaGreatDoorGMgL
import Derived.Test.YtnihclhhbegjhaaGreatDoorMgQ
namespace Go.Proofs.YtnihclhhbegjhaaGreatDoor
open Go.RowKit Go.Lib
set_option linter.unusedSimpArgs false
set_option linter.unusedVariables false
theorem whenM_c (b : Bool) (n : Int) (w : World) :
    Calls Tryz.prog 26 #[.bool b, .int .i64 n] w fun e w' => e = .returned (.int .i64 (if b then n else 0)) ∧ w = w' := by
  cases b
  all_goals
    go_enter Tryz.func26, Tryz.ntmps26
    go_wp2_with fail
    go_ret
    exact ⟨rfl, rfl⟩
theorem nameM_c (s : ByteArray) (w : World) :
    Calls Tryz.prog 16 #[.string s] w fun e w' => e = .returned (.int .i64 (nmE s)) ∧ w = w' := by
  have HI := Lib.hid (refIsName_c s w)
  have HZ : Hid (nmE s = if (!decide (Nm s)) = true then 8 else 0) := by
    rw [Hid]; unfold nmE
    by_cases h : Nm s
    · simp [h]
    · simp [h]
  have HWT := Lib.hid (whenM_c true 8 w)
  have HWF := Lib.hid (whenM_c false 8 w)
  generalize nmE s = z at *
  generalize decide (Nm s) = b at *
  cases b
  · go_enter Tryz.func16, Tryz.ntmps16
    go_wp2_with fail
    refine HI.out.mono ?_
    rintro e w9 ⟨rfl, rfl⟩
    go_wp2_with fail
    refine HWT.out.mono ?_
    rintro e w9 ⟨rfl, rfl⟩
    go_wp2_with fail
    go_ret
    exact ⟨by rw [HZ.out]; rfl, rfl⟩
  · go_enter Tryz.func16, Tryz.ntmps16
    go_wp2_with fail
    refine HI.out.mono ?_
    rintro e w9 ⟨rfl, rfl⟩
    go_wp2_with fail
    refine HWF.out.mono ?_
    rintro e w9 ⟨rfl, rfl⟩
    go_wp2_with fail
    go_ret
    exact ⟨by rw [HZ.out]; rfl, rfl⟩
set_option maxHeartbeats 4000000 in
set_option maxRecDepth 100000 in
theorem entries1_c {p : Option Addr} {cap n : Nat} {l : List EnR} {w : World} (hr : EnS w p l) (hn : n = l.length) (hb : n * 96 ≤ 140737488355328) :
    Calls Tryz.prog 7 #[.slice p n cap] w fun e w' => ∃ q c, e = .returned (.slice q n c) ∧ (n ≤ c ∧ c ≤ maxLen) ∧ w'.ownsRow w.heap.size 65 7 (.slice q n c) n (enCs l) ∧ Gr w w' := by
  obtain ⟨i0, hi, hz0, hz1, hz2⟩ := info_parts infoEnR
  have HN := Lib.hid hn
  have HR := Lib.hid hr.out
  have HRX : Hid (∀ e ∈ l, RowsX w e.p e.n e.cap e.xs) := fun e he => by
    obtain ⟨i, hi⟩ := List.getElem?_of_mem he
    obtain ⟨b, off, _, hc⟩ := hr.out (by have := (List.getElem?_eq_some_iff.1 hi).1; omega)
    exact (hc i e hi).rows
  have hnm : n ≤ 1466015503701 := by omega
  clear hr hn
  go_enter Tryz.func7, Tryz.ntmps7
  go_wp2_with fail
  go_loopg [3, 8] n (fun gk s3 s8 wr => ∃ i : Nat, s8 = .int .i64 (i : Int) ∧ gk + i = n ∧ wr.ownsRow w.heap.size 65 7 s3 i (enCs (l.take i)) ∧ Hid (Gr w wr))
  case atStart => exact ⟨0, rfl, by omega, World.ownsRow_nil _ _ _ _, Gr.refl _⟩
  case round =>
    obtain ⟨i, rfl, hgk, hown, HG⟩ := hrel
    have hsz := HG.out.size
    by_cases hlt : i < n
    · obtain ⟨x, hx⟩ : ∃ x, l[i]? = some x := ⟨l[i]'(by have := HN.out; omega), List.getElem?_eq_getElem _⟩
      obtain ⟨b, off, rfl, hc⟩ := HR.out (by have := HN.out; omega)
      obtain ⟨a0, a1, a2, a3, a4, a5, a6, _⟩ := (hc i x hx).gr HG.out
      have hlt2 : (i : Int) < (n : Int) := by omega
      have HT : Hid (enCs (l.take (i + 1)) = enCs (l.take i) ++ enC x) := by rw [Hid, List.take_add_one, hx]; exact enCs_add _ _
      obtain ⟨xde, xnu, xck, xro, xva, xst, xp, xn, xc, xxs⟩ := x
      simp only at a0 a1 a2 a3 a4 a5 a6
      have g1 := (Gr.refl wr).alloc (.cells #[.string xde, .int .i64 xnu, .int .i64 xck, .string xro, .int .i64 xva, .string xst, .slice xp xn xc] 77)
      clear hx hc
      go_wp2_with fail
      refine (own10_c _ _ _ _ _ _ _ _ _ _).mono ?_
      rintro e V ⟨rfl, hg⟩
      have gV := g1.trans hg
      have hownV := own_kept hown gV
      have HGV : Hid (Gr w V) := HG.out.trans gV
      have hszV := HGV.out.size
      clear hg g1 gV a0 a1 a2 a3 a4 a5 a6
      go_wp2_with (at_builtin; refine wpList_append_own _ rfl _ _ 30 rfl w.heap.size 65 i0 (.agg #[.string ⟨#[]⟩, .int .i64 0, .int .i64 0, .string ⟨#[]⟩, .int .i64 0, .string ⟨#[]⟩, .slice none 0 0]) 7 96 Tryz.underlying30 hi hz0 hz1 hz2 rfl (by decide) _ _ _ rfl (own_kept hownV ((Gr.refl V).alloc _)) ⟨V.heap.size, 0, none⟩ 1 1 [.string xde, .int .i64 xnu, .int .i64 xck, .string xro, .int .i64 xva, .string xst, .slice xp xn xc] rfl rfl (cell_seven _ _ _ _ _ _ _ _ _) (one_seven _ _ _ _ _ _ _ _ _) (by unfold maxLen; omega) (by omega) (by simp; omega) ?_; intro v1 w1 hown1 hgrow1 hnil)
      have HGR : Hid (Gr w w1) := Below.grown (HGV.out.alloc _) hgrow1 (by simp; omega) (fun q hq => (own_in hownV hq).2)
      have HO1 := Lib.hid hown1
      clear hown1 hgrow1 hown hownV hnil
      go_roundg (gk - 1)
      case measure => omega
      case rel => exact ⟨i + 1, by go_num, by omega, by have := HO1.out; rw [HT.out]; exact this, HGR⟩
    · obtain rfl : n = i := by omega
      have hlt2 : ¬ (n : Int) < (n : Int) := by omega
      obtain ⟨q, c, rfl, hc1, hc2⟩ := own_shape hown
      have HV : Hid (EnS wr q l) := EnS.of_own (by have := hown; rwa [List.take_of_length_le (by have := HN.out; omega)] at this) HN.out.symm (fun e he => (HRX.out e he).gr HG.out)
      have HQ0 : Hid (wr.ownsRow w.heap.size 65 7 (.slice q n c) n (enCs l)) := by have := hown; rwa [List.take_of_length_le (by have := HN.out; omega)] at this
      clear hown
      go_wp2_with fail
      go_ret
      exact ⟨_, _, rfl, ⟨hc1, hc2⟩, HQ0.out, HG.out⟩
theorem lawFirst10_three (x y z : Int) (b cap : Nat) (w : World) (hx : w.cell? ⟨b, 0, none⟩ = some (.int .i64 x)) (hy : w.cell? ⟨b, 1, none⟩ = some (.int .i64 y)) (hz : w.cell? ⟨b, 2, none⟩ = some (.int .i64 z)) :
    Calls Tryz.prog 15 #[.slice (some ⟨b, 0, none⟩) 3 cap] w fun e w' => e = .returned (.int .i64 (firstE [x, y, z])) ∧ w = w' :=
  lawFirst10_c0 b 3 cap [x, y, z] w rfl (fun i v h => by
    rcases i with _ | _ | _ | i <;> simp at h <;> subst h <;> assumption) (by omega)
theorem nxN_ge (de : ByteArray) : ∀ (l : List EnR) (c : Int), c ≤ l.foldl (fun c x => if (x.de.toList == de.toList) = true then max c (x.nu + 1) else c) c ∧ ∀ x ∈ l, x.de = de → x.nu < l.foldl (fun c x => if (x.de.toList == de.toList) = true then max c (x.nu + 1) else c) c
  | [], c => ⟨Int.le_refl _, fun x hx => by cases hx⟩
  | y :: l, c => by
    rw [List.foldl_cons]
    obtain ⟨h1, h2⟩ := nxN_ge de l (if (y.de.toList == de.toList) = true then max c (y.nu + 1) else c)
    have hc : c ≤ (if (y.de.toList == de.toList) = true then max c (y.nu + 1) else c) := by split <;> omega
    refine ⟨by omega, fun x hx hd => ?_⟩
    rcases List.mem_cons.1 hx with rfl | hx
    · have : (x.de.toList == de.toList) = true := by rw [hd]; exact beq_self_eq_true _
      rw [if_pos this] at h1 ⊢
      omega
    · exact h2 x hx hd
theorem nxC_ge : ∀ (l : List EnR) (c : Int), c ≤ l.foldl (fun c x => max c (x.ck + 1)) c ∧ ∀ x ∈ l, x.ck < l.foldl (fun c x => max c (x.ck + 1)) c
  | [], c => ⟨Int.le_refl _, fun x hx => by cases hx⟩
  | y :: l, c => by
    rw [List.foldl_cons]
    obtain ⟨h1, h2⟩ := nxC_ge l (max c (y.ck + 1))
    refine ⟨by omega, fun x hx => ?_⟩
    rcases List.mem_cons.1 hx with rfl | hx
    · omega
    · exact h2 x hx
theorem nx_new (l : List EnR) (de ro : ByteArray) (va : Int) (st : ByteArray) (p : Option Addr) (n cap : Nat) (xs : List RowR) : lookM l (nxE l de ro va st p n cap xs) = none := by
  rw [noM]
  rintro x hx ⟨h1, h2⟩
  have := (nxN_ge de l 1).2 x hx h1.symm
  unfold nxE at h2
  simp only at h2
  unfold nxN at h2
  omega
theorem put_mrg {l : List EnR} {y : EnR} (ha : AscE l) (hn : lookM l y = none) : mrgE l [y] = putE l y := by
  rw [← rmg_mrg ha (List.pairwise_singleton _ _)]
  unfold rmgF
  simp [hn]
theorem firstE_three (x y z : Int) : firstE [x, y, z] = if x = 0 then (if y = 0 then (if z = 0 then 0 else z) else y) else x := rfl
theorem firstE_four0 (x y z : Int) : firstE [x, y, z, 0] = firstE [x, y, z] := by
  rw [firstE_three]
  unfold firstE firstE firstE firstE firstE
  simp
theorem outE_lo {n lo hi : Int} (h : lo ≤ n) : outE n lo hi = if hi < n then 3 else 0 := by
  unfold outE outB
  have h1 : ¬ n < lo := by omega
  by_cases h2 : hi < n <;> simp [h1, h2]
theorem nx_err {l : List EnR} {de ro : ByteArray} {va : Int} {st : ByteArray} {p : Option Addr} {n cap : Nat} {xs : List RowR} (h : firstE [archE l, nmE de, sheetE ro va st xs] = 0) : enErr (nxE l de ro va st p n cap xs) = if pstB (nxE l de ro va st p n cap xs) = true then 3 else 0 := by
  rw [firstE_three] at h
  have h1 : nmE de = 0 ∧ sheetE ro va st xs = 0 := by
    by_cases ha : archE l = 0
    · rw [if_pos ha] at h
      by_cases hb : nmE de = 0
      · rw [if_pos hb] at h
        exact ⟨hb, by split at h <;> assumption⟩
      · rw [if_neg hb] at h; exact absurd h hb
    · rw [if_neg ha] at h; exact absurd h ha
  have g1 : (1 : Int) ≤ nxN l de := (nxN_ge de l 1).1
  have g2 : (1 : Int) ≤ nxC l := (nxC_ge l 1).1
  unfold enErr entryE pstB nxE
  simp only
  rw [outE_lo g1, outE_lo g2, h1.1, h1.2]
  unfold firstE firstE firstE firstE firstE
  by_cases k1 : 1000 < nxN l de <;> by_cases k2 : 1000000 < nxC l <;> simp [k1, k2]
theorem pst_good {l : List EnR} {de ro : ByteArray} {va : Int} {st : ByteArray} {p : Option Addr} {n cap : Nat} {xs : List RowR} (h : firstE [archE l, nmE de, sheetE ro va st xs] = 0) :
    pstX l de ro va st xs (nxE l de ro va st p n cap xs) = (if pstB (nxE l de ro va st p n cap xs) = true then 3 else 0) ∧ pstR l de ro va st xs (nxE l de ro va st p n cap xs) = (if pstB (nxE l de ro va st p n cap xs) = true then [] else putE l (nxE l de ro va st p n cap xs)) := by
  have hx : pstX l de ro va st xs (nxE l de ro va st p n cap xs) = (if pstB (nxE l de ro va st p n cap xs) = true then 3 else 0) := by
    unfold pstX
    rw [firstE_four0, if_pos h, nx_err h]
  have ha : archE l = 0 := by
    rw [firstE_three] at h
    by_cases ha : archE l = 0
    · exact ha
    · rw [if_neg ha] at h; exact absurd h ha
  refine ⟨hx, ?_⟩
  unfold pstR
  rw [hx]
  cases pstB (nxE l de ro va st p n cap xs)
  · simp; exact put_mrg (AscE.of_arch ha) (nx_new l de ro va st p n cap xs)
  · simp
theorem pst_bad {l : List EnR} {de ro : ByteArray} {va : Int} {st : ByteArray} {xs : List RowR} {e : EnR} (h : ¬ firstE [archE l, nmE de, sheetE ro va st xs] = 0) : pstX l de ro va st xs e = firstE [archE l, nmE de, sheetE ro va st xs] ∧ pstR l de ro va st xs e = [] := by
  have hx : pstX l de ro va st xs e = firstE [archE l, nmE de, sheetE ro va st xs] := by
    unfold pstX
    rw [firstE_four0, if_neg h]
  refine ⟨hx, ?_⟩
  unfold pstR
  rw [hx, if_neg h]
theorem errG_or {α : Type} {E : Nat → α → Int} {xs : List α} {P : Int → Prop} (h0 : P 0) (h : ∀ i x, xs[i]? = some x → P (E i x)) : ∀ k i, P (errG E xs k i) := by
  intro k
  induction k with
  | zero => intro i; exact h0
  | succ k ih =>
    intro i
    unfold errG
    cases hx : xs[i]? with
    | none => exact h0
    | some x =>
      simp only
      split
      · exact ih _
      · exact h i x hx
theorem arch_no5 {l : List EnR} (h : ∀ e ∈ l, enErr e = 0) : ¬ archE l = 5 := by
  unfold archE
  refine errG_or (P := fun z => ¬ z = 5) (by omega) (fun i x hx => ?_) _ _
  unfold enE
  rw [h x (List.mem_of_getElem? hx), firstE_two, if_pos rfl]
  cases ordE l i x <;> simp
theorem mrg_good {a c : List EnR} (ha : archE a = 0) (hc : archE c = 0) : mrgX a c = rmX a c ∧ mrgR a c = rmL a c := by
  have he : firstE [archE a, archE c] = 0 := by rw [firstE_two, ha, hc]; rfl
  have hm : rmgF a a c = mrgE a c := rmg_mrg (AscE.of_arch ha) (AscE.of_arch hc)
  have hP : (∃ y ∈ c, conR a y) ↔ ∃ y ∈ c, conP a y := ⟨fun ⟨y, h1, h2⟩ => ⟨y, h1, (con_same a y).1 h2⟩, fun ⟨y, h1, h2⟩ => ⟨y, h1, (con_same a y).2 h2⟩⟩
  have h5 : ¬ archE (mrgE a c) = 5 := arch_no5 fun e he => by
    rcases mrgE_sub he with h | h
    · exact (arch_ord ha).2 e h
    · exact (arch_ord hc).2 e h
  obtain ⟨p1, p2, p3, p4⟩ := mrgX_cases he
  obtain ⟨r1, r2, r3⟩ := rmX_cases a c
  have hx : mrgX a c = rmX a c := by
    by_cases h : ∃ y ∈ c, conP a y
    · rw [p1 h, r1 (hP.2 h)]
    · have h' : ¬ ∃ y ∈ c, conR a y := fun h2 => h (hP.1 h2)
      by_cases h0 : archE (mrgE a c) = 0
      · rw [p2 h h0, r2 h' (by rw [hm]; exact h0)]
      · rw [p4 h h0 h5, r3 h' (by rw [hm]; exact h0)]
  refine ⟨hx, ?_⟩
  by_cases h0 : mrgX a c = 0
  · rw [(mrgR_cases a c).1 h0, (rmL_cases a c).1 (by rw [← hx]; exact h0), hm]
  · rw [(mrgR_cases a c).2 h0, (rmL_cases a c).2 (by rw [← hx]; exact h0)]
theorem mrg_bad {a c : List EnR} (h : ¬ firstE [archE a, archE c] = 0) : mrgX a c = firstE [archE a, archE c] ∧ mrgR a c = [] := by
  have hx : mrgX a c = firstE [archE a, archE c] := by unfold mrgX; rw [if_neg h]
  exact ⟨hx, (mrgR_cases a c).2 (by rw [hx]; exact h)⟩
end Go.Proofs.YtnihclhhbegjhaaGreatDoor
