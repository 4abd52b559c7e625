/- Archives (chapter 10): the law OfficeArchives. -/
import Derived.Deep.CutBlock
import Derived.Test.YtnihclhhbegjhaaGreatDoorMgR
namespace Go.Proofs.YtnihclhhbegjhaaGreatDoor
open Go.RowKit Go.Lib
set_option linter.unusedSimpArgs false
set_option linter.unusedVariables false
theorem pst_bounds {l : List EnR} {de ro : ByteArray} {va : Int} {st : ByteArray} {p : Option Addr} {n cap : Nat} {xs : List RowR} (hf : Few l) (hx : ∀ x ∈ xs, x.xs.length ≤ 19) : ∀ f ∈ pstR l de ro va st xs (nxE l de ro va st p n cap xs), f.xs.length ≤ 160 ∧ ∀ y ∈ f.xs, y.xs.length ≤ 19 := fun f h => by
  by_cases h0 : firstE [archE l, nmE de, sheetE ro va st xs] = 0
  · have h1 := h0
    rw [firstE_three] at h1
    have ha : archE l = 0 := by
      by_cases ha : archE l = 0
      · exact ha
      · rw [if_neg ha] at h1; exact absurd h1 ha
    have hs : sheetE ro va st xs = 0 := by
      rw [if_pos ha] at h1
      by_cases hb : nmE de = 0
      · rw [if_pos hb] at h1; split at h1 <;> assumption
      · rw [if_neg hb] at h1; exact absurd h1 hb
    rw [(pst_good h0).2] at h
    cases hp : pstB (nxE l de ro va st p n cap xs)
    · rw [hp] at h
      simp only [Bool.false_eq_true, if_false] at h
      rcases putE_mem h with rfl | h
      · exact ⟨sheetE_few hs, hx⟩
      · exact ⟨arch_few ha f h, hf f h⟩
    · rw [hp] at h; simp at h
  · rw [(pst_bad h0).2] at h; cases h
theorem pst_len (l : List EnR) (de ro : ByteArray) (va : Int) (st : ByteArray) (xs : List RowR) (e : EnR) : (pstR l de ro va st xs e).length ≤ l.length + 1 := by
  unfold pstR
  split
  · exact mrgE_len_le l [e]
  · simp
theorem mrgR_len (a c : List EnR) : (mrgR a c).length ≤ a.length + c.length := by
  by_cases h : mrgX a c = 0
  · rw [(mrgR_cases a c).1 h]; exact mrgE_len_le a c
  · rw [(mrgR_cases a c).2 h]; simp
theorem mrg_bounds {a c : List EnR} (wa : Few a) (wc : Few c) : ∀ f ∈ mrgR a c, f.xs.length ≤ 160 ∧ ∀ y ∈ f.xs, y.xs.length ≤ 19 := fun f h => by
  by_cases h0 : firstE [archE a, archE c] = 0
  · have h1 := h0
    rw [firstE_two] at h1
    have ha : archE a = 0 := by
      by_cases ha : archE a = 0
      · exact ha
      · rw [if_neg ha] at h1; exact absurd h1 ha
    have hc : archE c = 0 := by
      rw [if_pos ha] at h1
      split at h1 <;> assumption
    by_cases hx : mrgX a c = 0
    · rw [(mrgR_cases a c).1 hx] at h
      rcases mrgE_sub h with h | h
      · exact ⟨arch_few ha f h, wa f h⟩
      · exact ⟨arch_few hc f h, wc f h⟩
    · rw [(mrgR_cases a c).2 hx] at h; cases h
  · rw [(mrg_bad h0).2] at h; cases h
set_option maxHeartbeats 8000000 in
set_option maxRecDepth 100000 in
theorem lawArchives_c {w : World} {pa pc : Option Addr} {l1 l2 : List EnR} {n1 n2 ka kc : Nat} (de ro : ByteArray) (va : Int) (st : ByteArray) {p : Option Addr} {n cap : Nat} {xs : List RowR} (h1 : EnS w pa l1) (hn1 : n1 = l1.length) (hka : n1 ≤ ka ∧ ka ≤ maxLen) (hb1 : n1 * 96 ≤ 140737488355328) (h2 : EnS w pc l2) (hn2 : n2 = l2.length) (hkc : n2 ≤ kc ∧ kc ≤ maxLen) (hb2 : n2 * 96 ≤ 140737488355328) (hxs : RowsX w p n cap xs)
    (hA : ∀ W1, Gr w W1 → Calls Tryz.prog 10 #[] W1 fun e w' => e = .returned (.bool true) ∧ Gr W1 w') :
    Calls Tryz.prog 3 #[.agg #[.slice pa n1 ka], .agg #[.slice pc n2 kc], .agg #[.string de, .string ro, .int .i64 va, .string st, .slice p n cap]] w fun e w' => e = .returned (.bool true) ∧ Gr w w' := by
  have HA := Lib.hid hA
  have HN1 := Lib.hid hn1
  have HN2 := Lib.hid hn2
  have HR1 := Lib.hid h1
  have HR2 := Lib.hid h2
  have HXS := Lib.hid hxs
  have HE1 := Lib.hid (fun V (k : Gr w V) => entries1_c (cap := ka) (h1.gr k) hn1 hb1)
  have HE2 := Lib.hid (fun V (k : Gr w V) => entries1_c (cap := kc) (h2.gr k) hn2 hb2)
  obtain ⟨W1, hW1, g1, b0⟩ := box1 w (.slice pa n1 ka) 24
  obtain ⟨W2, hW2, g2, b1⟩ := box1 W1 (.slice pc n2 kc) 24
  obtain ⟨W3, hW3, g3, d0, d1, d2, d3, d4⟩ := bx5 W2 (.string de) (.string ro) (.int .i64 va) (.string st) (.slice p n cap) 29
  have hs1 : W1.heap.size = w.heap.size + 1 := by rw [← hW1]; simp
  have hs2 : W2.heap.size = w.heap.size + 1 + 1 := by rw [← hW2]; simp [hs1]
  rw [hs1] at b1
  rw [hs2] at d0 d1 d2 d3 d4
  rw [← hW1] at hW2
  rw [← hW2] at hW3
  obtain ⟨P1, hP1⟩ : ∃ P, w.heap.size = P := ⟨_, rfl⟩
  obtain ⟨P2, hP2⟩ : ∃ P, P1 + 1 = P := ⟨_, rfl⟩
  obtain ⟨P5, hP5⟩ : ∃ P, P2 + 1 = P := ⟨_, rfl⟩
  rw [hP1] at b0 b1 d0 d1 d2 d3 d4
  rw [hP2] at b1 d0 d1 d2 d3 d4
  rw [hP5] at d0 d1 d2 d3 d4
  have HB1 := Lib.hid (g3.cell (g2.cell b0))
  have HB2 := Lib.hid (g3.cell b1)
  have HDF := Lib.hid (fun U (k : Gr W3 U) => And.intro (k.cell d0) (And.intro (k.cell d1) (And.intro (k.cell d2) (And.intro (k.cell d3) (k.cell d4)))))
  have HG3 := Lib.hid ((g1.trans g2).trans g3)
  have HW := Lib.hid hW3
  have HP1 := Lib.hid hP1
  have HP2 := Lib.hid hP2
  have HP5 := Lib.hid hP5
  clear hW1 hW2 hW3 hs1 hs2 b0 b1 d0 d1 d2 d3 d4 g1 g2 g3 hP1 hP2 hP5 hA h1 h2 hb1 hb2 hxs hn1 hn2
  go_enter Tryz.func3, Tryz.ntmps3
  go_wp2_with fail
  rw [HW.out]
  rw [HP1.out]
  try rw [HP2.out]
  try rw [HP5.out]
  clear HW
  obtain ⟨WQ, hWQ⟩ : ∃ V, V = W3 := ⟨_, rfl⟩
  have gQ : Gr W3 WQ := by rw [hWQ]; exact Gr.refl _
  rw [← hWQ]
  clear hWQ
  go_upto_region 1 with fail
  go_cut [7, 8, 9] from 19 (fun s7 s8 s9 wx => ∃ (qx : Option Addr) (cx : Nat) (qy : Option Addr) (cy Cx : Nat), s7 = .slice qx n1 cx ∧ s8 = .slice qy n2 cy ∧ s9 = .pointer (some ⟨Cx, 0, none⟩) ∧ (n1 ≤ cx ∧ cx ≤ maxLen) ∧ (n2 ≤ cy ∧ cy ≤ maxLen) ∧ Hid (wx.ownsRow 0 65 7 (.slice qx n1 cx) n1 (enCs l1)) ∧ Hid (wx.ownsRow 0 65 7 (.slice qy n2 cy) n2 (enCs l2)) ∧ Hid (wx.heap[Cx]? = some (.cells #[.string ro, .int .i64 va, .string st, .slice p n cap] 32 (0, 0))) ∧ Gr W3 wx)
  case first =>
    refine wp_region_held_drew (S := fun U => Gr W3 U) (by kernel_rfl) (gQ.trans (Gr.refl _).drew) (fun hHeld => ?_)
    have gD := gQ.trans (Gr.refl WQ).drew
    generalize WQ.drew = VD at *
    refine wpAnyH_take (i := 0) (v := (.pointer (some ⟨P1, 0, none⟩))) (op_at rfl) (by kernel_rfl) (by kernel_rfl) (by kernel_rfl) (fun _ _ _ h => h) (Or.inl ⟨rfl, fun U hSw => ?_⟩) (by assumption) ?_
    · go_simp; try with_reducible rfl
    (try simp only [Act.put, tz0, tz1, tz2])
    refine wpAnyH_take (i := 1) (v := (.slice pa n1 ka)) (op_at rfl) (by kernel_rfl) (by kernel_rfl) (by kernel_rfl) (fun _ _ _ h => h) (Or.inl ⟨rfl, fun U hSw => ?_⟩) (by assumption) ?_
    · have hs9 : Gr W3 U := hSw; have q0 := hs9.cell HB1.out; go_simp; try with_reducible rfl
    (try simp only [Act.put, tz0, tz1, tz2])
    refine wpAnyH_take (i := 3) (v := (.pointer (some ⟨P2, 0, none⟩))) (op_at rfl) (by kernel_rfl) (by kernel_rfl) (by kernel_rfl) (fun _ _ _ h => h) (Or.inl ⟨rfl, fun U hSw => ?_⟩) (by assumption) ?_
    · go_simp; try with_reducible rfl
    (try simp only [Act.put, tz0, tz1, tz2])
    refine wpAnyH_take (i := 4) (v := (.slice pc n2 kc)) (op_at rfl) (by kernel_rfl) (by kernel_rfl) (by kernel_rfl) (fun _ _ _ h => h) (Or.inl ⟨rfl, fun U hSw => ?_⟩) (by assumption) ?_
    · have hs9 : Gr W3 U := hSw; have q0 := hs9.cell HB2.out; go_simp; try with_reducible rfl
    (try simp only [Act.put, tz0, tz1, tz2])
    refine wpAnyH_take (i := 6) (v := (.pointer (some ⟨P5, 1, none⟩))) (op_at rfl) (by kernel_rfl) (by kernel_rfl) (by kernel_rfl) (fun _ _ _ h => h) (Or.inl ⟨rfl, fun U hSw => ?_⟩) (by assumption) ?_
    · go_simp; try with_reducible rfl
    (try simp only [Act.put, tz0, tz1, tz2])
    refine wpAnyH_take (i := 7) (v := (.agg #[.string ro, .int .i64 va, .string st, .slice p n cap])) (op_at rfl) (by kernel_rfl) (by kernel_rfl) (by kernel_rfl) (fun _ _ _ h => h) (Or.inl ⟨rfl, fun U hSw => ?_⟩) (by assumption) ?_
    · obtain ⟨q0, q1, q2, q3, q4⟩ := HDF.out U hSw; go_simp; try with_reducible rfl
    (try simp only [Act.put, tz0, tz1, tz2])
    refine wpAnyH_ready (rs := [2, 8]) (by kernel_rfl) (by simp) ((AllReadyH.cons (op_at rfl) (fun K hK => ?_) (AllReadyH.cons (op_at rfl) (fun K hK => ?_) AllReadyH.nil)))
    · go_simp
      refine (HE1.out _ (HG3.out.trans gD)).mono ?_
      rintro e V1 ⟨qx, cx, rfl, hcx, hox, hg⟩
      go_wp2_with fail
      have g1 := gD.trans hg
      refine hK.out _ _ g1 (fun hHeld => ?_)
      clear hK K hg
      (try simp only [Act.put, tz0, tz1, tz2])
      refine wpAnyH_ready (rs := [5, 8]) (by kernel_rfl) (by simp) ((AllReadyH.cons (op_at rfl) (fun K hK => ?_) (AllReadyH.cons (op_at rfl) (fun K hK => ?_) AllReadyH.nil)))
      · go_simp
        refine (HE2.out _ (HG3.out.trans g1)).mono ?_
        rintro e V2 ⟨qy, cy, rfl, hcy, hoy, hg⟩
        go_wp2_with fail
        have g2 := g1.trans hg
        have hox2 := own_kept hox hg
        refine hK.out _ _ g2 (fun hHeld => ?_)
        clear hK K hg
        (try simp only [Act.put, tz0, tz1, tz2])
        refine wpAnyH_ready (rs := [8]) (by kernel_rfl) (by simp) ((AllReadyH.cons (op_at rfl) (fun K hK => ?_) AllReadyH.nil))
        go_simp
        have gA := (Gr.refl V2).alloc (.cells #[.string ⟨#[]⟩, .int .i64 0, .string ⟨#[]⟩, .slice none 0 0] 32)
        have hbA := heap_alloc_new V2 (.cells #[.string ⟨#[]⟩, .int .i64 0, .string ⟨#[]⟩, .slice none 0 0] 32)
        have g3 := g2.trans gA
        have hCx : W3.heap.size ≤ (V2).heap.size := (g2).size
        have hsA : (V2.alloc (.cells #[.string ⟨#[]⟩, .int .i64 0, .string ⟨#[]⟩, .slice none 0 0] 32)).heap.size = V2.heap.size + 1 := by simp
        have gFr := gA
        refine hK.out _ _ g3 (fun hHeld => ?_)
        clear hK K
        (try simp only [Act.put, tz0, tz1, tz2])
        generalize V2.alloc (.cells #[.string ⟨#[]⟩, .int .i64 0, .string ⟨#[]⟩, .slice none 0 0] 32) = V3 at *
        obtain ⟨Cx, hCC⟩ : ∃ C, V2.heap.size = C := ⟨_, rfl⟩
        rw [hCC] at hbA hCx hsA ⊢
        have f2 : ∀ o, V3.frozen? ⟨Cx, o, none⟩ = false := fun o => frozen_of_row _ _ o _ _ hbA
        obtain ⟨z0, z1, z2, z3⟩ := cells4_ofO hbA
        refine wpAnyH_take (i := 9) (v := (.slice qx n1 cx)) (op_at rfl) (by kernel_rfl) (by kernel_rfl) (by kernel_rfl) (fun _ _ _ h => h) (Or.inl ⟨rfl, fun U hSw => ?_⟩) (by assumption) ?_
        · go_simp; try with_reducible rfl
        (try simp only [Act.put, tz0, tz1, tz2])
        refine wpAnyH_take (i := 10) (v := (.slice qy n2 cy)) (op_at rfl) (by kernel_rfl) (by kernel_rfl) (by kernel_rfl) (fun _ _ _ h => h) (Or.inl ⟨rfl, fun U hSw => ?_⟩) (by assumption) ?_
        · go_simp; try with_reducible rfl
        (try simp only [Act.put, tz0, tz1, tz2])
        refine wpAnyH_ready (rs := [11]) (by kernel_rfl) (by simp) ((AllReadyH.cons (op_at rfl) (fun K hK => ?_) AllReadyH.nil))
        have hb9 := set4O hbA (.string ro) (.int .i64 va) (.string st) (.slice p n cap)
        have g9 : Gr W3 ((((V3.setCell ⟨Cx, 0, none⟩ (.string ro)).setCell ⟨Cx, 1, none⟩ (.int .i64 va)).setCell ⟨Cx, 2, none⟩ (.string st)).setCell ⟨Cx, 3, none⟩ (.slice p n cap)) := (Below.setCell (Below.setCell (Below.setCell (Below.setCell g3 hCx _) hCx _) hCx _) hCx _)
        have HB9 := Lib.hid hb9
        have HOX : Hid (((((V3.setCell ⟨Cx, 0, none⟩ (.string ro)).setCell ⟨Cx, 1, none⟩ (.int .i64 va)).setCell ⟨Cx, 2, none⟩ (.string st)).setCell ⟨Cx, 3, none⟩ (.slice p n cap)).ownsRow 0 65 7 (.slice qx n1 cx) n1 (enCs l1)) := own_low (own_kept hox2 (show Gr V2 _ from Below.setCell (Below.setCell (Below.setCell (Below.setCell (gFr) (by show V2.heap.size ≤ Cx; omega) _) (by show V2.heap.size ≤ Cx; omega) _) (by show V2.heap.size ≤ Cx; omega) _) (by show V2.heap.size ≤ Cx; omega) _)) (Nat.zero_le _)
        have HOY : Hid (((((V3.setCell ⟨Cx, 0, none⟩ (.string ro)).setCell ⟨Cx, 1, none⟩ (.int .i64 va)).setCell ⟨Cx, 2, none⟩ (.string st)).setCell ⟨Cx, 3, none⟩ (.slice p n cap)).ownsRow 0 65 7 (.slice qy n2 cy) n2 (enCs l2)) := own_low (own_kept hoy (show Gr V2 _ from Below.setCell (Below.setCell (Below.setCell (Below.setCell (gFr) (by show V2.heap.size ≤ Cx; omega) _) (by show V2.heap.size ≤ Cx; omega) _) (by show V2.heap.size ≤ Cx; omega) _) (by show V2.heap.size ≤ Cx; omega) _)) (Nat.zero_le _)
        clear hb9 hbA
        rw [if_pos (show Region.wanted _ _ = true from rfl)]
        go_simp
        refine hK.out _ _ g9 (fun hHeld => ?_)
        clear hK K f2 z0 z1 z2 z3
        (try simp only [Act.put, tz0, tz1, tz2])
        refine wpAnyH_done (by kernel_rfl) ?_ _
        go_wp2_with fail
        go_meet
        case rel => exact ⟨qx, cx, qy, cy, Cx, rfl, rfl, rfl, hcx, hcy, HOX, HOY, HB9, g9⟩
      · go_simp
        have gA := (Gr.refl V1).alloc (.cells #[.string ⟨#[]⟩, .int .i64 0, .string ⟨#[]⟩, .slice none 0 0] 32)
        have hbA := heap_alloc_new V1 (.cells #[.string ⟨#[]⟩, .int .i64 0, .string ⟨#[]⟩, .slice none 0 0] 32)
        have g2 := g1.trans gA
        have hCx : W3.heap.size ≤ (V1).heap.size := (g1).size
        have hsA : (V1.alloc (.cells #[.string ⟨#[]⟩, .int .i64 0, .string ⟨#[]⟩, .slice none 0 0] 32)).heap.size = V1.heap.size + 1 := by simp
        have gF0 := gA
        refine hK.out _ _ g2 (fun hHeld => ?_)
        clear hK K
        (try simp only [Act.put, tz0, tz1, tz2])
        generalize V1.alloc (.cells #[.string ⟨#[]⟩, .int .i64 0, .string ⟨#[]⟩, .slice none 0 0] 32) = V2 at *
        obtain ⟨Cx, hCC⟩ : ∃ C, V1.heap.size = C := ⟨_, rfl⟩
        rw [hCC] at hbA hCx hsA ⊢
        refine wpAnyH_ready (rs := [5]) (by kernel_rfl) (by simp) ((AllReadyH.cons (op_at rfl) (fun K hK => ?_) AllReadyH.nil))
        go_simp
        refine (HE2.out _ (HG3.out.trans g2)).mono ?_
        rintro e V3 ⟨qy, cy, rfl, hcy, hoy, hg⟩
        go_wp2_with fail
        have g3 := g2.trans hg
        replace hbA := Gr.block hg hbA
        have gFr := gF0.trans hg
        refine hK.out _ _ g3 (fun hHeld => ?_)
        clear hK K hg
        (try simp only [Act.put, tz0, tz1, tz2])
        have f2 : ∀ o, V3.frozen? ⟨Cx, o, none⟩ = false := fun o => frozen_of_row _ _ o _ _ hbA
        obtain ⟨z0, z1, z2, z3⟩ := cells4_ofO hbA
        refine wpAnyH_take (i := 9) (v := (.slice qx n1 cx)) (op_at rfl) (by kernel_rfl) (by kernel_rfl) (by kernel_rfl) (fun _ _ _ h => h) (Or.inl ⟨rfl, fun U hSw => ?_⟩) (by assumption) ?_
        · go_simp; try with_reducible rfl
        (try simp only [Act.put, tz0, tz1, tz2])
        refine wpAnyH_take (i := 10) (v := (.slice qy n2 cy)) (op_at rfl) (by kernel_rfl) (by kernel_rfl) (by kernel_rfl) (fun _ _ _ h => h) (Or.inl ⟨rfl, fun U hSw => ?_⟩) (by assumption) ?_
        · go_simp; try with_reducible rfl
        (try simp only [Act.put, tz0, tz1, tz2])
        refine wpAnyH_ready (rs := [11]) (by kernel_rfl) (by simp) ((AllReadyH.cons (op_at rfl) (fun K hK => ?_) AllReadyH.nil))
        have hb9 := set4O hbA (.string ro) (.int .i64 va) (.string st) (.slice p n cap)
        have g9 : Gr W3 ((((V3.setCell ⟨Cx, 0, none⟩ (.string ro)).setCell ⟨Cx, 1, none⟩ (.int .i64 va)).setCell ⟨Cx, 2, none⟩ (.string st)).setCell ⟨Cx, 3, none⟩ (.slice p n cap)) := (Below.setCell (Below.setCell (Below.setCell (Below.setCell g3 hCx _) hCx _) hCx _) hCx _)
        have HB9 := Lib.hid hb9
        have HOX : Hid (((((V3.setCell ⟨Cx, 0, none⟩ (.string ro)).setCell ⟨Cx, 1, none⟩ (.int .i64 va)).setCell ⟨Cx, 2, none⟩ (.string st)).setCell ⟨Cx, 3, none⟩ (.slice p n cap)).ownsRow 0 65 7 (.slice qx n1 cx) n1 (enCs l1)) := own_low (own_kept hox (show Gr V1 _ from Below.setCell (Below.setCell (Below.setCell (Below.setCell (gFr) (by show V1.heap.size ≤ Cx; omega) _) (by show V1.heap.size ≤ Cx; omega) _) (by show V1.heap.size ≤ Cx; omega) _) (by show V1.heap.size ≤ Cx; omega) _)) (Nat.zero_le _)
        have HOY : Hid (((((V3.setCell ⟨Cx, 0, none⟩ (.string ro)).setCell ⟨Cx, 1, none⟩ (.int .i64 va)).setCell ⟨Cx, 2, none⟩ (.string st)).setCell ⟨Cx, 3, none⟩ (.slice p n cap)).ownsRow 0 65 7 (.slice qy n2 cy) n2 (enCs l2)) := own_low (own_set_low (own_set_low (own_set_low (own_set_low hoy (by show Cx < V2.heap.size; omega)) (by show Cx < V2.heap.size; omega)) (by show Cx < V2.heap.size; omega)) (by show Cx < V2.heap.size; omega)) (Nat.zero_le _)
        clear hb9 hbA
        rw [if_pos (show Region.wanted _ _ = true from rfl)]
        go_simp
        refine hK.out _ _ g9 (fun hHeld => ?_)
        clear hK K f2 z0 z1 z2 z3
        (try simp only [Act.put, tz0, tz1, tz2])
        refine wpAnyH_done (by kernel_rfl) ?_ _
        go_wp2_with fail
        go_meet
        case rel => exact ⟨qx, cx, qy, cy, Cx, rfl, rfl, rfl, hcx, hcy, HOX, HOY, HB9, g9⟩
    · go_simp
      have gA := (Gr.refl VD).alloc (.cells #[.string ⟨#[]⟩, .int .i64 0, .string ⟨#[]⟩, .slice none 0 0] 32)
      have hbA := heap_alloc_new VD (.cells #[.string ⟨#[]⟩, .int .i64 0, .string ⟨#[]⟩, .slice none 0 0] 32)
      have g1 := gD.trans gA
      have hCx : W3.heap.size ≤ (VD).heap.size := (gD).size
      have hsA : (VD.alloc (.cells #[.string ⟨#[]⟩, .int .i64 0, .string ⟨#[]⟩, .slice none 0 0] 32)).heap.size = VD.heap.size + 1 := by simp
      refine hK.out _ _ g1 (fun hHeld => ?_)
      clear hK K
      (try simp only [Act.put, tz0, tz1, tz2])
      generalize VD.alloc (.cells #[.string ⟨#[]⟩, .int .i64 0, .string ⟨#[]⟩, .slice none 0 0] 32) = V1 at *
      obtain ⟨Cx, hCC⟩ : ∃ C, VD.heap.size = C := ⟨_, rfl⟩
      rw [hCC] at hbA hCx hsA ⊢
      refine wpAnyH_ready (rs := [2]) (by kernel_rfl) (by simp) ((AllReadyH.cons (op_at rfl) (fun K hK => ?_) AllReadyH.nil))
      go_simp
      refine (HE1.out _ (HG3.out.trans g1)).mono ?_
      rintro e V2 ⟨qx, cx, rfl, hcx, hox, hg⟩
      go_wp2_with fail
      have g2 := g1.trans hg
      replace hbA := Gr.block hg hbA
      have hzz := hg.size
      refine hK.out _ _ g2 (fun hHeld => ?_)
      clear hK K hg
      (try simp only [Act.put, tz0, tz1, tz2])
      refine wpAnyH_ready (rs := [5]) (by kernel_rfl) (by simp) ((AllReadyH.cons (op_at rfl) (fun K hK => ?_) AllReadyH.nil))
      go_simp
      refine (HE2.out _ (HG3.out.trans g2)).mono ?_
      rintro e V3 ⟨qy, cy, rfl, hcy, hoy, hg⟩
      go_wp2_with fail
      have g3 := g2.trans hg
      replace hbA := Gr.block hg hbA
      have hox2 := own_kept hox hg
      refine hK.out _ _ g3 (fun hHeld => ?_)
      clear hK K hg
      (try simp only [Act.put, tz0, tz1, tz2])
      have f2 : ∀ o, V3.frozen? ⟨Cx, o, none⟩ = false := fun o => frozen_of_row _ _ o _ _ hbA
      obtain ⟨z0, z1, z2, z3⟩ := cells4_ofO hbA
      refine wpAnyH_take (i := 9) (v := (.slice qx n1 cx)) (op_at rfl) (by kernel_rfl) (by kernel_rfl) (by kernel_rfl) (fun _ _ _ h => h) (Or.inl ⟨rfl, fun U hSw => ?_⟩) (by assumption) ?_
      · go_simp; try with_reducible rfl
      (try simp only [Act.put, tz0, tz1, tz2])
      refine wpAnyH_take (i := 10) (v := (.slice qy n2 cy)) (op_at rfl) (by kernel_rfl) (by kernel_rfl) (by kernel_rfl) (fun _ _ _ h => h) (Or.inl ⟨rfl, fun U hSw => ?_⟩) (by assumption) ?_
      · go_simp; try with_reducible rfl
      (try simp only [Act.put, tz0, tz1, tz2])
      refine wpAnyH_ready (rs := [11]) (by kernel_rfl) (by simp) ((AllReadyH.cons (op_at rfl) (fun K hK => ?_) AllReadyH.nil))
      have hb9 := set4O hbA (.string ro) (.int .i64 va) (.string st) (.slice p n cap)
      have g9 : Gr W3 ((((V3.setCell ⟨Cx, 0, none⟩ (.string ro)).setCell ⟨Cx, 1, none⟩ (.int .i64 va)).setCell ⟨Cx, 2, none⟩ (.string st)).setCell ⟨Cx, 3, none⟩ (.slice p n cap)) := (Below.setCell (Below.setCell (Below.setCell (Below.setCell g3 hCx _) hCx _) hCx _) hCx _)
      have HB9 := Lib.hid hb9
      have HOX : Hid (((((V3.setCell ⟨Cx, 0, none⟩ (.string ro)).setCell ⟨Cx, 1, none⟩ (.int .i64 va)).setCell ⟨Cx, 2, none⟩ (.string st)).setCell ⟨Cx, 3, none⟩ (.slice p n cap)).ownsRow 0 65 7 (.slice qx n1 cx) n1 (enCs l1)) := own_low (own_set_low (own_set_low (own_set_low (own_set_low hox2 (by show Cx < V1.heap.size; omega)) (by show Cx < V1.heap.size; omega)) (by show Cx < V1.heap.size; omega)) (by show Cx < V1.heap.size; omega)) (Nat.zero_le _)
      have HOY : Hid (((((V3.setCell ⟨Cx, 0, none⟩ (.string ro)).setCell ⟨Cx, 1, none⟩ (.int .i64 va)).setCell ⟨Cx, 2, none⟩ (.string st)).setCell ⟨Cx, 3, none⟩ (.slice p n cap)).ownsRow 0 65 7 (.slice qy n2 cy) n2 (enCs l2)) := own_low (own_set_low (own_set_low (own_set_low (own_set_low hoy (by show Cx < V2.heap.size; omega)) (by show Cx < V2.heap.size; omega)) (by show Cx < V2.heap.size; omega)) (by show Cx < V2.heap.size; omega)) (Nat.zero_le _)
      clear hb9 hbA
      rw [if_pos (show Region.wanted _ _ = true from rfl)]
      go_simp
      refine hK.out _ _ g9 (fun hHeld => ?_)
      clear hK K f2 z0 z1 z2 z3
      (try simp only [Act.put, tz0, tz1, tz2])
      refine wpAnyH_done (by kernel_rfl) ?_ _
      go_wp2_with fail
      go_meet
      case rel => exact ⟨qx, cx, qy, cy, Cx, rfl, rfl, rfl, hcx, hcy, HOX, HOY, HB9, g9⟩
  case rest =>
    obtain ⟨qx, cx, qy, cy, Cx, rfl, rfl, rfl, hcx, hcy, HOX, HOY, HBC, gW3⟩ := hcut
    obtain ⟨WC, hWC⟩ : ∃ V, V = wc := ⟨wc, rfl⟩
    subst hWC
    have g := HG3.out.trans gW3
    have gX := Gr.refl WC
    have hx : EnS WC qx l1 := EnS.of_own HOX.out HN1.out.symm (fun e he => (HR1.out.rowsX e he).gr g)
    have hy : EnS WC qy l2 := EnS.of_own HOY.out HN2.out.symm (fun e he => (HR2.out.rowsX e he).gr g)
    have HX := Lib.hid hx
    have HY := Lib.hid hy
    have HGC := Lib.hid g
    have HQX := Lib.hid (own_q0 HOX.out)
    obtain ⟨z0, z1, z2, z3⟩ := cells4_ofO HBC.out
    have HCF := Lib.hid (fun U (k : Gr WC U) => And.intro (k.cell z0) (And.intro (k.cell z1) (And.intro (k.cell z2) (k.cell z3))))
    have HDF2 := Lib.hid (fun U (k : Gr WC U) => HDF.out U (gW3.trans k))
    have HBF1 := Lib.hid (fun U (k : Gr WC U) => (gW3.trans k).cell HB1.out)
    have HBF2 := Lib.hid (fun U (k : Gr WC U) => (gW3.trans k).cell HB2.out)
    have HSH1 := Lib.hid (fun V (k : Gr WC V) => shortEn_c (cap := cx) (k := 12) (hx.gr k) HN1.out (by omega))
    have HSH2 := Lib.hid (fun V (k : Gr WC V) => shortEn_c (cap := cy) (k := 12) (hy.gr k) HN2.out (by omega))
    have hxc := HXS.out.gr g
    have HSH3 := Lib.hid (fun V (k : Gr WC V) => shortSh_c (cap := cap) ro st va hxc.len (Nat.le_trans hxc.cap.1 hxc.cap.2) ((hxc.gr k).at_))
    clear hx hy z0 z1 z2 z3 HOX HOY HBC gW3 HB1 HB2 HDF hxc HE1 HE2
    rcases Nat.lt_or_ge 60 de.size with q60 | q60
    · go_wp2_with fail
      refine (HSH1.out _ gX).mono ?_
      rintro e W9 ⟨⟨r, rfl, hr⟩, hg⟩
      replace gX := gX.trans hg
      replace g := g.trans hg
      clear hg
      cases r
      · clear hr
        go_wp2_with fail
        refine (HA.out _ g).mono ?_
        rintro e W9 ⟨rfl, hg⟩
        replace g := g.trans hg
        go_wp2_with fail
        go_ret
        exact ⟨by rfl, g⟩
      · clear hr
        go_wp2_with fail
        refine (HSH2.out _ gX).mono ?_
        rintro e W9 ⟨⟨r, rfl, hr⟩, hg⟩
        replace gX := gX.trans hg
        replace g := g.trans hg
        clear hg
        cases r
        · clear hr
          go_wp2_with fail
          refine (HA.out _ g).mono ?_
          rintro e W9 ⟨rfl, hg⟩
          replace g := g.trans hg
          go_wp2_with fail
          go_ret
          exact ⟨by rfl, g⟩
        · clear hr
          obtain ⟨z0, z1, z2, z3⟩ := HCF.out _ gX
          go_wp2_with fail
          refine (HSH3.out _ gX).mono ?_
          rintro e W9 ⟨⟨r, rfl, hr⟩, hg⟩
          replace gX := gX.trans hg
          replace g := g.trans hg
          clear hg
          cases r
          · clear hr
            go_wp2_with fail
            refine (HA.out _ g).mono ?_
            rintro e W9 ⟨rfl, hg⟩
            replace g := g.trans hg
            go_wp2_with fail
            go_ret
            exact ⟨by rfl, g⟩
          · clear hr
            obtain ⟨d0, d1, d2, d3, d4⟩ := HDF2.out _ gX
            go_wp2_with fail
            refine (HA.out _ g).mono ?_
            rintro e W9 ⟨rfl, hg⟩
            replace g := g.trans hg
            go_wp2_with fail
            go_ret
            exact ⟨by rfl, g⟩
    have q61 : ¬ 60 < de.size := by omega
    go_wp2_with fail
    refine (HSH1.out _ gX).mono ?_
    rintro e W9 ⟨⟨r, rfl, hr⟩, hg⟩
    replace gX := gX.trans hg
    replace g := g.trans hg
    clear hg
    cases r
    · clear hr
      go_wp2_with fail
      refine (HA.out _ g).mono ?_
      rintro e W9 ⟨rfl, hg⟩
      replace g := g.trans hg
      go_wp2_with fail
      go_ret
      exact ⟨by rfl, g⟩
    obtain ⟨hl1, hf1⟩ := hr rfl
    clear hr
    go_wp2_with fail
    refine (HSH2.out _ gX).mono ?_
    rintro e W9 ⟨⟨r, rfl, hr⟩, hg⟩
    replace gX := gX.trans hg
    replace g := g.trans hg
    clear hg
    cases r
    · clear hr
      go_wp2_with fail
      refine (HA.out _ g).mono ?_
      rintro e W9 ⟨rfl, hg⟩
      replace g := g.trans hg
      go_wp2_with fail
      go_ret
      exact ⟨by rfl, g⟩
    obtain ⟨hl2, hf2⟩ := hr rfl
    clear hr
    obtain ⟨z0, z1, z2, z3⟩ := HCF.out _ gX
    go_wp2_with fail
    refine (HSH3.out _ gX).mono ?_
    rintro e W9 ⟨⟨r, rfl, hr⟩, hg⟩
    replace gX := gX.trans hg
    replace g := g.trans hg
    clear hg
    cases r
    · clear hr
      go_wp2_with fail
      refine (HA.out _ g).mono ?_
      rintro e W9 ⟨rfl, hg⟩
      replace g := g.trans hg
      go_wp2_with fail
      go_ret
      exact ⟨by rfl, g⟩
    have hws := hr rfl
    clear hr
    obtain ⟨d0, d1, d2, d3, d4⟩ := HDF2.out _ gX
    have hn1 : n1 ≤ 12 := by have := HN1.out; omega
    have hn2 : n2 ≤ 12 := by have := HN2.out; omega
    clear q60 z0 z1 z2 z3
    obtain ⟨A, hA0⟩ : ∃ A, archE l1 = A := ⟨_, rfl⟩
    obtain ⟨B, hB0⟩ : ∃ B, archE l2 = B := ⟨_, rfl⟩
    obtain ⟨V, hV0⟩ : ∃ V, nmE de = V := ⟨_, rfl⟩
    obtain ⟨SE, hS0⟩ : ∃ S, sheetE ro va st xs = S := ⟨_, rfl⟩
    obtain ⟨one, hone⟩ : ∃ z, firstE [A, V, SE] = z := ⟨_, rfl⟩
    obtain ⟨two, htwo⟩ : ∃ z, firstE [A, B] = z := ⟨_, rfl⟩
    have HRA := Lib.hid (fun U (k : Gr WC U) => refArch_c (cap := cx) HN1.out (by omega) (HX.out.gr k) hf1)
    have HRB := Lib.hid (fun U (k : Gr WC U) => refArch_c (cap := cy) HN2.out (by omega) (HY.out.gr k) hf2)
    have HPA := Lib.hid (fun U (k : Gr w U) => checkArch_c (cap := ka) HN1.out (by omega) (HR1.out.gr k) hf1)
    have HNM := Lib.hid (fun U => nameM_c de U)
    have HRS := Lib.hid (fun U (k : Gr WC U) => refSheet_all ro st va ((HXS.out.gr (HGC.out.trans k)).rows hws))
    have HF3 := Lib.hid (fun b cap W => lawFirst10_three A V SE b cap W)
    have HF2 := Lib.hid (fun b cap W => lawFirst10_two A B b cap W)
    rw [hone] at HF3
    rw [htwo] at HF2
    have HPO : Hid (∃ (LP : List EnR) (EP : Int), (one = 0 → LP = (if pstB (nxE l1 de ro va st p n cap xs) = true then [] else putE l1 (nxE l1 de ro va st p n cap xs)) ∧ EP = (if pstB (nxE l1 de ro va st p n cap xs) = true then 3 else 0)) ∧ (¬ one = 0 → LP = [] ∧ EP = one) ∧ LP.length ≤ 24 ∧ (∀ f ∈ LP, f.xs.length ≤ 160 ∧ ∀ y ∈ f.xs, y.xs.length ≤ 19) ∧ ∀ U, Gr w U → Calls Tryz.prog 13 #[.agg #[.slice pa n1 ka], .string de, .agg #[.string ro, .int .i64 va, .string st, .slice p n cap]] U fun e w' => RetMU e w' LP EP ∧ Gr U w') := by
      have ho : firstE [archE l1, nmE de, sheetE ro va st xs] = one := by rw [hA0, hV0, hS0]; exact hone
      refine ⟨pstR l1 de ro va st xs (nxE l1 de ro va st p n cap xs), pstX l1 de ro va st xs (nxE l1 de ro va st p n cap xs), fun h => ?_, fun h => ?_, ?_, pst_bounds hf1 hws, fun U k => post_c de ro va st HN1.out (by omega) hka (HR1.out.gr k) hf1 (HXS.out.gr k) hws⟩
      · have := pst_good (p := p) (n := n) (cap := cap) (ho.trans h)
        exact ⟨this.2, this.1⟩
      · have := pst_bad (e := nxE l1 de ro va st p n cap xs) (fun h2 => h (ho.symm.trans h2))
        exact ⟨this.2, this.1.trans ho⟩
      · have := pst_len l1 de ro va st xs (nxE l1 de ro va st p n cap xs)
        omega
    have HME : Hid (∃ (LM : List EnR) (EM : Int), (two = 0 → LM = rmL l1 l2 ∧ EM = rmX l1 l2) ∧ (¬ two = 0 → LM = [] ∧ EM = two) ∧ LM.length ≤ 24 ∧ (∀ f ∈ LM, f.xs.length ≤ 160 ∧ ∀ y ∈ f.xs, y.xs.length ≤ 19) ∧ ∀ U, Gr w U → Calls Tryz.prog 14 #[.agg #[.slice pa n1 ka], .agg #[.slice pc n2 kc]] U fun e w' => RetMU e w' LM EM ∧ Gr U w') := by
      have ho : firstE [archE l1, archE l2] = two := by rw [hA0, hB0]; exact htwo
      refine ⟨mrgR l1 l2, mrgX l1 l2, fun h => ?_, fun h => ?_, ?_, mrg_bounds hf1 hf2, fun U k => merge_c HN1.out HN2.out (by omega) hka hkc (HR1.out.gr k) (HR2.out.gr k) hf1 hf2⟩
      · have h0 := ho.trans h
        rw [firstE_two] at h0
        have ha : archE l1 = 0 := by
          by_cases ha : archE l1 = 0
          · exact ha
          · rw [if_neg ha] at h0; exact absurd h0 ha
        have hb : archE l2 = 0 := by
          rw [if_pos ha] at h0
          split at h0 <;> assumption
        exact ⟨(mrg_good ha hb).2, (mrg_good ha hb).1⟩
      · have := mrg_bad (fun h2 => h (ho.symm.trans h2))
        exact ⟨this.2, this.1.trans ho⟩
      · have := mrgR_len l1 l2
        have := HN1.out
        have := HN2.out
        omega
    obtain ⟨LP, EP, u1, u2, u3, u4, u5⟩ := HPO.out
    obtain ⟨LM, EM, v1, v2, v3, v4, v5⟩ := HME.out
    have HPF := Lib.hid (And.intro u1 (And.intro u2 (And.intro u3 u4)))
    have HMF := Lib.hid (And.intro v1 (And.intro v2 (And.intro v3 v4)))
    have HPC := Lib.hid u5
    have HMC := Lib.hid v5
    have HOT : Hid ((one = 0 → archE l1 = 0) ∧ (two = 0 → archE l1 = 0)) := by
      refine ⟨fun h => ?_, fun h => ?_⟩
      · rw [← hone, firstE_three] at h
        rw [hA0]
        by_cases ha : A = 0
        · exact ha
        · rw [if_neg ha] at h; exact absurd h ha
      · rw [← htwo, firstE_two] at h
        rw [hA0]
        by_cases ha : A = 0
        · exact ha
        · rw [if_neg ha] at h; exact absurd h ha
    have HWS := Lib.hid hws
    have HF1 := Lib.hid hf1
    have HFF2 := Lib.hid hf2
    rw [hA0] at HRA HPA
    rw [hB0] at HRB
    rw [hV0] at HNM
    rw [hS0] at HRS
    clear HPO HME u1 u2 u3 u4 u5 v1 v2 v3 v4 v5 hA0 hB0 hV0 hS0 hone htwo hf1 hf2 hws hl1 hl2
    have haa : (A != A) = false := bne_self_eq_false _
    go_wp2_with fail
    refine (HRA.out _ gX).mono ?_
    rintro e W9 ⟨rfl, hg⟩
    replace gX := gX.trans hg
    replace g := g.trans hg
    clear hg d0 d1 d2 d3 d4
    have b0 := HBF1.out _ gX
    go_wp2_with fail
    refine (HPA.out _ g).mono ?_
    rintro e W9 ⟨rfl, hg⟩
    replace gX := gX.trans hg
    replace g := g.trans hg
    clear hg b0
    have b0 := HBF1.out _ gX
    obtain ⟨d0, d1, d2, d3, d4⟩ := HDF2.out _ gX
    go_wp2_with fail
    refine (HPC.out _ g).mono ?_
    rintro e VP ⟨⟨qp, np, cp, esp, rfl, hnp, hekp, hesp, hccp⟩, hg⟩
    replace gX := gX.trans hg
    replace g := g.trans hg
    clear hg b0 d0 d1 d2 d3 d4
    obtain ⟨VP2, hVP, hg, k0⟩ := box1 VP (.slice qp np cp) 24
    replace hesp := hesp.gr hg
    replace gX := gX.trans hg
    replace g := g.trans hg
    obtain ⟨C11, hC11⟩ : ∃ C, VP.heap.size = C := ⟨_, rfl⟩
    rw [hC11] at k0
    have HVP := Lib.hid hVP
    have HC11 := Lib.hid hC11
    have b0 := HBF1.out _ gX
    have b1 := HBF2.out _ gX
    rw [← hVP] at b0 b1
    clear hg hVP hC11
    go_wp2_with fail
    rw [HVP.out] at b0 b1 ⊢
    rw [HC11.out]
    clear HVP HC11
    refine (HMC.out _ g).mono ?_
    rintro e VM ⟨⟨qm, nm, cm, esm, rfl, hnm, hekm, hesm, hccm⟩, hg⟩
    replace k0 := hg.cell k0
    replace hesp := hesp.gr hg
    replace gX := gX.trans hg
    replace g := g.trans hg
    clear hg b0 b1
    obtain ⟨WR, hWR, hg, k1⟩ := box1 VM (.slice qm nm cm) 24
    replace k0 := hg.cell k0
    replace hesp := hesp.gr hg
    replace hesm := hesm.gr hg
    replace gX := gX.trans hg
    replace g := g.trans hg
    obtain ⟨C13, hC13⟩ : ∃ C, VM.heap.size = C := ⟨_, rfl⟩
    rw [hC13] at k1
    have HWR := Lib.hid hWR
    have HC13 := Lib.hid hC13
    clear hg hWR hC13
    go_upto_region 9 with fail
    rw [HWR.out]
    rw [HC13.out]
    clear HWR HC13
    have HCF3 := Lib.hid (fun U (k : Gr WR U) => HCF.out U (gX.trans k))
    have HDF3 := Lib.hid (fun U (k : Gr WR U) => HDF2.out U (gX.trans k))
    have HRS3 := Lib.hid (fun U (k : Gr WR U) => HRS.out U (gX.trans k))
    have HRB3 := Lib.hid (fun U (k : Gr WR U) => HRB.out U (gX.trans k))
    clear HRS HRB
    refine wp_region_held_drew (S := fun U => Gr WR U) (by kernel_rfl) ((Gr.refl WR).trans (Gr.refl _).drew) (fun hHeld => ?_)
    have gD := (Gr.refl WR).trans (Gr.refl WR).drew
    generalize WR.drew = VD at *
    refine wpAnyH_take (i := 0) (v := (.int .i64 A)) (op_at rfl) (by kernel_rfl) (by kernel_rfl) (by kernel_rfl) (fun _ _ _ h => h) (Or.inl ⟨rfl, fun U hSw => ?_⟩) (by assumption) ?_
    · go_simp; try with_reducible rfl
    (try simp only [Act.put, tz0, tz1, tz2])
    refine wpAnyH_take (i := 1) (v := (.pointer (some ⟨P5, 0, none⟩))) (op_at rfl) (by kernel_rfl) (by kernel_rfl) (by kernel_rfl) (fun _ _ _ h => h) (Or.inl ⟨rfl, fun U hSw => ?_⟩) (by assumption) ?_
    · go_simp; try with_reducible rfl
    (try simp only [Act.put, tz0, tz1, tz2])
    refine wpAnyH_take (i := 2) (v := (.string de)) (op_at rfl) (by kernel_rfl) (by kernel_rfl) (by kernel_rfl) (fun _ _ _ h => h) (Or.inl ⟨rfl, fun U hSw => ?_⟩) (by assumption) ?_
    · obtain ⟨q0, q1, q2, q3, q4⟩ := HDF3.out U hSw; go_simp; try with_reducible rfl
    (try simp only [Act.put, tz0, tz1, tz2])
    refine wpAnyH_take (i := 4) (v := (.agg #[.string ro, .int .i64 va, .string st, .slice p n cap])) (op_at rfl) (by kernel_rfl) (by kernel_rfl) (by kernel_rfl) (fun _ _ _ h => h) (Or.inl ⟨rfl, fun U hSw => ?_⟩) (by assumption) ?_
    · obtain ⟨q0, q1, q2, q3⟩ := HCF3.out U hSw; go_simp; try with_reducible rfl
    (try simp only [Act.put, tz0, tz1, tz2])
    refine wpAnyH_take (i := 8) (v := (.int .i64 A)) (op_at rfl) (by kernel_rfl) (by kernel_rfl) (by kernel_rfl) (fun _ _ _ h => h) (Or.inl ⟨rfl, fun U hSw => ?_⟩) (by assumption) ?_
    · go_simp; try with_reducible rfl
    (try simp only [Act.put, tz0, tz1, tz2])
    refine wpAnyH_take (i := 9) (v := (.slice qy n2 cy)) (op_at rfl) (by kernel_rfl) (by kernel_rfl) (by kernel_rfl) (fun _ _ _ h => h) (Or.inl ⟨rfl, fun U hSw => ?_⟩) (by assumption) ?_
    · go_simp; try with_reducible rfl
    (try simp only [Act.put, tz0, tz1, tz2])
    refine wpAnyH_ready (rs := [3]) (by kernel_rfl) (by simp) ((AllReadyH.cons (op_at rfl) (fun K hK => ?_) AllReadyH.nil))
    go_simp
    refine (HNM.out _).mono ?_
    rintro e U1 ⟨rfl, rfl⟩
    go_wp2_with fail
    refine hK.out _ _ gD (fun hHeld => ?_)
    clear hK K
    (try simp only [Act.put, tz0, tz1, tz2])
    refine wpAnyH_ready (rs := [5]) (by kernel_rfl) (by simp) ((AllReadyH.cons (op_at rfl) (fun K hK => ?_) AllReadyH.nil))
    go_simp
    refine (HRS3.out _ gD).mono ?_
    rintro e V2 ⟨rfl, hg⟩
    go_wp2_with fail
    have g2 := gD.trans hg
    clear hg
    refine hK.out _ _ g2 (fun hHeld => ?_)
    clear hK K
    (try simp only [Act.put, tz0, tz1, tz2])
    refine wpAnyH_ready (rs := [6]) (by kernel_rfl) (by simp) ((AllReadyH.cons (op_at rfl) (fun K hK => ?_) AllReadyH.nil))
    go_simp
    obtain ⟨V3, hV3, gA, q0, q1, q2⟩ := box3 V2 (.int .i64 A) (.int .i64 V) (.int .i64 SE) 3
    rw [hV3]
    have g3 := g2.trans gA
    clear gA hV3
    refine hK.out _ _ g3 (fun hHeld => ?_)
    clear hK K
    (try simp only [Act.put, tz0, tz1, tz2])
    refine wpAnyH_ready (rs := [7]) (by kernel_rfl) (by simp) ((AllReadyH.cons (op_at rfl) (fun K hK => ?_) AllReadyH.nil))
    go_simp
    refine (HF3.out _ _ V3 q0 q1 q2).mono ?_
    rintro e V4 ⟨rfl, rfl⟩
    go_wp2_with fail
    refine hK.out _ _ g3 (fun hHeld => ?_)
    clear hK K q0 q1 q2
    (try simp only [Act.put, tz0, tz1, tz2])
    refine wpAnyH_ready (rs := [10]) (by kernel_rfl) (by simp) ((AllReadyH.cons (op_at rfl) (fun K hK => ?_) AllReadyH.nil))
    go_simp
    refine (HRB3.out _ g3).mono ?_
    rintro e V5 ⟨rfl, hg⟩
    go_wp2_with fail
    have g5 := g3.trans hg
    clear hg
    refine hK.out _ _ g5 (fun hHeld => ?_)
    clear hK K
    (try simp only [Act.put, tz0, tz1, tz2])
    refine wpAnyH_ready (rs := [11]) (by kernel_rfl) (by simp) ((AllReadyH.cons (op_at rfl) (fun K hK => ?_) AllReadyH.nil))
    go_simp
    obtain ⟨V6, hV6, gA, q0, q1⟩ := box2v V5 (.int .i64 A) (.int .i64 B) 3
    rw [hV6]
    have g6 := g5.trans gA
    clear gA hV6
    refine hK.out _ _ g6 (fun hHeld => ?_)
    clear hK K
    (try simp only [Act.put, tz0, tz1, tz2])
    refine wpAnyH_ready (rs := [12]) (by kernel_rfl) (by simp) ((AllReadyH.cons (op_at rfl) (fun K hK => ?_) AllReadyH.nil))
    go_simp
    refine (HF2.out _ _ V6 q0 q1).mono ?_
    rintro e V7 ⟨rfl, rfl⟩
    go_wp2_with fail
    refine hK.out _ _ g6 (fun hHeld => ?_)
    clear hK K q0 q1
    (try simp only [Act.put, tz0, tz1, tz2])
    refine wpAnyH_take (i := 13) (v := (.int .i64 one)) (op_at rfl) (by kernel_rfl) (by kernel_rfl) (by kernel_rfl) (fun _ _ _ h => h) (Or.inl ⟨rfl, fun U hSw => ?_⟩) (by assumption) ?_
    · go_simp; try with_reducible rfl
    (try simp only [Act.put, tz0, tz1, tz2])
    refine wpAnyH_take (i := 14) (v := (.int .i64 two)) (op_at rfl) (by kernel_rfl) (by kernel_rfl) (by kernel_rfl) (fun _ _ _ h => h) (Or.inl ⟨rfl, fun U hSw => ?_⟩) (by assumption) ?_
    · go_simp; try with_reducible rfl
    (try simp only [Act.put, tz0, tz1, tz2])
    refine wpAnyH_done (by kernel_rfl) ?_ _
    clear HNM HRS3 HRB3 HF3 HF2 HCF3 HDF3
    replace k0 := g6.cell k0
    replace k1 := g6.cell k1
    replace hesp := hesp.gr g6
    replace hesm := hesm.gr g6
    replace gX := gX.trans g6
    replace g := g.trans g6
    clear g6
    obtain ⟨nP, hnP⟩ : ∃ z, z = LP.length := ⟨_, rfl⟩
    obtain ⟨nM, hnM⟩ : ∃ z, z = LM.length := ⟨_, rfl⟩
    have HNP := Lib.hid hnP
    have HNMM := Lib.hid hnM
    have HSP := Lib.hid (And.intro hnp (And.intro hekp hesp))
    have HSM := Lib.hid (And.intro hnm (And.intro hekm hesm))
    have HK := Lib.hid (And.intro k0 k1)
    have HGX := Lib.hid gX
    have HGG := Lib.hid g
    clear hnP hnM hnp hekp hesp hnm hekm hesm k0 k1 hccp hccm
    go_upto_if 82 with fail
    go_cut [15, 17] from 19 (fun s15 s17 wx => ∃ pl dl, s15 = .int .i64 EP ∧ s17 = .slice pl nP dl ∧ EnS wx pl LP ∧ Hid (Gr V6 wx))
    case first =>
      clear gX g
      by_cases hz : one = 0
      · obtain ⟨hLP, hEP⟩ := HPF.out.1 hz
        have HRP := Lib.hid (fun U (k : Gr WC U) => refPost_c (ka := cx) de ro va st p n cap xs HN1.out (by omega) hcx (fun _ => HQX.out) (HX.out.gr k) (arch_nums (HOT.out.1 hz)) (HXS.out.gr (HGC.out.trans k)))
        rw [← hLP, ← hEP] at HRP
        have hz1 : (one == 0) = true := beq_iff_eq.2 hz
        obtain ⟨z0, z1, z2, z3⟩ := HCF.out _ HGX.out
        obtain ⟨d0, d1, d2, d3, d4⟩ := HDF2.out _ HGX.out
        clear hz hLP hEP HPF HMF HOT
        go_wp2_with fail
        refine (HRP.out _ HGX.out).mono ?_
        rintro e W9 ⟨⟨pl, nl, dl, rfl, hnl, hpl, hcc⟩, hg⟩
        have HNL : Hid (nl = nP) := by rw [Hid, hnl.out]; exact HNP.out.symm
        have HG9 := Lib.hid hg
        clear hg HRP
        go_wp2_with fail
        go_meet
        case rel => exact ⟨pl, dl, rfl, by rw [HNL.out], hpl, HG9⟩
      · obtain ⟨hLP, hEP⟩ := HPF.out.2.1 hz
        have HEP : Hid (one = EP) := hEP.symm
        have HNL : Hid (0 = nP) := by rw [Hid, HNP.out, hLP]; rfl
        have HEN : Hid (EnS V6 none LP) := by rw [hLP]; exact en_nil _
        have hz1 : (one == 0) = false := beq_eq_false_iff_ne.2 hz
        clear hz hLP hEP HPF HMF HOT
        go_wp2_with fail
        go_meet
        case rel => exact ⟨none, 0, by rw [HEP.out], by rw [HNL.out], HEN.out, Gr.refl _⟩
    case rest =>
      obtain ⟨pl, dl, rfl, rfl, hpl, HGa⟩ := hcut
      obtain ⟨Wa, hWa⟩ : ∃ V, V = wc := ⟨wc, rfl⟩
      subst hWa
      have HPL := Lib.hid hpl
      have HGXa := Lib.hid (HGX.out.trans HGa.out)
      clear gX g hpl
      go_upto_if 92 with fail
      go_cut [16, 18] from 19 (fun s16 s18 wx => ∃ pm dm, s16 = .int .i64 EM ∧ s18 = .slice pm nM dm ∧ EnS wx pm LM ∧ Hid (Gr Wa wx))
      case first =>
        by_cases hz : two = 0
        · obtain ⟨hLM, hEM⟩ := HMF.out.1 hz
          have HRM := Lib.hid (fun U (k : Gr WC U) => rMerge_c (ka := cx) (kc := cy) HN1.out HN2.out (by omega) hcx hcy (HX.out.gr k) (HY.out.gr k) (fit_of (HOT.out.2 hz) HX.out HF1.out) HF1.out HFF2.out)
          rw [← hLM, ← hEM] at HRM
          have hz1 : (two == 0) = true := beq_iff_eq.2 hz
          clear hz hLM hEM HPF HMF HOT
          go_wp2_with fail
          refine (HRM.out _ HGXa.out).mono ?_
          rintro e W9 ⟨⟨pm, nl, dm, rfl, hnl, hpm, hcc⟩, hg⟩
          have HNL : Hid (nl = nM) := by rw [Hid, hnl.out]; exact HNMM.out.symm
          have HG9 := Lib.hid hg
          clear hg HRM
          go_wp2_with fail
          go_meet
          case rel => exact ⟨pm, dm, rfl, by rw [HNL.out], hpm, HG9⟩
        · obtain ⟨hLM, hEM⟩ := HMF.out.2.1 hz
          have HEM : Hid (two = EM) := hEM.symm
          have HNL : Hid (0 = nM) := by rw [Hid, HNMM.out, hLM]; rfl
          have HEN : Hid (EnS Wa none LM) := by rw [hLM]; exact en_nil _
          have hz1 : (two == 0) = false := beq_eq_false_iff_ne.2 hz
          clear hz hLM hEM HPF HMF HOT
          go_wp2_with fail
          go_meet
          case rel => exact ⟨none, 0, by rw [HEM.out], by rw [HNL.out], HEN.out, Gr.refl _⟩
      case rest =>
        obtain ⟨pm, dm, rfl, rfl, hpm, HGb⟩ := hcut
        have gb := HGa.out.trans HGb.out
        have g := HGG.out.trans gb
        obtain ⟨k0, k1⟩ := HK.out
        replace k0 := gb.cell k0
        replace k1 := gb.cell k1
        obtain ⟨hnp, hekp, hesp⟩ := HSP.out
        obtain ⟨hnm, hekm, hesm⟩ := HSM.out
        replace hesp := hesp.gr gb
        replace hesm := hesm.gr gb
        have hpl := HPL.out.gr HGb.out
        have HNPP : Hid (np = nP) := by rw [Hid, hnp.out, map_len hekp.out]; exact HNP.out.symm
        have HNM2 : Hid (nm = nM) := by rw [Hid, hnm.out, map_len hekm.out]; exact HNMM.out.symm
        have hp24 : np ≤ 24 := by have := HPF.out.2.2.1; have := HNP.out; have := HNPP.out; omega
        have hm24 : nm ≤ 24 := by have := HMF.out.2.2.1; have := HNMM.out; have := HNM2.out; omega
        have HBP := Lib.hid (ek_bounds hekp.out HPF.out.2.2.2)
        have HBM := Lib.hid (ek_bounds hekm.out HMF.out.2.2.2)
        clear HPF HMF HOT gb HGa HGb HPL HGXa HGX HGG HSP HSM HK
        go_wp2_with fail
        refine (entries_c hesp hnp.out (by omega)).mono ?_
        rintro e W9 ⟨y3, z3, rfl, _, hs1, hg⟩
        replace k1 := hg.cell k1
        replace hesm := hesm.gr hg
        replace hpl := hpl.gr hg
        replace hpm := hpm.gr hg
        replace g := g.trans hg
        rw [HNPP.out]
        clear hg hesp k0
        go_wp2_with fail
        refine (sameEns_c hs1 hpl (by rw [← HNPP.out]; exact hnp.out) hekp.out (by have := HNPP.out; omega) (fun e he => by have := (HBP.out e he).1; have := hs1.lens e he; omega) (fun e he x hx => by have := (HBP.out e he).2 x hx; omega)).mono ?_
        rintro e W9 ⟨rfl, hg⟩
        replace k1 := hg.cell k1
        replace hesm := hesm.gr hg
        replace hpm := hpm.gr hg
        replace g := g.trans hg
        clear hg hs1 hpl
        go_wp2_with fail
        refine (entries_c hesm hnm.out (by omega)).mono ?_
        rintro e W9 ⟨y4, z4, rfl, _, hs1, hg⟩
        replace hpm := hpm.gr hg
        replace g := g.trans hg
        rw [HNM2.out]
        clear hg hesm k1
        go_wp2_with fail
        refine (sameEns_c hs1 hpm (by rw [← HNM2.out]; exact hnm.out) hekm.out (by have := HNM2.out; omega) (fun e he => by have := (HBM.out e he).1; have := hs1.lens e he; omega) (fun e he x hx => by have := (HBM.out e he).2 x hx; omega)).mono ?_
        rintro e W9 ⟨rfl, hg⟩
        replace g := g.trans hg
        clear hg hs1 hpm
        go_wp2_with fail
        refine (HA.out _ g).mono ?_
        rintro e W9 ⟨rfl, hg⟩
        replace g := g.trans hg
        go_wp2_with fail
        go_ret
        exact ⟨by rfl, g⟩
end Go.Proofs.YtnihclhhbegjhaaGreatDoor
