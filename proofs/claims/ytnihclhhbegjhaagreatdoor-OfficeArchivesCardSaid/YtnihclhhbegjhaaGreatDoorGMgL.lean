/- Archives (chapter 10): the program's Post, whole. -/
import Derived.Deep.CutBlock
import Derived.Test.YtnihclhhbegjhaaGreatDoorGMgH
import Derived.Test.YtnihclhhbegjhaaGreatDoorGOvU
namespace Go.Proofs.YtnihclhhbegjhaaGreatDoor
open Go.RowKit Go.Lib
set_option linter.unusedSimpArgs false
set_option linter.unusedVariables false
def pstX (l : List EnR) (de ro : ByteArray) (va : Int) (st : ByteArray) (xs : List RowR) (e : EnR) : Int := if firstE [archE l, nmE de, sheetE ro va st xs, 0] = 0 then enErr e else firstE [archE l, nmE de, sheetE ro va st xs, 0]
def pstR (l : List EnR) (de ro : ByteArray) (va : Int) (st : ByteArray) (xs : List RowR) (e : EnR) : List EnR := if pstX l de ro va st xs e = 0 then mrgE l [e] else []
theorem arch_nums {l : List EnR} (h : archE l = 0) : Nums l := fun e he => by
  have h1 := (arch_ord h).2 e he
  unfold enErr entryE at h1
  simp only [firstE] at h1
  have o1 : ∀ n lo hi : Int, outE n lo hi = 0 → lo ≤ n ∧ n ≤ hi := fun n lo hi h => by
    unfold outE at h
    by_cases hb : outB n lo hi = true
    · rw [hb] at h; simp at h
    · unfold outB at hb
      simp at hb
      omega
  split at h1
  · split at h1
    · split at h1
      · rename_i a b c
        have := o1 _ _ _ b
        have := o1 _ _ _ c
        omega
      · rename_i a b c; exact absurd h1 c
    · rename_i a b; exact absurd h1 b
  · rename_i a; exact absurd h1 a
set_option maxHeartbeats 4000000 in
set_option maxRecDepth 100000 in
theorem post_err {w : World} {pa : Option Addr} {l : List EnR} {ma ka : Nat} (de ro : ByteArray) (va : Int) (st : ByteArray) {p : Option Addr} {n cap : Nat} {xs : List RowR} (hma : ma = l.length) (h1 : ma < 999) (hka : ma ≤ ka ∧ ka ≤ maxLen) (ha : EnS w pa l) (wa : Few l) (hx : RowsX w p n cap xs) (wx : ∀ x ∈ xs, x.xs.length ≤ 19) (he : firstE [archE l, nmE de, sheetE ro va st xs, 0] ≠ 0) :
    Calls Tryz.prog 13 #[.agg #[.slice pa ma ka], .string de, .agg #[.string ro, .int .i64 va, .string st, .slice p n cap]] w fun e w' => RetMU e w' (pstR l de ro va st xs (nxE l de ro va st p n cap xs)) (pstX l de ro va st xs (nxE l de ro va st p n cap xs)) ∧ Gr w w' := by
  have HC1 := Lib.hid (fun V (g : Gr w V) => checkArch_c (cap := ka) hma (by omega) (ha.gr g) wa)
  have HC2 := Lib.hid (fun V => offName_c de V)
  have HC3 := Lib.hid (fun V (g : Gr w V) => checkSheet_cO ro st va ((hx.gr g).rows (fun x hx => wx x hx)))
  have HC4 := Lib.hid (fun V => (show Calls Tryz.prog 55 #[.bool false, .int .i64 5] V fun e w' => e = .returned (.int .i64 0) ∧ V = w' from if_c false 5 V))
  have HFI := Lib.hid (fun b cap w => first_four (archE l) (nmE de) (sheetE ro va st xs) 0 b cap w)
  have h1n : ¬ (1000 : Int) ≤ (ma : Int) := by omega
  have h1k : (ma : Int) < 1000 := by omega
  have h1d : decide ((1000 : Int) ≤ (ma : Int)) = false := decide_eq_false h1n
  have HX : Hid (pstX l de ro va st xs (nxE l de ro va st p n cap xs) = firstE [archE l, nmE de, sheetE ro va st xs, 0]) := by rw [Hid]; unfold pstX; rw [if_neg he]
  have HR : Hid (pstR l de ro va st xs (nxE l de ro va st p n cap xs) = []) := by rw [Hid]; unfold pstR; rw [HX.out, if_neg he]
  have hz : (firstE [archE l, nmE de, sheetE ro va st xs, 0] != 0) = true := bne_iff_ne.2 he
  generalize pstX l de ro va st xs (nxE l de ro va st p n cap xs) = X at *
  generalize pstR l de ro va st xs (nxE l de ro va st p n cap xs) = RR at *
  generalize firstE [archE l, nmE de, sheetE ro va st xs, 0] = z at *
  generalize archE l = z1 at *
  generalize nmE de = z2 at *
  generalize sheetE ro va st xs = z3 at *
  clear hma ha wa he hka h1 hx wx
  obtain ⟨W1, hW1, g1, a0⟩ := box1 w (.slice pa ma ka) 24
  obtain ⟨W2, hW2, g2, b0, b1, b2, b3⟩ := box4 W1 (.string ro) (.int .i64 va) (.string st) (.slice p n cap) 27
  obtain ⟨W4, hW4, g3, a2⟩ := box1 W2 (.slice none 0 0) 24
  have hs1 : W1.heap.size = w.heap.size + 1 := by rw [← hW1]; simp
  have hs2 : W2.heap.size = w.heap.size + 1 + 1 := by rw [← hW2]; simp [hs1]
  have hb3 : W4.heap[W2.heap.size]? = some (.cells #[.slice none 0 0] 24 (0, 0)) := by rw [← hW4]; exact heap_alloc_new W2 _
  rw [hs1] at b0 b1 b2 b3
  rw [hs2] at hb3
  rw [← hW1] at hW2
  rw [← hW2] at hW4
  obtain ⟨P1, hP1⟩ : ∃ P, w.heap.size = P := ⟨_, rfl⟩
  obtain ⟨P2, hP2⟩ : ∃ P, P1 + 1 = P := ⟨_, rfl⟩
  obtain ⟨P3, hP3⟩ : ∃ P, P2 + 1 = P := ⟨_, rfl⟩
  have hx3 : w.heap.size ≤ P3 := by omega
  rw [hP1] at hb3 a0 b0 b1 b2 b3
  rw [hP2] at hb3 b0 b1 b2 b3
  rw [hP3] at hb3
  have HA0 := Lib.hid (g3.cell (g2.cell a0))
  replace b0 := g3.cell b0
  replace b1 := g3.cell b1
  replace b2 := g3.cell b2
  replace b3 := g3.cell b3
  have HA1 := Lib.hid (fun U (k : Gr W4 U) => And.intro (k.cell b0) (And.intro (k.cell b1) (And.intro (k.cell b2) (k.cell b3))))
  have HB3 := Lib.hid hb3
  have HG4 := Lib.hid ((g1.trans g2).trans g3)
  have HW := Lib.hid hW4
  have HP1 := Lib.hid hP1
  have HP2 := Lib.hid hP2
  have HP3 := Lib.hid hP3
  clear hW1 hW2 hW4 hs1 hs2 a0 a2 b0 b1 b2 b3 g1 g2 g3 hb3 hP1 hP2 hP3
  go_enter Tryz.func13, Tryz.ntmps13
  go_wp2_with fail
  rw [HW.out]
  rw [HP1.out]
  try rw [HP2.out]
  try rw [HP3.out]
  clear HW
  obtain ⟨WQ, hWQ⟩ : ∃ V, V = W4 := ⟨_, rfl⟩
  have gQ : Gr W4 WQ := by rw [hWQ]; exact Gr.refl _
  rw [← hWQ]
  clear hWQ
  go_upto_region 1 with fail
  refine wp_region_held_drew (S := fun U => Gr W4 U) (by kernel_rfl) (gQ.trans (Gr.refl _).drew) (fun hHeld => ?_)
  have gD := gQ.trans (Gr.refl WQ).drew
  generalize WQ.drew = VD at *
  refine wpAnyH_take (i := 0) (v := (.agg #[.slice pa ma ka])) (op_at rfl) (by kernel_rfl) (by kernel_rfl) (by kernel_rfl) (fun _ _ _ h => h) (Or.inl ⟨rfl, fun U hSw => ?_⟩) (by assumption) ?_
  · have hs9 : Gr W4 U := hSw; have q0 := hs9.cell HA0.out; go_simp; try with_reducible rfl
  (try simp only [Act.put, tz0, tz1, tz2])
  refine wpAnyH_take (i := 2) (v := (.string de)) (op_at rfl) (by kernel_rfl) (by kernel_rfl) (by kernel_rfl) (fun _ _ _ h => h) (Or.inl ⟨rfl, fun U hSw => ?_⟩) (by assumption) ?_
  · go_simp; try with_reducible rfl
  (try simp only [Act.put, tz0, tz1, tz2])
  refine wpAnyH_take (i := 4) (v := (.agg #[.string ro, .int .i64 va, .string st, .slice p n cap])) (op_at rfl) (by kernel_rfl) (by kernel_rfl) (by kernel_rfl) (fun _ _ _ h => h) (Or.inl ⟨rfl, fun U hSw => ?_⟩) (by assumption) ?_
  · obtain ⟨q0, q1, q2, q3⟩ := HA1.out U hSw; go_simp; try with_reducible rfl
  (try simp only [Act.put, tz0, tz1, tz2])
  refine wpAnyH_take (i := 6) (v := (.pointer (some ⟨P1, 0, none⟩))) (op_at rfl) (by kernel_rfl) (by kernel_rfl) (by kernel_rfl) (fun _ _ _ h => h) (Or.inl ⟨rfl, fun U hSw => ?_⟩) (by assumption) ?_
  · go_simp; try with_reducible rfl
  (try simp only [Act.put, tz0, tz1, tz2])
  refine wpAnyH_take (i := 7) (v := (.slice pa ma ka)) (op_at rfl) (by kernel_rfl) (by kernel_rfl) (by kernel_rfl) (fun _ _ _ h => h) (Or.inl ⟨rfl, fun U hSw => ?_⟩) (by assumption) ?_
  · have hs9 : Gr W4 U := hSw; have q0 := hs9.cell HA0.out; go_simp; try with_reducible rfl
  (try simp only [Act.put, tz0, tz1, tz2])
  refine wpAnyH_take (i := 8) (v := (.int .i64 (ma : Int))) (op_at rfl) (by kernel_rfl) (by kernel_rfl) (by kernel_rfl) (fun _ _ _ h => h) (Or.inl ⟨rfl, fun U hSw => ?_⟩) (by assumption) ?_
  · go_simp; try with_reducible rfl
  (try simp only [Act.put, tz0, tz1, tz2])
  refine wpAnyH_take (i := 9) (v := (.bool false)) (op_at rfl) (by kernel_rfl) (by kernel_rfl) (by kernel_rfl) (fun _ _ _ h => h) (Or.inl ⟨rfl, fun U hSw => ?_⟩) (by assumption) ?_
  · go_simp; try with_reducible rfl
  (try simp only [Act.put, tz0, tz1, tz2])
  refine wpAnyH_ready (rs := [1]) (by kernel_rfl) (by simp) ((AllReadyH.cons (op_at rfl) (fun K hK => ?_) AllReadyH.nil))
  go_simp
  refine (HC1.out _ (HG4.out.trans gD)).mono ?_
  rintro e V1 ⟨rfl, hg⟩
  go_wp2_with fail
  have g1 := gD.trans hg
  clear hg
  refine hK.out _ _ g1 (fun hHeld => ?_)
  clear hK K
  (try simp only [Act.put, tz0, tz1, tz2])
  refine wpAnyH_ready (rs := [3]) (by kernel_rfl) (by simp) ((AllReadyH.cons (op_at rfl) (fun K hK => ?_) AllReadyH.nil))
  go_simp
  refine (HC2.out _).mono ?_
  rintro e V2 ⟨rfl, hg⟩
  go_wp2_with fail
  have g2 := g1.trans hg
  clear hg
  refine hK.out _ _ g2 (fun hHeld => ?_)
  clear hK K
  (try simp only [Act.put, tz0, tz1, tz2])
  refine wpAnyH_ready (rs := [5]) (by kernel_rfl) (by simp) ((AllReadyH.cons (op_at rfl) (fun K hK => ?_) AllReadyH.nil))
  go_simp
  refine (HC3.out _ (HG4.out.trans g2)).mono ?_
  rintro e V3 ⟨rfl, hg⟩
  go_wp2_with fail
  have g3 := g2.trans hg
  clear hg
  refine hK.out _ _ g3 (fun hHeld => ?_)
  clear hK K
  (try simp only [Act.put, tz0, tz1, tz2])
  refine wpAnyH_ready (rs := [10]) (by kernel_rfl) (by simp) ((AllReadyH.cons (op_at rfl) (fun K hK => ?_) AllReadyH.nil))
  go_simp
  refine (HC4.out _).mono ?_
  rintro e V4 ⟨rfl, rfl⟩
  go_wp2_with fail
  refine hK.out _ _ g3 (fun hHeld => ?_)
  clear hK K
  (try simp only [Act.put, tz0, tz1, tz2])
  refine wpAnyH_ready (rs := [11]) (by kernel_rfl) (by simp) ((AllReadyH.cons (op_at rfl) (fun K hK => ?_) AllReadyH.nil))
  go_simp
  obtain ⟨V5, hV5, gA, q0, q1, q2, q3⟩ := box4 V3 (.int .i64 z1) (.int .i64 z2) (.int .i64 z3) (.int .i64 0) 37
  rw [hV5]
  have g5 := g3.trans gA
  clear gA hV5
  refine hK.out _ _ g5 (fun hHeld => ?_)
  clear hK K
  (try simp only [Act.put, tz0, tz1, tz2])
  refine wpAnyH_ready (rs := [12]) (by kernel_rfl) (by simp) ((AllReadyH.cons (op_at rfl) (fun K hK => ?_) AllReadyH.nil))
  go_simp
  refine (HFI.out _ _ V5 q0 q1 q2 q3).mono ?_
  rintro e V6 ⟨rfl, rfl⟩
  go_wp2_with fail
  refine hK.out _ _ g5 (fun hHeld => ?_)
  clear hK K q0 q1 q2 q3
  (try simp only [Act.put, tz0, tz1, tz2])
  refine wpAnyH_take (i := 13) (v := (.int .i64 z)) (op_at rfl) (by kernel_rfl) (by kernel_rfl) (by kernel_rfl) (fun _ _ _ h => h) (Or.inl ⟨rfl, fun U hSw => ?_⟩) (by assumption) ?_
  · go_simp; try with_reducible rfl
  (try simp only [Act.put, tz0, tz1, tz2])
  refine wpAnyH_done (by kernel_rfl) ?_ _
  have hbz := Gr.block g5 HB3.out
  have z0 := cells1_ofO hbz
  have f2 : ∀ o, V5.frozen? ⟨P3, o, none⟩ = false := fun o => frozen_of_row _ _ o _ _ hbz
  have HBZ := Lib.hid hbz
  have HGE := Lib.hid (HG4.out.trans g5)
  clear hbz
  go_wp2_with fail
  have y0 := cells1_ofO (set1O HBZ.out (.slice none 0 0))
  refine bodyPost_ret (v := .tuple #[.agg #[.slice none 0 0], .int .i64 z]) (by simp [results, Tryz.results13, go_sem, y0]) rfl ⟨⟨none, 0, 0, [], by rw [HX.out], rfl, by rw [Hid, HR.out], en_nil _, Nat.le_refl _, by unfold maxLen; omega⟩, ?_⟩
  exact Below.setCell HGE.out (by show w.heap.size ≤ P3; omega) _
set_option maxHeartbeats 4000000 in
set_option maxRecDepth 100000 in
theorem post_ok {w : World} {pa : Option Addr} {l : List EnR} {ma ka : Nat} (de ro : ByteArray) (va : Int) (st : ByteArray) {p : Option Addr} {n cap : Nat} {xs : List RowR} (hma : ma = l.length) (h1 : ma < 999) (hka : ma ≤ ka ∧ ka ≤ maxLen) (ha : EnS w pa l) (wa : Few l) (hx : RowsX w p n cap xs) (wx : ∀ x ∈ xs, x.xs.length ≤ 19) (he : firstE [archE l, nmE de, sheetE ro va st xs, 0] = 0) :
    Calls Tryz.prog 13 #[.agg #[.slice pa ma ka], .string de, .agg #[.string ro, .int .i64 va, .string st, .slice p n cap]] w fun e w' => RetMU e w' (pstR l de ro va st xs (nxE l de ro va st p n cap xs)) (pstX l de ro va st xs (nxE l de ro va st p n cap xs)) ∧ Gr w w' := by
  have ha0 : archE l = 0 := by
    by_cases h2 : archE l = 0
    · exact h2
    · unfold firstE at he; rw [if_neg h2] at he; exact he
  have hs0 : sheetE ro va st xs = 0 := by
    have h2 := he
    unfold firstE at h2
    rw [if_pos ha0] at h2
    unfold firstE at h2
    by_cases hn : nmE de = 0
    · rw [if_pos hn] at h2
      unfold firstE at h2
      by_cases hs : sheetE ro va st xs = 0
      · exact hs
      · rw [if_neg hs] at h2; exact h2
    · rw [if_neg hn] at h2; exact absurd h2 hn
  have hxn : n ≤ 1000 := by have := sheetE_few hs0; have := hx.len; omega
  have fa := fit_of ha0 ha wa
  have HC1 := Lib.hid (fun V (g : Gr w V) => checkArch_c (cap := ka) hma (by omega) (ha.gr g) wa)
  have HC2 := Lib.hid (fun V => offName_c de V)
  have HC3 := Lib.hid (fun V (g : Gr w V) => checkSheet_cO ro st va ((hx.gr g).rows (fun x hx => wx x hx)))
  have HC4 := Lib.hid (fun V => (show Calls Tryz.prog 55 #[.bool false, .int .i64 5] V fun e w' => e = .returned (.int .i64 0) ∧ V = w' from if_c false 5 V))
  have HFI := Lib.hid (fun b cap w => first_four (archE l) (nmE de) (sheetE ro va st xs) 0 b cap w)
  have h1n : ¬ (1000 : Int) ≤ (ma : Int) := by omega
  have h1k : (ma : Int) < 1000 := by omega
  have h1d : decide ((1000 : Int) ≤ (ma : Int)) = false := decide_eq_false h1n
  rw [he] at HFI
  have HNX := Lib.hid (fun V (g : Gr w V) => next_c (ka := ka) de ro va st p n cap xs hma (by omega) (ha.gr g) (arch_nums ha0))
  have HX0 : Hid (pstX l de ro va st xs (nxE l de ro va st p n cap xs) = enErr (nxE l de ro va st p n cap xs)) := by rw [Hid]; unfold pstX; rw [if_pos he]
  have HR0 : Hid ((pstX l de ro va st xs (nxE l de ro va st p n cap xs) = 0 → pstR l de ro va st xs (nxE l de ro va st p n cap xs) = mrgE l [(nxE l de ro va st p n cap xs)]) ∧ (¬ pstX l de ro va st xs (nxE l de ro va st p n cap xs) = 0 → pstR l de ro va st xs (nxE l de ro va st p n cap xs) = [])) := by
    rw [Hid]; unfold pstR; exact ⟨fun h => by rw [if_pos h], fun h => by rw [if_neg h]⟩
  obtain ⟨y, hy⟩ : ∃ y, (nxE l de ro va st p n cap xs) = y := ⟨_, rfl⟩
  rw [hy] at HNX HX0 HR0
  have hyr : RowsX w y.p y.n y.cap y.xs := by rw [← hy]; exact hx
  have hyw : ∀ x ∈ y.xs, x.xs.length ≤ 19 := by rw [← hy]; exact wx
  have hyf : Fit [y] := fun e h => by
    rw [List.mem_singleton] at h; subst h
    exact ⟨by rw [← hy]; exact hxn, fun x hx => by have := hyw x hx; omega⟩
  have HCE := Lib.hid (fun V (g : Gr w V) => checkEn_c y ((hyr.gr g).rows hyw))
  have HWI := Lib.hid (fun V b (g : Gr w V) (hc : EnS V (some ⟨b, 0, none⟩) [y]) => with_c (c := [y]) (mc := 1) (kc := 1) hma rfl (by omega) hka ⟨Nat.le_refl _, by unfold maxLen; omega⟩ (ha.gr g) hc fa hyf)
  have HYR := Lib.hid hyr
  rw [hy]
  have hxe := HX0.out
  have hre := HR0.out
  rw [hxe] at hre
  rw [hxe]
  generalize hz : enErr y = Z at *
  generalize pstR l de ro va st xs y = RR at *
  have HX1 := Lib.hid hre
  generalize hz1 : archE l = z1 at HC1 HFI
  generalize hz2 : nmE de = z2 at HC2 HFI
  generalize hz3 : sheetE ro va st xs = z3 at HC3 HFI
  generalize mrgE l [y] = M at *
  clear hz1 hz2 hz3 ha0 hs0 hz hxe hre HX0 HR0 hy hyr hyw hyf
  clear hma ha fa wa he hka h1 hx hxn wx
  obtain ⟨W1, hW1, g1, a0⟩ := box1 w (.slice pa ma ka) 24
  obtain ⟨W2, hW2, g2, b0, b1, b2, b3⟩ := box4 W1 (.string ro) (.int .i64 va) (.string st) (.slice p n cap) 27
  obtain ⟨W4, hW4, g3, a2⟩ := box1 W2 (.slice none 0 0) 24
  have hs1 : W1.heap.size = w.heap.size + 1 := by rw [← hW1]; simp
  have hs2 : W2.heap.size = w.heap.size + 1 + 1 := by rw [← hW2]; simp [hs1]
  have hb3 : W4.heap[W2.heap.size]? = some (.cells #[.slice none 0 0] 24 (0, 0)) := by rw [← hW4]; exact heap_alloc_new W2 _
  rw [hs1] at b0 b1 b2 b3
  rw [hs2] at hb3
  rw [← hW1] at hW2
  rw [← hW2] at hW4
  obtain ⟨P1, hP1⟩ : ∃ P, w.heap.size = P := ⟨_, rfl⟩
  obtain ⟨P2, hP2⟩ : ∃ P, P1 + 1 = P := ⟨_, rfl⟩
  obtain ⟨P3, hP3⟩ : ∃ P, P2 + 1 = P := ⟨_, rfl⟩
  have hx3 : w.heap.size ≤ P3 := by omega
  rw [hP1] at hb3 a0 b0 b1 b2 b3
  rw [hP2] at hb3 b0 b1 b2 b3
  rw [hP3] at hb3
  have HA0 := Lib.hid (g3.cell (g2.cell a0))
  replace b0 := g3.cell b0
  replace b1 := g3.cell b1
  replace b2 := g3.cell b2
  replace b3 := g3.cell b3
  have HA1 := Lib.hid (fun U (k : Gr W4 U) => And.intro (k.cell b0) (And.intro (k.cell b1) (And.intro (k.cell b2) (k.cell b3))))
  have HB3 := Lib.hid hb3
  have HG4 := Lib.hid ((g1.trans g2).trans g3)
  have HW := Lib.hid hW4
  have HP1 := Lib.hid hP1
  have HP2 := Lib.hid hP2
  have HP3 := Lib.hid hP3
  clear hW1 hW2 hW4 hs1 hs2 a0 a2 b0 b1 b2 b3 g1 g2 g3 hb3 hP1 hP2 hP3
  go_enter Tryz.func13, Tryz.ntmps13
  go_wp2_with fail
  rw [HW.out]
  rw [HP1.out]
  try rw [HP2.out]
  try rw [HP3.out]
  clear HW
  obtain ⟨WQ, hWQ⟩ : ∃ V, V = W4 := ⟨_, rfl⟩
  have gQ : Gr W4 WQ := by rw [hWQ]; exact Gr.refl _
  rw [← hWQ]
  clear hWQ
  go_upto_region 1 with fail
  refine wp_region_held_drew (S := fun U => Gr W4 U) (by kernel_rfl) (gQ.trans (Gr.refl _).drew) (fun hHeld => ?_)
  have gD := gQ.trans (Gr.refl WQ).drew
  generalize WQ.drew = VD at *
  refine wpAnyH_take (i := 0) (v := (.agg #[.slice pa ma ka])) (op_at rfl) (by kernel_rfl) (by kernel_rfl) (by kernel_rfl) (fun _ _ _ h => h) (Or.inl ⟨rfl, fun U hSw => ?_⟩) (by assumption) ?_
  · have hs9 : Gr W4 U := hSw; have q0 := hs9.cell HA0.out; go_simp; try with_reducible rfl
  (try simp only [Act.put, tz0, tz1, tz2])
  refine wpAnyH_take (i := 2) (v := (.string de)) (op_at rfl) (by kernel_rfl) (by kernel_rfl) (by kernel_rfl) (fun _ _ _ h => h) (Or.inl ⟨rfl, fun U hSw => ?_⟩) (by assumption) ?_
  · go_simp; try with_reducible rfl
  (try simp only [Act.put, tz0, tz1, tz2])
  refine wpAnyH_take (i := 4) (v := (.agg #[.string ro, .int .i64 va, .string st, .slice p n cap])) (op_at rfl) (by kernel_rfl) (by kernel_rfl) (by kernel_rfl) (fun _ _ _ h => h) (Or.inl ⟨rfl, fun U hSw => ?_⟩) (by assumption) ?_
  · obtain ⟨q0, q1, q2, q3⟩ := HA1.out U hSw; go_simp; try with_reducible rfl
  (try simp only [Act.put, tz0, tz1, tz2])
  refine wpAnyH_take (i := 6) (v := (.pointer (some ⟨P1, 0, none⟩))) (op_at rfl) (by kernel_rfl) (by kernel_rfl) (by kernel_rfl) (fun _ _ _ h => h) (Or.inl ⟨rfl, fun U hSw => ?_⟩) (by assumption) ?_
  · go_simp; try with_reducible rfl
  (try simp only [Act.put, tz0, tz1, tz2])
  refine wpAnyH_take (i := 7) (v := (.slice pa ma ka)) (op_at rfl) (by kernel_rfl) (by kernel_rfl) (by kernel_rfl) (fun _ _ _ h => h) (Or.inl ⟨rfl, fun U hSw => ?_⟩) (by assumption) ?_
  · have hs9 : Gr W4 U := hSw; have q0 := hs9.cell HA0.out; go_simp; try with_reducible rfl
  (try simp only [Act.put, tz0, tz1, tz2])
  refine wpAnyH_take (i := 8) (v := (.int .i64 (ma : Int))) (op_at rfl) (by kernel_rfl) (by kernel_rfl) (by kernel_rfl) (fun _ _ _ h => h) (Or.inl ⟨rfl, fun U hSw => ?_⟩) (by assumption) ?_
  · go_simp; try with_reducible rfl
  (try simp only [Act.put, tz0, tz1, tz2])
  refine wpAnyH_take (i := 9) (v := (.bool false)) (op_at rfl) (by kernel_rfl) (by kernel_rfl) (by kernel_rfl) (fun _ _ _ h => h) (Or.inl ⟨rfl, fun U hSw => ?_⟩) (by assumption) ?_
  · go_simp; try with_reducible rfl
  (try simp only [Act.put, tz0, tz1, tz2])
  refine wpAnyH_ready (rs := [1]) (by kernel_rfl) (by simp) ((AllReadyH.cons (op_at rfl) (fun K hK => ?_) AllReadyH.nil))
  go_simp
  refine (HC1.out _ (HG4.out.trans gD)).mono ?_
  rintro e V1 ⟨rfl, hg⟩
  go_wp2_with fail
  have g1 := gD.trans hg
  clear hg
  refine hK.out _ _ g1 (fun hHeld => ?_)
  clear hK K
  (try simp only [Act.put, tz0, tz1, tz2])
  refine wpAnyH_ready (rs := [3]) (by kernel_rfl) (by simp) ((AllReadyH.cons (op_at rfl) (fun K hK => ?_) AllReadyH.nil))
  go_simp
  refine (HC2.out _).mono ?_
  rintro e V2 ⟨rfl, hg⟩
  go_wp2_with fail
  have g2 := g1.trans hg
  clear hg
  refine hK.out _ _ g2 (fun hHeld => ?_)
  clear hK K
  (try simp only [Act.put, tz0, tz1, tz2])
  refine wpAnyH_ready (rs := [5]) (by kernel_rfl) (by simp) ((AllReadyH.cons (op_at rfl) (fun K hK => ?_) AllReadyH.nil))
  go_simp
  refine (HC3.out _ (HG4.out.trans g2)).mono ?_
  rintro e V3 ⟨rfl, hg⟩
  go_wp2_with fail
  have g3 := g2.trans hg
  clear hg
  refine hK.out _ _ g3 (fun hHeld => ?_)
  clear hK K
  (try simp only [Act.put, tz0, tz1, tz2])
  refine wpAnyH_ready (rs := [10]) (by kernel_rfl) (by simp) ((AllReadyH.cons (op_at rfl) (fun K hK => ?_) AllReadyH.nil))
  go_simp
  refine (HC4.out _).mono ?_
  rintro e V4 ⟨rfl, rfl⟩
  go_wp2_with fail
  refine hK.out _ _ g3 (fun hHeld => ?_)
  clear hK K
  (try simp only [Act.put, tz0, tz1, tz2])
  refine wpAnyH_ready (rs := [11]) (by kernel_rfl) (by simp) ((AllReadyH.cons (op_at rfl) (fun K hK => ?_) AllReadyH.nil))
  go_simp
  obtain ⟨V5, hV5, gA, q0, q1, q2, q3⟩ := box4 V3 (.int .i64 z1) (.int .i64 z2) (.int .i64 z3) (.int .i64 0) 37
  rw [hV5]
  have g5 := g3.trans gA
  clear gA hV5
  refine hK.out _ _ g5 (fun hHeld => ?_)
  clear hK K
  (try simp only [Act.put, tz0, tz1, tz2])
  refine wpAnyH_ready (rs := [12]) (by kernel_rfl) (by simp) ((AllReadyH.cons (op_at rfl) (fun K hK => ?_) AllReadyH.nil))
  go_simp
  refine (HFI.out _ _ V5 q0 q1 q2 q3).mono ?_
  rintro e V6 ⟨rfl, rfl⟩
  go_wp2_with fail
  refine hK.out _ _ g5 (fun hHeld => ?_)
  clear hK K q0 q1 q2 q3
  (try simp only [Act.put, tz0, tz1, tz2])
  refine wpAnyH_take (i := 13) (v := (.int .i64 0)) (op_at rfl) (by kernel_rfl) (by kernel_rfl) (by kernel_rfl) (fun _ _ _ h => h) (Or.inl ⟨rfl, fun U hSw => ?_⟩) (by assumption) ?_
  · go_simp; try with_reducible rfl
  (try simp only [Act.put, tz0, tz1, tz2])
  refine wpAnyH_done (by kernel_rfl) ?_ _
  have a0 := g5.cell HA0.out
  obtain ⟨b0, b1, b2, b3⟩ := HA1.out _ g5
  go_wp2_with fail
  refine (HNX.out _ (HG4.out.trans g5)).mono ?_
  rintro e V7 ⟨rfl, hg⟩
  have g7 := g5.trans hg
  clear hg a0 b0 b1 b2 b3 HNX
  unfold enV
  obtain ⟨V8, hV8, gA, e0, e1, e2, e3, e4, e5, e6⟩ := bx7 V7 (.string y.de) (.int .i64 y.nu) (.int .i64 y.ck) (.string y.ro) (.int .i64 y.va) (.string y.st) (.slice y.p y.n y.cap) 77
  have g8 := g7.trans gA
  have HV8 := Lib.hid hV8
  obtain ⟨P9, hP9⟩ : ∃ P, V7.heap.size = P := ⟨_, rfl⟩
  rw [hP9] at e0 e1 e2 e3 e4 e5 e6
  have HP9 := Lib.hid hP9
  have HCE1 := HCE
  unfold enV at HCE1
  clear hV8 gA hP9 g7
  go_wp2_with fail
  rw [HV8.out]
  rw [HP9.out]
  clear HV8 HP9
  go_wp2_with fail
  refine (HCE1.out _ (HG4.out.trans g8)).mono ?_
  rintro e V9 ⟨rfl, hg⟩
  have g9 := g8.trans hg
  replace e0 := hg.cell e0
  replace e1 := hg.cell e1
  replace e2 := hg.cell e2
  replace e3 := hg.cell e3
  replace e4 := hg.cell e4
  replace e5 := hg.cell e5
  replace e6 := hg.cell e6
  clear hg g8 HCE HCE1
  by_cases hZ : Z = 0
  · subst hZ
    have HRR : Hid (RR = M) := HX1.out.1 rfl
    have HX : Hid ((0 : Int) = 0) := rfl
    have a0 := g9.cell HA0.out
    obtain ⟨VB, hVB, gB, k0, k1, k2, k3, k4, k5, k6⟩ := bx7 V9 (.string y.de) (.int .i64 y.nu) (.int .i64 y.ck) (.string y.ro) (.int .i64 y.va) (.string y.st) (.slice y.p y.n y.cap) 77
    have gVB := g9.trans gB
    have HEB : Hid (EnS VB (some ⟨V9.heap.size, 0, none⟩) [y]) := ⟨fun _ => ⟨_, 0, rfl, fun i e h => by
      rcases i with _ | i
      · simp at h; subst h
        exact ⟨k0, k1, k2, k3, k4, k5, k6, HYR.out.gr (HG4.out.trans gVB)⟩
      · simp at h⟩⟩
    have HVB := Lib.hid hVB
    have hP3 : P3 < VB.heap.size := (Array.getElem?_eq_some_iff.1 (Gr.block gVB HB3.out)).1
    have HP4 := Lib.hid hP3
    clear hVB gB k0 k1 k2 k3 k4 k5 k6 g9 hP3
    go_wp2_with fail
    rw [HVB.out]
    refine (HWI.out _ _ (HG4.out.trans gVB) HEB.out).mono ?_
    rintro e VC ⟨⟨q, n2, k, es, rfl, hn, hek, hown, hcp, hcc⟩, hg⟩
    have g10 := gVB.trans hg
    have HOW := Lib.hid hown
    have HCP := Lib.hid hcp
    have HN := Lib.hid hn.out
    have HEK := Lib.hid hek.out
    clear hn hek hown hcp hg gVB HVB HWI e0 e1 e2 e3 e4 e5 e6 a0
    have hbz := Gr.block g10 HB3.out
    have z0 := cells1_ofO hbz
    have f2 : ∀ o, VC.frozen? ⟨P3, o, none⟩ = false := fun o => frozen_of_row _ _ o _ _ hbz
    have HBZ := Lib.hid hbz
    have HGE := Lib.hid (HG4.out.trans g10)
    clear hbz
    go_wp2_with fail
    have y0 := cells1_ofO (set1O HBZ.out (.slice q n2 k))
    refine bodyPost_ret (v := .tuple #[.agg #[.slice q n2 k], .int .i64 0]) (by simp [results, Tryz.results13, go_sem, y0]) rfl ⟨⟨q, n2, k, es, rfl, HN, by rw [Hid, HRR.out]; exact HEK.out, en_of_own (own_set_low HOW.out HP4.out) HN.out (fun f hf => (HCP.out f hf).set_low _ _ HP4.out), hcc⟩, ?_⟩
    exact Below.setCell HGE.out (by show w.heap.size ≤ P3; omega) _
  · have hZ2 : (Z != 0) = true := bne_iff_ne.2 hZ
    have HR : Hid (RR = []) := HX1.out.2 hZ
    have HX : Hid (Z = Z) := rfl
    clear hZ e0 e1 e2 e3 e4 e5 e6 HX1
    have hbz := Gr.block g9 HB3.out
    have z0 := cells1_ofO hbz
    have f2 : ∀ o, V9.frozen? ⟨P3, o, none⟩ = false := fun o => frozen_of_row _ _ o _ _ hbz
    have HBZ := Lib.hid hbz
    have HGE := Lib.hid (HG4.out.trans g9)
    clear hbz
    go_wp2_with fail
    have y0 := cells1_ofO (set1O HBZ.out (.slice none 0 0))
    refine bodyPost_ret (v := .tuple #[.agg #[.slice none 0 0], .int .i64 Z]) (by simp [results, Tryz.results13, go_sem, y0]) rfl ⟨⟨none, 0, 0, [], rfl, rfl, by rw [Hid, HR.out], en_nil _, Nat.le_refl _, by unfold maxLen; omega⟩, ?_⟩
    exact Below.setCell HGE.out (by show w.heap.size ≤ P3; omega) _
theorem post_c {w : World} {pa : Option Addr} {l : List EnR} {ma ka : Nat} (de ro : ByteArray) (va : Int) (st : ByteArray) {p : Option Addr} {n cap : Nat} {xs : List RowR} (hma : ma = l.length) (h1 : ma < 999) (hka : ma ≤ ka ∧ ka ≤ maxLen) (ha : EnS w pa l) (wa : Few l) (hx : RowsX w p n cap xs) (wx : ∀ x ∈ xs, x.xs.length ≤ 19) :
    Calls Tryz.prog 13 #[.agg #[.slice pa ma ka], .string de, .agg #[.string ro, .int .i64 va, .string st, .slice p n cap]] w fun e w' => RetMU e w' (pstR l de ro va st xs (nxE l de ro va st p n cap xs)) (pstX l de ro va st xs (nxE l de ro va st p n cap xs)) ∧ Gr w w' := by
  by_cases he : firstE [archE l, nmE de, sheetE ro va st xs, 0] = 0
  · exact post_ok de ro va st hma h1 hka ha wa hx wx he
  · exact post_err de ro va st hma h1 hka ha wa hx wx he
end Go.Proofs.YtnihclhhbegjhaaGreatDoor
namespace Go.Proofs.YtnihclhhbegjhaaGreatDoor
open Go.RowKit Go.Lib
set_option linter.unusedSimpArgs false
set_option linter.unusedVariables false
set_option maxHeartbeats 4000000 in
set_option maxRecDepth 100000 in
theorem rEqI_c {xs ys : List Int} {n m : Nat} {q1 q2 : Option Addr} {c c2 : Nat} {w : World} (h : IntS w q1 n xs) (h2 : IntS w q2 m ys) (hs : n ≤ 1000) :
    Calls Tryz.prog 43 #[.slice q1 n c, .slice q2 m c2] w fun e w' => RetB e (xs = ys) ∧ Gr w w' := by
  have HA := Lib.hid h.out
  have HB := Lib.hid h2.out
  have HN := Lib.hid h.len
  have HM := Lib.hid h2.len
  clear h h2
  by_cases hnm : n = m
  · subst hnm
    go_enter Tryz.func43, Tryz.ntmps43
    go_wp2_with fail
    go_loopg [5] n (fun gk s5 wr => ∃ k : Nat, s5 = .int .i64 k ∧ gk + k = n ∧ Hid (∀ j, j < k → xs[j]? = ys[j]?) ∧ Gr w wr)
    case atStart => exact ⟨0, rfl, by omega, fun j hj => by omega, Gr.refl _⟩
    case round =>
      obtain ⟨k, rfl, hk, HJ, hg⟩ := hrel
      by_cases hlt : k < n
      · obtain ⟨x, hx⟩ : ∃ x, xs[k]? = some x := ⟨xs[k]'(by have := HN.out; omega), List.getElem?_eq_getElem _⟩
        obtain ⟨y, hy⟩ : ∃ y, ys[k]? = some y := ⟨ys[k]'(by have := HM.out; omega), List.getElem?_eq_getElem _⟩
        obtain ⟨b1, o1, rfl, ha⟩ := HA.out (by omega)
        obtain ⟨b2, o2, rfl, hb⟩ := HB.out (by omega)
        have a0 := hg.cell (ha k x hx)
        have b0 := hg.cell (hb k y hy)
        have hi : (k : Int) < (n : Int) := by omega
        have HX := Lib.hid hx
        have HY := Lib.hid hy
        clear hx hy ha hb
        by_cases hq : x = y
        · subst hq
          have HJ2 : Hid (∀ j, j < k + 1 → xs[j]? = ys[j]?) := fun j hj => by
            rcases Nat.lt_or_ge j k with h | h
            · exact HJ.out j h
            · obtain rfl : j = k := by omega
              rw [HX.out, HY.out]
          clear HX HY
          go_wp2_with fail
          go_quiet (fail)
          go_wp2_with fail
          go_roundg (gk - 1)
          case measure => omega
          case rel => exact ⟨k + 1, by go_num, by omega, HJ2, hg.drewN _⟩
        · have hq2 : (x != y) = true := bne_iff_ne.2 hq
          have HNE : Hid (¬ xs = ys) := fun e => by
            have h1 := HX.out
            have h2 := HY.out
            rw [e, h2] at h1
            exact hq (Option.some.inj h1).symm
          have HQ := Lib.hid hq
          clear HX HY HJ hq
          go_wp2_with fail
          go_quiet (fail)
          go_wp2_with fail
          go_ret
          exact ⟨⟨false, rfl, by rw [Hid]; simp [HNE.out]⟩, hg.drewN _⟩
      · obtain rfl : k = n := by omega
        have hi : (k : Int) ≤ k := by omega
        have HEQ : Hid (xs = ys) := list_ext HN.out HM.out HJ.out
        go_wp2_with fail
        go_ret
        exact ⟨⟨true, rfl, by rw [Hid]; simp [HEQ.out]⟩, hg⟩
  · have hnm2 : ¬ (n : Int) = (m : Int) := by omega
    have HNE : Hid (¬ xs = ys) := fun e => by have h1 := HN.out; have h2 := HM.out; rw [e] at h1; omega
    go_enter Tryz.func43, Tryz.ntmps43
    go_wp2_with fail
    go_ret
    exact ⟨⟨false, rfl, by rw [Hid]; simp [HNE.out]⟩, Gr.refl _⟩
set_option maxHeartbeats 4000000 in
set_option maxRecDepth 100000 in
theorem rSameR_c {x y : RowR} {w : World} (h1 : IntsV w x.u x.xs) (h2 : IntsV w y.u y.xs) (hl : x.xs.length ≤ 1000) :
    Calls Tryz.prog 74 #[.agg #[.string x.nm, .string x.st, x.u], .agg #[.string y.nm, .string y.st, y.u]] w fun e w' => RetB e (rk x = rk y) ∧ Gr w w' := by
  obtain ⟨nm, st, u, xs⟩ := x
  obtain ⟨nm2, st2, u2, ys⟩ := y
  simp only at h1 h2 hl
  rw [rk_eq]
  simp only
  obtain ⟨⟨p1, k1, e1, _⟩⟩ := id h1
  obtain ⟨⟨p2, k2, e2, _⟩⟩ := id h2
  rw [e1] at h1
  rw [e2] at h2
  rw [e1, e2]
  have HS := Lib.hid (fun V (g : Gr w V) => rEqI_c (c := k1) (c2 := k2) ((h1.gr g).intS.2) ((h2.gr g).intS.2) hl)
  have HQ1 : Hid ((nm.toList == nm2.toList) = true ↔ nm = nm2) := baEq
  have HQ2 : Hid ((st.toList == st2.toList) = true ↔ st = st2) := baEq
  obtain ⟨W1, hW1, g1, a0, a1, a2⟩ := box3 w (.string nm) (.string st) (.slice p1 xs.length k1) 91
  obtain ⟨W2, hW2, g2, b0, b1, b2⟩ := box3 W1 (.string nm2) (.string st2) (.slice p2 ys.length k2) 91
  replace a0 := g2.cell a0
  replace a1 := g2.cell a1
  replace a2 := g2.cell a2
  have g := g1.trans g2
  have hsz : W1.heap.size = w.heap.size + 1 := by rw [← hW1]; simp
  rw [hsz] at b0 b1 b2
  rw [← hW1] at hW2
  have HW := Lib.hid hW2
  clear hW1 hW2 g1 g2 hsz
  clear h1 h2 e1 e2
  generalize xs.length = n at *
  generalize ys.length = m at *
  cases hn1 : (nm.toList == nm2.toList)
  · rw [hn1] at HQ1
    go_enter Tryz.func74, Tryz.ntmps74
    go_wp2_with fail
    rw [HW.out]
    clear HW
    generalize w.heap.size + 1 = Cx at *
    generalize w.heap.size = Bx at *
    go_wp2_with fail
    go_ret
    exact ⟨⟨false, rfl, ⟨(fun h => by cases h), fun h => HQ1.out.2 h.1⟩⟩, g⟩
  · rw [hn1] at HQ1
    cases hn2 : (st.toList == st2.toList)
    · rw [hn2] at HQ2
      go_enter Tryz.func74, Tryz.ntmps74
      go_wp2_with fail
      rw [HW.out]
      clear HW
      generalize w.heap.size + 1 = Cx at *
      generalize w.heap.size = Bx at *
      go_wp2_with fail
      go_ret
      exact ⟨⟨false, rfl, ⟨(fun h => by cases h), fun h => HQ2.out.2 h.2.1⟩⟩, g⟩
    · rw [hn2] at HQ2
      go_enter Tryz.func74, Tryz.ntmps74
      go_wp2_with fail
      rw [HW.out]
      clear HW
      generalize w.heap.size + 1 = Cx at *
      generalize w.heap.size = Bx at *
      go_wp2_with fail
      refine (HS.out _ g).mono ?_
      rintro e w4 ⟨⟨b, rfl, hb⟩, hg⟩
      have HB := Lib.hid hb.out
      clear hb
      go_wp2_with fail
      go_ret
      exact ⟨⟨b, rfl, ⟨fun h => ⟨HQ1.out.1 (by simp), HQ2.out.1 (by simp), HB.out.1 h⟩, fun h => HB.out.2 h.2.2⟩⟩, g.trans hg⟩
set_option maxHeartbeats 4000000 in
set_option maxRecDepth 100000 in
theorem rSameS_c {x y : EnR} {w : World} (h1 : RowsX w x.p x.n x.cap x.xs) (h2 : RowsX w y.p y.n y.cap y.xs) (hs : x.n ≤ 1000) (hl : ∀ z ∈ x.xs, z.xs.length ≤ 1000) :
    Calls Tryz.prog 28 #[.agg #[.string x.ro, .int .i64 x.va, .string x.st, .slice x.p x.n x.cap], .agg #[.string y.ro, .int .i64 y.va, .string y.st, .slice y.p y.n y.cap]] w fun e w' => RetB e (shk x = shk y) ∧ Gr w w' := by
  rw [shk_eq]
  have HQ1 : Hid ((x.ro.toList == y.ro.toList) = true ↔ x.ro = y.ro) := baEq
  have HQ2 : Hid ((x.st.toList == y.st.toList) = true ↔ x.st = y.st) := baEq
  have HLN : Hid (x.xs.length = x.n ∧ y.xs.length = y.n) := ⟨h1.len, h2.len⟩
  have HA := Lib.hid h1
  have HB2 := Lib.hid h2
  have HL := Lib.hid hl
  obtain ⟨W1, hW1, g1, a0, a1, a2, a3⟩ := box4 w (.string x.ro) (.int .i64 x.va) (.string x.st) (.slice x.p x.n x.cap) 32
  obtain ⟨W2, hW2, g2, b0, b1, b2, b3⟩ := box4 W1 (.string y.ro) (.int .i64 y.va) (.string y.st) (.slice y.p y.n y.cap) 32
  replace a0 := g2.cell a0
  replace a1 := g2.cell a1
  replace a2 := g2.cell a2
  replace a3 := g2.cell a3
  have g := g1.trans g2
  have hsz : W1.heap.size = w.heap.size + 1 := by rw [← hW1]; simp
  rw [hsz] at b0 b1 b2 b3
  rw [← hW1] at hW2
  have HW := Lib.hid hW2
  clear hW1 hW2 g1 g2 hsz
  clear h1 h2 hl
  obtain ⟨m, hm⟩ : ∃ m, x.n = m := ⟨_, rfl⟩
  obtain ⟨m', hm'⟩ : ∃ m, y.n = m := ⟨_, rfl⟩
  cases hn1 : (x.ro.toList == y.ro.toList)
  · rw [hn1] at HQ1
    clear hm hm'
    go_enter Tryz.func28, Tryz.ntmps28
    go_wp2_with fail
    rw [HW.out]
    clear HW
    generalize w.heap.size + 1 = Cx at *
    generalize w.heap.size = Bx at *
    go_wp2_with fail
    go_ret
    exact ⟨⟨false, rfl, ⟨(fun h => by cases h), fun h => HQ1.out.2 h.1⟩⟩, g⟩
  · rw [hn1] at HQ1
    by_cases hva : x.va = y.va
    · have hv1 : (x.va != y.va) = false := by rw [hva]; exact bne_self_eq_false _
      have HVA := Lib.hid hva
      clear hva
      cases hn2 : (x.st.toList == y.st.toList)
      · rw [hn2] at HQ2
        clear hm hm'
        go_enter Tryz.func28, Tryz.ntmps28
        go_wp2_with fail
        rw [HW.out]
        clear HW
        generalize w.heap.size + 1 = Cx at *
        generalize w.heap.size = Bx at *
        go_wp2_with fail
        go_ret
        exact ⟨⟨false, rfl, ⟨(fun h => by cases h), fun h => HQ2.out.2 h.2.2.1⟩⟩, g⟩
      · rw [hn2] at HQ2
        by_cases hnm : x.n = y.n
        · rw [← hnm] at hm' HB2 HLN b3 HW ⊢
          generalize x.n = n at *
          have hnn : ((n : Int) != (n : Int)) = false := bne_self_eq_false _
          clear hm hm' hnm
          go_enter Tryz.func28, Tryz.ntmps28
          go_wp2_with fail
          rw [HW.out]
          clear HW
          generalize w.heap.size + 1 = Cx at *
          generalize w.heap.size = Bx at *
          have A3 := Lib.hid a3
          have B3 := Lib.hid b3
          have GG := Lib.hid g
          go_wp2_with fail
          clear a0 a1 a2 a3 b0 b1 b2 b3 g
          go_loopg [5] n (fun gk s5 wr => ∃ i : Nat, s5 = .int .i64 (i : Int) ∧ gk + i = n ∧ Hid (∀ j, j < i → (x.xs.map rk)[j]? = (y.xs.map rk)[j]?) ∧ Hid (Gr W2 wr))
          case atStart => exact ⟨0, rfl, by omega, fun j hj => by omega, Gr.refl _⟩
          case round =>
            obtain ⟨i, rfl, hgk, HJ, HG⟩ := hrel
            have a3 := HG.out.cell A3.out
            have b3 := HG.out.cell B3.out
            by_cases hlt : i < n
            · obtain ⟨r, hr⟩ : ∃ r, x.xs[i]? = some r := ⟨x.xs[i]'(by have := HLN.out; omega), List.getElem?_eq_getElem _⟩
              obtain ⟨s, hs⟩ : ∃ s, y.xs[i]? = some s := ⟨y.xs[i]'(by have := HLN.out; omega), List.getElem?_eq_getElem _⟩
              obtain ⟨b1, o1, e1, hc1⟩ := HA.out.at_ (by omega)
              obtain ⟨b2, o2, e2, hc2⟩ := HB2.out.at_ (by omega)
              obtain ⟨x0, x1, x2, vx⟩ := (hc1 i r hr).gr GG.out
              obtain ⟨y0, y1, y2, vy⟩ := (hc2 i s hs).gr GG.out
              obtain ⟨⟨pu, cu, hu, _⟩⟩ := id vx
              obtain ⟨⟨pu2, cu2, hu2, _⟩⟩ := id vy
              have HSR := Lib.hid (fun V (k : Gr W2 V) => rSameR_c (vx.gr k) (vy.gr k) (HL.out r (List.mem_of_getElem? hr)))
              rw [hu] at x2 HSR
              rw [hu2] at y2 HSR
              have HX3 := Lib.hid (fun U (k : Gr W2 U) => And.intro (k.cell x0) (And.intro (k.cell x1) (k.cell x2)))
              have HY3 := Lib.hid (fun U (k : Gr W2 U) => And.intro (k.cell y0) (And.intro (k.cell y1) (k.cell y2)))
              have HR2 : Hid ((x.xs.map rk)[i]? = some (rk r)) := by rw [Hid, List.getElem?_map, hr]; rfl
              have HS2 : Hid ((y.xs.map rk)[i]? = some (rk s)) := by rw [Hid, List.getElem?_map, hs]; rfl
              have hlt2 : (i : Int) < (n : Int) := by omega
              rw [e1] at A3
              rw [e2] at B3
              replace a3 := HG.out.cell A3.out
              replace b3 := HG.out.cell B3.out
              clear hr hs hc1 hc2 vx vy hu hu2 x0 x1 x2 y0 y1 y2 e1 e2
              have hw : IntKind.i64.wrap ((i : Int) + 1) = (i : Int) + 1 := by rw [IntKind.wrap_i64]; omega
              go_wp2_with fail
              refine wp_region_held_drew (S := fun U => Gr W2 U) (by kernel_rfl) (HG.out.trans (Gr.refl _).drew) (fun hHeld => ?_)
              have gD := HG.out.trans (Gr.refl wr).drew
              generalize wr.drew = VD at *
              refine wpAnyH_take (i := 0) (v := (.pointer (some ⟨Bx, 3, none⟩))) (op_at rfl) (by kernel_rfl) (by kernel_rfl) (by kernel_rfl) (fun _ _ _ h => h) (Or.inl ⟨rfl, fun U hSw => ?_⟩) (by assumption) ?_
              · go_simp; try with_reducible rfl
              (try simp only [Act.put, tz0, tz1, tz2])
              refine wpAnyH_take (i := 1) (v := (.slice (some ⟨b1, o1, none⟩) n x.cap)) (op_at rfl) (by kernel_rfl) (by kernel_rfl) (by kernel_rfl) (fun _ _ _ h => h) (Or.inl ⟨rfl, fun U hSw => ?_⟩) (by assumption) ?_
              · have hs9 : Gr W2 U := hSw; have q0 := hs9.cell A3.out; go_simp; try with_reducible rfl
              (try simp only [Act.put, tz0, tz1, tz2])
              refine wpAnyH_take (i := 2) (v := (.int .i64 (i : Int))) (op_at rfl) (by kernel_rfl) (by kernel_rfl) (by kernel_rfl) (fun _ _ _ h => h) (Or.inl ⟨rfl, fun U hSw => ?_⟩) (by assumption) ?_
              · go_simp; try with_reducible rfl
              (try simp only [Act.put, tz0, tz1, tz2])
              refine wpAnyH_take (i := 3) (v := (.pointer (some ⟨b1, o1 + i * 3, none⟩))) (op_at rfl) (by kernel_rfl) (by kernel_rfl) (by kernel_rfl) (fun _ _ _ h => h) (Or.inl ⟨rfl, fun U hSw => ?_⟩) (by assumption) ?_
              · go_simp; try with_reducible rfl
              (try simp only [Act.put, tz0, tz1, tz2])
              refine wpAnyH_take (i := 4) (v := (.agg #[.string r.nm, .string r.st, .slice pu r.xs.length cu])) (op_at rfl) (by kernel_rfl) (by kernel_rfl) (by kernel_rfl) (fun _ _ _ h => h) (Or.inl ⟨rfl, fun U hSw => ?_⟩) (by assumption) ?_
              · obtain ⟨q0, q1, q2⟩ := HX3.out U hSw; go_simp; try with_reducible rfl
              (try simp only [Act.put, tz0, tz1, tz2])
              refine wpAnyH_take (i := 5) (v := (.pointer (some ⟨Cx, 3, none⟩))) (op_at rfl) (by kernel_rfl) (by kernel_rfl) (by kernel_rfl) (fun _ _ _ h => h) (Or.inl ⟨rfl, fun U hSw => ?_⟩) (by assumption) ?_
              · go_simp; try with_reducible rfl
              (try simp only [Act.put, tz0, tz1, tz2])
              refine wpAnyH_take (i := 6) (v := (.slice (some ⟨b2, o2, none⟩) n y.cap)) (op_at rfl) (by kernel_rfl) (by kernel_rfl) (by kernel_rfl) (fun _ _ _ h => h) (Or.inl ⟨rfl, fun U hSw => ?_⟩) (by assumption) ?_
              · have hs9 : Gr W2 U := hSw; have q0 := hs9.cell B3.out; go_simp; try with_reducible rfl
              (try simp only [Act.put, tz0, tz1, tz2])
              refine wpAnyH_take (i := 7) (v := (.int .i64 (i : Int))) (op_at rfl) (by kernel_rfl) (by kernel_rfl) (by kernel_rfl) (fun _ _ _ h => h) (Or.inl ⟨rfl, fun U hSw => ?_⟩) (by assumption) ?_
              · go_simp; try with_reducible rfl
              (try simp only [Act.put, tz0, tz1, tz2])
              refine wpAnyH_take (i := 8) (v := (.pointer (some ⟨b2, o2 + i * 3, none⟩))) (op_at rfl) (by kernel_rfl) (by kernel_rfl) (by kernel_rfl) (fun _ _ _ h => h) (Or.inl ⟨rfl, fun U hSw => ?_⟩) (by assumption) ?_
              · go_simp; try with_reducible rfl
              (try simp only [Act.put, tz0, tz1, tz2])
              refine wpAnyH_take (i := 9) (v := (.agg #[.string s.nm, .string s.st, .slice pu2 s.xs.length cu2])) (op_at rfl) (by kernel_rfl) (by kernel_rfl) (by kernel_rfl) (fun _ _ _ h => h) (Or.inl ⟨rfl, fun U hSw => ?_⟩) (by assumption) ?_
              · obtain ⟨q0, q1, q2⟩ := HY3.out U hSw; go_simp; try with_reducible rfl
              (try simp only [Act.put, tz0, tz1, tz2])
              refine wpAnyH_ready (rs := [10]) (by kernel_rfl) (by simp) ((AllReadyH.cons (op_at rfl) (fun K hK => ?_) AllReadyH.nil))
              go_simp
              refine (HSR.out _ gD).mono ?_
              rintro e V2 ⟨⟨b, rfl, hb⟩, hg⟩
              go_wp2_with fail
              have HB := Lib.hid hb.out
              have g2 := gD.trans hg
              clear hg hb
              refine hK.out _ _ g2 (fun hHeld => ?_)
              clear hK K
              (try simp only [Act.put, tz0, tz1, tz2])
              cases b
              · have HNE : Hid (¬ x.xs.map rk = y.xs.map rk) := fun e => by
                  have h1 := HR2.out
                  rw [e, HS2.out] at h1
                  have := HB.out.2 (Option.some.inj h1).symm
                  cases this
                refine wpAnyH_take (i := 11) (v := (.bool true)) (op_at rfl) (by kernel_rfl) (by kernel_rfl) (by kernel_rfl) (fun _ _ _ h => h) (Or.inl ⟨rfl, fun U hSw => ?_⟩) (by assumption) ?_
                · go_simp; try with_reducible rfl
                (try simp only [Act.put, tz0, tz1, tz2])
                refine wpAnyH_done (by kernel_rfl) ?_ _
                clear a3 b3
                go_wp2_with fail
                go_ret
                exact ⟨⟨false, rfl, ⟨(fun h => by cases h), fun h => absurd h.2.2.2 HNE.out⟩⟩, GG.out.trans g2⟩
              · have HJ2 : Hid (∀ j, j < i + 1 → (x.xs.map rk)[j]? = (y.xs.map rk)[j]?) := fun j hj => by
                  rcases Nat.lt_or_ge j i with h | h
                  · exact HJ.out j h
                  · obtain rfl : j = i := by omega
                    rw [HR2.out, HS2.out, HB.out.1 rfl]
                refine wpAnyH_take (i := 11) (v := (.bool false)) (op_at rfl) (by kernel_rfl) (by kernel_rfl) (by kernel_rfl) (fun _ _ _ h => h) (Or.inl ⟨rfl, fun U hSw => ?_⟩) (by assumption) ?_
                · go_simp; try with_reducible rfl
                (try simp only [Act.put, tz0, tz1, tz2])
                refine wpAnyH_done (by kernel_rfl) ?_ _
                clear a3 b3
                go_wp2_with fail
                go_roundg (gk - 1)
                case measure => omega
                case rel => exact ⟨i + 1, by go_num, by omega, HJ2, g2⟩
            · obtain rfl : n = i := by omega
              have hlt2 : ¬ (n : Int) < (n : Int) := by omega
              have HEQ : Hid (x.xs.map rk = y.xs.map rk) := list_ext (by rw [List.length_map]; exact HLN.out.1) (by rw [List.length_map]; exact HLN.out.2) HJ.out
              go_wp2_with fail
              go_ret
              exact ⟨⟨true, rfl, ⟨fun _ => ⟨HQ1.out.1 (by simp), HVA.out, HQ2.out.1 (by simp), HEQ.out⟩, fun _ => rfl⟩⟩, GG.out.trans HG.out⟩
        · have hnn : ((x.n : Int) != (y.n : Int)) = true := bne_iff_ne.2 (by omega)
          have HNE : Hid (¬ x.xs.map rk = y.xs.map rk) := fun e => by have h1 := HLN.out; have := congrArg List.length e; rw [List.length_map, List.length_map] at this; omega
          clear hm hm' hnm
          go_enter Tryz.func28, Tryz.ntmps28
          go_wp2_with fail
          rw [HW.out]
          clear HW
          generalize w.heap.size + 1 = Cx at *
          generalize w.heap.size = Bx at *
          go_wp2_with fail
          go_ret
          exact ⟨⟨false, rfl, ⟨(fun h => by cases h), fun h => absurd h.2.2.2 HNE.out⟩⟩, g⟩
    · have hv1 : (x.va != y.va) = true := bne_iff_ne.2 hva
      have HVA := Lib.hid hva
      clear hva hm hm'
      go_enter Tryz.func28, Tryz.ntmps28
      go_wp2_with fail
      rw [HW.out]
      clear HW
      generalize w.heap.size + 1 = Cx at *
      generalize w.heap.size = Bx at *
      go_wp2_with fail
      go_ret
      exact ⟨⟨false, rfl, ⟨(fun h => by cases h), fun h => absurd h.2.1 HVA.out⟩⟩, g⟩
theorem ek_shk {x y : EnR} : ek x = ek y ↔ x.de = y.de ∧ x.nu = y.nu ∧ x.ck = y.ck ∧ shk x = shk y := by
  rw [shk_eq]; unfold ek; simp
set_option maxHeartbeats 4000000 in
set_option maxRecDepth 100000 in
theorem rSameE_c {x y : EnR} {w : World} (h1 : RowsX w x.p x.n x.cap x.xs) (h2 : RowsX w y.p y.n y.cap y.xs) (hs : x.n ≤ 1000) (hl : ∀ z ∈ x.xs, z.xs.length ≤ 1000) :
    Calls Tryz.prog 67 #[enV x, enV y] w fun e w' => RetB e (ek x = ek y) ∧ Gr w w' := by
  rw [ek_shk]
  unfold enV
  have HS := Lib.hid (fun V (g : Gr w V) => rSameS_c (x := x) (y := y) (h1.gr g) (h2.gr g) hs hl)
  have HQ1 : Hid ((x.de.toList == y.de.toList) = true ↔ x.de = y.de) := baEq
  obtain ⟨W1, hW1, g1, a0, a1, a2, a3, a4, a5, a6⟩ := bx7 w (.string x.de) (.int .i64 x.nu) (.int .i64 x.ck) (.string x.ro) (.int .i64 x.va) (.string x.st) (.slice x.p x.n x.cap) 65
  obtain ⟨W2, hW2, g2, b0, b1, b2, b3, b4, b5, b6⟩ := bx7 W1 (.string y.de) (.int .i64 y.nu) (.int .i64 y.ck) (.string y.ro) (.int .i64 y.va) (.string y.st) (.slice y.p y.n y.cap) 65
  replace a0 := g2.cell a0
  replace a1 := g2.cell a1
  replace a2 := g2.cell a2
  replace a3 := g2.cell a3
  replace a4 := g2.cell a4
  replace a5 := g2.cell a5
  replace a6 := g2.cell a6
  have g := g1.trans g2
  have hsz : W1.heap.size = w.heap.size + 1 := by rw [← hW1]; simp
  rw [hsz] at b0 b1 b2 b3 b4 b5 b6
  rw [← hW1] at hW2
  have HW := Lib.hid hW2
  clear hW1 hW2 g1 g2 hsz
  clear h1 h2 hl
  generalize shk x = sx at *
  generalize shk y = sy at *
  cases hn1 : (x.de.toList == y.de.toList)
  · rw [hn1] at HQ1
    clear HS
    go_enter Tryz.func67, Tryz.ntmps67
    go_wp2_with fail
    rw [HW.out]
    clear HW
    generalize w.heap.size + 1 = Cx at *
    generalize w.heap.size = Bx at *
    go_wp2_with fail
    go_ret
    exact ⟨⟨false, rfl, ⟨(fun h => by cases h), fun h => HQ1.out.2 h.1⟩⟩, g⟩
  · rw [hn1] at HQ1
    by_cases hva : x.nu = y.nu
    · have hv1 : (x.nu == y.nu) = true := beq_iff_eq.2 hva
      have HVA := Lib.hid hva
      clear hva
      by_cases hck : x.ck = y.ck
      · have hv2 : (x.ck == y.ck) = true := beq_iff_eq.2 hck
        have HCK := Lib.hid hck
        clear hck
        go_enter Tryz.func67, Tryz.ntmps67
        go_wp2_with fail
        rw [HW.out]
        clear HW
        generalize w.heap.size + 1 = Cx at *
        generalize w.heap.size = Bx at *
        go_wp2_with fail
        refine (HS.out _ g).mono ?_
        rintro e w4 ⟨⟨b, rfl, hb⟩, hg⟩
        have HB := Lib.hid hb.out
        clear hb
        go_wp2_with fail
        go_ret
        exact ⟨⟨b, rfl, ⟨fun h => ⟨HQ1.out.1 (by simp), HVA.out, HCK.out, HB.out.1 h⟩, fun h => HB.out.2 h.2.2.2⟩⟩, g.trans hg⟩
      · have hv2 : (x.ck == y.ck) = false := beq_eq_false_iff_ne.2 hck
        have HCK := Lib.hid hck
        clear hck HS
        go_enter Tryz.func67, Tryz.ntmps67
        go_wp2_with fail
        rw [HW.out]
        clear HW
        generalize w.heap.size + 1 = Cx at *
        generalize w.heap.size = Bx at *
        go_wp2_with fail
        go_ret
        exact ⟨⟨false, rfl, ⟨(fun h => by cases h), fun h => absurd h.2.2.1 HCK.out⟩⟩, g⟩
    · have hv1 : (x.nu == y.nu) = false := beq_eq_false_iff_ne.2 hva
      have HVA := Lib.hid hva
      clear hva HS
      go_enter Tryz.func67, Tryz.ntmps67
      go_wp2_with fail
      rw [HW.out]
      clear HW
      generalize w.heap.size + 1 = Cx at *
      generalize w.heap.size = Bx at *
      go_wp2_with fail
      go_ret
      exact ⟨⟨false, rfl, ⟨(fun h => by cases h), fun h => absurd h.2.1 HVA.out⟩⟩, g⟩
end Go.Proofs.YtnihclhhbegjhaaGreatDoor
