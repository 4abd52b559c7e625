/- Archives (chapter 10): the reference: Merge. -/
import Derived.Deep.CutBlock
import Derived.Test.YtnihclhhbegjhaaGreatDoorGMgM
import Derived.Test.YtnihclhhbegjhaaGreatDoorMgN
namespace Go.Proofs.YtnihclhhbegjhaaGreatDoor
open Go.RowKit Go.Lib
set_option linter.unusedSimpArgs false
set_option linter.unusedVariables false
open Classical in
noncomputable def rmX (a c : List EnR) : Int := if (∃ y ∈ c, conR a y) then 29 else if archE (rmgF a a c) = 0 then 0 else 29
noncomputable def rmL (a c : List EnR) : List EnR := if rmX a c = 0 then rmgF a a c else []
theorem rmX_cases (a c : List EnR) : ((∃ y ∈ c, conR a y) → rmX a c = 29) ∧ ((¬ ∃ y ∈ c, conR a y) → archE (rmgF a a c) = 0 → rmX a c = 0) ∧ ((¬ ∃ y ∈ c, conR a y) → ¬ archE (rmgF a a c) = 0 → rmX a c = 29) := by
  unfold rmX
  exact ⟨fun h => by rw [if_pos h], fun h h0 => by rw [if_neg h, if_pos h0], fun h h0 => by rw [if_neg h, if_neg h0]⟩
theorem rmL_cases (a c : List EnR) : (rmX a c = 0 → rmL a c = rmgF a a c) ∧ (¬ rmX a c = 0 → rmL a c = []) := by
  unfold rmL
  exact ⟨fun h => by rw [if_pos h], fun h => by rw [if_neg h]⟩
theorem few_rmg {a c : List EnR} (wa : Few a) (wc : Few c) : Few (rmgF a a c) := fun e he => by
  rcases (rmgF_mem a c a e).1 he with h | h
  · exact wa e h
  · exact wc e h.1
set_option maxHeartbeats 8000000 in
set_option maxRecDepth 100000 in
theorem rMerge_c {w : World} {pa pc : Option Addr} {a c : List EnR} {ma mc ka kc : Nat} (hma : ma = a.length) (hmc : mc = c.length) (h1 : ma + mc ≤ 1000) (hka : ma ≤ ka ∧ ka ≤ maxLen) (hkc : mc ≤ kc ∧ kc ≤ maxLen) (ha : EnS w pa a) (hc : EnS w pc c) (fa : Fit a) (wa : Few a) (wc : Few c) :
    Calls Tryz.prog 19 #[.slice pa ma ka, .slice pc mc kc] w fun e w' => RetPu e w' (rmL a c) (rmX a c) ∧ Gr w w' := by
  obtain ⟨i0, hi, hz0, hz1, hz2⟩ := info_parts infoEnR
  have HI0 := Lib.hid (And.intro hi (And.intro hz0 (And.intro hz1 hz2)))
  have HMA := Lib.hid hma
  have HMC := Lib.hid hmc
  have HA := Lib.hid ha
  have HC := Lib.hid hc
  have HAX := Lib.hid ha.rowsX
  have HCX := Lib.hid hc.rowsX
  have HFI := Lib.hid (fun (y : EnR) V (g : Gr w V) => find_c (c := ka) y hma (by omega) (ha.gr g))
  have HFIT := Lib.hid fa
  have HFW := Lib.hid (few_rmg wa wc)
  have HLN : Hid (∀ i, (rmgF a a (c.take i)).length ≤ ma + mc) := fun i => by have := rmgF_len a (c.take i) a; rw [List.length_take] at this; omega
  have HXC := Lib.hid (rmX_cases a c)
  have HLC := Lib.hid (rmL_cases a c)
  generalize rmX a c = X at *
  generalize rmL a c = RL at *
  obtain ⟨hka1, hka2⟩ := hka
  clear ha hc hma hmc fa wa wc hi hz0 hz1 hz2
  have gE := (Gr.refl w).alloc (.cells #[] 65)
  have hE : (w.alloc (.cells #[] 65)).heap[w.heap.size]? = some (.cells #[] 65 (0, 0)) := heap_alloc_new w _
  have eA := HA.out.gr gE
  obtain ⟨hi, hz0, hz1, hz2⟩ := HI0.out
  go_enter Tryz.func19, Tryz.ntmps19
  go_wp2_with (at_builtin; refine wpList_append_any rfl _ _ 30 rfl w.heap.size 65 i0 (.agg #[.string ⟨#[]⟩, .int .i64 0, .int .i64 0, .string ⟨#[]⟩, .int .i64 0, .string ⟨#[]⟩, .slice none 0 0]) 7 96 Tryz.underlying30 hi hz0 hz1 hz2 rfl (by decide) _ 0 [] rfl (own_emptyT hE (Nat.le_refl _)) pa ma ka (fun h => by have := en_none eA h; have := HMA.out; omega) (enCs a) rfl (by rw [enCs_len, ← HMA.out]) (en_news eA) (one_enCs _) (by unfold maxLen; omega) (by omega) (by simp) ?_; intro v1 V1 hown1 hgg1)
  have G1 := Lib.hid (hgg1 w gE (Nat.le_refl _))
  simp only [List.nil_append, Nat.zero_add] at hown1
  obtain ⟨q1, c1, rfl, hc11, hc12⟩ := own_shape hown1
  have HQ1 := Lib.hid (own_q0 hown1)
  have HEN1 : Hid (EnS V1 q1 a) := EnS.of_own hown1 HMA.out.symm (fun e he => (HAX.out e he).gr G1.out)
  clear hown1 hgg1 hE gE eA hi hz0 hz1 hz2 HI0
  go_wp2_with fail
  go_loopg [6, 7] mc (fun gk s6 s7 wr => ∃ (i nr cr : Nat) (qr : Option Addr), s7 = .int .i64 (i : Int) ∧ gk + i = mc ∧ s6 = .slice qr nr cr ∧ Hid (nr = (rmgF a a (c.take i)).length) ∧ (nr ≤ cr ∧ cr ≤ maxLen) ∧ Hid (nr = 0 → (qr = none ∧ cr = 0) ∨ ∃ b o, qr = some ⟨b, o, none⟩) ∧ Hid (EnS wr qr (rmgF a a (c.take i))) ∧ Hid (∀ j y, j < i → c[j]? = some y → ¬ conR a y) ∧ Hid (Gr w wr))
  case atStart => exact ⟨0, ma, c1, q1, rfl, by omega, rfl, by rw [Hid]; simp [rmgF]; exact HMA.out, ⟨hc11, hc12⟩, fun _ => HQ1.out, by simp [rmgF]; exact HEN1, fun j y hj => by omega, G1⟩
  case round =>
    obtain ⟨i, nr, cr, qr, rfl, hgk, rfl, HNR, ⟨hcr1, hcr2⟩, HQR, HER, HNC, HG⟩ := hrel
    by_cases hlt : i < mc
    · obtain ⟨y, hy⟩ : ∃ y, c[i]? = some y := ⟨c[i]'(by have := HMC.out; omega), List.getElem?_eq_getElem _⟩
      obtain ⟨b, off, rfl, hcc⟩ := HC.out.out (by have := HMC.out; omega)
      obtain ⟨y0, y1, y2, y3, y4, y5, y6, hyr⟩ := hcc i y hy
      have HYF := Lib.hid (fun U (k : Gr w U) => And.intro (k.cell y0) (And.intro (k.cell y1) (And.intro (k.cell y2) (And.intro (k.cell y3) (And.intro (k.cell y4) (And.intro (k.cell y5) (k.cell y6)))))))
      have HYR := Lib.hid hyr
      have HY := Lib.hid hy
      have hlt2 : (i : Int) < (mc : Int) := by omega
      have HFD := Lib.hid (HFI.out y)
      have HST : Hid (rmgF a a (c.take (i + 1)) = if (lookM a y).isNone = true then putE (rmgF a a (c.take i)) y else rmgF a a (c.take i)) := by rw [Hid, List.take_add_one, hy]; exact rmgF_step _ _ _ _
      have HNC2 : Hid (¬ conR a y → ∀ j z, j < i + 1 → c[j]? = some z → ¬ conR a z) := fun h0 j z hj hz => by
        rcases Nat.lt_or_ge j i with h | h
        · exact HNC.out j z h hz
        · obtain rfl : j = i := by omega
          rw [HY.out] at hz; cases hz; exact h0
      have hnr : nr ≤ ma + mc := by have := HLN.out i; have := HNR.out; omega
      have hw : IntKind.i64.wrap ((i : Int) + 1) = (i : Int) + 1 := by rw [IntKind.wrap_i64]; omega
      clear hy hcc y0 y1 y2 y3 y4 y5 y6 hyr
      go_wp2_with fail
      refine wp_region_held_drew (S := fun U => Gr w U) (by kernel_rfl) (HG.out.trans (Gr.refl _).drew) (fun hHeld => ?_)
      have gD := HG.out.trans (Gr.refl wr).drew
      have gW := (Gr.refl wr).drew
      generalize wr.drew = VD at *
      refine wpAnyH_take (i := 0) (v := (.slice pa ma ka)) (op_at rfl) (by kernel_rfl) (by kernel_rfl) (by kernel_rfl) (fun _ _ _ h => h) (Or.inl ⟨rfl, fun U hSw => ?_⟩) (by assumption) ?_
      · go_simp; try with_reducible rfl
      (try simp only [Act.put, tz0, tz1, tz2])
      refine wpAnyH_take (i := 1) (v := (.slice (some ⟨b, off, none⟩) mc kc)) (op_at rfl) (by kernel_rfl) (by kernel_rfl) (by kernel_rfl) (fun _ _ _ h => h) (Or.inl ⟨rfl, fun U hSw => ?_⟩) (by assumption) ?_
      · go_simp; try with_reducible rfl
      (try simp only [Act.put, tz0, tz1, tz2])
      refine wpAnyH_take (i := 2) (v := (.int .i64 (i : Int))) (op_at rfl) (by kernel_rfl) (by kernel_rfl) (by kernel_rfl) (fun _ _ _ h => h) (Or.inl ⟨rfl, fun U hSw => ?_⟩) (by assumption) ?_
      · go_simp; try with_reducible rfl
      (try simp only [Act.put, tz0, tz1, tz2])
      refine wpAnyH_take (i := 3) (v := (.pointer (some ⟨b, off + i * 7, none⟩))) (op_at rfl) (by kernel_rfl) (by kernel_rfl) (by kernel_rfl) (fun _ _ _ h => h) (Or.inl ⟨rfl, fun U hSw => ?_⟩) (by assumption) ?_
      · go_simp; try with_reducible rfl
      (try simp only [Act.put, tz0, tz1, tz2])
      refine wpAnyH_take (i := 4) (v := (.pointer (some ⟨b, off + i * 7, none⟩))) (op_at rfl) (by kernel_rfl) (by kernel_rfl) (by kernel_rfl) (fun _ _ _ h => h) (Or.inl ⟨rfl, fun U hSw => ?_⟩) (by assumption) ?_
      · go_simp; try with_reducible rfl
      (try simp only [Act.put, tz0, tz1, tz2])
      refine wpAnyH_take (i := 5) (v := (.string y.de)) (op_at rfl) (by kernel_rfl) (by kernel_rfl) (by kernel_rfl) (fun _ _ _ h => h) (Or.inl ⟨rfl, fun U hSw => ?_⟩) (by assumption) ?_
      · obtain ⟨q0, q1, q2, q3, q4, q5, q6⟩ := HYF.out U hSw; go_simp; try with_reducible rfl
      (try simp only [Act.put, tz0, tz1, tz2])
      refine wpAnyH_take (i := 6) (v := (.slice (some ⟨b, off, none⟩) mc kc)) (op_at rfl) (by kernel_rfl) (by kernel_rfl) (by kernel_rfl) (fun _ _ _ h => h) (Or.inl ⟨rfl, fun U hSw => ?_⟩) (by assumption) ?_
      · go_simp; try with_reducible rfl
      (try simp only [Act.put, tz0, tz1, tz2])
      refine wpAnyH_take (i := 7) (v := (.int .i64 (i : Int))) (op_at rfl) (by kernel_rfl) (by kernel_rfl) (by kernel_rfl) (fun _ _ _ h => h) (Or.inl ⟨rfl, fun U hSw => ?_⟩) (by assumption) ?_
      · go_simp; try with_reducible rfl
      (try simp only [Act.put, tz0, tz1, tz2])
      refine wpAnyH_take (i := 8) (v := (.pointer (some ⟨b, off + i * 7, none⟩))) (op_at rfl) (by kernel_rfl) (by kernel_rfl) (by kernel_rfl) (fun _ _ _ h => h) (Or.inl ⟨rfl, fun U hSw => ?_⟩) (by assumption) ?_
      · go_simp; try with_reducible rfl
      (try simp only [Act.put, tz0, tz1, tz2])
      refine wpAnyH_take (i := 9) (v := (.pointer (some ⟨b, off + i * 7 + 1, none⟩))) (op_at rfl) (by kernel_rfl) (by kernel_rfl) (by kernel_rfl) (fun _ _ _ h => h) (Or.inl ⟨rfl, fun U hSw => ?_⟩) (by assumption) ?_
      · go_simp; try with_reducible rfl
      (try simp only [Act.put, tz0, tz1, tz2])
      refine wpAnyH_take (i := 10) (v := (.int .i64 y.nu)) (op_at rfl) (by kernel_rfl) (by kernel_rfl) (by kernel_rfl) (fun _ _ _ h => h) (Or.inl ⟨rfl, fun U hSw => ?_⟩) (by assumption) ?_
      · obtain ⟨q0, q1, q2, q3, q4, q5, q6⟩ := HYF.out U hSw; go_simp; try with_reducible rfl
      (try simp only [Act.put, tz0, tz1, tz2])
      refine wpAnyH_ready (rs := [11]) (by kernel_rfl) (by simp) ((AllReadyH.cons (op_at rfl) (fun K hK => ?_) AllReadyH.nil))
      go_simp
      refine (HFD.out _ gD).mono ?_
      rintro e V2 ⟨hfi, hg⟩
      have hfo := hfi.out
      have g2 := gD.trans hg
      replace gW := gW.trans hg
      clear hg hfi gD
      rcases hfo with ⟨hlk, rfl⟩ | ⟨k, x, rfl, hk, hlk⟩
      · have HNC3 := Lib.hid (HNC2.out (fun ⟨x, h1, _⟩ => by rw [hlk] at h1; cases h1))
        have HST2 : Hid (rmgF a a (c.take (i + 1)) = putE (rmgF a a (c.take i)) y) := by rw [Hid, HST.out, hlk]; rfl
        have HPU := Lib.hid (fun V (k : Gr wr V) (k0 : Gr w V) => put_c (x := y) HNR.out (by omega) ⟨hcr1, hcr2⟩ HQR.out (HER.out.gr k) (HYR.out.gr k0))
        have HPL := Lib.hid (putE_len (rmgF a a (c.take i)) y)
        unfold enV at HPU
        clear hlk HST HNC2
        go_wp2_with fail
        refine hK.out _ _ g2 (fun hHeld => ?_)
        clear hK K
        (try simp only [Act.put, tz0, tz1, tz2])
        refine wpAnyH_take (i := 12) (v := (.int .i64 (-1))) (op_at rfl) (by kernel_rfl) (by kernel_rfl) (by kernel_rfl) (fun _ _ _ h => h) (Or.inl ⟨rfl, fun U hSw => ?_⟩) (by assumption) ?_
        · go_simp; try with_reducible rfl
        (try simp only [Act.put, tz0, tz1, tz2])
        refine wpAnyH_done (by kernel_rfl) ?_ _
        obtain ⟨y0, y1, y2, y3, y4, y5, y6⟩ := HYF.out V2 g2
        go_wp2_with fail
        refine (HPU.out _ gW g2).mono ?_
        rintro e V3 ⟨⟨⟨q3, c3, rfl, ⟨hc31, hc32⟩, hen⟩⟩, hg⟩
        have HEN := Lib.hid hen
        have HGV := Lib.hid (g2.trans hg)
        have hpl := HPL.out
        have hnr2 := HNR.out
        rw [← HST2.out] at hpl hc31 HEN ⊢
        have HNN : Hid ((rmgF a a (c.take (i + 1))).length = nr + 1) := by rw [Hid, hpl, ← hnr2]
        rw [HNN.out] at hc31 ⊢
        clear hen hg hpl hnr2 g2 gW HPU
        go_wp2_with fail
        go_roundg (gk - 1)
        case measure => omega
        case rel => exact ⟨i + 1, nr + 1, c3, q3, by go_num, by omega, rfl, HNN.out.symm, ⟨hc31, hc32⟩, fun h => absurd h (by omega), HEN, HNC3, HGV⟩
      · obtain ⟨b2, o2, rfl, hc2⟩ := HA.out.out (by have := (List.getElem?_eq_some_iff.1 hk).1; omega)
        obtain ⟨x0, x1, x2, x3, x4, x5, x6, hxr⟩ := hc2 k x hk
        have HXF := Lib.hid (fun U (k : Gr w U) => And.intro (k.cell x0) (And.intro (k.cell x1) (And.intro (k.cell x2) (And.intro (k.cell x3) (And.intro (k.cell x4) (And.intro (k.cell x5) (k.cell x6)))))))
        have HLK := Lib.hid hlk
        have hkl : k < ma := by have := (List.getElem?_eq_some_iff.1 hk).1; have := HMA.out; omega
        have hk0 : ¬ (k : Int) < 0 := by omega
        have hk1 : (0 : Int) ≤ (k : Int) := by omega
        have hk2 : (k : Int) < (ma : Int) := by omega
        have hft := HFIT.out x (List.mem_of_getElem? hk)
        have HSE := Lib.hid (fun V (g : Gr w V) => rSameE_c (x := x) (y := y) (hxr.gr g) (HYR.out.gr g) hft.1 hft.2)
        unfold enV at HSE
        have HST2 : Hid (rmgF a a (c.take (i + 1)) = rmgF a a (c.take i)) := by rw [Hid, HST.out, hlk]; rfl
        clear hlk hk hc2 x0 x1 x2 x3 x4 x5 x6 hxr hft HST
        go_wp2_with fail
        refine hK.out _ _ g2 (fun hHeld => ?_)
        clear hK K
        (try simp only [Act.put, tz0, tz1, tz2])
        refine wpAnyH_take (i := 12) (v := (.int .i64 (k : Int))) (op_at rfl) (by kernel_rfl) (by kernel_rfl) (by kernel_rfl) (fun _ _ _ h => h) (Or.inl ⟨rfl, fun U hSw => ?_⟩) (by assumption) ?_
        · go_simp; try with_reducible rfl
        (try simp only [Act.put, tz0, tz1, tz2])
        refine wpAnyH_done (by kernel_rfl) ?_ _
        go_wp2_with fail
        refine wp_region_held_drew (S := fun U => Gr w U) (by kernel_rfl) (g2.trans (Gr.refl _).drew) (fun hHeld => ?_)
        have gE := g2.trans (Gr.refl V2).drew
        replace gW := gW.trans (Gr.refl V2).drew
        generalize V2.drew = VE at *
        refine wpAnyH_take (i := 0) (v := (.slice (some ⟨b2, o2, none⟩) ma ka)) (op_at rfl) (by kernel_rfl) (by kernel_rfl) (by kernel_rfl) (fun _ _ _ h => h) (Or.inl ⟨rfl, fun U hSw => ?_⟩) (by assumption) ?_
        · go_simp; try with_reducible rfl
        (try simp only [Act.put, tz0, tz1, tz2])
        refine wpAnyH_take (i := 1) (v := (.int .i64 (k : Int))) (op_at rfl) (by kernel_rfl) (by kernel_rfl) (by kernel_rfl) (fun _ _ _ h => h) (Or.inl ⟨rfl, fun U hSw => ?_⟩) (by assumption) ?_
        · go_simp; try with_reducible rfl
        (try simp only [Act.put, tz0, tz1, tz2])
        refine wpAnyH_take (i := 2) (v := (.pointer (some ⟨b2, o2 + k * 7, none⟩))) (op_at rfl) (by kernel_rfl) (by kernel_rfl) (by kernel_rfl) (fun _ _ _ h => h) (Or.inl ⟨rfl, fun U hSw => ?_⟩) (by assumption) ?_
        · go_simp; try with_reducible rfl
        (try simp only [Act.put, tz0, tz1, tz2])
        refine wpAnyH_take (i := 3) (v := (.agg #[.string x.de, .int .i64 x.nu, .int .i64 x.ck, .string x.ro, .int .i64 x.va, .string x.st, .slice x.p x.n x.cap])) (op_at rfl) (by kernel_rfl) (by kernel_rfl) (by kernel_rfl) (fun _ _ _ h => h) (Or.inl ⟨rfl, fun U hSw => ?_⟩) (by assumption) ?_
        · obtain ⟨q0, q1, q2, q3, q4, q5, q6⟩ := HXF.out U hSw; go_simp; try with_reducible rfl
        (try simp only [Act.put, tz0, tz1, tz2])
        refine wpAnyH_take (i := 4) (v := (.slice (some ⟨b, off, none⟩) mc kc)) (op_at rfl) (by kernel_rfl) (by kernel_rfl) (by kernel_rfl) (fun _ _ _ h => h) (Or.inl ⟨rfl, fun U hSw => ?_⟩) (by assumption) ?_
        · go_simp; try with_reducible rfl
        (try simp only [Act.put, tz0, tz1, tz2])
        refine wpAnyH_take (i := 5) (v := (.int .i64 (i : Int))) (op_at rfl) (by kernel_rfl) (by kernel_rfl) (by kernel_rfl) (fun _ _ _ h => h) (Or.inl ⟨rfl, fun U hSw => ?_⟩) (by assumption) ?_
        · go_simp; try with_reducible rfl
        (try simp only [Act.put, tz0, tz1, tz2])
        refine wpAnyH_take (i := 6) (v := (.pointer (some ⟨b, off + i * 7, none⟩))) (op_at rfl) (by kernel_rfl) (by kernel_rfl) (by kernel_rfl) (fun _ _ _ h => h) (Or.inl ⟨rfl, fun U hSw => ?_⟩) (by assumption) ?_
        · go_simp; try with_reducible rfl
        (try simp only [Act.put, tz0, tz1, tz2])
        refine wpAnyH_take (i := 7) (v := (.agg #[.string y.de, .int .i64 y.nu, .int .i64 y.ck, .string y.ro, .int .i64 y.va, .string y.st, .slice y.p y.n y.cap])) (op_at rfl) (by kernel_rfl) (by kernel_rfl) (by kernel_rfl) (fun _ _ _ h => h) (Or.inl ⟨rfl, fun U hSw => ?_⟩) (by assumption) ?_
        · obtain ⟨q0, q1, q2, q3, q4, q5, q6⟩ := HYF.out U hSw; go_simp; try with_reducible rfl
        (try simp only [Act.put, tz0, tz1, tz2])
        refine wpAnyH_ready (rs := [8]) (by kernel_rfl) (by simp) ((AllReadyH.cons (op_at rfl) (fun K hK => ?_) AllReadyH.nil))
        go_simp
        refine (HSE.out _ gE).mono ?_
        rintro e V3 ⟨⟨bb, rfl, hb⟩, hg⟩
        go_wp2_with fail
        have HB := Lib.hid hb.out
        have g3 := gE.trans hg
        replace gW := gW.trans hg
        clear hg hb gE
        refine hK.out _ _ g3 (fun hHeld => ?_)
        clear hK K
        (try simp only [Act.put, tz0, tz1, tz2])
        cases bb
        · have HCN : Hid (conR a y) := ⟨x, HLK.out, fun h => by have := HB.out.2 h; cases this⟩
          have HX : Hid (X = 29) := HXC.out.1 ⟨y, List.mem_of_getElem? HY.out, HCN.out⟩
          have HRL : Hid (RL = []) := HLC.out.2 (by rw [HX.out]; omega)
          refine wpAnyH_take (i := 9) (v := (.bool true)) (op_at rfl) (by kernel_rfl) (by kernel_rfl) (by kernel_rfl) (fun _ _ _ h => h) (Or.inl ⟨rfl, fun U hSw => ?_⟩) (by assumption) ?_
          · go_simp; try with_reducible rfl
          (try simp only [Act.put, tz0, tz1, tz2])
          refine wpAnyH_done (by kernel_rfl) ?_ _
          clear HSE HB
          go_wp2_with fail
          exact bodyPost_ret (v := .tuple #[.slice none 0 0, .int .i64 29]) (by simp [results, Tryz.results19, go_sem]) rfl ⟨⟨none, 0, 0, by rw [HX.out], by rw [HRL.out]; rfl, by rw [HRL.out]; exact en_nil _, Nat.le_refl _, by unfold maxLen; omega⟩, g3⟩
        · have HNC3 := Lib.hid (HNC2.out (fun ⟨x', h1, h2⟩ => by rw [HLK.out] at h1; cases h1; exact h2 (HB.out.1 rfl)))
          have HEN : Hid (EnS V3 qr (rmgF a a (c.take (i + 1)))) := by rw [HST2.out]; exact HER.out.gr gW
          have HNN : Hid (nr = (rmgF a a (c.take (i + 1))).length) := by rw [HST2.out]; exact HNR
          have HGV := Lib.hid g3
          refine wpAnyH_take (i := 9) (v := (.bool false)) (op_at rfl) (by kernel_rfl) (by kernel_rfl) (by kernel_rfl) (fun _ _ _ h => h) (Or.inl ⟨rfl, fun U hSw => ?_⟩) (by assumption) ?_
          · go_simp; try with_reducible rfl
          (try simp only [Act.put, tz0, tz1, tz2])
          refine wpAnyH_done (by kernel_rfl) ?_ _
          clear HSE HB g3 gW g2 HST2
          go_wp2_with fail
          go_roundg (gk - 1)
          case measure => omega
          case rel => exact ⟨i + 1, nr, cr, qr, by go_num, by omega, rfl, HNN, ⟨hcr1, hcr2⟩, HQR, HEN, HNC3, HGV⟩
    · obtain rfl : mc = i := by omega
      have hlt2 : ¬ (mc : Int) < (mc : Int) := by omega
      have htk : c.take mc = c := List.take_of_length_le (by have := HMC.out; omega)
      rw [htk] at HNR HER
      have HNO : Hid (¬ ∃ y ∈ c, conR a y) := fun ⟨y, hy, hn⟩ => by
        obtain ⟨j, hj⟩ := List.mem_iff_getElem?.1 hy
        exact HNC.out j y (by have := (List.getElem?_eq_some_iff.1 hj).1; have := HMC.out; omega) hj hn
      have hnr : nr ≤ 1000 := by have := rmgF_len a c a; have := HNR.out; have := HMA.out; have := HMC.out; omega
      have hnr2 : ¬ (1000 : Int) < (nr : Int) := by omega
      have HCA := Lib.hid (refArch_c (cap := cr) HNR.out hnr HER.out HFW.out)
      clear htk
      generalize archE (rmgF a a c) = R at *
      by_cases hR : R = 0
      · subst hR
        have HX : Hid (X = 0) := HXC.out.2.1 HNO.out rfl
        have HRL : Hid (RL = rmgF a a c) := HLC.out.1 HX.out
        go_wp2_with fail
        refine HCA.out.mono ?_
        rintro e V3 ⟨rfl, hg⟩
        have HEN := Lib.hid (HER.out.gr hg)
        have HGV := Lib.hid (HG.out.trans hg)
        clear hg
        go_wp2_with fail
        exact bodyPost_ret (v := .tuple #[.slice qr nr cr, .int .i64 0]) (by simp [results, Tryz.results19, go_sem]) rfl ⟨⟨qr, nr, cr, by rw [HX.out], by rw [HRL.out]; exact HNR, by rw [HRL.out]; exact HEN.out, hcr1, hcr2⟩, HGV.out⟩
      · have hR2 : (R != 0) = true := bne_iff_ne.2 hR
        have HX : Hid (X = 29) := HXC.out.2.2 HNO.out hR
        have HRL : Hid (RL = []) := HLC.out.2 (by rw [HX.out]; omega)
        clear hR
        go_wp2_with fail
        refine HCA.out.mono ?_
        rintro e V3 ⟨rfl, hg⟩
        have HGV := Lib.hid (HG.out.trans hg)
        clear hg
        go_wp2_with fail
        exact bodyPost_ret (v := .tuple #[.slice none 0 0, .int .i64 29]) (by simp [results, Tryz.results19, go_sem]) rfl ⟨⟨none, 0, 0, by rw [HX.out], by rw [HRL.out]; rfl, by rw [HRL.out]; exact en_nil _, Nat.le_refl _, by unfold maxLen; omega⟩, HGV.out⟩
end Go.Proofs.YtnihclhhbegjhaaGreatDoor
