/- Juries: the law's copy. -/
import Derived.Test.YtjojbcgppkfidaaGreatJuN
namespace Go.Proofs.YtjojbcgppkfidaaGreat
open Go.RowKit Go.Lib
set_option linter.unusedSimpArgs false
set_option linter.unusedVariables false
theorem setTwo {w : World} {TB : Nat} {T : TypeId} {a b : Value} (h : w.heap[TB]? = some (.cells #[a, b] T (0, 0))) (a1 b1 : Value) :
    ∃ W, (w.setCell ⟨TB, 0, none⟩ a1).setCell ⟨TB, 1, none⟩ b1 = W ∧ W.cell? ⟨TB, 0, none⟩ = some a1 ∧ W.cell? ⟨TB, 1, none⟩ = some b1 ∧ (∀ W0, Gr W0 w → W0.heap.size ≤ TB → Gr W0 W) ∧ (∀ g, g ≠ TB → W.heap[g]? = w.heap[g]?) := by
  have e1 : (w.setCell ⟨TB, 0, none⟩ a1).heap[TB]? = some (.cells #[a1, b] T (0, 0)) := by
    have := heap_setCell_same w TB 0 _ _ a1 h
    simpa using this
  have e2 : ((w.setCell ⟨TB, 0, none⟩ a1).setCell ⟨TB, 1, none⟩ b1).heap[TB]? = some (.cells #[a1, b1] T (0, 0)) := by
    have := heap_setCell_same _ TB 1 _ _ b1 e1
    simpa using this
  refine ⟨_, rfl, ?_, ?_, fun W0 k hk => ?_, fun g hg => ?_⟩
  · rw [cell_of_row _ TB _ _ _ (0, 0) e2]; rfl
  · rw [cell_of_row _ TB _ _ _ (0, 0) e2]; rfl
  · exact Below.setCell (Below.setCell k (p := ⟨TB, 0, none⟩) hk a1) (p := ⟨TB, 1, none⟩) hk b1
  · rw [heap_setCell_other _ _ _ _ hg, heap_setCell_other _ _ _ _ hg]
set_option maxHeartbeats 8000000 in
set_option maxRecDepth 100000 in
theorem own_c (os : List OfR) (ps : List PoR) (vo vp : Value) (w : World) (ho : OfAts w vo os) (hp : PoAts w vp ps) (hb1 : os.length * 64 ≤ 140737488355328) (hb2 : ps.length * 64 ≤ 140737488355328) :
    Calls Tryz.prog 4 #[.agg #[vo, vp]] w fun e w' => ∃ ov pv, e = .returned (.agg #[ov, pv]) ∧ OfAts w' ov os ∧ PoAts w' pv ps ∧ Gr w w' := by
  have HSO : Hid (∀ x ∈ os, StrAts w x.u x.rs) := fun x hx => by
    obtain ⟨⟨p, cap, _, _, hh⟩⟩ := ho
    obtain ⟨i, hi⟩ := List.mem_iff_getElem?.1 hx
    obtain ⟨b, off, _, hc⟩ := hh (by have := (List.getElem?_eq_some_iff.1 hi).1; omega)
    exact (hc i x hi).rs
  have HSP : Hid (∀ x ∈ ps, StrAts w x.u x.ns) := fun x hx => by
    obtain ⟨⟨p, cap, _, _, hh⟩⟩ := hp
    obtain ⟨i, hi⟩ := List.mem_iff_getElem?.1 hx
    obtain ⟨b, off, _, hc⟩ := hh (by have := (List.getElem?_eq_some_iff.1 hi).1; omega)
    exact (hc i x hi).ns
  obtain ⟨⟨po, co, rfl, hco, hho⟩⟩ := ho
  obtain ⟨⟨pp, cp, rfl, hcp, hhp⟩⟩ := hp
  obtain ⟨W1, hW1, g1, a0, a1⟩ := box2 w (.slice po os.length co) (.slice pp ps.length cp) 25
  obtain ⟨W2, hW2, g2, -, -⟩ := box2 W1 (.slice none 0 0) (.slice none 0 0) 31
  obtain ⟨W3, hW3, g3, -, -⟩ := box2 W2 (.slice none 0 0) (.slice none 0 0) 31
  have OSC := Lib.hid hho
  have PSC := Lib.hid hhp
  obtain ⟨TB, hTB⟩ : ∃ t, t = W1.heap.size := ⟨_, rfl⟩
  have hTB2 : W2.heap[TB]? = some (.cells #[.slice none 0 0, .slice none 0 0] 31 (0, 0)) := by rw [hTB, ← hW2]; exact heap_alloc_new W1 _
  have HTB := Lib.hid hTB2
  have HTW : Hid (w.heap.size ≤ TB) := by rw [Hid, hTB]; exact g1.size
  have b0 := g2.cell a0
  have b1 := g2.cell a1
  have g0 := g1.trans g2
  have HJ0 : Hid (JAt W3 W2.heap.size W2.heap.size (.slice none 0 0) (.slice none 0 0) [] []) := ⟨by rw [← hW3]; exact heap_alloc_new W2 _, World.ownsRow_nil _ _ _ _, World.ownsRow_nil _ _ _ _, Nat.le_refl _⟩
  obtain ⟨on, hon⟩ : ∃ n, n = os.length := ⟨_, rfl⟩
  obtain ⟨pn, hpn⟩ : ∃ n, n = ps.length := ⟨_, rfl⟩
  have OSN : Hid (os.length = on) := hon.symm
  have PSN : Hid (ps.length = pn) := hpn.symm
  rw [← hon] at OSC hW1 a0 b0 hb1 ⊢
  rw [← hpn] at PSC hW1 a1 b1 hb2 ⊢
  have HB := Lib.hid (And.intro hb1 hb2)
  have hon1 : on ≤ 9223372036854775807 := by omega
  have hpn1 : pn ≤ 9223372036854775807 := by omega
  clear hho hhp hon hpn hco hcp hb1 hb2 hTB2
  go_enter Tryz.func4, Tryz.ntmps4
  go_wp2_with fail
  (try rw [← hTB])
  clear hW1 hW2 hW3 g1 g2 a0 a1 hTB
  generalize hBx : w.heap.size = Bx at *
  have HBX := Lib.hid hBx
  clear hBx
  go_loopg [4] on (fun gk s3 wr => ∃ (i : Nat) (ov pv : Value), s3 = .int .i64 i ∧ gk + i = on ∧ JAt wr W2.heap.size W2.heap.size ov pv (os.take i) [] ∧ Gr W2 wr)
  case atStart => exact ⟨0, _, _, rfl, by omega, HJ0.out, g3⟩
  case round =>
    obtain ⟨i, ov, pv, rfl, hi, hJ, hg⟩ := hrel
    by_cases hlt : i < on
    · obtain ⟨x, hx⟩ : ∃ x, os[i]? = some x := ⟨os[i]'(by have := OSN.out; omega), List.getElem?_eq_getElem _⟩
      obtain ⟨bo, oo, rfl, HC⟩ := OSC.out (by omega)
      obtain ⟨c0, c1, c2, c3, cs⟩ := HC i x hx
      obtain ⟨pu, m, cu, hu⟩ : ∃ p m c, x.u = .slice p m c := by
        obtain ⟨⟨p, cap, e, _⟩⟩ := cs
        exact ⟨p, _, cap, e⟩
      rw [hu] at c2
      have HU := Lib.hid hu
      have gq := hg.drew
      have e0 := hg.cell b0
      have e1 := hg.cell b1
      have HGV := Lib.hid gq
      have HT : Hid ((os.take i).length = i) := by rw [Hid, List.length_take]; have := OSN.out; omega
      obtain ⟨pm, cm, hmine⟩ := shapeJ hJ.oo
      rw [HT.out] at hmine
      subst hmine
      have HQV := Lib.hid (hJ.gr (Gr.refl wr).drew)
      have HTK : Hid (os.take (i + 1) = os.take i ++ [x]) := by rw [Hid, List.take_add_one, hx]; rfl
      have hi2 : (i : Int) < on := by omega
      obtain ⟨bo0, bo1⟩ := hJ.cells
      have C0 := Lib.hid c0
      have C1 := Lib.hid c1
      have C2 := Lib.hid c2
      have C3 := Lib.hid c3
      clear hx HC cs hu c0 c1 c2 c3 gq
      go_wp2_with fail
      have a0 := HGV.out.cell b0
      have a1 := HGV.out.cell b1
      have c0 := (g0.trans HGV.out).cell C0.out
      have c1 := (g0.trans HGV.out).cell C1.out
      have c2 := (g0.trans HGV.out).cell C2.out
      have c3 := (g0.trans HGV.out).cell C3.out
      refine wp_region_held_drew (S := (fun w' => w'.cell? ⟨Bx, 0, none⟩ = some (.slice (some ⟨bo, oo, none⟩) on co) ∧ w'.cell? ⟨Bx, 1, none⟩ = some (.slice pp pn cp) ∧ w'.cell? ⟨bo, oo + i * 4, none⟩ = some (.string x.nm) ∧ w'.cell? ⟨bo, oo + i * 4 + 1, none⟩ = some (.string x.na) ∧ w'.cell? ⟨bo, oo + i * 4 + 2, none⟩ = some (.slice pu m cu) ∧ w'.cell? ⟨bo, oo + i * 4 + 3, none⟩ = some (.int .i64 x.ld))) (by kernel_rfl) ⟨a0, a1, c0, c1, c2, c3⟩ (fun hHeld => ?_)
      generalize wr.drew = V at *
      have d0 := HQV.out.cells.1
      have HOWN := Lib.hid (own_grJ HQV.out.oo ((Gr.refl V).alloc (.cells #[.string x.nm, .string x.na, .slice pu m cu, .int .i64 x.ld] 49)))
      have gA : Gr V (V.alloc (.cells #[.string x.nm, .string x.na, .slice pu m cu, .int .i64 x.ld] 49)) := (Gr.refl V).alloc _
      rw [Hid, HT.out] at HOWN
      have HOWN := Lib.hid HOWN
      refine wpAnyH_take (i := 0) (v := (.pointer (some ⟨W2.heap.size, 0, none⟩))) (op_at rfl) (by kernel_rfl) (by kernel_rfl) (by kernel_rfl) (fun _ _ _ h => h) (Or.inl ⟨rfl, fun w hSw => ?_⟩) (by assumption) ?_
      · (try dsimp only at hSw); go_simp; try with_reducible rfl
      (try simp only [Act.put, List.setIfInBounds_toArray, List.set_cons_zero, List.set_cons_succ])
      refine wpAnyH_take (i := 2) (v := (.pointer (some ⟨Bx, 0, none⟩))) (op_at rfl) (by kernel_rfl) (by kernel_rfl) (by kernel_rfl) (fun _ _ _ h => h) (Or.inl ⟨rfl, fun w hSw => ?_⟩) (by assumption) ?_
      · (try dsimp only at hSw); go_simp; try with_reducible rfl
      (try simp only [Act.put, List.setIfInBounds_toArray, List.set_cons_zero, List.set_cons_succ])
      refine wpAnyH_take (i := 3) (v := (.slice (some ⟨bo, oo, none⟩) on co)) (op_at rfl) (by kernel_rfl) (by kernel_rfl) (by kernel_rfl) (fun _ _ _ h => h) (Or.inl ⟨rfl, fun w hSw => ?_⟩) (by assumption) ?_
      · (try dsimp only at hSw); go_simp; try with_reducible rfl
      (try simp only [Act.put, List.setIfInBounds_toArray, List.set_cons_zero, List.set_cons_succ])
      refine wpAnyH_take (i := 4) (v := (.int .i64 i)) (op_at rfl) (by kernel_rfl) (by kernel_rfl) (by kernel_rfl) (fun _ _ _ h => h) (Or.inl ⟨rfl, fun w hSw => ?_⟩) (by assumption) ?_
      · (try dsimp only at hSw); go_simp; try with_reducible rfl
      (try simp only [Act.put, List.setIfInBounds_toArray, List.set_cons_zero, List.set_cons_succ])
      refine wpAnyH_take (i := 5) (v := (.pointer (some ⟨bo, oo + i * 4, none⟩))) (op_at rfl) (by kernel_rfl) (by kernel_rfl) (by kernel_rfl) (fun _ _ _ h => h) (Or.inl ⟨rfl, fun w hSw => ?_⟩) (by assumption) ?_
      · (try dsimp only at hSw); go_simp; try with_reducible rfl
      (try simp only [Act.put, List.setIfInBounds_toArray, List.set_cons_zero, List.set_cons_succ])
      refine wpAnyH_take (i := 6) (v := (.agg #[.string x.nm, .string x.na, .slice pu m cu, .int .i64 x.ld])) (op_at rfl) (by kernel_rfl) (by kernel_rfl) (by kernel_rfl) (fun _ _ _ h => h) (Or.inl ⟨rfl, fun w hSw => ?_⟩) (by assumption) ?_
      · (try dsimp only at hSw); go_simp; try with_reducible rfl
      (try simp only [Act.put, List.setIfInBounds_toArray, List.set_cons_zero, List.set_cons_succ])
      refine wpAnyH_ready (rs := [1, 7]) (by kernel_rfl) (by simp) (AllReadyH.cons (op_at rfl) (fun K hK => ?_) (AllReadyH.cons (op_at rfl) (fun K hK => ?_) AllReadyH.nil))
      · go_simp
        refine hK.out _ _ hHeld (fun hHeld => ?_)
        clear hK K
        (try simp only [Act.put, List.setIfInBounds_toArray, List.set_cons_zero, List.set_cons_succ])
        refine wpAnyH_ready (rs := [7]) (by kernel_rfl) (by simp) (AllReadyH.cons (op_at rfl) (fun K hK => ?_) AllReadyH.nil)
        go_simp
        refine hK.out _ _ ⟨gA.cell a0, gA.cell a1, gA.cell c0, gA.cell c1, gA.cell c2, gA.cell c3⟩ (fun hHeld => ?_)
        clear hK K
        (try simp only [Act.put, List.setIfInBounds_toArray, List.set_cons_zero, List.set_cons_succ])
        refine wpAnyH_ready (rs := [8]) (by kernel_rfl) (by simp) (AllReadyH.cons (op_at rfl) (fun K hK => ?_) AllReadyH.nil)
        rw [if_pos (show Region.wanted _ _ = true from rfl)]
        refine step_ofC _ _ rfl W2.heap.size (.slice pm i cm) (os.take i) x i HT.out rfl HOWN.out V.heap.size 1 rfl ⟨pu, m, cu, HU.out⟩ (cell_new V #[.string x.nm, .string x.na, .slice pu m cu, .int .i64 x.ld] _ 0 (by simp)) (cell_new V #[.string x.nm, .string x.na, .slice pu m cu, .int .i64 x.ld] _ 1 (by simp)) (by rw [HU.out]; exact cell_new V #[.string x.nm, .string x.na, .slice pu m cu, .int .i64 x.ld] _ 2 (by simp)) (cell_new V #[.string x.nm, .string x.na, .slice pu m cu, .int .i64 x.ld] _ 3 (by simp)) (by have := HB.out; omega) (by simp; have := HGV.out.size; omega) ?_
        intro v1 w1 hown1 hgrow1 hat1
        obtain ⟨pp1, cc1, rfl⟩ := shapeJ hown1
        obtain ⟨s2, s3, s4, s5⟩ := HQV.out.putO HGV.out (by rw [HT.out]; exact hown1) hgrow1 hat1
        rw [← HTK.out] at s4
        have C4 := Lib.hid s4
        have C5 := Lib.hid s5
        have gk2 : Gr W2 w1 := Below.grown (HGV.out.alloc (.cells #[.string x.nm, .string x.na, .slice pu m cu, .int .i64 x.ld] 49)) hgrow1 (by simp; have := HGV.out.size; omega) (fun j hj => (own_inJ HOWN.out hj).2)
        clear s4 s5 hown1 hgrow1 hat1
        refine hK.out _ _ ⟨gk2.cell b0, gk2.cell b1, (g0.trans gk2).cell C0.out, (g0.trans gk2).cell C1.out, (g0.trans gk2).cell C2.out, (g0.trans gk2).cell C3.out⟩ (fun hHeld => ?_)
        clear hK K
        (try simp only [Act.put, List.setIfInBounds_toArray, List.set_cons_zero, List.set_cons_succ])
        refine wpAnyH_take (i := 9) (v := (.pointer (some ⟨W2.heap.size, 0, none⟩))) (op_at rfl) (by kernel_rfl) (by kernel_rfl) (by kernel_rfl) (fun _ _ _ h => h) (Or.inl ⟨rfl, fun w hSw => ?_⟩) (by assumption) ?_
        · (try dsimp only at hSw); go_simp; try with_reducible rfl
        (try simp only [Act.put, List.setIfInBounds_toArray, List.set_cons_zero, List.set_cons_succ])
        refine wpAnyH_ready (rs := [10]) (by kernel_rfl) (by simp) (AllReadyH.cons (op_at rfl) (fun K hK => ?_) AllReadyH.nil)
        go_simp
        refine hK.out _ _ ⟨C5.out.cell b0, C5.out.cell b1, (g0.trans C5.out).cell C0.out, (g0.trans C5.out).cell C1.out, (g0.trans C5.out).cell C2.out, (g0.trans C5.out).cell C3.out⟩ (fun hHeld => ?_)
        clear hK K
        (try simp only [Act.put, List.setIfInBounds_toArray, List.set_cons_zero, List.set_cons_succ])
        refine wpAnyH_done (by kernel_rfl) ?_ _
        go_wp2_with fail
        go_roundg (gk - 1)
        case measure => omega
        case rel => exact ⟨i + 1, _, _, by go_num, by omega, C4.out, C5.out⟩
      · go_simp
        refine hK.out _ _ ⟨gA.cell a0, gA.cell a1, gA.cell c0, gA.cell c1, gA.cell c2, gA.cell c3⟩ (fun hHeld => ?_)
        clear hK K
        (try simp only [Act.put, List.setIfInBounds_toArray, List.set_cons_zero, List.set_cons_succ])
        have d0b := gA.cell d0
        refine wpAnyH_ready (rs := [1]) (by kernel_rfl) (by simp) (AllReadyH.cons (op_at rfl) (fun K hK => ?_) AllReadyH.nil)
        go_simp
        refine hK.out _ _ hHeld (fun hHeld => ?_)
        clear hK K
        (try simp only [Act.put, List.setIfInBounds_toArray, List.set_cons_zero, List.set_cons_succ])
        refine wpAnyH_ready (rs := [8]) (by kernel_rfl) (by simp) (AllReadyH.cons (op_at rfl) (fun K hK => ?_) AllReadyH.nil)
        rw [if_pos (show Region.wanted _ _ = true from rfl)]
        refine step_ofC _ _ rfl W2.heap.size (.slice pm i cm) (os.take i) x i HT.out rfl HOWN.out V.heap.size 1 rfl ⟨pu, m, cu, HU.out⟩ (cell_new V #[.string x.nm, .string x.na, .slice pu m cu, .int .i64 x.ld] _ 0 (by simp)) (cell_new V #[.string x.nm, .string x.na, .slice pu m cu, .int .i64 x.ld] _ 1 (by simp)) (by rw [HU.out]; exact cell_new V #[.string x.nm, .string x.na, .slice pu m cu, .int .i64 x.ld] _ 2 (by simp)) (cell_new V #[.string x.nm, .string x.na, .slice pu m cu, .int .i64 x.ld] _ 3 (by simp)) (by have := HB.out; omega) (by simp; have := HGV.out.size; omega) ?_
        intro v1 w1 hown1 hgrow1 hat1
        obtain ⟨pp1, cc1, rfl⟩ := shapeJ hown1
        obtain ⟨s2, s3, s4, s5⟩ := HQV.out.putO HGV.out (by rw [HT.out]; exact hown1) hgrow1 hat1
        rw [← HTK.out] at s4
        have C4 := Lib.hid s4
        have C5 := Lib.hid s5
        have gk2 : Gr W2 w1 := Below.grown (HGV.out.alloc (.cells #[.string x.nm, .string x.na, .slice pu m cu, .int .i64 x.ld] 49)) hgrow1 (by simp; have := HGV.out.size; omega) (fun j hj => (own_inJ HOWN.out hj).2)
        clear s4 s5 hown1 hgrow1 hat1
        refine hK.out _ _ ⟨gk2.cell b0, gk2.cell b1, (g0.trans gk2).cell C0.out, (g0.trans gk2).cell C1.out, (g0.trans gk2).cell C2.out, (g0.trans gk2).cell C3.out⟩ (fun hHeld => ?_)
        clear hK K
        (try simp only [Act.put, List.setIfInBounds_toArray, List.set_cons_zero, List.set_cons_succ])
        refine wpAnyH_take (i := 9) (v := (.pointer (some ⟨W2.heap.size, 0, none⟩))) (op_at rfl) (by kernel_rfl) (by kernel_rfl) (by kernel_rfl) (fun _ _ _ h => h) (Or.inl ⟨rfl, fun w hSw => ?_⟩) (by assumption) ?_
        · (try dsimp only at hSw); go_simp; try with_reducible rfl
        (try simp only [Act.put, List.setIfInBounds_toArray, List.set_cons_zero, List.set_cons_succ])
        refine wpAnyH_ready (rs := [10]) (by kernel_rfl) (by simp) (AllReadyH.cons (op_at rfl) (fun K hK => ?_) AllReadyH.nil)
        go_simp
        refine hK.out _ _ ⟨C5.out.cell b0, C5.out.cell b1, (g0.trans C5.out).cell C0.out, (g0.trans C5.out).cell C1.out, (g0.trans C5.out).cell C2.out, (g0.trans C5.out).cell C3.out⟩ (fun hHeld => ?_)
        clear hK K
        (try simp only [Act.put, List.setIfInBounds_toArray, List.set_cons_zero, List.set_cons_succ])
        refine wpAnyH_done (by kernel_rfl) ?_ _
        go_wp2_with fail
        go_roundg (gk - 1)
        case measure => omega
        case rel => exact ⟨i + 1, _, _, by go_num, by omega, C4.out, C5.out⟩
    · have hin : i = on := by omega
      have hi2 : (on : Int) ≤ i := by omega
      have hlen : os.take i = os := List.take_of_length_le (by have := OSN.out; omega)
      rw [hlen] at hJ
      obtain ⟨bo0, bo1⟩ := hJ.cells
      have a0 := hg.cell b0
      have a1 := hg.cell b1
      clear hin hlen
      have HJ0 := Lib.hid hJ
      replace g3 := hg
      go_wp2_with fail
      clear hi hi2 hlt bo0 bo1 a0 a1 hg hJ
      go_loopg [5] pn (fun gk s3 wr => ∃ (i : Nat) (ov pv : Value), s3 = .int .i64 i ∧ gk + i = pn ∧ JAt wr W2.heap.size W2.heap.size ov pv os (ps.take i) ∧ Gr W2 wr)
      case atStart => exact ⟨0, _, _, rfl, by omega, HJ0.out, g3⟩
      case round =>
        obtain ⟨i, ov, pv, rfl, hi, hJ, hg⟩ := hrel
        by_cases hlt : i < pn
        · obtain ⟨x, hx⟩ : ∃ x, ps[i]? = some x := ⟨ps[i]'(by have := PSN.out; omega), List.getElem?_eq_getElem _⟩
          obtain ⟨bp, op, rfl, HC⟩ := PSC.out (by omega)
          obtain ⟨c0, c1, c2, c3, cs⟩ := HC i x hx
          obtain ⟨pu, m, cu, hu⟩ : ∃ p m c, x.u = .slice p m c := by
            obtain ⟨⟨p, cap, e, _⟩⟩ := cs
            exact ⟨p, _, cap, e⟩
          rw [hu] at c3
          have HU := Lib.hid hu
          have gq := hg.drew
          have e0 := hg.cell b0
          have e1 := hg.cell b1
          have HGV := Lib.hid gq
          have HT : Hid ((ps.take i).length = i) := by rw [Hid, List.length_take]; have := PSN.out; omega
          obtain ⟨pm, cm, hmine⟩ := shapeJ hJ.pp
          rw [HT.out] at hmine
          subst hmine
          have HQV := Lib.hid (hJ.gr (Gr.refl wr).drew)
          have HTK : Hid (ps.take (i + 1) = ps.take i ++ [x]) := by rw [Hid, List.take_add_one, hx]; rfl
          have hi2 : (i : Int) < pn := by omega
          obtain ⟨bo0, bo1⟩ := hJ.cells
          have C0 := Lib.hid c0
          have C1 := Lib.hid c1
          have C2 := Lib.hid c2
          have C3 := Lib.hid c3
          clear hx HC cs hu c0 c1 c2 c3 gq
          go_wp2_with fail
          have a0 := HGV.out.cell b0
          have a1 := HGV.out.cell b1
          have c0 := (g0.trans HGV.out).cell C0.out
          have c1 := (g0.trans HGV.out).cell C1.out
          have c2 := (g0.trans HGV.out).cell C2.out
          have c3 := (g0.trans HGV.out).cell C3.out
          refine wp_region_held_drew (S := (fun w' => w'.cell? ⟨Bx, 0, none⟩ = some (.slice po on co) ∧ w'.cell? ⟨Bx, 1, none⟩ = some (.slice (some ⟨bp, op, none⟩) pn cp) ∧ w'.cell? ⟨bp, op + i * 4, none⟩ = some (.string x.nm) ∧ w'.cell? ⟨bp, op + i * 4 + 1, none⟩ = some (.string x.ro) ∧ w'.cell? ⟨bp, op + i * 4 + 2, none⟩ = some (.int .i64 x.hr) ∧ w'.cell? ⟨bp, op + i * 4 + 3, none⟩ = some (.slice pu m cu))) (by kernel_rfl) ⟨a0, a1, c0, c1, c2, c3⟩ (fun hHeld => ?_)
          generalize wr.drew = V at *
          have d0 := HQV.out.cells.2
          have HOWN := Lib.hid (own_grJ HQV.out.pp ((Gr.refl V).alloc (.cells #[.string x.nm, .string x.ro, .int .i64 x.hr, .slice pu m cu] 52)))
          have gA : Gr V (V.alloc (.cells #[.string x.nm, .string x.ro, .int .i64 x.hr, .slice pu m cu] 52)) := (Gr.refl V).alloc _
          rw [Hid, HT.out] at HOWN
          have HOWN := Lib.hid HOWN
          refine wpAnyH_take (i := 0) (v := (.pointer (some ⟨W2.heap.size, 1, none⟩))) (op_at rfl) (by kernel_rfl) (by kernel_rfl) (by kernel_rfl) (fun _ _ _ h => h) (Or.inl ⟨rfl, fun w hSw => ?_⟩) (by assumption) ?_
          · (try dsimp only at hSw); go_simp; try with_reducible rfl
          (try simp only [Act.put, List.setIfInBounds_toArray, List.set_cons_zero, List.set_cons_succ])
          refine wpAnyH_take (i := 2) (v := (.pointer (some ⟨Bx, 1, none⟩))) (op_at rfl) (by kernel_rfl) (by kernel_rfl) (by kernel_rfl) (fun _ _ _ h => h) (Or.inl ⟨rfl, fun w hSw => ?_⟩) (by assumption) ?_
          · (try dsimp only at hSw); go_simp; try with_reducible rfl
          (try simp only [Act.put, List.setIfInBounds_toArray, List.set_cons_zero, List.set_cons_succ])
          refine wpAnyH_take (i := 3) (v := (.slice (some ⟨bp, op, none⟩) pn cp)) (op_at rfl) (by kernel_rfl) (by kernel_rfl) (by kernel_rfl) (fun _ _ _ h => h) (Or.inl ⟨rfl, fun w hSw => ?_⟩) (by assumption) ?_
          · (try dsimp only at hSw); go_simp; try with_reducible rfl
          (try simp only [Act.put, List.setIfInBounds_toArray, List.set_cons_zero, List.set_cons_succ])
          refine wpAnyH_take (i := 4) (v := (.int .i64 i)) (op_at rfl) (by kernel_rfl) (by kernel_rfl) (by kernel_rfl) (fun _ _ _ h => h) (Or.inl ⟨rfl, fun w hSw => ?_⟩) (by assumption) ?_
          · (try dsimp only at hSw); go_simp; try with_reducible rfl
          (try simp only [Act.put, List.setIfInBounds_toArray, List.set_cons_zero, List.set_cons_succ])
          refine wpAnyH_take (i := 5) (v := (.pointer (some ⟨bp, op + i * 4, none⟩))) (op_at rfl) (by kernel_rfl) (by kernel_rfl) (by kernel_rfl) (fun _ _ _ h => h) (Or.inl ⟨rfl, fun w hSw => ?_⟩) (by assumption) ?_
          · (try dsimp only at hSw); go_simp; try with_reducible rfl
          (try simp only [Act.put, List.setIfInBounds_toArray, List.set_cons_zero, List.set_cons_succ])
          refine wpAnyH_take (i := 6) (v := (.agg #[.string x.nm, .string x.ro, .int .i64 x.hr, .slice pu m cu])) (op_at rfl) (by kernel_rfl) (by kernel_rfl) (by kernel_rfl) (fun _ _ _ h => h) (Or.inl ⟨rfl, fun w hSw => ?_⟩) (by assumption) ?_
          · (try dsimp only at hSw); go_simp; try with_reducible rfl
          (try simp only [Act.put, List.setIfInBounds_toArray, List.set_cons_zero, List.set_cons_succ])
          refine wpAnyH_ready (rs := [1, 7]) (by kernel_rfl) (by simp) (AllReadyH.cons (op_at rfl) (fun K hK => ?_) (AllReadyH.cons (op_at rfl) (fun K hK => ?_) AllReadyH.nil))
          · go_simp
            refine hK.out _ _ hHeld (fun hHeld => ?_)
            clear hK K
            (try simp only [Act.put, List.setIfInBounds_toArray, List.set_cons_zero, List.set_cons_succ])
            refine wpAnyH_ready (rs := [7]) (by kernel_rfl) (by simp) (AllReadyH.cons (op_at rfl) (fun K hK => ?_) AllReadyH.nil)
            go_simp
            refine hK.out _ _ ⟨gA.cell a0, gA.cell a1, gA.cell c0, gA.cell c1, gA.cell c2, gA.cell c3⟩ (fun hHeld => ?_)
            clear hK K
            (try simp only [Act.put, List.setIfInBounds_toArray, List.set_cons_zero, List.set_cons_succ])
            refine wpAnyH_ready (rs := [8]) (by kernel_rfl) (by simp) (AllReadyH.cons (op_at rfl) (fun K hK => ?_) AllReadyH.nil)
            rw [if_pos (show Region.wanted _ _ = true from rfl)]
            refine step_poC _ _ rfl W2.heap.size (.slice pm i cm) (ps.take i) x i HT.out rfl HOWN.out V.heap.size 1 rfl ⟨pu, m, cu, HU.out⟩ (cell_new V #[.string x.nm, .string x.ro, .int .i64 x.hr, .slice pu m cu] _ 0 (by simp)) (cell_new V #[.string x.nm, .string x.ro, .int .i64 x.hr, .slice pu m cu] _ 1 (by simp)) (cell_new V #[.string x.nm, .string x.ro, .int .i64 x.hr, .slice pu m cu] _ 2 (by simp)) (by rw [HU.out]; exact cell_new V #[.string x.nm, .string x.ro, .int .i64 x.hr, .slice pu m cu] _ 3 (by simp)) (by have := HB.out; omega) (by simp; have := HGV.out.size; omega) ?_
            intro v1 w1 hown1 hgrow1 hat1
            obtain ⟨pp1, cc1, rfl⟩ := shapeJ hown1
            obtain ⟨s2, s3, s4, s5⟩ := HQV.out.putP HGV.out (by rw [HT.out]; exact hown1) hgrow1 hat1
            rw [← HTK.out] at s4
            have C4 := Lib.hid s4
            have C5 := Lib.hid s5
            have gk2 : Gr W2 w1 := Below.grown (HGV.out.alloc (.cells #[.string x.nm, .string x.ro, .int .i64 x.hr, .slice pu m cu] 52)) hgrow1 (by simp; have := HGV.out.size; omega) (fun j hj => (own_inJ HOWN.out hj).2)
            clear s4 s5 hown1 hgrow1 hat1
            refine hK.out _ _ ⟨gk2.cell b0, gk2.cell b1, (g0.trans gk2).cell C0.out, (g0.trans gk2).cell C1.out, (g0.trans gk2).cell C2.out, (g0.trans gk2).cell C3.out⟩ (fun hHeld => ?_)
            clear hK K
            (try simp only [Act.put, List.setIfInBounds_toArray, List.set_cons_zero, List.set_cons_succ])
            refine wpAnyH_take (i := 9) (v := (.pointer (some ⟨W2.heap.size, 1, none⟩))) (op_at rfl) (by kernel_rfl) (by kernel_rfl) (by kernel_rfl) (fun _ _ _ h => h) (Or.inl ⟨rfl, fun w hSw => ?_⟩) (by assumption) ?_
            · (try dsimp only at hSw); go_simp; try with_reducible rfl
            (try simp only [Act.put, List.setIfInBounds_toArray, List.set_cons_zero, List.set_cons_succ])
            refine wpAnyH_ready (rs := [10]) (by kernel_rfl) (by simp) (AllReadyH.cons (op_at rfl) (fun K hK => ?_) AllReadyH.nil)
            go_simp
            refine hK.out _ _ ⟨C5.out.cell b0, C5.out.cell b1, (g0.trans C5.out).cell C0.out, (g0.trans C5.out).cell C1.out, (g0.trans C5.out).cell C2.out, (g0.trans C5.out).cell C3.out⟩ (fun hHeld => ?_)
            clear hK K
            (try simp only [Act.put, List.setIfInBounds_toArray, List.set_cons_zero, List.set_cons_succ])
            refine wpAnyH_done (by kernel_rfl) ?_ _
            go_wp2_with fail
            go_roundg (gk - 1)
            case measure => omega
            case rel => exact ⟨i + 1, _, _, by go_num, by omega, C4.out, C5.out⟩
          · go_simp
            refine hK.out _ _ ⟨gA.cell a0, gA.cell a1, gA.cell c0, gA.cell c1, gA.cell c2, gA.cell c3⟩ (fun hHeld => ?_)
            clear hK K
            (try simp only [Act.put, List.setIfInBounds_toArray, List.set_cons_zero, List.set_cons_succ])
            have d0b := gA.cell d0
            refine wpAnyH_ready (rs := [1]) (by kernel_rfl) (by simp) (AllReadyH.cons (op_at rfl) (fun K hK => ?_) AllReadyH.nil)
            go_simp
            refine hK.out _ _ hHeld (fun hHeld => ?_)
            clear hK K
            (try simp only [Act.put, List.setIfInBounds_toArray, List.set_cons_zero, List.set_cons_succ])
            refine wpAnyH_ready (rs := [8]) (by kernel_rfl) (by simp) (AllReadyH.cons (op_at rfl) (fun K hK => ?_) AllReadyH.nil)
            rw [if_pos (show Region.wanted _ _ = true from rfl)]
            refine step_poC _ _ rfl W2.heap.size (.slice pm i cm) (ps.take i) x i HT.out rfl HOWN.out V.heap.size 1 rfl ⟨pu, m, cu, HU.out⟩ (cell_new V #[.string x.nm, .string x.ro, .int .i64 x.hr, .slice pu m cu] _ 0 (by simp)) (cell_new V #[.string x.nm, .string x.ro, .int .i64 x.hr, .slice pu m cu] _ 1 (by simp)) (cell_new V #[.string x.nm, .string x.ro, .int .i64 x.hr, .slice pu m cu] _ 2 (by simp)) (by rw [HU.out]; exact cell_new V #[.string x.nm, .string x.ro, .int .i64 x.hr, .slice pu m cu] _ 3 (by simp)) (by have := HB.out; omega) (by simp; have := HGV.out.size; omega) ?_
            intro v1 w1 hown1 hgrow1 hat1
            obtain ⟨pp1, cc1, rfl⟩ := shapeJ hown1
            obtain ⟨s2, s3, s4, s5⟩ := HQV.out.putP HGV.out (by rw [HT.out]; exact hown1) hgrow1 hat1
            rw [← HTK.out] at s4
            have C4 := Lib.hid s4
            have C5 := Lib.hid s5
            have gk2 : Gr W2 w1 := Below.grown (HGV.out.alloc (.cells #[.string x.nm, .string x.ro, .int .i64 x.hr, .slice pu m cu] 52)) hgrow1 (by simp; have := HGV.out.size; omega) (fun j hj => (own_inJ HOWN.out hj).2)
            clear s4 s5 hown1 hgrow1 hat1
            refine hK.out _ _ ⟨gk2.cell b0, gk2.cell b1, (g0.trans gk2).cell C0.out, (g0.trans gk2).cell C1.out, (g0.trans gk2).cell C2.out, (g0.trans gk2).cell C3.out⟩ (fun hHeld => ?_)
            clear hK K
            (try simp only [Act.put, List.setIfInBounds_toArray, List.set_cons_zero, List.set_cons_succ])
            refine wpAnyH_take (i := 9) (v := (.pointer (some ⟨W2.heap.size, 1, none⟩))) (op_at rfl) (by kernel_rfl) (by kernel_rfl) (by kernel_rfl) (fun _ _ _ h => h) (Or.inl ⟨rfl, fun w hSw => ?_⟩) (by assumption) ?_
            · (try dsimp only at hSw); go_simp; try with_reducible rfl
            (try simp only [Act.put, List.setIfInBounds_toArray, List.set_cons_zero, List.set_cons_succ])
            refine wpAnyH_ready (rs := [10]) (by kernel_rfl) (by simp) (AllReadyH.cons (op_at rfl) (fun K hK => ?_) AllReadyH.nil)
            go_simp
            refine hK.out _ _ ⟨C5.out.cell b0, C5.out.cell b1, (g0.trans C5.out).cell C0.out, (g0.trans C5.out).cell C1.out, (g0.trans C5.out).cell C2.out, (g0.trans C5.out).cell C3.out⟩ (fun hHeld => ?_)
            clear hK K
            (try simp only [Act.put, List.setIfInBounds_toArray, List.set_cons_zero, List.set_cons_succ])
            refine wpAnyH_done (by kernel_rfl) ?_ _
            go_wp2_with fail
            go_roundg (gk - 1)
            case measure => omega
            case rel => exact ⟨i + 1, _, _, by go_num, by omega, C4.out, C5.out⟩
        · have hin : i = pn := by omega
          have hi2 : (pn : Int) ≤ i := by omega
          have hlen : ps.take i = ps := List.take_of_length_le (by have := PSN.out; omega)
          rw [hlen] at hJ
          obtain ⟨bo0, bo1⟩ := hJ.cells
          have a0 := hg.cell b0
          have a1 := hg.cell b1
          clear hin hlen
          obtain ⟨po1, co1, hov⟩ := shapeJ hJ.oo
          obtain ⟨pp1, cp1, hpv⟩ := shapeJ hJ.pp
          subst hov
          subst hpv
          have hTB := hg.block HTB.out
          have t0 : wr.cell? ⟨TB, 0, none⟩ = some (.slice none 0 0) := by rw [cell_of_row wr TB _ _ _ (0, 0) hTB]; rfl
          have t1 : wr.cell? ⟨TB, 1, none⟩ = some (.slice none 0 0) := by rw [cell_of_row wr TB _ _ _ (0, 0) hTB]; rfl
          have f0 := frozen_of_row wr TB 0 _ _ hTB
          have f1 := frozen_of_row wr TB 1 _ _ hTB
          obtain ⟨WF, hWF, z0, z1, zg, zo⟩ := setTwo hTB (.slice po1 os.length co1) (.slice pp1 ps.length cp1)
          have HFIN : Hid (OfAts WF (.slice po1 os.length co1) os ∧ PoAts WF (.slice pp1 ps.length cp1) ps ∧ Gr w WF) := by
            have gF := zg w (g0.trans hg) (by rw [HBX.out]; exact HTW.out)
            refine ⟨OfAts_of_own (own_sameJ hJ.oo fun g hx => zo g fun e => own_neJ hJ.oo hTB of_ne_j (by rw [hx]; exact congrArg some e)) fun x hx => ?_, PoAts_of_own (own_sameJ hJ.pp fun g hx => zo g fun e => own_neJ hJ.pp hTB po_ne_j (by rw [hx]; exact congrArg some e)) fun x hx => ?_, gF⟩
            · exact (HSO.out x hx).gr gF
            · exact (HSP.out x hx).gr gF
          have e0 := a0
          have e1 := a1
          clear zg zo hTB hJ HSO HSP hg
          go_wp2_with fail
          exact bodyPost_ret (v := .agg #[.slice po1 os.length co1, .slice pp1 ps.length cp1]) (by simp [results, Tryz.results4, go_sem, z0, z1]) rfl ⟨_, _, rfl, HFIN.out⟩
end Go.Proofs.YtjojbcgppkfidaaGreat
