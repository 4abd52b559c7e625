/- Open values: result.ask. -/
import Derived.Test.YtimbcjldejifaaaGreatDoorGOpH
namespace Go.Proofs.YtimbcjldejifaaaGreatDoor
open Go.RowKit Go.Lib
set_option linter.unusedSimpArgs false
set_option linter.unusedVariables false
/-- all but one -/
def others (xs : List OpR) (c : Nat) : List OpR := xs.take c ++ xs.drop (c + 1)
theorem opCs_cells {w : World} {b off : Nat} {ys : List OpR} (h : ∀ i x, ys[i]? = some x → OpAt w b (off + i * 3) x) : ∀ j u, (opCs ys)[j]? = some u → w.cell? ((⟨b, off, none⟩ : Addr).add j) = some u := by
  intro j u hu
  have e : (⟨b, off, none⟩ : Addr).add j = ⟨b, off + j, none⟩ := by unfold Addr.add; split <;> simp_all
  rw [e]
  have hlt : j < ys.length * 3 := by
    have := (List.getElem?_eq_some_iff.1 hu).1
    rwa [opCs_len] at this
  obtain ⟨i, k, rfl, hk⟩ : ∃ i k, j = i * 3 + k ∧ k < 3 := ⟨j / 3, j % 3, by omega, by omega⟩
  obtain ⟨x, hx⟩ : ∃ x, ys[i]? = some x := ⟨ys[i]'(by omega), List.getElem?_eq_getElem _⟩
  rw [opCs_at hx k hk] at hu
  have hc := h i x hx
  rcases k with _ | _ | _ | k
  · simp [opC] at hu; subst hu; simpa using hc.nm
  · simp [opC] at hu; subst hu; have := hc.lo; rwa [Nat.add_assoc] at this
  · simp [opC] at hu; subst hu; have := hc.hi; rwa [Nat.add_assoc] at this
  · omega
theorem owns_slice {w : World} {base : Nat} {v : Value} {n size : Nat} {T : TypeId} {l : List Value} (h : w.ownsRow base T size v n l) : ∃ p c, v = .slice p n c := by
  rcases h.2 with ⟨rfl, h0⟩ | ⟨g, cap, cur, rfl, _⟩
  · exact ⟨none, 0, by rw [h0]⟩
  · exact ⟨_, _, rfl⟩
theorem frozen_row (w : World) (g j : Nat) (cur : Array Value) (T : TypeId) (h : w.heap[g]? = some (.cells cur T (0, 0))) : w.frozen? ⟨g, j, none⟩ = false := by
  simp [World.frozen?, h]
/-- five cells that may be written -/
structure Row5 (w : World) (B : Nat) (a0 a1 a2 a3 a4 : Value) : Prop where
  c0 : w.cell? ⟨B, 0, none⟩ = some a0
  c1 : w.cell? ⟨B, 1, none⟩ = some a1
  c2 : w.cell? ⟨B, 2, none⟩ = some a2
  c3 : w.cell? ⟨B, 3, none⟩ = some a3
  c4 : w.cell? ⟨B, 4, none⟩ = some a4
  f : ∀ j, w.frozen? ⟨B, j, none⟩ = false
theorem row5 {w : World} {B : Nat} {a0 a1 a2 a3 a4 : Value} {T : TypeId} (h : w.heap[B]? = some (.cells #[a0, a1, a2, a3, a4] T)) : Row5 w B a0 a1 a2 a3 a4 :=
  ⟨by simp [World.cell?, h], by simp [World.cell?, h], by simp [World.cell?, h], by simp [World.cell?, h], by simp [World.cell?, h], fun j => frozen_row w B j _ T h⟩
/-- five cells written -/
theorem store5 {w : World} {B : Nat} {a0 a1 a2 a3 a4 : Value} {T : TypeId} (h : w.heap[B]? = some (.cells #[a0, a1, a2, a3, a4] T)) (v0 v1 v2 v3 v4 : Value) :
    ∃ W, ((((w.setCell ⟨B, 0, none⟩ v0).setCell ⟨B, 1, none⟩ v1).setCell ⟨B, 2, none⟩ v2).setCell ⟨B, 3, none⟩ v3).setCell ⟨B, 4, none⟩ v4 = W ∧
      W.heap[B]? = some (.cells #[v0, v1, v2, v3, v4] T) ∧ (∀ C w0, Below C w0 w → C ≤ B → Below C w0 W) ∧ (∀ p : Addr, p.block ≠ B → W.cell? p = w.cell? p) ∧ (∀ base e size v n l, w.ownsRow base e size v n l → B < base → W.ownsRow base e size v n l) := by
  refine ⟨_, rfl, ?_, ?_, ?_, ?_⟩
  · have h0 : (w.setCell ⟨B, 0, none⟩ v0).heap[B]? = some (.cells #[v0, a1, a2, a3, a4] T) := by simpa using heap_setCell_same w B 0 _ T v0 h
    have h1 : ((w.setCell ⟨B, 0, none⟩ v0).setCell ⟨B, 1, none⟩ v1).heap[B]? = some (.cells #[v0, v1, a2, a3, a4] T) := by simpa using heap_setCell_same _ B 1 _ T v1 h0
    have h2 : (((w.setCell ⟨B, 0, none⟩ v0).setCell ⟨B, 1, none⟩ v1).setCell ⟨B, 2, none⟩ v2).heap[B]? = some (.cells #[v0, v1, v2, a3, a4] T) := by simpa using heap_setCell_same _ B 2 _ T v2 h1
    have h3 : ((((w.setCell ⟨B, 0, none⟩ v0).setCell ⟨B, 1, none⟩ v1).setCell ⟨B, 2, none⟩ v2).setCell ⟨B, 3, none⟩ v3).heap[B]? = some (.cells #[v0, v1, v2, v3, a4] T) := by simpa using heap_setCell_same _ B 3 _ T v3 h2
    simpa using heap_setCell_same _ B 4 _ T v4 h3
  · intro C w0 hb hC
    exact ((((hb.setCell hC _).setCell hC _).setCell hC _).setCell hC _).setCell hC _
  · intro p hp
    rw [World.cell?_setCell_far _ _ _ _ (Ne.symm hp), World.cell?_setCell_far _ _ _ _ (Ne.symm hp), World.cell?_setCell_far _ _ _ _ (Ne.symm hp), World.cell?_setCell_far _ _ _ _ (Ne.symm hp), World.cell?_setCell_far _ _ _ _ (Ne.symm hp)]
  · intro base e size v n l ho hb
    exact ownsRow_setCell_below (ownsRow_setCell_below (ownsRow_setCell_below (ownsRow_setCell_below (ownsRow_setCell_below ho hb _) hb _) hb _) hb _) hb _
theorem boxQ (w : World) (a0 a1 a2 a3 a4 : Value) (T : Nat) : ∃ W, w.alloc (.cells #[a0, a1, a2, a3, a4] T) = W ∧ Gr w W ∧ W.heap[w.heap.size]? = some (.cells #[a0, a1, a2, a3, a4] T) :=
  ⟨_, rfl, (Gr.refl w).alloc _, heap_alloc_new w _⟩
set_option maxHeartbeats 1000000 in
set_option maxRecDepth 100000 in
theorem ask_pos (xs : List OpR) (n b off cap cl m2 c2 : Nat) (A2 : Addr) (r : Int) (x : OpR) (w : World) (hn : xs.length = n) (h1 : n ≤ 300) (hcap : n ≤ cap) (hmx : cap ≤ maxLen) (hc : ∀ i x, xs[i]? = some x → OpAt w b (off + i * 3) x) (hx : xs[cl]? = some x)
    (hm2 : (xs.drop (cl + 1)).length = m2) (hA : ∀ W, (Instr.slice 25 (.slice (some ⟨b, off, none⟩) n cap) (some (.int .i64 ((cl : Int) + 1))) none none).run Tryz.prog W = .ok (.slice (some A2) m2 c2) W)
    (hA2 : ∀ j u, (opCs (xs.drop (cl + 1)))[j]? = some u → w.cell? (A2.add j) = some u) :
    Calls Tryz.prog 22 #[.slice (some ⟨b, off, none⟩) n cap, .int .i64 cl, .int .i64 r] w fun e w' => ∃ v, e = .returned (.agg #[.string x.nm, .int .i64 x.lo, .int .i64 x.hi, v, .int .i64 r]) ∧ OpsV w' v (others xs cl) ∧ Gr w w' := by
  have hcl : cl < n := by
    have := (List.getElem?_eq_some_iff.1 hx).1
    omega
  have hm1 : (xs.take cl).length = cl := by rw [List.length_take]; omega
  have hA1 : ∀ j u, (opCs (xs.take cl))[j]? = some u → w.cell? ((⟨b, off, none⟩ : Addr).add j) = some u := opCs_cells fun i y hy => by
    rw [List.getElem?_take] at hy
    split at hy
    · exact hc i y hy
    · cases hy
  have hln : (others xs cl).length = cl + m2 := by unfold others; rw [List.length_append, hm1, hm2]
  have hm2b : m2 ≤ 400 := by rw [← hm2, List.length_drop]; omega
  obtain ⟨c0, c1, c2'⟩ := hc cl x hx
  obtain ⟨W, hW, g, hQ⟩ := boxQ w (.string ⟨#[]⟩) (.int .i64 0) (.int .i64 0) (.slice none 0 0) (.int .i64 0) 67
  have hw : IntKind.i64.wrap ((cl : Int) + 1) = cl + 1 := by rw [IntKind.wrap_i64]; omega
  have hi0 : (0 : Int) ≤ cl := by omega
  have hi1 : (cl : Int) < n := by omega
  have hi2 : (cl : Int) ≤ cap := by omega
  have HCat := Lib.hid (fun (D : Nat) (W2 : World) (hg : Gr w W2) d0 d1 => concat_c (xs.take cl) (xs.drop (cl + 1)) D cl m2 cap c2 2 ⟨b, off, none⟩ A2 W2 hm1 hm2 (by omega) hm2b d0 d1 (fun j u hu => hg.cell (hA1 j u hu)) (fun j u hu => hg.cell (hA2 j u hu)))
  have HLn := Lib.hid hln
  have HW := Lib.hid hW
  have HQ := Lib.hid hQ
  have hbB0 : b ≠ w.heap.size := Nat.ne_of_lt (World.block_lt_of_cell? w _ c0)
  replace c0 := g.cell c0
  replace c1 := g.cell c1
  replace c2' := g.cell c2'
  have hQs : w.heap.size < W.heap.size := by rw [← hW, World.size_alloc]; omega
  clear hc hx hm2 hA2 hm1 hA1 hln hW hQ
  go_enter Tryz.func22, Tryz.ntmps22
  go_wp2_with fail
  rw [HW.out]
  clear HW
  have hsz : w.heap.size ≤ w.heap.size := Nat.le_refl _
  have hbB : b ≠ w.heap.size := hbB0
  generalize hB : w.heap.size = B at *
  have gd := (Gr.refl W).drew
  replace c0 := gd.cell c0
  replace c1 := gd.cell c1
  replace c2' := gd.cell c2'
  replace g := g.trans gd
  replace HQ := Lib.hid (gd.block HQ.out)
  replace hQs := Nat.lt_of_lt_of_le hQs gd.size
  clear gd
  refine wp_region_held_drew (S := (fun w' => w'.cell? ⟨b, off + cl * 3, none⟩ = some (.string x.nm) ∧ w'.cell? ⟨b, off + cl * 3 + 1, none⟩ = some (.int .i64 x.lo) ∧ w'.cell? ⟨b, off + cl * 3 + 2, none⟩ = some (.int .i64 x.hi))) (by kernel_rfl) ⟨c0, c1, c2'⟩ (fun hHeld => ?_)
  generalize W.drew = V at *
  refine wpAnyH_take (i := 0) (v := (.slice (some ⟨b, off, none⟩) n cap)) (op_at rfl) (by kernel_rfl) (by kernel_rfl) (by kernel_rfl) (fun _ _ _ h => h) (Or.inl ⟨rfl, fun w hSw => ?_⟩) (by assumption) ?_
  · (try dsimp only at hSw); go_simp; try with_reducible rfl
  (try simp only [Act.put, List.setIfInBounds_toArray, List.set_cons_zero, List.set_cons_succ])
  refine wpAnyH_take (i := 1) (v := (.int .i64 cl)) (op_at rfl) (by kernel_rfl) (by kernel_rfl) (by kernel_rfl) (fun _ _ _ h => h) (Or.inl ⟨rfl, fun w hSw => ?_⟩) (by assumption) ?_
  · (try dsimp only at hSw); go_simp; try with_reducible rfl
  (try simp only [Act.put, List.setIfInBounds_toArray, List.set_cons_zero, List.set_cons_succ])
  refine wpAnyH_take (i := 2) (v := (.pointer (some ⟨b, off + cl * 3, none⟩))) (op_at rfl) (by kernel_rfl) (by kernel_rfl) (by kernel_rfl) (fun _ _ _ h => h) (Or.inl ⟨rfl, fun w hSw => ?_⟩) (by assumption) ?_
  · (try dsimp only at hSw); go_simp; try with_reducible rfl
  (try simp only [Act.put, List.setIfInBounds_toArray, List.set_cons_zero, List.set_cons_succ])
  refine wpAnyH_take (i := 3) (v := (.agg #[.string x.nm, .int .i64 x.lo, .int .i64 x.hi])) (op_at rfl) (by kernel_rfl) (by kernel_rfl) (by kernel_rfl) (fun _ _ _ h => h) (Or.inl ⟨rfl, fun w hSw => ?_⟩) (by assumption) ?_
  · (try dsimp only at hSw); go_simp; try with_reducible rfl
  (try simp only [Act.put, List.setIfInBounds_toArray, List.set_cons_zero, List.set_cons_succ])
  refine wpAnyH_take (i := 4) (v := (.slice (some ⟨b, off, none⟩) n cap)) (op_at rfl) (by kernel_rfl) (by kernel_rfl) (by kernel_rfl) (fun _ _ _ h => h) (Or.inl ⟨rfl, fun w hSw => ?_⟩) (by assumption) ?_
  · (try dsimp only at hSw); go_simp; try with_reducible rfl
  (try simp only [Act.put, List.setIfInBounds_toArray, List.set_cons_zero, List.set_cons_succ])
  refine wpAnyH_take (i := 5) (v := (.int .i64 cl)) (op_at rfl) (by kernel_rfl) (by kernel_rfl) (by kernel_rfl) (fun _ _ _ h => h) (Or.inl ⟨rfl, fun w hSw => ?_⟩) (by assumption) ?_
  · (try dsimp only at hSw); go_simp; try with_reducible rfl
  (try simp only [Act.put, List.setIfInBounds_toArray, List.set_cons_zero, List.set_cons_succ])
  refine wpAnyH_take (i := 6) (v := (.slice (some ⟨b, off, none⟩) cl cap)) (op_at rfl) (by kernel_rfl) (by kernel_rfl) (by kernel_rfl) (fun _ _ _ h => h) (Or.inl ⟨rfl, fun w hSw => ?_⟩) (by assumption) ?_
  · (try dsimp only at hSw); go_simp; try with_reducible rfl
  (try simp only [Act.put, List.setIfInBounds_toArray, List.set_cons_zero, List.set_cons_succ])
  refine wpAnyH_take (i := 7) (v := (.slice (some ⟨b, off, none⟩) n cap)) (op_at rfl) (by kernel_rfl) (by kernel_rfl) (by kernel_rfl) (fun _ _ _ h => h) (Or.inl ⟨rfl, fun w hSw => ?_⟩) (by assumption) ?_
  · (try dsimp only at hSw); go_simp; try with_reducible rfl
  (try simp only [Act.put, List.setIfInBounds_toArray, List.set_cons_zero, List.set_cons_succ])
  refine wpAnyH_take (i := 8) (v := (.int .i64 cl)) (op_at rfl) (by kernel_rfl) (by kernel_rfl) (by kernel_rfl) (fun _ _ _ h => h) (Or.inl ⟨rfl, fun w hSw => ?_⟩) (by assumption) ?_
  · (try dsimp only at hSw); go_simp; try with_reducible rfl
  (try simp only [Act.put, List.setIfInBounds_toArray, List.set_cons_zero, List.set_cons_succ])
  refine wpAnyH_take (i := 9) (v := (.int .i64 ((cl : Int) + 1))) (op_at rfl) (by kernel_rfl) (by kernel_rfl) (by kernel_rfl) (fun _ _ _ h => h) (Or.inl ⟨rfl, fun w hSw => ?_⟩) (by assumption) ?_
  · (try dsimp only at hSw); go_simp; try with_reducible rfl
  (try simp only [Act.put, List.setIfInBounds_toArray, List.set_cons_zero, List.set_cons_succ])
  refine wpAnyH_take (i := 10) (v := (.slice (some A2) m2 c2)) (op_at rfl) (by kernel_rfl) (by kernel_rfl) (by kernel_rfl) (fun _ _ _ h => h) (Or.inl ⟨rfl, fun w hSw => ?_⟩) (by assumption) ?_
  · (try dsimp only at hSw); go_simp; try with_reducible rfl
  (try simp only [Act.put, List.setIfInBounds_toArray, List.set_cons_zero, List.set_cons_succ])
  refine wpAnyH_take (i := 13) (v := (.int .i64 r)) (op_at rfl) (by kernel_rfl) (by kernel_rfl) (by kernel_rfl) (fun _ _ _ h => h) (Or.inl ⟨rfl, fun w hSw => ?_⟩) (by assumption) ?_
  · (try dsimp only at hSw); go_simp; try with_reducible rfl
  (try simp only [Act.put, List.setIfInBounds_toArray, List.set_cons_zero, List.set_cons_succ])
  refine wpAnyH_ready (rs := [11]) (by kernel_rfl) (by simp) (AllReadyH.cons (op_at rfl) (fun K hK => ?_) AllReadyH.nil)
  go_simp
  obtain ⟨W3, hW3, g3, q0, q1⟩ := box2 V (.slice (some ⟨b, off, none⟩) cl cap) (.slice (some A2) m2 c2) 25
  rw [hW3]
  clear hW3
  replace c0 := g3.cell c0
  replace c1 := g3.cell c1
  replace c2' := g3.cell c2'
  replace g := g.trans g3
  replace HQ := Lib.hid (g3.block HQ.out)
  replace hQs := Nat.lt_of_lt_of_le hQs g3.size
  refine hK.out _ _ ⟨c0, c1, c2'⟩ (fun hHeld => ?_)
  clear hK K
  (try simp only [Act.put, List.setIfInBounds_toArray, List.set_cons_zero, List.set_cons_succ])
  refine wpAnyH_ready (rs := [12]) (by kernel_rfl) (by simp) (AllReadyH.cons (op_at rfl) (fun K hK => ?_) AllReadyH.nil)
  go_simp
  (refine (HCat.out _ W3 g q0 q1).mono ?_; rintro e W4 ⟨v, rfl, hown, hg⟩; have hbase := hQs; replace c0 := hg.cell c0; replace c1 := hg.cell c1; replace c2' := hg.cell c2'; replace g := g.trans hg; replace HQ := Lib.hid (hg.block HQ.out); replace hQs := Nat.lt_of_lt_of_le hQs hg.size; obtain ⟨p3, c3, rfl⟩ := owns_slice hown)
  go_wp2_with fail
  refine hK.out _ _ ⟨c0, c1, c2'⟩ (fun hHeld => ?_)
  clear hK K
  (try simp only [Act.put, List.setIfInBounds_toArray, List.set_cons_zero, List.set_cons_succ])
  refine wpAnyH_take (i := 14) (v := (.agg #[.string x.nm, .int .i64 x.lo, .int .i64 x.hi, (.slice p3 (cl + m2) c3), .int .i64 r])) (op_at rfl) (by kernel_rfl) (by kernel_rfl) (by kernel_rfl) (fun _ _ _ h => h) (Or.inl ⟨rfl, fun w hSw => ?_⟩) (by assumption) ?_
  · (try dsimp only at hSw); go_simp; try with_reducible rfl
  (try simp only [Act.put, List.setIfInBounds_toArray, List.set_cons_zero, List.set_cons_succ])
  refine wpAnyH_ready (rs := [15]) (by kernel_rfl) (by simp) (AllReadyH.cons (op_at rfl) (fun K hK => ?_) AllReadyH.nil)
  obtain ⟨r0, r1, r2, r3, r4, rf⟩ := row5 HQ.out
  have f0 := rf 0
  have f1 := rf 1
  have f2 := rf 2
  have f3 := rf 3
  have f4 := rf 4
  go_simp
  clear r0 r1 r2 r3 r4 rf f0 f1 f2 f3 f4
  obtain ⟨W5, hW5, hrow, hbel, hfar, hkeep⟩ := store5 HQ.out (.string x.nm) (.int .i64 x.lo) (.int .i64 x.hi) (.slice p3 (cl + m2) c3) (.int .i64 r)
  rw [hW5]
  have own5 := hkeep _ _ _ _ _ _ hown hbase
  have g5 : Gr w W5 := hbel _ _ g (by omega)
  replace c0 := (hfar _ hbB).trans c0
  replace c1 := (hfar _ hbB).trans c1
  replace c2' := (hfar _ hbB).trans c2'
  refine hK.out _ _ ⟨c0, c1, c2'⟩ (fun hHeld => ?_)
  clear hK K
  (try simp only [Act.put, List.setIfInBounds_toArray, List.set_cons_zero, List.set_cons_succ])
  refine wpAnyH_done (by kernel_rfl) ?_ _
  obtain ⟨r0, r1, r2, r3, r4, _⟩ := row5 hrow
  have hO : OpsV W5 (.slice p3 (cl + m2) c3) (others xs cl) := opsV_of_owns (by rw [HLn.out]; exact own5)
  clear hHeld hown hkeep hfar hbel hrow hW5
  go_wp2_with fail
  exact bodyPost_ret (v := .agg #[.string x.nm, .int .i64 x.lo, .int .i64 x.hi, .slice p3 (cl + m2) c3, .int .i64 r]) (by simp [results, Tryz.results22, go_sem, r0, r1, r2, r3, r4]) rfl ⟨_, rfl, hO, g5⟩
theorem el38 : Tryz.prog.underlying 25 = some (.slice (Tryz.prog.elem 25)) := by kernel_rfl
theorem sz38 (W : World) : (sizeOf (Tryz.prog.elem 25)).run Tryz.prog W = .ok 3 W := by
  have h : Tryz.prog.elem 25 = 28 := by kernel_rfl
  obtain ⟨i0, hi, hz0, hz1, hz2⟩ := info_parts info75
  rw [h]
  simp [sizeOf, typeInfo, hi, hz1]
theorem ask_c {v : Value} {xs : List OpR} {cl : Nat} {x : OpR} (r : Int) {w : World} (h : OpsV w v xs) (h1 : xs.length ≤ 300) (hx : xs[cl]? = some x) :
    Calls Tryz.prog 22 #[v, .int .i64 cl, .int .i64 r] w fun e w' => ∃ u, e = .returned (.agg #[.string x.nm, .int .i64 x.lo, .int .i64 x.hi, u, .int .i64 r]) ∧ OpsV w' u (others xs cl) ∧ Gr w w' := by
  obtain ⟨⟨p, cap, rfl, hcap, hh⟩⟩ := h
  have hlt := (List.getElem?_eq_some_iff.1 hx).1
  obtain ⟨b, off, rfl, hc⟩ := hh (by omega)
  have hm2 : (xs.drop (cl + 1)).length = xs.length - (cl + 1) := List.length_drop
  have hd : ∀ i y, (xs.drop (cl + 1))[i]? = some y → OpAt w b (off + (cl + 1) * 3 + i * 3) y := fun i y hy => by
    rw [List.getElem?_drop] at hy
    have := hc _ y hy
    rwa [show off + (cl + 1 + i) * 3 = off + (cl + 1) * 3 + i * 3 by omega] at this
  have hi0 : (0 : Int) ≤ (cl : Int) + 1 := by omega
  have hi1 : (cl : Int) + 1 ≤ xs.length := by omega
  have htn : ((cl : Int) + 1).toNat = cl + 1 := by omega
  by_cases hq : cap = cl + 1
  · refine ask_pos xs _ b off cap cl _ (cap - (cl + 1)) ⟨b, off, none⟩ r x w rfl h1 hcap.1 hcap.2 hc hx hm2 (fun W => ?_) (fun j u hu => ?_)
    · rw [run_slice_l W 25 (some ⟨b, off, none⟩) xs.length cap el38 .i64 _ hi0 hi1, sz38]
      simp [sliced, htn, hq, go_sem]
    · have : xs.drop (cl + 1) = [] := List.drop_of_length_le (by omega)
      rw [this] at hu
      simp [opCs] at hu
  · refine ask_pos xs _ b off cap cl _ (cap - (cl + 1)) ⟨b, off + (cl + 1) * 3, none⟩ r x w rfl h1 hcap.1 hcap.2 hc hx hm2 (fun W => ?_) (opCs_cells hd)
    · rw [run_slice_l W 25 (some ⟨b, off, none⟩) xs.length cap el38 .i64 _ hi0 hi1, sz38]
      simp [sliced, htn, hq, go_sem, Addr.add]
end Go.Proofs.YtimbcjldejifaaaGreatDoor
