/- Witnesses: what the law's walk needs: values of the call's own, a copy of the values given, the reference's check of a list of another length. -/
import Derived.Test.YtigmonaggppehaaGreatDoorWitMC
import Derived.Test.YtigmonaggppehaaGreatDoorWitD
namespace Go.Proofs.YtigmonaggppehaaGreatDoor
open Go.RowKit Go.Lib
set_option linter.unusedSimpArgs false
set_option linter.unusedVariables false
/-- an empty row of the call's own has no cell -/
theorem cell_past {W W9 : World} {base N0 : Nat} {T : TypeId} (own : W.ownsRow base T 1 (.slice (some ⟨N0, 0, none⟩) 0 0) 0 []) (gr : W.grownBy W9 (some N0)) {b j : Nat} {a : Value} (hc : W.cell? ⟨b, j, none⟩ = some a) : W9.cell? ⟨b, j, none⟩ = some a := by
  have hlt := World.block_lt_of_cell? W _ hc
  have hb : some N0 ≠ some b := fun e => by
    cases e
    rcases own.2 with ⟨hn, _⟩ | ⟨g, cap', cur, hv, _, hcur, _, _, hsz, _⟩
    · cases hn
    · cases hv
      have : cur = #[] := by
        apply Array.eq_empty_of_size_eq_zero
        omega
      subst this
      simp [World.cell?, hcur] at hc
  rw [World.cell?_of_block (w := W) (gr.block b hlt (fun e => hb e.symm))]
  exact hc
theorem ops_past {W W9 : World} {u : Value} {xs : List OpR} {base N0 : Nat} {T : TypeId} (h : OpsV W u xs) (own : W.ownsRow base T 1 (.slice (some ⟨N0, 0, none⟩) 0 0) 0 []) (gr : W.grownBy W9 (some N0)) : OpsV W9 u xs := by
  obtain ⟨⟨p, cap, rfl, hcap, hh⟩⟩ := h
  refine ⟨p, cap, rfl, hcap, fun h0 => ?_⟩
  obtain ⟨b, off, h1, h2⟩ := hh h0
  exact ⟨b, off, h1, fun i x hx => ⟨cell_past own gr (h2 i x hx).nm, cell_past own gr (h2 i x hx).lo, cell_past own gr (h2 i x hx).hi⟩⟩
theorem ints_past {W W9 : World} {u : Value} {xs : List Int} {base N0 : Nat} {T : TypeId} (h : IntsV W u xs) (own : W.ownsRow base T 1 (.slice (some ⟨N0, 0, none⟩) 0 0) 0 []) (gr : W.grownBy W9 (some N0)) : IntsV W9 u xs := by
  obtain ⟨⟨p, cap, rfl, hh⟩⟩ := h
  refine ⟨p, cap, rfl, fun h0 => ?_⟩
  obtain ⟨b, off, h1, h2⟩ := hh h0
  exact ⟨b, off, h1, fun i x hx => cell_past own gr (h2 i x hx)⟩
theorem ints_of_owns {w : World} {base n : Nat} {v : Value} {xs : List Int} (hn : xs.length = n) (h : w.ownsRow base 3 1 v n (ints xs)) : IntsV w v xs := by
  subst hn
  obtain ⟨⟨p, cap, rfl, hh⟩⟩ := reads_of_owns h
  refine ⟨p, cap, rfl, fun h0 => ?_⟩
  obtain ⟨g, h1, h2⟩ := hh h0
  exact ⟨g, 0, h1, fun i x hx => by rw [Nat.zero_add]; exact h2 i x hx⟩
theorem ints_nil (w : World) : IntsV w (.slice none 0 0) [] := ⟨none, 0, rfl, fun h => absurd h (by simp)⟩
theorem box0 (w : World) (T : TypeId) : ∃ W, w.alloc (.cells #[] T) = W ∧ Gr w W ∧ W.ownsRow w.heap.size T 1 (.slice (some ⟨w.heap.size, 0, none⟩) 0 0) 0 [] :=
  ⟨_, rfl, (Gr.refl w).alloc _, rfl, .inr ⟨w.heap.size, 0, #[], rfl, Nat.le_refl _, heap_alloc_new w _, Nat.le_refl _, by unfold maxLen; omega, rfl, rfl⟩⟩
theorem shape_ne {xs : List OpR} {cl r : Int} (m : Nat) (h : questE xs cl r ≠ 0) : shapeE xs m cl r ≠ 0 := by
  unfold shapeE firstE
  rw [if_neg h]
  exact h
theorem shape_eq {xs : List OpR} {cl r : Int} (m : Nat) (h : questE xs cl r ≠ 0) : shapeE xs m cl r = questE xs cl r := by
  unfold shapeE firstE
  rw [if_neg h]
theorem shape_two {xs : List OpR} {cl r : Int} (m : Nat) (h : questE xs cl r = 0) (hm : m ≠ xs.length) : shapeE xs m cl r = 2 := by
  have hb : ((m : Int) != (xs.length : Int)) = true := by
    rw [bne_iff_ne]
    omega
  unfold shapeE firstE
  rw [if_pos h, hb]
  rfl
/-- a nil slice, appended to an empty row -/
theorem run_append_nil0 {P : Program} {w : World} (t ty e : TypeId) (i : TypeInfo) (ht : P.underlying t = some (.slice e)) (hi : P.info? e = some i) (N0 c : Nat) :
    (Builtin.append_ #[t, t] ty #[.slice (some ⟨N0, 0, none⟩) 0 0, .slice none 0 c]).run P w = .ok (.slice (some ⟨N0, 0, none⟩) 0 0) w := by
  simp [Builtin.append_, run_underlying ht, sizeOf, typeInfo, hi, Builtin.lenOf, Builtin.firstCells, storeCells]
/-- the values given, appended to an empty row of the call's own -/
theorem wp_append_src {P : Program} {W : World} {o : Oper} {a : Act} {K : Act → World → Prop} {Q : Exit → Act → World → Prop} (s x : Operand) (t : TypeId)
    (ho : o.op = .call { callee := .builtin .append, args := #[s, x], argTypes := #[t, t] }) (i : TypeInfo) (ht : P.underlying t = some (.slice 3)) (hi : P.info? 3 = some i) (hz : i.zero = some (.int .i64 0)) (hsize : i.size = 1) (hby : i.bytes = 8)
    (N0 m c2 : Nat) (p2 : Option Addr) (ys : List Int) (hs : a.eval s = .slice (some ⟨N0, 0, none⟩) 0 0) (hown : W.ownsRow N0 3 1 (.slice (some ⟨N0, 0, none⟩) 0 0) 0 []) (hx : a.eval x = .slice p2 m c2) (hI : IntsV W (.slice p2 m c2) ys) (hm : m ≤ 200) (hbase : N0 ≤ W.heap.size)
    (h : ∀ p9 c9 w', w'.ownsRow N0 3 1 (.slice p9 m c9) m (ints ys) → W.grownBy w' (some N0) → K (a.put o.dst (.slice p9 m c9)) w') : o.wp P a W K Q := by
  obtain ⟨⟨p, cap, hv, hh⟩⟩ := hI
  cases hv
  have h1 : ∀ u ∈ ints ys, u.oneCell' = true := by
    intro u hu
    simp [ints] at hu
    obtain ⟨q, _, rfl⟩ := hu
    rfl
  cases p2 with
  | none =>
    have h0 : ys = [] := by
      rcases Nat.eq_zero_or_pos ys.length with h0 | h0
      · exact List.eq_nil_of_length_eq_zero h0
      · obtain ⟨b, off, e, _⟩ := hh h0
        cases e
    subst h0
    have hr := run_append_nil0 (P := P) (w := W) t o.type 3 i ht hi N0 c2
    unfold Oper.wp execOp
    simp only [ho, resolve, invoke, builtin, Sem.run_bind, Sem.run_pure, Result.andThen_ok, List.map_toArray, List.map_cons, List.map_nil, hs, hx, List.length_nil, hr]
    exact h _ _ _ hown ⟨rfl, rfl, rfl, Nat.le_refl _, fun _ _ _ => rfl⟩
  | some ad =>
    refine wp_append_own W s x t ho N0 3 i (.int .i64 0) 1 8 ht hi hz hsize hby rfl (by decide) _ 0 [] hs hown ad ys.length c2 (ints ys) hx (by simp [ints]) ?_ h1 (by unfold maxLen; omega) (by omega) hbase ?_
    · intro j u hu
      simp only [ints, List.getElem?_map, Option.map_eq_some_iff] at hu
      obtain ⟨y, hy, rfl⟩ := hu
      obtain ⟨b, off, e, hd⟩ := hh (by have := (List.getElem?_eq_some_iff.1 hy).1; omega)
      cases e
      rw [Go.WideShapes.add_plain]
      exact hd j y hy
    · intro v9 W9 own9 gr9 _
      rw [Nat.zero_add] at own9
      obtain ⟨p9, c9, hp9⟩ := owns_slice own9
      subst hp9
      exact h _ _ _ own9 gr9
set_option maxRecDepth 100000 in
theorem refWit_len (p p2 : Option Addr) (n c m c2 : Nat) (cl r : Int) (w : World) (hm : ¬ (m : Int) = n) :
    Calls Tryz.prog 11 #[.slice p n c, .int .i64 cl, .int .i64 r, .slice p2 m c2] w fun e w' => e = .returned (.int .i64 2) ∧ w = w' := by
  have hb : ((m : Int) != n) = true := by rw [bne_iff_ne]; exact hm
  go_enter Tryz.func11, Tryz.ntmps11
  go_wp2_with fail
  go_ret
  exact ⟨rfl, rfl⟩
end Go.Proofs.YtigmonaggppehaaGreatDoor
namespace Go.Proofs.YtigmonaggppehaaGreatDoor
open Go.RowKit Go.Lib
set_option linter.unusedSimpArgs false
set_option linter.unusedVariables false
theorem ints_len {w : World} {p : Option Addr} {m c : Nat} {xs : List Int} (h : IntsV w (.slice p m c) xs) : xs.length = m := by
  obtain ⟨⟨p', c', e, _⟩⟩ := h
  cases e
  rfl
theorem ints_slice {w : World} {v : Value} {xs : List Int} {n : Nat} (hn : xs.length = n) (h : IntsV w v xs) : ∃ p c, v = .slice p n c ∧ IntsV w (.slice p n c) xs := by
  obtain ⟨⟨p, cap, rfl, hh⟩⟩ := h
  subst hn
  exact ⟨p, cap, rfl, ⟨p, cap, rfl, hh⟩⟩
set_option maxRecDepth 100000 in
theorem lawW_big {v : Value} {xs : List OpR} {w : World} (cl r : Int) (p2 : Option Addr) (m c2 : Nat) (h : OpsV w v xs) (hm : (200 : Int) < m) (hA : AwakeIn w) :
    Calls Tryz.prog 3 #[v, .agg #[.int .i64 cl, .int .i64 r], .slice p2 m c2] w fun e w' => e = .returned (.bool true) ∧ Gr w w' := by
  have HS := Lib.hid (fun (W : World) (g : Gr w W) => short_c (h.gr g))
  obtain ⟨p, cap, rfl⟩ := opsV_slice h
  have HA := Lib.hid hA
  clear hA h
  generalize xs.length = n at *
  obtain ⟨W, hW, g, a0, a1⟩ := box2 w (.int .i64 cl) (.int .i64 r) 23
  have HW := Lib.hid hW
  clear hW
  go_enter Tryz.func3, Tryz.ntmps3
  go_wp2_with fail
  rw [HW.out]
  generalize w.heap.size = B at *
  clear HW
  refine (HS.out _ g).mono ?_
  rintro e w1 ⟨bb, rfl, hB, hg⟩
  replace g := g.trans hg
  clear hg hB a0 a1
  cases bb
  all_goals
    go_wp2_with fail
    refine (HA.out _ g).mono ?_
    rintro e w2 ⟨rfl, g2⟩
    go_wp2_with fail
    go_ret
    exact ⟨rfl, g.trans g2⟩
set_option maxHeartbeats 1000000 in
set_option maxRecDepth 100000 in
theorem lawW_go (ys L : List Int) {v : Value} {xs : List OpR} {w : World} (cl r E1 E2 : Int) (p2 : Option Addr) (m c2 nL : Nat) (Pb : Bool) (h : OpsV w v xs) (hm : m ≤ 200) (hI : IntsV w (.slice p2 m c2) ys) (hA : AwakeIn w) (hnL : L.length = nL)
    (hWi : ∀ u W, OpsV W u xs → Calls Tryz.prog 7 #[u, .int .i64 cl, .int .i64 r] W fun e W' => ∃ s, e = .returned (.tuple #[s, .int .i64 E1]) ∧ IntsV W' s L ∧ Gr W W')
    (hCh : ∀ u W p9 c9, OpsV W u xs → IntsV W (.slice p9 m c9) ys → Calls Tryz.prog 9 #[u, .int .i64 cl, .int .i64 r, .slice p9 m c9] W fun e W' => e = .returned (.int .i64 E2) ∧ Gr W W')
    (hF : (questE xs cl r ≠ 0 ∧ L = [] ∧ E1 = questE xs cl r ∧ E2 = questE xs cl r) ∨ (questE xs cl r = 0 ∧ (∀ W, Gr w W → Calls Tryz.prog 11 #[v, .int .i64 cl, .int .i64 r, .slice p2 m c2] W fun e W' => e = .returned (.int .i64 E2) ∧ Gr W W') ∧
      (∀ W, Gr w W → Calls Tryz.prog 12 #[v, .int .i64 cl, .int .i64 r] W fun e W' => e = .returned (.bool Pb) ∧ Gr W W') ∧
      ((Pb = false ∧ L = [] ∧ E1 = 23) ∨ (Pb = true ∧ E1 = 0 ∧ ∀ W s, Gr w W → IntsV W s L → Calls Tryz.prog 11 #[v, .int .i64 cl, .int .i64 r, s] W fun e W' => e = .returned (.int .i64 0) ∧ Gr W W')))) :
    Calls Tryz.prog 3 #[v, .agg #[.int .i64 cl, .int .i64 r], .slice p2 m c2] w fun e w' => e = .returned (.bool true) ∧ Gr w w' := by
  have HS := Lib.hid (fun (W : World) (g : Gr w W) => short_c (h.gr g))
  have HOp := Lib.hid (fun (hl : xs.length ≤ 1000) (W : World) (g : Gr w W) => opens_c (h.gr g) hl)
  have HWi := Lib.hid hWi
  have HAs := Lib.hid (fun (W : World) (g : Gr w W) => askedR_c cl r (h.gr g))
  have HCh := Lib.hid hCh
  have HF := Lib.hid hF
  have HnL := Lib.hid hnL
  obtain ⟨i0, hi, hz0, hz1, hz2⟩ := info_parts info3
  obtain ⟨p, cap, rfl⟩ := opsV_slice h
  have HA := Lib.hid hA
  have hm2 : decide ((200 : Int) < m) = false := decide_eq_false (by omega)
  have HI := Lib.hid (fun (W : World) (g : Gr w W) => hI.gr g)
  clear hA h hWi hCh hF hnL hI
  generalize questE xs cl r = E at *
  generalize xs.length = n at *
  obtain ⟨W, hW, g, a0, a1⟩ := box2 w (.int .i64 cl) (.int .i64 r) 23
  have HW := Lib.hid hW
  clear hW
  go_enter Tryz.func3, Tryz.ntmps3
  go_wp2_with fail
  rw [HW.out]
  generalize w.heap.size = B at *
  clear HW
  refine (HS.out _ g).mono ?_
  rintro e w1 ⟨bb, rfl, hB, hg⟩
  replace a0 := hg.cell a0
  replace a1 := hg.cell a1
  replace g := g.trans hg
  clear hg
  cases bb
  · go_wp2_with fail
    refine (HA.out _ g).mono ?_
    rintro e w2 ⟨rfl, g2⟩
    go_wp2_with fail
    go_ret
    exact ⟨rfl, g.trans g2⟩
  replace HOp := Lib.hid (HOp.out (by have := hB rfl; omega))
  clear hB
  go_wp2_with fail
  have gd := (Gr.refl w1).drew
  replace a0 := gd.cell a0
  replace a1 := gd.cell a1
  replace g := g.trans gd
  clear gd
  refine wp_region_held_drew (S := (fun w' => w'.cell? ⟨B, 0, none⟩ = some (.int .i64 cl) ∧ w'.cell? ⟨B, 1, none⟩ = some (.int .i64 r))) (by kernel_rfl) ⟨a0, a1⟩ (fun hHeld => ?_)
  generalize w1.drew = V at *
  refine wpAnyH_take (i := 0) (v := (.slice p n cap)) (op_at rfl) (by kernel_rfl) (by kernel_rfl) (by kernel_rfl) (fun _ _ _ h => h) (Or.inl ⟨rfl, fun w hSw => ?_⟩) (by assumption) ?_
  · (try dsimp only at hSw); go_simp; try with_reducible rfl
  (try simp only [Act.put, List.setIfInBounds_toArray, List.set_cons_zero, List.set_cons_succ])
  refine wpAnyH_take (i := 2) (v := (.pointer (some ⟨B, 0, none⟩))) (op_at rfl) (by kernel_rfl) (by kernel_rfl) (by kernel_rfl) (fun _ _ _ h => h) (Or.inl ⟨rfl, fun w hSw => ?_⟩) (by assumption) ?_
  · (try dsimp only at hSw); go_simp; try with_reducible rfl
  (try simp only [Act.put, List.setIfInBounds_toArray, List.set_cons_zero, List.set_cons_succ])
  refine wpAnyH_take (i := 3) (v := (.int .i64 cl)) (op_at rfl) (by kernel_rfl) (by kernel_rfl) (by kernel_rfl) (fun _ _ _ h => h) (Or.inl ⟨rfl, fun w hSw => ?_⟩) (by assumption) ?_
  · (try dsimp only at hSw); go_simp; try with_reducible rfl
  (try simp only [Act.put, List.setIfInBounds_toArray, List.set_cons_zero, List.set_cons_succ])
  refine wpAnyH_take (i := 4) (v := (.pointer (some ⟨B, 1, none⟩))) (op_at rfl) (by kernel_rfl) (by kernel_rfl) (by kernel_rfl) (fun _ _ _ h => h) (Or.inl ⟨rfl, fun w hSw => ?_⟩) (by assumption) ?_
  · (try dsimp only at hSw); go_simp; try with_reducible rfl
  (try simp only [Act.put, List.setIfInBounds_toArray, List.set_cons_zero, List.set_cons_succ])
  refine wpAnyH_take (i := 5) (v := (.int .i64 r)) (op_at rfl) (by kernel_rfl) (by kernel_rfl) (by kernel_rfl) (fun _ _ _ h => h) (Or.inl ⟨rfl, fun w hSw => ?_⟩) (by assumption) ?_
  · (try dsimp only at hSw); go_simp; try with_reducible rfl
  (try simp only [Act.put, List.setIfInBounds_toArray, List.set_cons_zero, List.set_cons_succ])
  refine wpAnyH_ready (rs := [1]) (by kernel_rfl) (by simp) (AllReadyH.cons (op_at rfl) (fun K hK => ?_) AllReadyH.nil)
  go_simp
  (refine (HOp.out _ g).mono ?_; rintro e W2 ⟨u, rfl, hu, hg⟩; replace a0 := hg.cell a0; replace a1 := hg.cell a1; replace g := g.trans hg; clear hg)
  go_wp2_with fail
  refine hK.out _ _ ⟨a0, a1⟩ (fun hHeld => ?_)
  clear hK K
  (try simp only [Act.put, List.setIfInBounds_toArray, List.set_cons_zero, List.set_cons_succ])
  refine wpAnyH_ready (rs := [6]) (by kernel_rfl) (by simp) (AllReadyH.cons (op_at rfl) (fun K hK => ?_) AllReadyH.nil)
  go_simp
  (refine (HWi.out _ _ hu).mono ?_; rintro e W3 ⟨s, rfl, hw, hg⟩; replace a0 := hg.cell a0; replace a1 := hg.cell a1; replace g := g.trans hg; clear hg hu; obtain ⟨pw, cw, rfl, hw⟩ := ints_slice HnL.out hw)
  go_wp2_with fail
  refine hK.out _ _ ⟨a0, a1⟩ (fun hHeld => ?_)
  clear hK K
  (try simp only [Act.put, List.setIfInBounds_toArray, List.set_cons_zero, List.set_cons_succ])
  refine wpAnyH_take (i := 7) (v := (.tuple #[.slice pw nL cw, .int .i64 E1])) (op_at rfl) (by kernel_rfl) (by kernel_rfl) (by kernel_rfl) (fun _ _ _ h => h) (Or.inl ⟨rfl, fun w hSw => ?_⟩) (by assumption) ?_
  · (try dsimp only at hSw); go_simp; try with_reducible rfl
  (try simp only [Act.put, List.setIfInBounds_toArray, List.set_cons_zero, List.set_cons_succ])
  refine wpAnyH_take (i := 8) (v := (.slice pw nL cw)) (op_at rfl) (by kernel_rfl) (by kernel_rfl) (by kernel_rfl) (fun _ _ _ h => h) (Or.inl ⟨rfl, fun w hSw => ?_⟩) (by assumption) ?_
  · (try dsimp only at hSw); go_simp; try with_reducible rfl
  (try simp only [Act.put, List.setIfInBounds_toArray, List.set_cons_zero, List.set_cons_succ])
  refine wpAnyH_take (i := 9) (v := (.int .i64 E1)) (op_at rfl) (by kernel_rfl) (by kernel_rfl) (by kernel_rfl) (fun _ _ _ h => h) (Or.inl ⟨rfl, fun w hSw => ?_⟩) (by assumption) ?_
  · (try dsimp only at hSw); go_simp; try with_reducible rfl
  (try simp only [Act.put, List.setIfInBounds_toArray, List.set_cons_zero, List.set_cons_succ])
  refine wpAnyH_take (i := 10) (v := (.slice pw nL cw)) (op_at rfl) (by kernel_rfl) (by kernel_rfl) (by kernel_rfl) (fun _ _ _ h => h) (Or.inl ⟨rfl, fun w hSw => ?_⟩) (by assumption) ?_
  · (try dsimp only at hSw); go_simp; try with_reducible rfl
  (try simp only [Act.put, List.setIfInBounds_toArray, List.set_cons_zero, List.set_cons_succ])
  refine wpAnyH_take (i := 11) (v := (.int .i64 E1)) (op_at rfl) (by kernel_rfl) (by kernel_rfl) (by kernel_rfl) (fun _ _ _ h => h) (Or.inl ⟨rfl, fun w hSw => ?_⟩) (by assumption) ?_
  · (try dsimp only at hSw); go_simp; try with_reducible rfl
  (try simp only [Act.put, List.setIfInBounds_toArray, List.set_cons_zero, List.set_cons_succ])
  refine wpAnyH_done (by kernel_rfl) ?_ _
  go_wp2_with fail
  have gd := (Gr.refl W3).drew
  replace a0 := gd.cell a0
  replace a1 := gd.cell a1
  replace hw := hw.gr gd
  replace g := g.trans gd
  clear gd
  refine wp_region_held_drew (S := (fun w' => w'.cell? ⟨B, 0, none⟩ = some (.int .i64 cl) ∧ w'.cell? ⟨B, 1, none⟩ = some (.int .i64 r))) (by kernel_rfl) ⟨a0, a1⟩ (fun hHeld => ?_)
  generalize W3.drew = V4 at *
  refine wpAnyH_take (i := 0) (v := (.slice p n cap)) (op_at rfl) (by kernel_rfl) (by kernel_rfl) (by kernel_rfl) (fun _ _ _ h => h) (Or.inl ⟨rfl, fun w hSw => ?_⟩) (by assumption) ?_
  · (try dsimp only at hSw); go_simp; try with_reducible rfl
  (try simp only [Act.put, List.setIfInBounds_toArray, List.set_cons_zero, List.set_cons_succ])
  refine wpAnyH_take (i := 2) (v := (.pointer (some ⟨B, 0, none⟩))) (op_at rfl) (by kernel_rfl) (by kernel_rfl) (by kernel_rfl) (fun _ _ _ h => h) (Or.inl ⟨rfl, fun w hSw => ?_⟩) (by assumption) ?_
  · (try dsimp only at hSw); go_simp; try with_reducible rfl
  (try simp only [Act.put, List.setIfInBounds_toArray, List.set_cons_zero, List.set_cons_succ])
  refine wpAnyH_take (i := 3) (v := (.int .i64 cl)) (op_at rfl) (by kernel_rfl) (by kernel_rfl) (by kernel_rfl) (fun _ _ _ h => h) (Or.inl ⟨rfl, fun w hSw => ?_⟩) (by assumption) ?_
  · (try dsimp only at hSw); go_simp; try with_reducible rfl
  (try simp only [Act.put, List.setIfInBounds_toArray, List.set_cons_zero, List.set_cons_succ])
  refine wpAnyH_take (i := 4) (v := (.pointer (some ⟨B, 1, none⟩))) (op_at rfl) (by kernel_rfl) (by kernel_rfl) (by kernel_rfl) (fun _ _ _ h => h) (Or.inl ⟨rfl, fun w hSw => ?_⟩) (by assumption) ?_
  · (try dsimp only at hSw); go_simp; try with_reducible rfl
  (try simp only [Act.put, List.setIfInBounds_toArray, List.set_cons_zero, List.set_cons_succ])
  refine wpAnyH_take (i := 5) (v := (.int .i64 r)) (op_at rfl) (by kernel_rfl) (by kernel_rfl) (by kernel_rfl) (fun _ _ _ h => h) (Or.inl ⟨rfl, fun w hSw => ?_⟩) (by assumption) ?_
  · (try dsimp only at hSw); go_simp; try with_reducible rfl
  (try simp only [Act.put, List.setIfInBounds_toArray, List.set_cons_zero, List.set_cons_succ])
  refine wpAnyH_take (i := 7) (v := (.slice p2 m c2)) (op_at rfl) (by kernel_rfl) (by kernel_rfl) (by kernel_rfl) (fun _ _ _ h => h) (Or.inl ⟨rfl, fun w hSw => ?_⟩) (by assumption) ?_
  · (try dsimp only at hSw); go_simp; try with_reducible rfl
  (try simp only [Act.put, List.setIfInBounds_toArray, List.set_cons_zero, List.set_cons_succ])
  refine wpAnyH_ready (rs := [1, 6]) (by kernel_rfl) (by simp) (AllReadyH.cons (op_at rfl) (fun K hK => ?_) (AllReadyH.cons (op_at rfl) (fun K hK => ?_) AllReadyH.nil))
  · go_simp
    (refine (HOp.out _ g).mono ?_; rintro e W5 ⟨u, rfl, hu, hg⟩; replace a0 := hg.cell a0; replace a1 := hg.cell a1; replace hw := hw.gr hg; replace g := g.trans hg)
    go_wp2_with fail
    clear hg
    refine hK.out _ _ ⟨a0, a1⟩ (fun hHeld => ?_)
    clear hK K
    (try simp only [Act.put, List.setIfInBounds_toArray, List.set_cons_zero, List.set_cons_succ])
    refine wpAnyH_ready (rs := [6]) (by kernel_rfl) (by simp) (AllReadyH.cons (op_at rfl) (fun K hK => ?_) AllReadyH.nil)
    go_simp
    have hBN := World.block_lt_of_cell? W5 _ a0
    have hs5 := g.size
    obtain ⟨W6, hW6, g6, own6⟩ := box0 W5 3
    rw [hW6]
    clear hW6
    have hs6 := g6.size
    replace a0 := g6.cell a0
    replace a1 := g6.cell a1
    replace hw := hw.gr g6
    replace g := g.trans g6
    replace hu := hu.gr g6
    refine hK.out _ _ ⟨a0, a1⟩ (fun hHeld => ?_)
    clear hK K
    (try simp only [Act.put, List.setIfInBounds_toArray, List.set_cons_zero, List.set_cons_succ])
    have hI6 := HI.out W6 g
    refine wpAnyH_ready (rs := [8]) (by kernel_rfl) (by simp) (AllReadyH.cons (op_at rfl) (fun K hK => ?_) AllReadyH.nil)
    refine wp_append_src _ _ 24 rfl i0 Tryz.underlying24 hi hz0 hz1 hz2 W5.heap.size m c2 p2 ys rfl own6 rfl hI6 hm hs6 ?_
    intro p9 c9 W9 own9 gr9
    have b9 : Below W5.heap.size W6 W9 := (Below.refl _ W6).grown gr9 hs6 (fun k hk => (own6.lt k hk).1)
    replace a0 := (Below.cell (p := ⟨B, 0, none⟩) b9 hBN).trans a0
    replace a1 := (Below.cell (p := ⟨B, 1, none⟩) b9 hBN).trans a1
    replace g : Gr w W9 := Below.trans g (Below.mono b9 hs5)
    replace hw := ints_past hw own6 gr9
    have hI9 := ints_of_owns (ints_len hI6) own9
    have hu9 : OpsV W9 u xs := ops_past hu own6 gr9
    clear hI6 own9 b9 gr9 own6 hu
    refine hK.out _ _ ⟨a0, a1⟩ (fun hHeld => ?_)
    clear hK K
    (try simp only [Act.put, List.setIfInBounds_toArray, List.set_cons_zero, List.set_cons_succ])
    refine wpAnyH_ready (rs := [9]) (by kernel_rfl) (by simp) (AllReadyH.cons (op_at rfl) (fun K hK => ?_) AllReadyH.nil)
    go_simp
    (refine (HCh.out _ _ _ _ hu9 hI9).mono ?_; rintro e W10 ⟨rfl, hg⟩; replace a0 := hg.cell a0; replace a1 := hg.cell a1; replace hw := hw.gr hg; replace g := g.trans hg; clear hg hu9 hI9)
    go_wp2_with fail
    refine hK.out _ _ ⟨a0, a1⟩ (fun hHeld => ?_)
    clear hK K
    (try simp only [Act.put, List.setIfInBounds_toArray, List.set_cons_zero, List.set_cons_succ])
    refine wpAnyH_take (i := 10) (v := (.int .i64 E2)) (op_at rfl) (by kernel_rfl) (by kernel_rfl) (by kernel_rfl) (fun _ _ _ h => h) (Or.inl ⟨rfl, fun w hSw => ?_⟩) (by assumption) ?_
    · (try dsimp only at hSw); go_simp; try with_reducible rfl
    (try simp only [Act.put, List.setIfInBounds_toArray, List.set_cons_zero, List.set_cons_succ])
    refine wpAnyH_done (by kernel_rfl) ?_ _
    go_wp2_with fail
    refine (HAs.out _ g).mono ?_
    rintro e W11 ⟨rfl, hg⟩
    replace a0 := hg.cell a0; replace a1 := hg.cell a1; replace hw := hw.gr hg; replace g := g.trans hg
    clear hg
    rcases HF.out with ⟨hE, hL, rfl, rfl⟩ | ⟨rfl, HRC, HRP, hP⟩
    · have hzE : (E2 != 0) = true := by rw [bne_iff_ne]; exact hE
      have hn0 : nL = 0 := by rw [← HnL.out, hL]; rfl
      subst hn0
      clear HF HWi HCh HS HAs HOp hE
      go_wp2_with fail
      refine (HA.out _ g).mono ?_
      rintro e W12 ⟨rfl, hg⟩
      go_wp2_with fail
      go_ret
      exact ⟨rfl, g.trans hg⟩
    · replace HRC := Lib.hid HRC
      replace HRP := Lib.hid HRP
      clear HF HWi HCh HS HAs HOp
      go_wp2_with fail
      refine (HRC.out _ g).mono ?_
      rintro e W12 ⟨rfl, hg⟩
      replace a0 := hg.cell a0; replace a1 := hg.cell a1; replace hw := hw.gr hg; replace g := g.trans hg
      clear hg
      go_wp2_with fail
      refine (HRP.out _ g).mono ?_
      rintro e W13 ⟨rfl, hg⟩
      replace a0 := hg.cell a0; replace a1 := hg.cell a1; replace hw := hw.gr hg; replace g := g.trans hg
      clear hg
      rcases hP with ⟨rfl, hL, rfl⟩ | ⟨rfl, rfl, HRW⟩
      · have hn0 : nL = 0 := by rw [← HnL.out, hL]; rfl
        subst hn0
        clear HRC HRP
        go_wp2_with fail
        refine (HA.out _ g).mono ?_
        rintro e W14 ⟨rfl, hg⟩
        go_wp2_with fail
        go_ret
        exact ⟨rfl, g.trans hg⟩
      · replace HRW := Lib.hid HRW
        clear HRC HRP
        go_wp2_with fail
        refine (HRW.out _ _ g hw).mono ?_
        rintro e W14 ⟨rfl, hg⟩
        replace a0 := hg.cell a0; replace a1 := hg.cell a1; replace hw := hw.gr hg; replace g := g.trans hg
        clear hg
        go_wp2_with fail
        refine (HA.out _ g).mono ?_
        rintro e W15 ⟨rfl, hg⟩
        go_wp2_with fail
        go_ret
        exact ⟨rfl, g.trans hg⟩
  · go_simp
    have hBN := World.block_lt_of_cell? V4 _ a0
    have hs5 := g.size
    obtain ⟨W6, hW6, g6, own6⟩ := box0 V4 3
    rw [hW6]
    clear hW6
    have hs6 := g6.size
    replace a0 := g6.cell a0
    replace a1 := g6.cell a1
    replace hw := hw.gr g6
    replace g := g.trans g6
    refine hK.out _ _ ⟨a0, a1⟩ (fun hHeld => ?_)
    clear hK K
    (try simp only [Act.put, List.setIfInBounds_toArray, List.set_cons_zero, List.set_cons_succ])
    refine wpAnyH_ready (rs := [1]) (by kernel_rfl) (by simp) (AllReadyH.cons (op_at rfl) (fun K hK => ?_) AllReadyH.nil)
    go_simp
    (refine (HOp.out _ g).mono ?_; rintro e W5 ⟨u, rfl, hu, hg⟩; replace a0 := hg.cell a0; replace a1 := hg.cell a1; replace hw := hw.gr hg; replace g := g.trans hg)
    go_wp2_with fail
    replace own6 := own_gr own6 hg
    replace hs6 := Nat.le_trans hs6 hg.size
    clear hg
    refine hK.out _ _ ⟨a0, a1⟩ (fun hHeld => ?_)
    clear hK K
    (try simp only [Act.put, List.setIfInBounds_toArray, List.set_cons_zero, List.set_cons_succ])
    have hI6 := HI.out W5 g
    refine wpAnyH_ready (rs := [8]) (by kernel_rfl) (by simp) (AllReadyH.cons (op_at rfl) (fun K hK => ?_) AllReadyH.nil)
    refine wp_append_src _ _ 24 rfl i0 Tryz.underlying24 hi hz0 hz1 hz2 V4.heap.size m c2 p2 ys rfl own6 rfl hI6 hm hs6 ?_
    intro p9 c9 W9 own9 gr9
    have b9 : Below V4.heap.size W5 W9 := (Below.refl _ W5).grown gr9 hs6 (fun k hk => (own6.lt k hk).1)
    replace a0 := (Below.cell (p := ⟨B, 0, none⟩) b9 hBN).trans a0
    replace a1 := (Below.cell (p := ⟨B, 1, none⟩) b9 hBN).trans a1
    replace g : Gr w W9 := Below.trans g (Below.mono b9 hs5)
    replace hw := ints_past hw own6 gr9
    have hI9 := ints_of_owns (ints_len hI6) own9
    have hu9 : OpsV W9 u xs := ops_past hu own6 gr9
    clear hI6 own9 b9 gr9 own6 hu
    refine hK.out _ _ ⟨a0, a1⟩ (fun hHeld => ?_)
    clear hK K
    (try simp only [Act.put, List.setIfInBounds_toArray, List.set_cons_zero, List.set_cons_succ])
    refine wpAnyH_ready (rs := [9]) (by kernel_rfl) (by simp) (AllReadyH.cons (op_at rfl) (fun K hK => ?_) AllReadyH.nil)
    go_simp
    (refine (HCh.out _ _ _ _ hu9 hI9).mono ?_; rintro e W10 ⟨rfl, hg⟩; replace a0 := hg.cell a0; replace a1 := hg.cell a1; replace hw := hw.gr hg; replace g := g.trans hg; clear hg hu9 hI9)
    go_wp2_with fail
    refine hK.out _ _ ⟨a0, a1⟩ (fun hHeld => ?_)
    clear hK K
    (try simp only [Act.put, List.setIfInBounds_toArray, List.set_cons_zero, List.set_cons_succ])
    refine wpAnyH_take (i := 10) (v := (.int .i64 E2)) (op_at rfl) (by kernel_rfl) (by kernel_rfl) (by kernel_rfl) (fun _ _ _ h => h) (Or.inl ⟨rfl, fun w hSw => ?_⟩) (by assumption) ?_
    · (try dsimp only at hSw); go_simp; try with_reducible rfl
    (try simp only [Act.put, List.setIfInBounds_toArray, List.set_cons_zero, List.set_cons_succ])
    refine wpAnyH_done (by kernel_rfl) ?_ _
    go_wp2_with fail
    refine (HAs.out _ g).mono ?_
    rintro e W11 ⟨rfl, hg⟩
    replace a0 := hg.cell a0; replace a1 := hg.cell a1; replace hw := hw.gr hg; replace g := g.trans hg
    clear hg
    rcases HF.out with ⟨hE, hL, rfl, rfl⟩ | ⟨rfl, HRC, HRP, hP⟩
    · have hzE : (E2 != 0) = true := by rw [bne_iff_ne]; exact hE
      have hn0 : nL = 0 := by rw [← HnL.out, hL]; rfl
      subst hn0
      clear HF HWi HCh HS HAs HOp hE
      go_wp2_with fail
      refine (HA.out _ g).mono ?_
      rintro e W12 ⟨rfl, hg⟩
      go_wp2_with fail
      go_ret
      exact ⟨rfl, g.trans hg⟩
    · replace HRC := Lib.hid HRC
      replace HRP := Lib.hid HRP
      clear HF HWi HCh HS HAs HOp
      go_wp2_with fail
      refine (HRC.out _ g).mono ?_
      rintro e W12 ⟨rfl, hg⟩
      replace a0 := hg.cell a0; replace a1 := hg.cell a1; replace hw := hw.gr hg; replace g := g.trans hg
      clear hg
      go_wp2_with fail
      refine (HRP.out _ g).mono ?_
      rintro e W13 ⟨rfl, hg⟩
      replace a0 := hg.cell a0; replace a1 := hg.cell a1; replace hw := hw.gr hg; replace g := g.trans hg
      clear hg
      rcases hP with ⟨rfl, hL, rfl⟩ | ⟨rfl, rfl, HRW⟩
      · have hn0 : nL = 0 := by rw [← HnL.out, hL]; rfl
        subst hn0
        clear HRC HRP
        go_wp2_with fail
        refine (HA.out _ g).mono ?_
        rintro e W14 ⟨rfl, hg⟩
        go_wp2_with fail
        go_ret
        exact ⟨rfl, g.trans hg⟩
      · replace HRW := Lib.hid HRW
        clear HRC HRP
        go_wp2_with fail
        refine (HRW.out _ _ g hw).mono ?_
        rintro e W14 ⟨rfl, hg⟩
        replace a0 := hg.cell a0; replace a1 := hg.cell a1; replace hw := hw.gr hg; replace g := g.trans hg
        clear hg
        go_wp2_with fail
        refine (HA.out _ g).mono ?_
        rintro e W15 ⟨rfl, hg⟩
        go_wp2_with fail
        go_ret
        exact ⟨rfl, g.trans hg⟩
end Go.Proofs.YtigmonaggppehaaGreatDoor
namespace Go.Proofs.YtigmonaggppehaaGreatDoor
open Go.RowKit Go.Lib
set_option linter.unusedSimpArgs false
set_option linter.unusedVariables false
theorem refWit_I {xs : List OpR} {ys : List Int} {v s : Value} {w : World} {cl : Nat} {y r : Int} (h : OpsV w v xs) (hI : IntsV w s ys) (hlen : ys.length = xs.length) (h1 : xs.length ≤ 1000) (hy : ys[cl]? = some y) :
    Calls Tryz.prog 11 #[v, .int .i64 cl, .int .i64 r, s] w fun e w' => e = .returned (.int .i64 (witE xs ys y r)) ∧ Gr w w' := by
  have h0 : 0 < xs.length := by
    have := (List.getElem?_eq_some_iff.1 hy).1
    omega
  obtain ⟨⟨p, cap, rfl, hcap, hh⟩⟩ := h
  obtain ⟨⟨p2, c2, rfl, h2⟩⟩ := hI
  obtain ⟨b, off, rfl, hc⟩ := hh h0
  obtain ⟨b2, o2, rfl, hd⟩ := h2 (by omega)
  rw [hlen]
  exact refWit_pos xs ys _ b off cap b2 o2 c2 cl r y w rfl hlen h1 hc hd hy
theorem checkWit_I {xs : List OpR} {ys : List Int} {v s : Value} {w : World} {cl : Nat} {y r : Int} (h : OpsV w v xs) (hI : IntsV w s ys) (hlen : ys.length = xs.length) (h1 : xs.length ≤ 1000) (hy : ys[cl]? = some y) (hE : questE xs cl r = 0) :
    Calls Tryz.prog 9 #[v, .int .i64 cl, .int .i64 r, s] w fun e w' => e = .returned (.int .i64 (witE xs ys y r)) ∧ Gr w w' := by
  have h0 : 0 < xs.length := by
    have := (List.getElem?_eq_some_iff.1 hy).1
    omega
  have h' := h
  obtain ⟨⟨p, cap, rfl, hcap, hh⟩⟩ := h
  obtain ⟨⟨p2, c2, rfl, h2⟩⟩ := hI
  obtain ⟨b, off, rfl, hc⟩ := hh h0
  obtain ⟨b2, o2, rfl, hd⟩ := h2 (by omega)
  rw [hlen]
  exact checkWit_ok xs ys _ b off cap b2 o2 c2 cl r y w rfl hlen h1 h' hc hd hy hE
theorem possible_I {xs : List OpR} {v : Value} {w : World} {cl : Nat} {x : OpR} {r : Int} (h : OpsV w v xs) (h1 : xs.length ≤ 1000) (hx : xs[cl]? = some x) (hl : 0 ≤ x.lo) (hlh : x.lo ≤ x.hi) (hh : x.hi ≤ 99999) (hr0 : 1 ≤ r) (hr1 : r ≤ 1000) :
    Calls Tryz.prog 12 #[v, .int .i64 cl, .int .i64 r] w fun e w' => e = .returned (.bool (possB xs cl r x)) ∧ Gr w w' := by
  have h0 : 0 < xs.length := by
    have := (List.getElem?_eq_some_iff.1 hx).1
    omega
  obtain ⟨⟨p, cap, rfl, hcap, hh'⟩⟩ := h
  obtain ⟨b, off, rfl, hc⟩ := hh' h0
  refine (possible_c xs _ b off cap cl r x w rfl h1 hc hx hl hlh hh (by omega) hr1).mono ?_
  rintro e w' ⟨rfl, rfl⟩
  exact ⟨rfl, Gr.refl _⟩
theorem witness_I (hS : SortOK) {xs : List OpR} {v : Value} {w : World} {cl : Nat} {x : OpR} {r : Int} (h : OpsV w v xs) (hE : questE xs cl r = 0) (hx : xs[cl]? = some x) (h1 : xs.length ≤ 160) (hr0 : 1 ≤ r) (hr1 : r ≤ 1000) (hP : isPoss x.lo x.hi (others xs cl) r = true) :
    Calls Tryz.prog 7 #[v, .int .i64 cl, .int .i64 r] w fun e w' => ∃ s, e = .returned (.tuple #[s, .int .i64 0]) ∧ IntsV w' s (witL cl (turnV x.lo (others xs cl) r) xs 0 (r - 1 - cntV (fun y => y.lo) (turnV x.lo (others xs cl) r) (others xs cl))) ∧ Gr w w' := by
  have h0 : 0 < xs.length := by
    have := (List.getElem?_eq_some_iff.1 hx).1
    omega
  have h' := h
  obtain ⟨⟨p, cap, rfl, hcap, hh'⟩⟩ := h
  obtain ⟨b, off, rfl, hc⟩ := hh' h0
  refine (witness_some hS _ b off cap cl r x rfl h' hc hE hx h1 hr0 hr1 hP).mono ?_
  rintro e w' ⟨s, rfl, ho, g⟩
  exact ⟨s, rfl, ints_of_owns (witL_len _ _ _ _ _) ho, g⟩
theorem lawWit_c (hS : SortOK) {v : Value} {xs : List OpR} {w : World} (ys : List Int) (cl r : Int) (p2 : Option Addr) (m c2 : Nat) (h : OpsV w v xs) (hI : IntsV w (.slice p2 m c2) ys) (hA : AwakeIn w) :
    Calls Tryz.prog 3 #[v, .agg #[.int .i64 cl, .int .i64 r], .slice p2 m c2] w fun e w' => e = .returned (.bool true) ∧ Gr w w' := by
  by_cases hm : m ≤ 200
  case neg => exact lawW_big cl r p2 m c2 h (by omega) hA
  have hym := ints_len hI
  by_cases hE : questE xs cl r = 0
  case neg =>
    exact lawW_go ys [] cl r _ _ p2 m c2 0 false h hm hI hA rfl
      (fun u W hu => (witness_err cl r hu hE).mono fun e W' ⟨he, g⟩ => ⟨_, he, ints_nil _, g⟩)
      (fun u W p9 c9 hu _ => by
        have := checkWit_err cl r p9 m c9 hu (shape_ne m hE)
        rw [shape_eq m hE] at this
        exact this)
      (.inl ⟨hE, rfl, rfl, rfl⟩)
  obtain ⟨hE0, hc0, hc1, hr0, hr1⟩ := quest_ok hE
  have hok := ok_of hE0
  have hl := hok.len
  obtain ⟨c, rfl⟩ : ∃ c : Nat, cl = c := ⟨cl.toNat, by omega⟩
  obtain ⟨x, hx⟩ : ∃ x, xs[c]? = some x := ⟨xs[c]'(by omega), List.getElem?_eq_getElem _⟩
  obtain ⟨hx0, hx1, hx2⟩ := hok.ends c x hx
  obtain ⟨E2, hCh, hRC⟩ : ∃ E2 : Int, (∀ u W p9 c9, OpsV W u xs → IntsV W (.slice p9 m c9) ys → Calls Tryz.prog 9 #[u, .int .i64 c, .int .i64 r, .slice p9 m c9] W fun e W' => e = .returned (.int .i64 E2) ∧ Gr W W') ∧
      (∀ W, Gr w W → Calls Tryz.prog 11 #[v, .int .i64 c, .int .i64 r, .slice p2 m c2] W fun e W' => e = .returned (.int .i64 E2) ∧ Gr W W') := by
    by_cases hlen : m = xs.length
    · obtain ⟨y, hy⟩ : ∃ y, ys[c]? = some y := ⟨ys[c]'(by omega), List.getElem?_eq_getElem _⟩
      exact ⟨witE xs ys y r, fun u W p9 c9 hu h9 => checkWit_I hu h9 (by omega) (by omega) hy hE, fun W g => refWit_I (h.gr g) (hI.gr g) (by omega) (by omega) hy⟩
    · refine ⟨2, fun u W p9 c9 hu _ => ?_, fun W g => ?_⟩
      · have hs := shape_two m hE hlen
        have := checkWit_err (c : Int) r p9 m c9 hu (by rw [hs]; decide)
        rw [hs] at this
        exact this
      · obtain ⟨p, cap, rfl⟩ := opsV_slice h
        refine (refWit_len p p2 _ cap m c2 c r W (by omega)).mono ?_
        rintro e w' ⟨rfl, rfl⟩
        exact ⟨rfl, Gr.refl _⟩
  have hps := poss_same xs c x hr0 hx1
  by_cases hP : possB xs c r x = true
  · refine lawW_go ys _ c r 0 E2 p2 m c2 _ true h hm hI hA rfl
      (fun u W hu => witness_I hS hu hE hx hl hr0 (by omega) (by rw [← hps]; exact hP)) hCh
      (.inr ⟨hE, hRC, fun W g => ?_, .inr ⟨rfl, rfl, fun W s g hs => ?_⟩⟩)
    · have := possible_I (r := r) (h.gr g) (by omega) hx hx0 hx1 hx2 hr0 (by omega)
      rw [hP] at this
      exact this
    · have hg := wit_good xs c x r hx (fun j x hx => (hok.ends j x hx).2.1) hr0 hP
      have := refWit_I (r := r) (h.gr g) hs (witL_len _ _ _ _ _) (by omega) (witL_at c _ xs 0 _ c (by omega) (by omega))
      rw [hg] at this
      exact this
  · have hP' : possB xs c r x = false := by simpa using hP
    refine lawW_go ys [] c r 23 E2 p2 m c2 0 false h hm hI hA rfl
      (fun u W hu => (witness_none hS c r x hu hE hx hl hr0 (by omega) (by rw [← hps]; exact hP')).mono fun e W' ⟨he, g⟩ => ⟨_, he, ints_nil _, g⟩) hCh
      (.inr ⟨hE, hRC, fun W g => ?_, .inl ⟨rfl, rfl, rfl⟩⟩)
    have := possible_I (r := r) (h.gr g) (by omega) hx hx0 hx1 hx2 hr0 (by omega)
    rw [hP'] at this
    exact this
end Go.Proofs.YtigmonaggppehaaGreatDoor
