/- StartForwards: the reference's insert into an empty list; insert at all. -/
import Derived.Test.YtenhodepaoaiiaaGreatDoorFwA
namespace Go.Proofs.YtenhodepaoaiiaaGreatDoor
open Go.RowKit Go.Lib
set_option linter.unusedSimpArgs false
set_option linter.unusedVariables false
set_option maxHeartbeats 4000000
set_option maxRecDepth 100000
theorem step_nil {w : World} {o : Oper} {a : Act} {K : Act → World → Prop} {Q : Exit → Act → World → Prop} (s x : Operand) (ho : o.op = .call { callee := .builtin .append, args := #[s, x], argTypes := #[40, 40] })
    (base : Nat) (v : Value) (n : Nat) (zs : List Value) (hs : a.eval s = v) (hown : w.ownsRow base 3 1 v n zs) (c : Nat) (hx : a.eval x = .slice none 0 c)
    (h : K (a.put o.dst v) w) : Oper.wp Tryz.prog o a w K Q := by
  obtain ⟨i1, hj, hy0, hy1, hy2⟩ := info_parts info3
  have hr : (Builtin.append_ #[40, 40] o.type #[v, .slice none 0 c]).run Tryz.prog w = .ok v w := by
    rcases hown.2 with ⟨rfl, rfl⟩ | ⟨g, cap, cur, rfl, _, _, hnc, _⟩
    · simp [Builtin.append_, run_underlying Tryz.underlying40, sizeOf, typeInfo, hj, Builtin.lenOf, Builtin.firstCells]
    · simp [Builtin.append_, run_underlying Tryz.underlying40, sizeOf, typeInfo, hj, Builtin.lenOf, Builtin.firstCells, hnc, storeCells]
  unfold Oper.wp
  simp [execOp, ho, resolve, invoke, builtin, hs, hx, hr, Result.andThen]
  exact h
theorem insert_nil (x : Nat) (w : World) :
    Calls Tryz.prog 52 #[.slice none 0 0, .int .i64 0, .int .i64 x] w fun e w' => ∃ v, e = .returned v ∧ w'.ownsRow w.heap.size 3 1 v 1 (nats [x]) ∧ Gr w w' := by
  go_enter Tryz.func52, Tryz.ntmps52
  go_wp2_with fail
  refine wp_region_held_drew (S := fun W => Gr w W) (by kernel_rfl) ((Gr.refl w).drew) (fun hHeld => ?_)
  refine wpAnyH_take (i := 1) (v := .slice none 0 0) (op_at rfl) (by kernel_rfl) (by kernel_rfl) (by kernel_rfl) (fun _ _ _ h => h) (Or.inl ⟨rfl, fun w hSw => ?_⟩) (by assumption) ?_
  · (try dsimp only at hSw); go_simp; try with_reducible rfl
  (try simp only [Act.put, List.setIfInBounds_toArray, List.set_cons_zero, List.set_cons_succ])
  refine wpAnyH_take (i := 2) (v := .int .i64 0) (op_at rfl) (by kernel_rfl) (by kernel_rfl) (by kernel_rfl) (fun _ _ _ h => h) (Or.inl ⟨rfl, fun w hSw => ?_⟩) (by assumption) ?_
  · (try dsimp only at hSw); go_simp; try with_reducible rfl
  (try simp only [Act.put, List.setIfInBounds_toArray, List.set_cons_zero, List.set_cons_succ])
  refine wpAnyH_take (i := 3) (v := .slice none 0 0) (op_at rfl) (by kernel_rfl) (by kernel_rfl) (by kernel_rfl) (fun _ _ _ h => h) (Or.inl ⟨rfl, fun w hSw => ?_⟩) (by assumption) ?_
  · (try dsimp only at hSw); go_simp; try with_reducible rfl
  (try simp only [Act.put, List.setIfInBounds_toArray, List.set_cons_zero, List.set_cons_succ])
  refine wpAnyH_take (i := 5) (v := .int .i64 x) (op_at rfl) (by kernel_rfl) (by kernel_rfl) (by kernel_rfl) (fun _ _ _ h => h) (Or.inl ⟨rfl, fun w hSw => ?_⟩) (by assumption) ?_
  · (try dsimp only at hSw); go_simp; try with_reducible rfl
  (try simp only [Act.put, List.setIfInBounds_toArray, List.set_cons_zero, List.set_cons_succ])
  refine wpAnyH_take (i := 8) (v := .slice none 0 0) (op_at rfl) (by kernel_rfl) (by kernel_rfl) (by kernel_rfl) (fun _ _ _ h => h) (Or.inl ⟨rfl, fun w hSw => ?_⟩) (by assumption) ?_
  · (try dsimp only at hSw); go_simp; try with_reducible rfl
  (try simp only [Act.put, List.setIfInBounds_toArray, List.set_cons_zero, List.set_cons_succ])
  refine wpAnyH_take (i := 9) (v := .int .i64 0) (op_at rfl) (by kernel_rfl) (by kernel_rfl) (by kernel_rfl) (fun _ _ _ h => h) (Or.inl ⟨rfl, fun w hSw => ?_⟩) (by assumption) ?_
  · (try dsimp only at hSw); go_simp; try with_reducible rfl
  (try simp only [Act.put, List.setIfInBounds_toArray, List.set_cons_zero, List.set_cons_succ])
  refine wpAnyH_take (i := 10) (v := .slice none 0 0) (op_at rfl) (by kernel_rfl) (by kernel_rfl) (by kernel_rfl) (fun _ _ _ h => h) (Or.inl ⟨rfl, fun w hSw => ?_⟩) (by assumption) ?_
  · (try dsimp only at hSw); go_simp; try with_reducible rfl
  (try simp only [Act.put, List.setIfInBounds_toArray, List.set_cons_zero, List.set_cons_succ])
  have hsz : w.heap.size ≤ w.drew.heap.size := Nat.le_refl _
  generalize w.drew = W0 at *
  refine wpAnyH_ready (rs := [0, 6]) (by kernel_rfl) (by simp) (AllReadyH.cons (op_at rfl) (fun K hK => ?_) (AllReadyH.cons (op_at rfl) (fun K hK => ?_) AllReadyH.nil))
  · go_simp
    refine hK.out _ _ (hHeld.alloc _) (fun hHeld => ?_)
    clear hK K
    (try simp only [Act.put, List.setIfInBounds_toArray, List.set_cons_zero, List.set_cons_succ])
    have hE : (W0.alloc (.cells #[] 3)).heap[W0.heap.size]? = some (.cells #[] 3 (0, 0)) := heap_alloc_new _ _
    have hs1 : W0.heap.size < (W0.alloc (.cells #[] 3)).heap.size := by simp
    generalize W0.alloc (.cells #[] 3) = Wa at *
    refine wpAnyH_ready (rs := [4, 6]) (by kernel_rfl) (by simp) (AllReadyH.cons (op_at rfl) (fun K hK => ?_) (AllReadyH.cons (op_at rfl) (fun K hK => ?_) AllReadyH.nil))
    · rw [if_pos (show Region.wanted _ _ = true from rfl)]
      refine step_nil _ _ rfl w.heap.size (.slice (some ⟨W0.heap.size, 0, none⟩) 0 0) 0 (nats []) rfl (own_empty (g := W0.heap.size) (base := w.heap.size) hE (by omega)) 0 rfl ?_
      refine hK.out _ _ hHeld (fun hHeld => ?_)
      clear hK K
      (try simp only [Act.put, List.setIfInBounds_toArray, List.set_cons_zero, List.set_cons_succ])
      refine wpAnyH_ready (rs := [6]) (by kernel_rfl) (by simp) (AllReadyH.cons (op_at rfl) (fun K hK => ?_) AllReadyH.nil)
      go_simp
      refine hK.out _ _ (hHeld.alloc _) (fun hHeld => ?_)
      clear hK K
      (try simp only [Act.put, List.setIfInBounds_toArray, List.set_cons_zero, List.set_cons_succ])
      have hX : (Wa.alloc (.cells #[.int .i64 (x : Int)] 3)).cell? ⟨Wa.heap.size, 0, none⟩ = some (.int .i64 (x : Int)) := cell_new Wa #[.int .i64 (x : Int)] 3 0 (by simp)
      have hMid := (own_empty (g := W0.heap.size) (base := w.heap.size) hE (by omega)).alloc (.cells #[.int .i64 (x : Int)] 3)
      generalize Wa.alloc (.cells #[.int .i64 (x : Int)] 3) = Wm at *
      refine wpAnyH_ready (rs := [7]) (by kernel_rfl) (by simp) (AllReadyH.cons (op_at rfl) (fun K hK => ?_) AllReadyH.nil)
      rw [if_pos (show Region.wanted _ _ = true from rfl)]
      refine step_nats _ _ rfl w.heap.size (.slice (some ⟨W0.heap.size, 0, none⟩) 0 0) [] [x] 0 1 rfl rfl rfl hMid ⟨Wa.heap.size, 0, none⟩ 1 rfl (fun j u hu => by
        match j, hu with
        | 0, hu => simp [nats] at hu; subst hu; exact hX
        | j + 1, hu => simp [nats] at hu) (by omega) hHeld.size (fun v2 W2 hown2 hgr2 _ => ?_)
      have hG2 : Gr w W2 := Below.grown hHeld hgr2 hHeld.size (fun j hj => (hMid.lt j hj).1)
      refine hK.out _ _ hG2 (fun hHeld => ?_)
      clear hK K
      (try simp only [Act.put, List.setIfInBounds_toArray, List.set_cons_zero, List.set_cons_succ])
      refine wpAnyH_ready (rs := [11]) (by kernel_rfl) (by simp) (AllReadyH.cons (op_at rfl) (fun K hK => ?_) AllReadyH.nil)
      rw [if_pos (show Region.wanted _ _ = true from rfl)]
      refine step_nil _ _ rfl w.heap.size v2 _ _ rfl hown2 0 rfl ?_
      refine hK.out _ _ hG2 (fun hHeld => ?_)
      clear hK K
      (try simp only [Act.put, List.setIfInBounds_toArray, List.set_cons_zero, List.set_cons_succ])
      refine wpAnyH_take (i := 12) (v := v2) (op_at rfl) (by kernel_rfl) (by kernel_rfl) (by kernel_rfl) (fun _ _ _ h => h) (Or.inl ⟨rfl, fun w hSw => ?_⟩) (by assumption) ?_
      · (try dsimp only at hSw); go_simp; try with_reducible rfl
      (try simp only [Act.put, List.setIfInBounds_toArray, List.set_cons_zero, List.set_cons_succ])
      refine wpAnyH_done (by kernel_rfl) ?_ _
      go_wp2_with fail
      go_ret
      exact ⟨v2, rfl, hown2, hG2⟩
    · go_simp
      refine hK.out _ _ (hHeld.alloc _) (fun hHeld => ?_)
      clear hK K
      (try simp only [Act.put, List.setIfInBounds_toArray, List.set_cons_zero, List.set_cons_succ])
      have hX : (Wa.alloc (.cells #[.int .i64 (x : Int)] 3)).cell? ⟨Wa.heap.size, 0, none⟩ = some (.int .i64 (x : Int)) := cell_new Wa #[.int .i64 (x : Int)] 3 0 (by simp)
      have hE : (Wa.alloc (.cells #[.int .i64 (x : Int)] 3)).heap[W0.heap.size]? = some (.cells #[] 3 (0, 0)) := ((Gr.refl Wa).alloc _).block hE
      generalize Wa.alloc (.cells #[.int .i64 (x : Int)] 3) = Wb at *
      refine wpAnyH_ready (rs := [4]) (by kernel_rfl) (by simp) (AllReadyH.cons (op_at rfl) (fun K hK => ?_) AllReadyH.nil)
      rw [if_pos (show Region.wanted _ _ = true from rfl)]
      refine step_nil _ _ rfl w.heap.size (.slice (some ⟨W0.heap.size, 0, none⟩) 0 0) 0 (nats []) rfl (own_empty (g := W0.heap.size) (base := w.heap.size) hE (by omega)) 0 rfl ?_
      refine hK.out _ _ hHeld (fun hHeld => ?_)
      clear hK K
      (try simp only [Act.put, List.setIfInBounds_toArray, List.set_cons_zero, List.set_cons_succ])
      have hMid := own_empty (g := W0.heap.size) (base := w.heap.size) hE (by omega)
      refine wpAnyH_ready (rs := [7]) (by kernel_rfl) (by simp) (AllReadyH.cons (op_at rfl) (fun K hK => ?_) AllReadyH.nil)
      rw [if_pos (show Region.wanted _ _ = true from rfl)]
      refine step_nats _ _ rfl w.heap.size (.slice (some ⟨W0.heap.size, 0, none⟩) 0 0) [] [x] 0 1 rfl rfl rfl hMid ⟨Wa.heap.size, 0, none⟩ 1 rfl (fun j u hu => by
        match j, hu with
        | 0, hu => simp [nats] at hu; subst hu; exact hX
        | j + 1, hu => simp [nats] at hu) (by omega) hHeld.size (fun v2 W2 hown2 hgr2 _ => ?_)
      have hG2 : Gr w W2 := Below.grown hHeld hgr2 hHeld.size (fun j hj => (hMid.lt j hj).1)
      refine hK.out _ _ hG2 (fun hHeld => ?_)
      clear hK K
      (try simp only [Act.put, List.setIfInBounds_toArray, List.set_cons_zero, List.set_cons_succ])
      refine wpAnyH_ready (rs := [11]) (by kernel_rfl) (by simp) (AllReadyH.cons (op_at rfl) (fun K hK => ?_) AllReadyH.nil)
      rw [if_pos (show Region.wanted _ _ = true from rfl)]
      refine step_nil _ _ rfl w.heap.size v2 _ _ rfl hown2 0 rfl ?_
      refine hK.out _ _ hG2 (fun hHeld => ?_)
      clear hK K
      (try simp only [Act.put, List.setIfInBounds_toArray, List.set_cons_zero, List.set_cons_succ])
      refine wpAnyH_take (i := 12) (v := v2) (op_at rfl) (by kernel_rfl) (by kernel_rfl) (by kernel_rfl) (fun _ _ _ h => h) (Or.inl ⟨rfl, fun w hSw => ?_⟩) (by assumption) ?_
      · (try dsimp only at hSw); go_simp; try with_reducible rfl
      (try simp only [Act.put, List.setIfInBounds_toArray, List.set_cons_zero, List.set_cons_succ])
      refine wpAnyH_done (by kernel_rfl) ?_ _
      go_wp2_with fail
      go_ret
      exact ⟨v2, rfl, hown2, hG2⟩
  · go_simp
    refine hK.out _ _ (hHeld.alloc _) (fun hHeld => ?_)
    clear hK K
    (try simp only [Act.put, List.setIfInBounds_toArray, List.set_cons_zero, List.set_cons_succ])
    have hX : (W0.alloc (.cells #[.int .i64 (x : Int)] 3)).cell? ⟨W0.heap.size, 0, none⟩ = some (.int .i64 (x : Int)) := cell_new W0 #[.int .i64 (x : Int)] 3 0 (by simp)
    have hs1 : W0.heap.size < (W0.alloc (.cells #[.int .i64 (x : Int)] 3)).heap.size := by simp
    generalize W0.alloc (.cells #[.int .i64 (x : Int)] 3) = Wa at *
    refine wpAnyH_ready (rs := [0]) (by kernel_rfl) (by simp) (AllReadyH.cons (op_at rfl) (fun K hK => ?_) AllReadyH.nil)
    go_simp
    refine hK.out _ _ (hHeld.alloc _) (fun hHeld => ?_)
    clear hK K
    (try simp only [Act.put, List.setIfInBounds_toArray, List.set_cons_zero, List.set_cons_succ])
    have hE : (Wa.alloc (.cells #[] 3)).heap[Wa.heap.size]? = some (.cells #[] 3 (0, 0)) := heap_alloc_new _ _
    have hX : (Wa.alloc (.cells #[] 3)).cell? ⟨W0.heap.size, 0, none⟩ = some (.int .i64 (x : Int)) := ((Gr.refl Wa).alloc _).cell hX
    generalize Wa.alloc (.cells #[] 3) = Wb at *
    refine wpAnyH_ready (rs := [4]) (by kernel_rfl) (by simp) (AllReadyH.cons (op_at rfl) (fun K hK => ?_) AllReadyH.nil)
    rw [if_pos (show Region.wanted _ _ = true from rfl)]
    refine step_nil _ _ rfl w.heap.size (.slice (some ⟨Wa.heap.size, 0, none⟩) 0 0) 0 (nats []) rfl (own_empty (g := Wa.heap.size) (base := w.heap.size) hE (by omega)) 0 rfl ?_
    refine hK.out _ _ hHeld (fun hHeld => ?_)
    clear hK K
    (try simp only [Act.put, List.setIfInBounds_toArray, List.set_cons_zero, List.set_cons_succ])
    have hMid := own_empty (g := Wa.heap.size) (base := w.heap.size) hE (by omega)
    refine wpAnyH_ready (rs := [7]) (by kernel_rfl) (by simp) (AllReadyH.cons (op_at rfl) (fun K hK => ?_) AllReadyH.nil)
    rw [if_pos (show Region.wanted _ _ = true from rfl)]
    refine step_nats _ _ rfl w.heap.size (.slice (some ⟨Wa.heap.size, 0, none⟩) 0 0) [] [x] 0 1 rfl rfl rfl hMid ⟨W0.heap.size, 0, none⟩ 1 rfl (fun j u hu => by
      match j, hu with
      | 0, hu => simp [nats] at hu; subst hu; exact hX
      | j + 1, hu => simp [nats] at hu) (by omega) hHeld.size (fun v2 W2 hown2 hgr2 _ => ?_)
    have hG2 : Gr w W2 := Below.grown hHeld hgr2 hHeld.size (fun j hj => (hMid.lt j hj).1)
    refine hK.out _ _ hG2 (fun hHeld => ?_)
    clear hK K
    (try simp only [Act.put, List.setIfInBounds_toArray, List.set_cons_zero, List.set_cons_succ])
    refine wpAnyH_ready (rs := [11]) (by kernel_rfl) (by simp) (AllReadyH.cons (op_at rfl) (fun K hK => ?_) AllReadyH.nil)
    rw [if_pos (show Region.wanted _ _ = true from rfl)]
    refine step_nil _ _ rfl w.heap.size v2 _ _ rfl hown2 0 rfl ?_
    refine hK.out _ _ hG2 (fun hHeld => ?_)
    clear hK K
    (try simp only [Act.put, List.setIfInBounds_toArray, List.set_cons_zero, List.set_cons_succ])
    refine wpAnyH_take (i := 12) (v := v2) (op_at rfl) (by kernel_rfl) (by kernel_rfl) (by kernel_rfl) (fun _ _ _ h => h) (Or.inl ⟨rfl, fun w hSw => ?_⟩) (by assumption) ?_
    · (try dsimp only at hSw); go_simp; try with_reducible rfl
    (try simp only [Act.put, List.setIfInBounds_toArray, List.set_cons_zero, List.set_cons_succ])
    refine wpAnyH_done (by kernel_rfl) ?_ _
    go_wp2_with fail
    go_ret
    exact ⟨v2, rfl, hown2, hG2⟩
/-- insert, whatever the row -/
theorem insert_c {ps : List Nat} {n at_ base : Nat} {v : Value} {w : World} (x : Nat) (hown : w.ownsRow base 3 1 v n (nats ps)) (hv : n = 0 → v = .slice none 0 0) (hn : ps.length = n) (h1 : n ≤ 100) (hat : at_ ≤ n) :
    Calls Tryz.prog 52 #[v, .int .i64 at_, .int .i64 x] w fun e w' => ∃ v', e = .returned v' ∧ w'.ownsRow w.heap.size 3 1 v' (n + 1) (nats (ps.take at_ ++ x :: ps.drop at_)) ∧ Gr w w' := by
  by_cases h0 : 0 < n
  · rcases hown.2 with ⟨rfl, h0⟩ | ⟨g, cap, cur, rfl, hb, hcur, hle, hmx, _, _⟩
    · omega
    · exact insert_pos ps g n cap at_ x w hn h0 h1 hat hle hmx (fun i a ha => by
        have := hown.cells (g := g) rfl i (.int .i64 (a : Int)) (by unfold nats; rw [List.getElem?_map, ha]; rfl)
        rwa [show (⟨g, 0, none⟩ : Addr).add i = ⟨g, i, none⟩ by unfold Addr.add; split <;> simp_all] at this)
  · obtain rfl : n = 0 := by omega
    obtain rfl : at_ = 0 := by omega
    have hz : ps = [] := List.length_eq_zero_iff.1 hn
    subst hz
    rw [hv rfl]
    exact insert_nil x w
theorem own_le {w : World} {b b' size n : Nat} {T : TypeId} {v : Value} {xs : List Value} (h : w.ownsRow b T size v n xs) (hb : b' ≤ b) : w.ownsRow b' T size v n xs := by
  rcases h.2 with ⟨h1, h2⟩ | ⟨g, cap, cur, h1, h2, h3⟩
  · exact ⟨h.1, .inl ⟨h1, h2⟩⟩
  · exact ⟨h.1, .inr ⟨g, cap, cur, h1, by omega, h3⟩⟩
theorem own_some0 {w : World} {b n : Nat} {v : Value} {ps : List Nat} (h : w.ownsRow b 3 1 v n (nats ps)) (h0 : 0 < n) : ∃ g c, v = .slice (some ⟨g, 0, none⟩) n c ∧ ∀ i a, ps[i]? = some a → w.cell? ⟨g, i, none⟩ = some (.int .i64 ((a : Nat) : Int)) := by
  rcases h.2 with ⟨h1, h2⟩ | ⟨g, cap, cur, rfl, _⟩
  · omega
  · exact ⟨g, cap, rfl, fun i a ha => by
      have := h.cells (g := g) rfl i (.int .i64 (a : Int)) (by unfold nats; rw [List.getElem?_map, ha]; rfl)
      rwa [show (⟨g, 0, none⟩ : Addr).add i = ⟨g, i, none⟩ by unfold Addr.add; split <;> simp_all] at this⟩
end Go.Proofs.YtenhodepaoaiiaaGreatDoor
namespace Go.Proofs.YtenhodepaoaiiaaGreatDoor
open Go.RowKit Go.Lib
set_option linter.unusedSimpArgs false
set_option linter.unusedVariables false
set_option maxHeartbeats 4000000
set_option maxRecDepth 100000
theorem cmpZ_lt {x y : Int} (h : x ≠ y) : decide (cmpZ y x < 0) = decide (y < x) := by
  rcases cmpZ_cases y x with ⟨h1, h2⟩ | ⟨h1, h2⟩ | ⟨h1, h2⟩
  · rw [h2, decide_eq_true h1]; rfl
  · exact absurd h1.symm h
  · rw [h2, decide_eq_false (show ¬ y < x by omega)]; rfl
theorem better_c (c1 s1 c2 s2 : ByteArray) (u v : Value) (xs ys : List Int) (w : World) (hu : IntsV w u xs) (hv : IntsV w v ys) (hl : ys.length = xs.length) (h1000 : xs.length ≤ 1000) :
    Calls Tryz.prog 51 #[.agg #[.string c1, .string s1, u], .agg #[.string c2, .string s2, v]] w fun e w' => e = .returned (.bool (decide (cmpL ys xs < 0))) ∧ Gr w w' := by
  obtain ⟨p, cap, rfl, hh⟩ := hu.out
  obtain ⟨q, cap2, rfl, hk⟩ := hv.out
  obtain ⟨W, hW, g, ⟨a0, a1, a2⟩, ⟨b0, b1, b2⟩⟩ := box33 w (.string c1) (.string s1) (.slice p xs.length cap) (.string c2) (.string s2) (.slice q ys.length cap2) 42
  have HW := Lib.hid hW
  have HX := Lib.hid (fun k (h : k < xs.length) => (show ∃ x y, xs[k]? = some x ∧ ys[k]? = some y from ⟨xs[k]'(by omega), ys[k]'(by omega), List.getElem?_eq_getElem _, List.getElem?_eq_getElem _⟩))
  have HH := Lib.hid hh
  have HK := Lib.hid hk
  rw [hl] at HK
  have HE := Lib.hid (fun k (h : xs.length ≤ k) => (show cmpL (ys.drop k) (xs.drop k) = 0 from by rw [List.drop_of_length_le h, List.drop_of_length_le (by omega)]; rfl))
  rw [hl] at hW HW b2 ⊢
  clear hh hk hW hu hv hl
  generalize xs.length = n at *
  go_enter Tryz.func51, Tryz.ntmps51
  go_wp2_with fail
  rw [HW.out]
  generalize w.heap.size = B at *
  clear HW
  go_wp2_with fail
  go_loopg [5] n (fun gk s5 wr => ∃ k : Nat, s5 = .int .i64 k ∧ gk + k = n ∧ Gr W wr ∧ Hid (cmpL (ys.drop k) (xs.drop k) = cmpL ys xs))
  case atStart => exact ⟨0, rfl, by omega, Gr.refl _, by simp [Hid]⟩
  case round =>
    obtain ⟨k, rfl, hk, gr, HV⟩ := hrel
    replace a2 := gr.cell a2
    replace b2 := gr.cell b2
    by_cases hlt : k < n
    · obtain ⟨x, y, hx, hy⟩ := HX.out k hlt
      obtain ⟨b, off, rfl, hc⟩ := HH.out (by omega)
      obtain ⟨b', off', rfl, hc'⟩ := HK.out (by omega)
      have d0 := (g.trans gr).cell (hc k x hx)
      have d1 := (g.trans gr).cell (hc' k y hy)
      have hk2 : (k : Int) < n := by omega
      have hd := cmpL_drop hy hx
      clear hc hc' hx hy
      by_cases hxy : x = y
      · have HD := Lib.hid (show cmpL (ys.drop (k + 1)) (xs.drop (k + 1)) = cmpL ys xs from by rw [← HV.out, hd, if_pos (by rw [hxy]; exact cmpZ_self y)])
        subst hxy
        clear hd
        go_wp2_with fail
        go_big_quiet (fail)
        go_wp2_with fail
        go_roundg (gk - 1)
        case measure => omega
        case rel => exact ⟨k + 1, by go_num, by omega, gr.drewN _, HD⟩
      · have hne : (x != y) = true := bne_iff_ne.2 hxy
        have HD := Lib.hid (show decide (cmpL ys xs < 0) = decide (y < x) from by rw [← HV.out, hd, if_neg (fun e => hxy (cmpZ_zero e).symm), cmpZ_lt hxy])
        clear hd
        go_wp2_with fail
        go_big_quiet (fail)
        go_wp2_with fail
        go_big_quiet (fail)
        go_wp2_with fail
        go_ret
        exact ⟨by rw [HD.out]; rfl, ((g.trans gr).drewN _).drewN _⟩
    · have hk2 : ¬ (k : Int) < n := by omega
      have HZ : Hid (cmpL ys xs = 0) := by unfold Hid; rw [← HV.out]; exact HE.out k (by omega)
      go_wp2_with fail
      go_ret
      exact ⟨by rw [HZ.out]; rfl, g.trans gr⟩
end Go.Proofs.YtenhodepaoaiiaaGreatDoor
