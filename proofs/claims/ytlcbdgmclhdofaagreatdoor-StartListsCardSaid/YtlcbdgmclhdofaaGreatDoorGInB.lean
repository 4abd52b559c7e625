/- StartForwards: the reference's insert into an empty list; insert at all. -/
import Derived.Test.YtlcbdgmclhdofaaGreatDoorInA
import Derived.Test.YtlcbdgmclhdofaaGreatDoorGLsA
namespace Go.Proofs.YtlcbdgmclhdofaaGreatDoor
open Go.RowKit Go.Lib
set_option linter.unusedSimpArgs false
set_option linter.unusedVariables false
set_option maxHeartbeats 4000000
set_option maxRecDepth 100000
theorem step_nil {w : World} {o : Oper} {a : Act} {K : Act → World → Prop} {Q : Exit → Act → World → Prop} (s x : Operand) (ho : o.op = .call { callee := .builtin .append, args := #[s, x], argTypes := #[30, 30] })
    (base : Nat) (v : Value) (n : Nat) (zs : List Value) (hs : a.eval s = v) (hown : w.ownsRow base 3 1 v n zs) (c : Nat) (hx : a.eval x = .slice none 0 c)
    (h : K (a.put o.dst v) w) : Oper.wp Tryz.prog o a w K Q := by
  obtain ⟨i1, hj, hy0, hy1, hy2⟩ := info_parts info3
  have hr : (Builtin.append_ #[30, 30] o.type #[v, .slice none 0 c]).run Tryz.prog w = .ok v w := by
    rcases hown.2 with ⟨rfl, rfl⟩ | ⟨g, cap, cur, rfl, _, _, hnc, _⟩
    · simp [Builtin.append_, run_underlying Tryz.underlying30, sizeOf, typeInfo, hj, Builtin.lenOf, Builtin.firstCells]
    · simp [Builtin.append_, run_underlying Tryz.underlying30, sizeOf, typeInfo, hj, Builtin.lenOf, Builtin.firstCells, hnc, storeCells]
  unfold Oper.wp
  simp [execOp, ho, resolve, invoke, builtin, hs, hx, hr, Result.andThen]
  exact h
theorem insert_nil (x : Nat) (w : World) :
    Calls Tryz.prog 56 #[.slice none 0 0, .int .i64 0, .int .i64 x] w fun e w' => ∃ v, e = .returned v ∧ w'.ownsRow w.heap.size 3 1 v 1 (nats [x]) ∧ Gr w w' := by
  go_enter Tryz.func56, Tryz.ntmps56
  go_wp2_with fail
  refine wp_region_held_drew (S := fun W => Gr w W) (by kernel_rfl) ((Gr.refl w).drew) (fun hHeld => ?_)
  refine wpAnyH_take (i := 1) (v := .slice none 0 0) (op_at rfl) (by kernel_rfl) (by kernel_rfl) (by kernel_rfl) (fun _ _ _ h => h) (Or.inl ⟨rfl, fun w hSw => ?_⟩) (by assumption) ?_
  · (try dsimp only at hSw); go_simp; try with_reducible rfl
  (try simp only [Act.put, List.setIfInBounds_toArray, List.set_cons_zero, List.set_cons_succ])
  refine wpAnyH_take (i := 2) (v := .int .i64 0) (op_at rfl) (by kernel_rfl) (by kernel_rfl) (by kernel_rfl) (fun _ _ _ h => h) (Or.inl ⟨rfl, fun w hSw => ?_⟩) (by assumption) ?_
  · (try dsimp only at hSw); go_simp; try with_reducible rfl
  (try simp only [Act.put, List.setIfInBounds_toArray, List.set_cons_zero, List.set_cons_succ])
  refine wpAnyH_take (i := 3) (v := .slice none 0 0) (op_at rfl) (by kernel_rfl) (by kernel_rfl) (by kernel_rfl) (fun _ _ _ h => h) (Or.inl ⟨rfl, fun w hSw => ?_⟩) (by assumption) ?_
  · (try dsimp only at hSw); go_simp; try with_reducible rfl
  (try simp only [Act.put, List.setIfInBounds_toArray, List.set_cons_zero, List.set_cons_succ])
  refine wpAnyH_take (i := 5) (v := .int .i64 x) (op_at rfl) (by kernel_rfl) (by kernel_rfl) (by kernel_rfl) (fun _ _ _ h => h) (Or.inl ⟨rfl, fun w hSw => ?_⟩) (by assumption) ?_
  · (try dsimp only at hSw); go_simp; try with_reducible rfl
  (try simp only [Act.put, List.setIfInBounds_toArray, List.set_cons_zero, List.set_cons_succ])
  refine wpAnyH_take (i := 8) (v := .slice none 0 0) (op_at rfl) (by kernel_rfl) (by kernel_rfl) (by kernel_rfl) (fun _ _ _ h => h) (Or.inl ⟨rfl, fun w hSw => ?_⟩) (by assumption) ?_
  · (try dsimp only at hSw); go_simp; try with_reducible rfl
  (try simp only [Act.put, List.setIfInBounds_toArray, List.set_cons_zero, List.set_cons_succ])
  refine wpAnyH_take (i := 9) (v := .int .i64 0) (op_at rfl) (by kernel_rfl) (by kernel_rfl) (by kernel_rfl) (fun _ _ _ h => h) (Or.inl ⟨rfl, fun w hSw => ?_⟩) (by assumption) ?_
  · (try dsimp only at hSw); go_simp; try with_reducible rfl
  (try simp only [Act.put, List.setIfInBounds_toArray, List.set_cons_zero, List.set_cons_succ])
  refine wpAnyH_take (i := 10) (v := .slice none 0 0) (op_at rfl) (by kernel_rfl) (by kernel_rfl) (by kernel_rfl) (fun _ _ _ h => h) (Or.inl ⟨rfl, fun w hSw => ?_⟩) (by assumption) ?_
  · (try dsimp only at hSw); go_simp; try with_reducible rfl
  (try simp only [Act.put, List.setIfInBounds_toArray, List.set_cons_zero, List.set_cons_succ])
  have hsz : w.heap.size ≤ w.drew.heap.size := Nat.le_refl _
  generalize w.drew = W0 at *
  refine wpAnyH_ready (rs := [0, 6]) (by kernel_rfl) (by simp) (AllReadyH.cons (op_at rfl) (fun K hK => ?_) (AllReadyH.cons (op_at rfl) (fun K hK => ?_) AllReadyH.nil))
  · go_simp
    refine hK.out _ _ (hHeld.alloc _) (fun hHeld => ?_)
    clear hK K
    (try simp only [Act.put, List.setIfInBounds_toArray, List.set_cons_zero, List.set_cons_succ])
    have hE : (W0.alloc (.cells #[] 3)).heap[W0.heap.size]? = some (.cells #[] 3 (0, 0)) := heap_alloc_new _ _
    have hs1 : W0.heap.size < (W0.alloc (.cells #[] 3)).heap.size := by simp
    generalize W0.alloc (.cells #[] 3) = Wa at *
    refine wpAnyH_ready (rs := [4, 6]) (by kernel_rfl) (by simp) (AllReadyH.cons (op_at rfl) (fun K hK => ?_) (AllReadyH.cons (op_at rfl) (fun K hK => ?_) AllReadyH.nil))
    · rw [if_pos (show Region.wanted _ _ = true from rfl)]
      refine step_nil _ _ rfl w.heap.size (.slice (some ⟨W0.heap.size, 0, none⟩) 0 0) 0 (nats []) rfl (own_empty (g := W0.heap.size) (base := w.heap.size) hE (by omega)) 0 rfl ?_
      refine hK.out _ _ hHeld (fun hHeld => ?_)
      clear hK K
      (try simp only [Act.put, List.setIfInBounds_toArray, List.set_cons_zero, List.set_cons_succ])
      refine wpAnyH_ready (rs := [6]) (by kernel_rfl) (by simp) (AllReadyH.cons (op_at rfl) (fun K hK => ?_) AllReadyH.nil)
      go_simp
      refine hK.out _ _ (hHeld.alloc _) (fun hHeld => ?_)
      clear hK K
      (try simp only [Act.put, List.setIfInBounds_toArray, List.set_cons_zero, List.set_cons_succ])
      have hX : (Wa.alloc (.cells #[.int .i64 (x : Int)] 3)).cell? ⟨Wa.heap.size, 0, none⟩ = some (.int .i64 (x : Int)) := cell_new Wa #[.int .i64 (x : Int)] 3 0 (by simp)
      have hMid := (own_empty (g := W0.heap.size) (base := w.heap.size) hE (by omega)).alloc (.cells #[.int .i64 (x : Int)] 3)
      generalize Wa.alloc (.cells #[.int .i64 (x : Int)] 3) = Wm at *
      refine wpAnyH_ready (rs := [7]) (by kernel_rfl) (by simp) (AllReadyH.cons (op_at rfl) (fun K hK => ?_) AllReadyH.nil)
      rw [if_pos (show Region.wanted _ _ = true from rfl)]
      refine step_nats _ _ rfl w.heap.size (.slice (some ⟨W0.heap.size, 0, none⟩) 0 0) [] [x] 0 1 rfl rfl rfl hMid ⟨Wa.heap.size, 0, none⟩ 1 rfl (fun j u hu => by
        match j, hu with
        | 0, hu => simp [nats] at hu; subst hu; exact hX
        | j + 1, hu => simp [nats] at hu) (by omega) hHeld.size (fun v2 W2 hown2 hgr2 _ => ?_)
      have hG2 : Gr w W2 := Below.grown hHeld hgr2 hHeld.size (fun j hj => (hMid.lt j hj).1)
      refine hK.out _ _ hG2 (fun hHeld => ?_)
      clear hK K
      (try simp only [Act.put, List.setIfInBounds_toArray, List.set_cons_zero, List.set_cons_succ])
      refine wpAnyH_ready (rs := [11]) (by kernel_rfl) (by simp) (AllReadyH.cons (op_at rfl) (fun K hK => ?_) AllReadyH.nil)
      rw [if_pos (show Region.wanted _ _ = true from rfl)]
      refine step_nil _ _ rfl w.heap.size v2 _ _ rfl hown2 0 rfl ?_
      refine hK.out _ _ hG2 (fun hHeld => ?_)
      clear hK K
      (try simp only [Act.put, List.setIfInBounds_toArray, List.set_cons_zero, List.set_cons_succ])
      refine wpAnyH_take (i := 12) (v := v2) (op_at rfl) (by kernel_rfl) (by kernel_rfl) (by kernel_rfl) (fun _ _ _ h => h) (Or.inl ⟨rfl, fun w hSw => ?_⟩) (by assumption) ?_
      · (try dsimp only at hSw); go_simp; try with_reducible rfl
      (try simp only [Act.put, List.setIfInBounds_toArray, List.set_cons_zero, List.set_cons_succ])
      refine wpAnyH_done (by kernel_rfl) ?_ _
      go_wp2_with fail
      go_ret
      exact ⟨v2, rfl, hown2, hG2⟩
    · go_simp
      refine hK.out _ _ (hHeld.alloc _) (fun hHeld => ?_)
      clear hK K
      (try simp only [Act.put, List.setIfInBounds_toArray, List.set_cons_zero, List.set_cons_succ])
      have hX : (Wa.alloc (.cells #[.int .i64 (x : Int)] 3)).cell? ⟨Wa.heap.size, 0, none⟩ = some (.int .i64 (x : Int)) := cell_new Wa #[.int .i64 (x : Int)] 3 0 (by simp)
      have hE : (Wa.alloc (.cells #[.int .i64 (x : Int)] 3)).heap[W0.heap.size]? = some (.cells #[] 3 (0, 0)) := ((Gr.refl Wa).alloc _).block hE
      generalize Wa.alloc (.cells #[.int .i64 (x : Int)] 3) = Wb at *
      refine wpAnyH_ready (rs := [4]) (by kernel_rfl) (by simp) (AllReadyH.cons (op_at rfl) (fun K hK => ?_) AllReadyH.nil)
      rw [if_pos (show Region.wanted _ _ = true from rfl)]
      refine step_nil _ _ rfl w.heap.size (.slice (some ⟨W0.heap.size, 0, none⟩) 0 0) 0 (nats []) rfl (own_empty (g := W0.heap.size) (base := w.heap.size) hE (by omega)) 0 rfl ?_
      refine hK.out _ _ hHeld (fun hHeld => ?_)
      clear hK K
      (try simp only [Act.put, List.setIfInBounds_toArray, List.set_cons_zero, List.set_cons_succ])
      have hMid := own_empty (g := W0.heap.size) (base := w.heap.size) hE (by omega)
      refine wpAnyH_ready (rs := [7]) (by kernel_rfl) (by simp) (AllReadyH.cons (op_at rfl) (fun K hK => ?_) AllReadyH.nil)
      rw [if_pos (show Region.wanted _ _ = true from rfl)]
      refine step_nats _ _ rfl w.heap.size (.slice (some ⟨W0.heap.size, 0, none⟩) 0 0) [] [x] 0 1 rfl rfl rfl hMid ⟨Wa.heap.size, 0, none⟩ 1 rfl (fun j u hu => by
        match j, hu with
        | 0, hu => simp [nats] at hu; subst hu; exact hX
        | j + 1, hu => simp [nats] at hu) (by omega) hHeld.size (fun v2 W2 hown2 hgr2 _ => ?_)
      have hG2 : Gr w W2 := Below.grown hHeld hgr2 hHeld.size (fun j hj => (hMid.lt j hj).1)
      refine hK.out _ _ hG2 (fun hHeld => ?_)
      clear hK K
      (try simp only [Act.put, List.setIfInBounds_toArray, List.set_cons_zero, List.set_cons_succ])
      refine wpAnyH_ready (rs := [11]) (by kernel_rfl) (by simp) (AllReadyH.cons (op_at rfl) (fun K hK => ?_) AllReadyH.nil)
      rw [if_pos (show Region.wanted _ _ = true from rfl)]
      refine step_nil _ _ rfl w.heap.size v2 _ _ rfl hown2 0 rfl ?_
      refine hK.out _ _ hG2 (fun hHeld => ?_)
      clear hK K
      (try simp only [Act.put, List.setIfInBounds_toArray, List.set_cons_zero, List.set_cons_succ])
      refine wpAnyH_take (i := 12) (v := v2) (op_at rfl) (by kernel_rfl) (by kernel_rfl) (by kernel_rfl) (fun _ _ _ h => h) (Or.inl ⟨rfl, fun w hSw => ?_⟩) (by assumption) ?_
      · (try dsimp only at hSw); go_simp; try with_reducible rfl
      (try simp only [Act.put, List.setIfInBounds_toArray, List.set_cons_zero, List.set_cons_succ])
      refine wpAnyH_done (by kernel_rfl) ?_ _
      go_wp2_with fail
      go_ret
      exact ⟨v2, rfl, hown2, hG2⟩
  · go_simp
    refine hK.out _ _ (hHeld.alloc _) (fun hHeld => ?_)
    clear hK K
    (try simp only [Act.put, List.setIfInBounds_toArray, List.set_cons_zero, List.set_cons_succ])
    have hX : (W0.alloc (.cells #[.int .i64 (x : Int)] 3)).cell? ⟨W0.heap.size, 0, none⟩ = some (.int .i64 (x : Int)) := cell_new W0 #[.int .i64 (x : Int)] 3 0 (by simp)
    have hs1 : W0.heap.size < (W0.alloc (.cells #[.int .i64 (x : Int)] 3)).heap.size := by simp
    generalize W0.alloc (.cells #[.int .i64 (x : Int)] 3) = Wa at *
    refine wpAnyH_ready (rs := [0]) (by kernel_rfl) (by simp) (AllReadyH.cons (op_at rfl) (fun K hK => ?_) AllReadyH.nil)
    go_simp
    refine hK.out _ _ (hHeld.alloc _) (fun hHeld => ?_)
    clear hK K
    (try simp only [Act.put, List.setIfInBounds_toArray, List.set_cons_zero, List.set_cons_succ])
    have hE : (Wa.alloc (.cells #[] 3)).heap[Wa.heap.size]? = some (.cells #[] 3 (0, 0)) := heap_alloc_new _ _
    have hX : (Wa.alloc (.cells #[] 3)).cell? ⟨W0.heap.size, 0, none⟩ = some (.int .i64 (x : Int)) := ((Gr.refl Wa).alloc _).cell hX
    generalize Wa.alloc (.cells #[] 3) = Wb at *
    refine wpAnyH_ready (rs := [4]) (by kernel_rfl) (by simp) (AllReadyH.cons (op_at rfl) (fun K hK => ?_) AllReadyH.nil)
    rw [if_pos (show Region.wanted _ _ = true from rfl)]
    refine step_nil _ _ rfl w.heap.size (.slice (some ⟨Wa.heap.size, 0, none⟩) 0 0) 0 (nats []) rfl (own_empty (g := Wa.heap.size) (base := w.heap.size) hE (by omega)) 0 rfl ?_
    refine hK.out _ _ hHeld (fun hHeld => ?_)
    clear hK K
    (try simp only [Act.put, List.setIfInBounds_toArray, List.set_cons_zero, List.set_cons_succ])
    have hMid := own_empty (g := Wa.heap.size) (base := w.heap.size) hE (by omega)
    refine wpAnyH_ready (rs := [7]) (by kernel_rfl) (by simp) (AllReadyH.cons (op_at rfl) (fun K hK => ?_) AllReadyH.nil)
    rw [if_pos (show Region.wanted _ _ = true from rfl)]
    refine step_nats _ _ rfl w.heap.size (.slice (some ⟨Wa.heap.size, 0, none⟩) 0 0) [] [x] 0 1 rfl rfl rfl hMid ⟨W0.heap.size, 0, none⟩ 1 rfl (fun j u hu => by
      match j, hu with
      | 0, hu => simp [nats] at hu; subst hu; exact hX
      | j + 1, hu => simp [nats] at hu) (by omega) hHeld.size (fun v2 W2 hown2 hgr2 _ => ?_)
    have hG2 : Gr w W2 := Below.grown hHeld hgr2 hHeld.size (fun j hj => (hMid.lt j hj).1)
    refine hK.out _ _ hG2 (fun hHeld => ?_)
    clear hK K
    (try simp only [Act.put, List.setIfInBounds_toArray, List.set_cons_zero, List.set_cons_succ])
    refine wpAnyH_ready (rs := [11]) (by kernel_rfl) (by simp) (AllReadyH.cons (op_at rfl) (fun K hK => ?_) AllReadyH.nil)
    rw [if_pos (show Region.wanted _ _ = true from rfl)]
    refine step_nil _ _ rfl w.heap.size v2 _ _ rfl hown2 0 rfl ?_
    refine hK.out _ _ hG2 (fun hHeld => ?_)
    clear hK K
    (try simp only [Act.put, List.setIfInBounds_toArray, List.set_cons_zero, List.set_cons_succ])
    refine wpAnyH_take (i := 12) (v := v2) (op_at rfl) (by kernel_rfl) (by kernel_rfl) (by kernel_rfl) (fun _ _ _ h => h) (Or.inl ⟨rfl, fun w hSw => ?_⟩) (by assumption) ?_
    · (try dsimp only at hSw); go_simp; try with_reducible rfl
    (try simp only [Act.put, List.setIfInBounds_toArray, List.set_cons_zero, List.set_cons_succ])
    refine wpAnyH_done (by kernel_rfl) ?_ _
    go_wp2_with fail
    go_ret
    exact ⟨v2, rfl, hown2, hG2⟩
/-- insert, whatever the row -/
theorem insert_c {ps : List Nat} {n at_ base : Nat} {v : Value} {w : World} (x : Nat) (hown : w.ownsRow base 3 1 v n (nats ps)) (hv : n = 0 → v = .slice none 0 0) (hn : ps.length = n) (h1 : n ≤ 100) (hat : at_ ≤ n) :
    Calls Tryz.prog 56 #[v, .int .i64 at_, .int .i64 x] w fun e w' => ∃ v', e = .returned v' ∧ w'.ownsRow w.heap.size 3 1 v' (n + 1) (nats (ps.take at_ ++ x :: ps.drop at_)) ∧ Gr w w' := by
  by_cases h0 : 0 < n
  · rcases hown.2 with ⟨rfl, h0⟩ | ⟨g, cap, cur, rfl, hb, hcur, hle, hmx, _, _⟩
    · omega
    · exact insert_pos ps g n cap at_ x w hn h0 h1 hat hle hmx (fun i a ha => by
        have := hown.cells (g := g) rfl i (.int .i64 (a : Int)) (by unfold nats; rw [List.getElem?_map, ha]; rfl)
        rwa [show (⟨g, 0, none⟩ : Addr).add i = ⟨g, i, none⟩ by unfold Addr.add; split <;> simp_all] at this)
  · obtain rfl : n = 0 := by omega
    obtain rfl : at_ = 0 := by omega
    have hz : ps = [] := List.length_eq_zero_iff.1 hn
    subst hz
    rw [hv rfl]
    exact insert_nil x w
theorem own_le {w : World} {b b' size n : Nat} {T : TypeId} {v : Value} {xs : List Value} (h : w.ownsRow b T size v n xs) (hb : b' ≤ b) : w.ownsRow b' T size v n xs := by
  rcases h.2 with ⟨h1, h2⟩ | ⟨g, cap, cur, h1, h2, h3⟩
  · exact ⟨h.1, .inl ⟨h1, h2⟩⟩
  · exact ⟨h.1, .inr ⟨g, cap, cur, h1, by omega, h3⟩⟩
theorem own_some0 {w : World} {b n : Nat} {v : Value} {ps : List Nat} (h : w.ownsRow b 3 1 v n (nats ps)) (h0 : 0 < n) : ∃ g c, v = .slice (some ⟨g, 0, none⟩) n c ∧ ∀ i a, ps[i]? = some a → w.cell? ⟨g, i, none⟩ = some (.int .i64 ((a : Nat) : Int)) := by
  rcases h.2 with ⟨h1, h2⟩ | ⟨g, cap, cur, rfl, _⟩
  · omega
  · exact ⟨g, cap, rfl, fun i a ha => by
      have := h.cells (g := g) rfl i (.int .i64 (a : Int)) (by unfold nats; rw [List.getElem?_map, ha]; rfl)
      rwa [show (⟨g, 0, none⟩ : Addr).add i = ⟨g, i, none⟩ by unfold Addr.add; split <;> simp_all] at this⟩
end Go.Proofs.YtlcbdgmclhdofaaGreatDoor
namespace Go.Proofs.YtlcbdgmclhdofaaGreatDoor
open Go.RowKit Go.Lib
set_option linter.unusedSimpArgs false
set_option linter.unusedVariables false
set_option maxHeartbeats 1000000 in
set_option maxRecDepth 100000 in
theorem findEnt_pos (E : Nat → EntR → Int) (xs : List EntR) (n b off cap L : Nat) (w : World) (hn : xs.length = n) (h1 : n ≤ 1000) (hcap : n ≤ cap) (hmx : cap ≤ maxLen)
    (hc : ∀ i x, xs[i]? = some x → EntAt w b (off + i * 3) x) (ho : ∀ (i : Nat) (x : EntR) (W : World), i < n → xs[i]? = some x → Gr w W → Calls Tryz.prog 46 #[.int .i64 i, entV x, .pointer (some ⟨L, 0, none⟩)] W fun e w' => e = .returned (.int .i64 (E i x)) ∧ Gr W w') (hL : w.cell? ⟨L, 0, none⟩ = some (.slice (some ⟨b, off, none⟩) n cap)) :
    Calls Tryz.prog 87 #[.slice (some ⟨b, off, none⟩) n cap, .func (.func 46) #[] #[.pointer (some ⟨L, 0, none⟩)]] w fun e w' => (∃ i : Int, e = .returned (.tuple #[.int .i64 i, .int .i64 (errG E xs n 0)])) ∧ Gr w w' := by
  have HC := Lib.hid hc
  have HN := Lib.hid hn
  have HO := Lib.hid ho
  clear hc hL hn ho
  go_enter Tryz.func87, Tryz.ntmps87
  go_wp2_with fail
  go_loopg [11] n (fun gk s11 wr => ∃ i : Nat, s11 = .int .i64 i ∧ gk + i = n ∧ Gr w wr ∧ Hid (errG E xs (n - i) i = errG E xs n 0))
  case atStart => exact ⟨0, rfl, by omega, Gr.refl _, rfl⟩
  case round =>
    obtain ⟨i, rfl, hi, hg, HF⟩ := hrel
    by_cases hlt : i < n
    · obtain ⟨x, hx⟩ : ∃ x, xs[i]? = some x := ⟨xs[i]'(by have := HN.out; omega), List.getElem?_eq_getElem _⟩
      obtain ⟨c0, c1, c2⟩ := (HC.out i x hx).gr hg
      have hf := errG_step (E := E) hlt hx
      have hi2 : (i : Int) < n := by omega
      have hT := fun W hg2 => HO.out i x W hlt hx hg2
      unfold entV at hT
      clear hx
      obtain ⟨W, hW, g, a0, a1, a2⟩ := box3 wr (.string x.nm) (.string x.na) (.int .i64 x.sd) 60
      have gW := hg.trans g
      have HW := Lib.hid hW
      by_cases h0 : E i x = 0
      · rw [h0] at hT hf
        rw [if_pos rfl] at hf
        have HT := Lib.hid hT
        have HF2 := Lib.hid hf
        clear hT hf h0 hW
        go_wp2_with fail
        rw [HW.out]
        refine (HT.out _ gW).mono ?_
        rintro e w4 ⟨rfl, hg2⟩
        go_wp2_with fail
        go_roundg (gk - 1)
        case measure => omega
        case rel => exact ⟨i + 1, by go_num, by omega, gW.trans hg2, by unfold Hid; rw [← HF2.out, HF.out]⟩
      · rw [if_neg h0] at hf
        generalize E i x = z at *
        have q1 : (z == 0) = false := by simpa using h0
        have q2 : (z != 0) = true := by simpa [bne] using q1
        have HT := Lib.hid hT
        have HF2 := Lib.hid hf
        clear hT hf hW
        go_wp2_with fail
        rw [HW.out]
        refine (HT.out _ gW).mono ?_
        rintro e w4 ⟨rfl, hg2⟩
        go_wp2_with fail
        exact bodyPost_ret (v := .tuple #[.int .i64 i, .int .i64 z]) (by simp [results, Tryz.results87, go_sem]) rfl ⟨⟨i, by rw [← HF.out, HF2.out]⟩, gW.trans hg2⟩
    · have hin : i = n := by omega
      have HE2 : Hid (errG E xs (n - i) i = 0) := by unfold Hid; rw [hin, Nat.sub_self]; rfl
      have hi2 : (n : Int) ≤ i := by omega
      clear hin
      go_wp2_with fail
      exact bodyPost_ret (v := .tuple #[.int .i64 0, .int .i64 0]) (by simp [results, Tryz.results87, go_sem]) rfl ⟨⟨0, by rw [← HF.out, HE2.out]⟩, hg⟩
theorem eachEnt_pos (E : Nat → EntR → Int) (xs : List EntR) (n b off cap L : Nat) (w : World) (hn : xs.length = n) (h1 : n ≤ 1000) (hcap : n ≤ cap) (hmx : cap ≤ maxLen)
    (hc : ∀ i x, xs[i]? = some x → EntAt w b (off + i * 3) x) (ho : ∀ (i : Nat) (x : EntR) (W : World), i < n → xs[i]? = some x → Gr w W → Calls Tryz.prog 46 #[.int .i64 i, entV x, .pointer (some ⟨L, 0, none⟩)] W fun e w' => e = .returned (.int .i64 (E i x)) ∧ Gr W w') (hL : w.cell? ⟨L, 0, none⟩ = some (.slice (some ⟨b, off, none⟩) n cap)) :
    Calls Tryz.prog 45 #[.slice (some ⟨b, off, none⟩) n cap, .func (.func 46) #[] #[.pointer (some ⟨L, 0, none⟩)]] w fun e w' => e = .returned (.int .i64 (errG E xs n 0)) ∧ Gr w w' := by
  have HF := Lib.hid (findEnt_pos E xs n b off cap L w hn h1 hcap hmx hc ho hL)
  generalize errG E xs n 0 = z at *
  clear hc hL hn ho
  go_enter Tryz.func45, Tryz.ntmps45
  go_wp2_with fail
  refine HF.out.mono ?_
  rintro e w4 ⟨⟨i, rfl⟩, hg⟩
  go_wp2_with fail
  go_ret
  exact ⟨rfl, hg⟩
theorem findEnt_nil (p : Option Addr) (cap L : Nat) (w : World) :
    Calls Tryz.prog 87 #[.slice p 0 cap, .func (.func 46) #[] #[.pointer (some ⟨L, 0, none⟩)]] w fun e w' => (∃ i : Int, e = .returned (.tuple #[.int .i64 i, .int .i64 0])) ∧ w = w' := by
  go_enter Tryz.func87, Tryz.ntmps87
  go_wp2_with fail
  refine wp_loop_rounds 2 ?_
  rw [rounds_succ]
  go_wp2_with fail
  exact bodyPost_ret (v := .tuple #[.int .i64 0, .int .i64 0]) (by simp [results, Tryz.results87, go_sem]) rfl ⟨⟨0, rfl⟩, rfl⟩
theorem eachEnt_nil (p : Option Addr) (cap L : Nat) (w : World) :
    Calls Tryz.prog 45 #[.slice p 0 cap, .func (.func 46) #[] #[.pointer (some ⟨L, 0, none⟩)]] w fun e w' => e = .returned (.int .i64 0) ∧ w = w' := by
  have HF := Lib.hid (findEnt_nil p cap L w)
  go_enter Tryz.func45, Tryz.ntmps45
  go_wp2_with fail
  refine HF.out.mono ?_
  rintro e w4 ⟨⟨i, rfl⟩, rfl⟩
  go_wp2_with fail
  go_ret
  exact ⟨rfl, rfl⟩

set_option maxHeartbeats 1000000 in
set_option maxRecDepth 100000 in
theorem checkEnts_c (xs : List EntR) (v : Value) (w : World) (hv : EntAts w v xs) :
    Calls Tryz.prog 10 #[v] w fun e w' => e = .returned (.int .i64 (listE 160 (entE xs) xs)) ∧ Gr w w' := by
  obtain ⟨⟨p, cap, rfl, ⟨hcap, hmx⟩, hh⟩⟩ := hv
  obtain ⟨W, hW, g, l0⟩ := box1 w (.slice p xs.length cap) 22
  have HW := Lib.hid hW
  rcases Nat.lt_or_ge 160 xs.length with hl | hl
  · have HE : Hid (listE 160 (entE xs) xs = 5) := by unfold Hid listE; rw [if_pos hl]
    have hl2 : decide ((160 : Int) < (xs.length : Int)) = true := decide_eq_true (by omega)
    clear hW hh l0
    generalize xs.length = n at *
    go_enter Tryz.func10, Tryz.ntmps10
    go_wp2_with fail
    go_ret
    exact ⟨by rw [HE.out]; rfl, by rw [HW.out]; exact g⟩
  · have HE : Hid (listE 160 (entE xs) xs = errG (entE xs) xs xs.length 0) := by unfold Hid listE; rw [if_neg (by omega)]
    have hl2 : decide ((160 : Int) < (xs.length : Int)) = false := decide_eq_false (by omega)
    have HK : Hid (∀ W2, Gr W W2 → Calls Tryz.prog 45 #[.slice p xs.length cap, .func (.func 46) #[] #[.pointer (some ⟨w.heap.size, 0, none⟩)]] W2 fun e w' => e = .returned (.int .i64 (errG (entE xs) xs xs.length 0)) ∧ Gr W2 w') := by
      intro W2 g2
      rcases Nat.eq_zero_or_pos xs.length with h0 | h0
      · rw [h0]
        refine (eachEnt_nil p cap w.heap.size W2).mono ?_
        rintro e w' ⟨rfl, rfl⟩
        exact ⟨rfl, Gr.refl _⟩
      · obtain ⟨b, off, rfl, hc⟩ := hh h0
        exact eachEnt_pos (entE xs) xs xs.length b off cap w.heap.size W2 rfl (by omega) hcap hmx (fun i x hx => (hc i x hx).gr (g.trans g2)) (fun i x W3 hi hx hg => oneEnt_c xs i xs.length b off cap w.heap.size x W3 rfl hi (by omega) hcap hmx (fun i x hx => (hc i x hx).gr ((g.trans g2).trans hg)) ((g2.trans hg).cell l0)) (g2.cell l0)
    rw [HE.out]
    generalize errG (entE xs) xs xs.length 0 = z at *
    clear hW hh HE
    generalize xs.length = n at *
    go_enter Tryz.func10, Tryz.ntmps10
    go_wp2_with fail
    rw [HW.out]
    refine (HK.out _ (Gr.refl _)).mono ?_
    rintro e w4 ⟨rfl, hg⟩
    go_wp2_with fail
    go_ret
    exact ⟨rfl, g.trans hg⟩
end Go.Proofs.YtlcbdgmclhdofaaGreatDoor
