/- StartForwards: the reference's insert. -/
import Derived.Test.YtlcbdgmclhdofaaGreatDoorGLsH
import Derived.Maps.AppendAt
namespace Go.Proofs.YtlcbdgmclhdofaaGreatDoor
open Go.RowKit Go.Lib
set_option linter.unusedSimpArgs false
set_option linter.unusedVariables false
set_option maxHeartbeats 4000000
set_option maxRecDepth 100000
def nats (ps : List Nat) : List Value := ps.map fun a => .int .i64 ((a : Nat) : Int)
theorem nats_add (ps qs : List Nat) : nats (ps ++ qs) = nats ps ++ nats qs := List.map_append
theorem nats_len (ps : List Nat) : (nats ps).length = ps.length := List.length_map _
theorem grown_cell {w w' : World} {ob : Option Nat} (h : w.grownBy w' ob) {p : Addr} {v : Value} (hp : w.cell? p = some v) (hne : some p.block ≠ ob) : w'.cell? p = some v := by
  rw [World.cell?_of_block (h.block p.block (World.block_lt_of_cell? w p hp) hne)]; exact hp
/-- append onto a row of the call's own, as an operation of a drawn region -/
theorem step_nats {w : World} {o : Oper} {a : Act} {K : Act → World → Prop} {Q : Exit → Act → World → Prop} (s x : Operand) (ho : o.op = .call { callee := .builtin .append, args := #[s, x], argTypes := #[30, 30] })
    (base : Nat) (v : Value) (ps qs : List Nat) (n m : Nat) (hn : ps.length = n) (hm : qs.length = m) (hs : a.eval s = v) (hown : w.ownsRow base 3 1 v n (nats ps)) (ad : Addr) (c : Nat) (hx : a.eval x = .slice (some ad) m c)
    (hq : ∀ j u, (nats qs)[j]? = some u → w.cell? (ad.add j) = some u) (h100 : n + m ≤ 1000) (hbase : base ≤ w.heap.size)
    (h : ∀ v' w', w'.ownsRow base 3 1 v' (n + m) (nats (ps ++ qs)) → w.grownBy w' v.ownBlock → (v'.ownBlock = v.ownBlock ∨ v'.ownBlock = some w.heap.size) → K (a.put o.dst v') w') : Oper.wp Tryz.prog o a w K Q := by
  obtain ⟨i1, hj, hy0, hy1, hy2⟩ := info_parts info3
  obtain ⟨v', w', hr, h2, h3, h4, h5⟩ := run_append_own_at (P := Tryz.prog) w base 30 o.type 3 i1 (.int .i64 0) 1 8 Tryz.underlying30 hj hy0 hy1 hy2 rfl (by decide) v n (nats ps) hown ad m c (nats qs) (by rw [nats_len, hm, Nat.mul_one]) hq
    (fun u hu => by unfold nats at hu; obtain ⟨z, _, rfl⟩ := List.mem_map.1 hu; rfl) (by unfold maxLen; omega) (by omega) hbase
  rw [← nats_add] at h2
  unfold Oper.wp
  simp [execOp, ho, resolve, invoke, builtin, hs, hx, hr, Result.andThen]
  exact h v' w' h2 h3 h5
theorem own_empty {w : World} {g base : Nat} (h : w.heap[g]? = some (.cells #[] 3 (0, 0))) (hb : base ≤ g) : w.ownsRow base 3 1 (.slice (some ⟨g, 0, none⟩) 0 0) 0 (nats []) :=
  ⟨by simp [nats], .inr ⟨g, 0, #[], rfl, hb, h, Nat.le_refl _, by unfold maxLen; omega, rfl, by simp [nats]⟩⟩
/-- where the first append leaves things -/
structure Mid (w W : World) (v : Value) (at_ gx x : Nat) (ps : List Nat) : Prop where
  own : W.ownsRow w.heap.size 3 1 v at_ (nats (ps.take at_))
  cell : W.cell? ⟨gx, 0, none⟩ = some (.int .i64 (x : Int))
  apart : v.ownBlock ≠ some gx
  gr : Gr w W
theorem insert_pos (ps : List Nat) (b n c at_ x : Nat) (w : World) (hn : ps.length = n) (h0 : 0 < n) (h1 : n ≤ 100) (hat : at_ ≤ n) (hnc : n ≤ c) (hc : c ≤ maxLen) (hcell : ∀ i a, ps[i]? = some a → w.cell? ⟨b, i, none⟩ = some (.int .i64 ((a : Nat) : Int))) :
    Calls Tryz.prog 56 #[.slice (some ⟨b, 0, none⟩) n c, .int .i64 at_, .int .i64 x] w fun e w' => ∃ v, e = .returned v ∧ w'.ownsRow w.heap.size 3 1 v (n + 1) (nats (ps.take at_ ++ x :: ps.drop at_)) ∧ Gr w w' := by
  have hca : ¬ c < at_ := by omega
  have hz : decide ((at_ : Int) < 0) = false := decide_eq_false (by omega)
  generalize hq : (if c = at_ then (⟨b, 0, none⟩ : Addr) else ⟨b, at_, none⟩) = q
  have hq1 : (if c = at_ then some (⟨b, 0, none⟩ : Addr) else some ⟨b, at_, none⟩) = some q := by rw [← hq]; split <;> rfl
  have HT1 := Lib.hid (show ∀ W, Gr w W → ∀ j u, (nats (ps.take at_))[j]? = some u → W.cell? ((⟨b, 0, none⟩ : Addr).add j) = some u from fun W g j u hu => by
    unfold nats at hu
    rw [List.getElem?_map, Option.map_eq_some_iff] at hu
    obtain ⟨z, hz, rfl⟩ := hu
    rw [List.getElem?_take] at hz
    split at hz
    · rw [show (⟨b, 0, none⟩ : Addr).add j = ⟨b, j, none⟩ by unfold Addr.add; split <;> simp_all]
      exact g.cell (hcell j z hz)
    · cases hz)
  have HT2 := Lib.hid (show ∀ W, Gr w W → ∀ j u, (nats (ps.drop at_))[j]? = some u → W.cell? (q.add j) = some u from fun W g j u hu => by
    unfold nats at hu
    rw [List.getElem?_map, Option.map_eq_some_iff] at hu
    obtain ⟨z, hz, rfl⟩ := hu
    rw [List.getElem?_drop] at hz
    have hl := (List.getElem?_eq_some_iff.1 hz).1
    have : q = ⟨b, at_, none⟩ := by rw [← hq, if_neg (by omega)]
    rw [this, show (⟨b, at_, none⟩ : Addr).add j = ⟨b, at_ + j, none⟩ by unfold Addr.add; split <;> simp_all]
    exact g.cell (hcell _ z hz))
  have HL1 := Lib.hid (show (ps.take at_).length = at_ by rw [List.length_take]; omega)
  have HL2 := Lib.hid (show (ps.drop at_).length = n - at_ by rw [List.length_drop]; omega)
  clear hcell hq hn
  go_enter Tryz.func56, Tryz.ntmps56
  go_wp2_with fail
  refine wp_region_held_drew (S := fun W => Gr w W) (by kernel_rfl) ((Gr.refl w).drew) (fun hHeld => ?_)
  refine wpAnyH_take (i := 1) (v := .slice (some ⟨b, 0, none⟩) n c) (op_at rfl) (by kernel_rfl) (by kernel_rfl) (by kernel_rfl) (fun _ _ _ h => h) (Or.inl ⟨rfl, fun w hSw => ?_⟩) (by assumption) ?_
  · (try dsimp only at hSw); go_simp; try with_reducible rfl
  (try simp only [Act.put, List.setIfInBounds_toArray, List.set_cons_zero, List.set_cons_succ])
  refine wpAnyH_take (i := 2) (v := .int .i64 at_) (op_at rfl) (by kernel_rfl) (by kernel_rfl) (by kernel_rfl) (fun _ _ _ h => h) (Or.inl ⟨rfl, fun w hSw => ?_⟩) (by assumption) ?_
  · (try dsimp only at hSw); go_simp; try with_reducible rfl
  (try simp only [Act.put, List.setIfInBounds_toArray, List.set_cons_zero, List.set_cons_succ])
  refine wpAnyH_take (i := 3) (v := .slice (some ⟨b, 0, none⟩) at_ c) (op_at rfl) (by kernel_rfl) (by kernel_rfl) (by kernel_rfl) (fun _ _ _ h => h) (Or.inl ⟨rfl, fun w hSw => ?_⟩) (by assumption) ?_
  · (try dsimp only at hSw); go_simp; try with_reducible rfl
  (try simp only [Act.put, List.setIfInBounds_toArray, List.set_cons_zero, List.set_cons_succ])
  refine wpAnyH_take (i := 5) (v := .int .i64 x) (op_at rfl) (by kernel_rfl) (by kernel_rfl) (by kernel_rfl) (fun _ _ _ h => h) (Or.inl ⟨rfl, fun w hSw => ?_⟩) (by assumption) ?_
  · (try dsimp only at hSw); go_simp; try with_reducible rfl
  (try simp only [Act.put, List.setIfInBounds_toArray, List.set_cons_zero, List.set_cons_succ])
  refine wpAnyH_take (i := 8) (v := .slice (some ⟨b, 0, none⟩) n c) (op_at rfl) (by kernel_rfl) (by kernel_rfl) (by kernel_rfl) (fun _ _ _ h => h) (Or.inl ⟨rfl, fun w hSw => ?_⟩) (by assumption) ?_
  · (try dsimp only at hSw); go_simp; try with_reducible rfl
  (try simp only [Act.put, List.setIfInBounds_toArray, List.set_cons_zero, List.set_cons_succ])
  refine wpAnyH_take (i := 9) (v := .int .i64 at_) (op_at rfl) (by kernel_rfl) (by kernel_rfl) (by kernel_rfl) (fun _ _ _ h => h) (Or.inl ⟨rfl, fun w hSw => ?_⟩) (by assumption) ?_
  · (try dsimp only at hSw); go_simp; try with_reducible rfl
  (try simp only [Act.put, List.setIfInBounds_toArray, List.set_cons_zero, List.set_cons_succ])
  refine wpAnyH_take (i := 10) (v := .slice (some q) (n - at_) (c - at_)) (op_at rfl) (by kernel_rfl) (by kernel_rfl) (by kernel_rfl) (fun _ _ _ h => h) (Or.inl ⟨rfl, fun w hSw => ?_⟩) (by assumption) ?_
  · (try dsimp only at hSw); go_simp; try with_reducible rfl
  (try simp only [Act.put, List.setIfInBounds_toArray, List.set_cons_zero, List.set_cons_succ])
  have hsz : w.heap.size ≤ w.drew.heap.size := Nat.le_refl _
  generalize w.drew = W0 at *
  refine wpAnyH_ready (rs := [0, 6]) (by kernel_rfl) (by simp) (AllReadyH.cons (op_at rfl) (fun K hK => ?_) (AllReadyH.cons (op_at rfl) (fun K hK => ?_) AllReadyH.nil))
  · go_simp
    refine hK.out _ _ (hHeld.alloc _) (fun hHeld => ?_)
    clear hK K
    (try simp only [Act.put, List.setIfInBounds_toArray, List.set_cons_zero, List.set_cons_succ])
    have hE : (W0.alloc (.cells #[] 3)).heap[W0.heap.size]? = some (.cells #[] 3 (0, 0)) := heap_alloc_new _ _
    have hs1 : W0.heap.size < (W0.alloc (.cells #[] 3)).heap.size := by simp
    generalize W0.alloc (.cells #[] 3) = Wa at *
    refine wpAnyH_ready (rs := [4, 6]) (by kernel_rfl) (by simp) (AllReadyH.cons (op_at rfl) (fun K hK => ?_) (AllReadyH.cons (op_at rfl) (fun K hK => ?_) AllReadyH.nil))
    · rw [if_pos (show Region.wanted _ _ = true from rfl)]
      refine step_nats _ _ rfl w.heap.size (.slice (some ⟨W0.heap.size, 0, none⟩) 0 0) [] (ps.take at_) 0 at_ rfl HL1.out rfl (own_empty (g := W0.heap.size) (base := w.heap.size) hE (by omega)) ⟨b, 0, none⟩ c rfl (HT1.out _ hHeld) (by omega) hHeld.size (fun v1 W1 hown1 hgr1 hob1 => ?_)
      have hG1 : Gr w W1 := Below.grown hHeld hgr1 (by omega) (fun j hj => ((own_empty (g := W0.heap.size) (base := w.heap.size) hE (by omega)).lt j hj).1)
      rw [Nat.zero_add, List.nil_append] at hown1
      refine hK.out _ _ hG1 (fun hHeld => ?_)
      clear hK K
      (try simp only [Act.put, List.setIfInBounds_toArray, List.set_cons_zero, List.set_cons_succ])
      refine wpAnyH_ready (rs := [6]) (by kernel_rfl) (by simp) (AllReadyH.cons (op_at rfl) (fun K hK => ?_) AllReadyH.nil)
      go_simp
      refine hK.out _ _ (hG1.alloc _) (fun hHeld => ?_)
      clear hK K
      (try simp only [Act.put, List.setIfInBounds_toArray, List.set_cons_zero, List.set_cons_succ])
      have hMid : Mid w (W1.alloc (.cells #[.int .i64 (x : Int)] 3)) v1 at_ W1.heap.size x ps := ⟨hown1.alloc _, cell_new W1 #[.int .i64 (x : Int)] 3 0 (by simp), (fun e => by have := hown1.lt _ e; omega), hG1.alloc _⟩
      generalize W1.alloc (.cells #[.int .i64 (x : Int)] 3) = Wm at *
      refine wpAnyH_ready (rs := [7]) (by kernel_rfl) (by simp) (AllReadyH.cons (op_at rfl) (fun K hK => ?_) AllReadyH.nil)
      rw [if_pos (show Region.wanted _ _ = true from rfl)]
      refine step_nats _ _ rfl w.heap.size v1 (ps.take at_) [x] at_ 1 HL1.out rfl rfl hMid.own ⟨W1.heap.size, 0, none⟩ 1 rfl (fun j u hu => by
        match j, hu with
        | 0, hu => simp [nats] at hu; subst hu; exact hMid.cell
        | j + 1, hu => simp [nats] at hu) (by omega) hMid.gr.size (fun v2 W2 hown2 hgr2 _ => ?_)
      have hG2 : Gr w W2 := Below.grown hMid.gr hgr2 hMid.gr.size (fun j hj => (hMid.own.lt j hj).1)
      refine hK.out _ _ hG2 (fun hHeld => ?_)
      clear hK K
      (try simp only [Act.put, List.setIfInBounds_toArray, List.set_cons_zero, List.set_cons_succ])
      refine wpAnyH_ready (rs := [11]) (by kernel_rfl) (by simp) (AllReadyH.cons (op_at rfl) (fun K hK => ?_) AllReadyH.nil)
      rw [if_pos (show Region.wanted _ _ = true from rfl)]
      refine step_nats _ _ rfl w.heap.size v2 (ps.take at_ ++ [x]) (ps.drop at_) (at_ + 1) (n - at_) (by rw [List.length_append, HL1.out]; rfl) HL2.out rfl hown2 q (c - at_) rfl (HT2.out _ hG2) (by omega) hG2.size (fun v3 W3 hown3 hgr3 _ => ?_)
      have hG3 : Gr w W3 := Below.grown hG2 hgr3 hG2.size (fun j hj => (hown2.lt j hj).1)
      refine hK.out _ _ hG3 (fun hHeld => ?_)
      clear hK K
      (try simp only [Act.put, List.setIfInBounds_toArray, List.set_cons_zero, List.set_cons_succ])
      refine wpAnyH_take (i := 12) (v := v3) (op_at rfl) (by kernel_rfl) (by kernel_rfl) (by kernel_rfl) (fun _ _ _ h => h) (Or.inl ⟨rfl, fun w hSw => ?_⟩) (by assumption) ?_
      · (try dsimp only at hSw); go_simp; try with_reducible rfl
      (try simp only [Act.put, List.setIfInBounds_toArray, List.set_cons_zero, List.set_cons_succ])
      refine wpAnyH_done (by kernel_rfl) ?_ _
      go_wp2_with fail
      go_ret
      refine ⟨v3, rfl, ?_, hG3⟩
      rw [show n + 1 = at_ + 1 + (n - at_) by omega, show ps.take at_ ++ x :: ps.drop at_ = ps.take at_ ++ [x] ++ ps.drop at_ by simp]
      exact hown3
    · go_simp
      refine hK.out _ _ (hHeld.alloc _) (fun hHeld => ?_)
      clear hK K
      (try simp only [Act.put, List.setIfInBounds_toArray, List.set_cons_zero, List.set_cons_succ])
      have hX : (Wa.alloc (.cells #[.int .i64 (x : Int)] 3)).cell? ⟨Wa.heap.size, 0, none⟩ = some (.int .i64 (x : Int)) := cell_new Wa #[.int .i64 (x : Int)] 3 0 (by simp)
      have hE : (Wa.alloc (.cells #[.int .i64 (x : Int)] 3)).heap[W0.heap.size]? = some (.cells #[] 3 (0, 0)) := ((Gr.refl Wa).alloc _).block hE
      have hs2 : Wa.heap.size < (Wa.alloc (.cells #[.int .i64 (x : Int)] 3)).heap.size := by simp
      generalize Wa.alloc (.cells #[.int .i64 (x : Int)] 3) = Wb at *
      refine wpAnyH_ready (rs := [4]) (by kernel_rfl) (by simp) (AllReadyH.cons (op_at rfl) (fun K hK => ?_) AllReadyH.nil)
      rw [if_pos (show Region.wanted _ _ = true from rfl)]
      refine step_nats _ _ rfl w.heap.size (.slice (some ⟨W0.heap.size, 0, none⟩) 0 0) [] (ps.take at_) 0 at_ rfl HL1.out rfl (own_empty (g := W0.heap.size) (base := w.heap.size) hE (by omega)) ⟨b, 0, none⟩ c rfl (HT1.out _ hHeld) (by omega) hHeld.size (fun v1 W1 hown1 hgr1 hob1 => ?_)
      have hG1 : Gr w W1 := Below.grown hHeld hgr1 (by omega) (fun j hj => ((own_empty (g := W0.heap.size) (base := w.heap.size) hE (by omega)).lt j hj).1)
      rw [Nat.zero_add, List.nil_append] at hown1
      refine hK.out _ _ hG1 (fun hHeld => ?_)
      clear hK K
      (try simp only [Act.put, List.setIfInBounds_toArray, List.set_cons_zero, List.set_cons_succ])
      have hMid : Mid w W1 v1 at_ Wa.heap.size x ps := ⟨hown1, grown_cell hgr1 hX (by simp [Value.ownBlock]; omega), (fun e => by rcases hob1 with h | h <;> (rw [h] at e; simp [Value.ownBlock] at e; omega)), hG1⟩
      refine wpAnyH_ready (rs := [7]) (by kernel_rfl) (by simp) (AllReadyH.cons (op_at rfl) (fun K hK => ?_) AllReadyH.nil)
      rw [if_pos (show Region.wanted _ _ = true from rfl)]
      refine step_nats _ _ rfl w.heap.size v1 (ps.take at_) [x] at_ 1 HL1.out rfl rfl hMid.own ⟨Wa.heap.size, 0, none⟩ 1 rfl (fun j u hu => by
        match j, hu with
        | 0, hu => simp [nats] at hu; subst hu; exact hMid.cell
        | j + 1, hu => simp [nats] at hu) (by omega) hMid.gr.size (fun v2 W2 hown2 hgr2 _ => ?_)
      have hG2 : Gr w W2 := Below.grown hMid.gr hgr2 hMid.gr.size (fun j hj => (hMid.own.lt j hj).1)
      refine hK.out _ _ hG2 (fun hHeld => ?_)
      clear hK K
      (try simp only [Act.put, List.setIfInBounds_toArray, List.set_cons_zero, List.set_cons_succ])
      refine wpAnyH_ready (rs := [11]) (by kernel_rfl) (by simp) (AllReadyH.cons (op_at rfl) (fun K hK => ?_) AllReadyH.nil)
      rw [if_pos (show Region.wanted _ _ = true from rfl)]
      refine step_nats _ _ rfl w.heap.size v2 (ps.take at_ ++ [x]) (ps.drop at_) (at_ + 1) (n - at_) (by rw [List.length_append, HL1.out]; rfl) HL2.out rfl hown2 q (c - at_) rfl (HT2.out _ hG2) (by omega) hG2.size (fun v3 W3 hown3 hgr3 _ => ?_)
      have hG3 : Gr w W3 := Below.grown hG2 hgr3 hG2.size (fun j hj => (hown2.lt j hj).1)
      refine hK.out _ _ hG3 (fun hHeld => ?_)
      clear hK K
      (try simp only [Act.put, List.setIfInBounds_toArray, List.set_cons_zero, List.set_cons_succ])
      refine wpAnyH_take (i := 12) (v := v3) (op_at rfl) (by kernel_rfl) (by kernel_rfl) (by kernel_rfl) (fun _ _ _ h => h) (Or.inl ⟨rfl, fun w hSw => ?_⟩) (by assumption) ?_
      · (try dsimp only at hSw); go_simp; try with_reducible rfl
      (try simp only [Act.put, List.setIfInBounds_toArray, List.set_cons_zero, List.set_cons_succ])
      refine wpAnyH_done (by kernel_rfl) ?_ _
      go_wp2_with fail
      go_ret
      refine ⟨v3, rfl, ?_, hG3⟩
      rw [show n + 1 = at_ + 1 + (n - at_) by omega, show ps.take at_ ++ x :: ps.drop at_ = ps.take at_ ++ [x] ++ ps.drop at_ by simp]
      exact hown3
  · go_simp
    refine hK.out _ _ (hHeld.alloc _) (fun hHeld => ?_)
    clear hK K
    (try simp only [Act.put, List.setIfInBounds_toArray, List.set_cons_zero, List.set_cons_succ])
    have hX : (W0.alloc (.cells #[.int .i64 (x : Int)] 3)).cell? ⟨W0.heap.size, 0, none⟩ = some (.int .i64 (x : Int)) := cell_new W0 #[.int .i64 (x : Int)] 3 0 (by simp)
    have hs1 : W0.heap.size < (W0.alloc (.cells #[.int .i64 (x : Int)] 3)).heap.size := by simp
    generalize W0.alloc (.cells #[.int .i64 (x : Int)] 3) = Wa at *
    refine wpAnyH_ready (rs := [0]) (by kernel_rfl) (by simp) (AllReadyH.cons (op_at rfl) (fun K hK => ?_) AllReadyH.nil)
    go_simp
    refine hK.out _ _ (hHeld.alloc _) (fun hHeld => ?_)
    clear hK K
    (try simp only [Act.put, List.setIfInBounds_toArray, List.set_cons_zero, List.set_cons_succ])
    have hE : (Wa.alloc (.cells #[] 3)).heap[Wa.heap.size]? = some (.cells #[] 3 (0, 0)) := heap_alloc_new _ _
    have hX : (Wa.alloc (.cells #[] 3)).cell? ⟨W0.heap.size, 0, none⟩ = some (.int .i64 (x : Int)) := ((Gr.refl Wa).alloc _).cell hX
    have hs2 : Wa.heap.size < (Wa.alloc (.cells #[] 3)).heap.size := by simp
    generalize Wa.alloc (.cells #[] 3) = Wb at *
    refine wpAnyH_ready (rs := [4]) (by kernel_rfl) (by simp) (AllReadyH.cons (op_at rfl) (fun K hK => ?_) AllReadyH.nil)
    rw [if_pos (show Region.wanted _ _ = true from rfl)]
    refine step_nats _ _ rfl w.heap.size (.slice (some ⟨Wa.heap.size, 0, none⟩) 0 0) [] (ps.take at_) 0 at_ rfl HL1.out rfl (own_empty (g := Wa.heap.size) (base := w.heap.size) hE (by omega)) ⟨b, 0, none⟩ c rfl (HT1.out _ hHeld) (by omega) hHeld.size (fun v1 W1 hown1 hgr1 hob1 => ?_)
    have hG1 : Gr w W1 := Below.grown hHeld hgr1 (by omega) (fun j hj => ((own_empty (g := Wa.heap.size) (base := w.heap.size) hE (by omega)).lt j hj).1)
    rw [Nat.zero_add, List.nil_append] at hown1
    refine hK.out _ _ hG1 (fun hHeld => ?_)
    clear hK K
    (try simp only [Act.put, List.setIfInBounds_toArray, List.set_cons_zero, List.set_cons_succ])
    have hMid : Mid w W1 v1 at_ W0.heap.size x ps := ⟨hown1, grown_cell hgr1 hX (by simp [Value.ownBlock]; omega), (fun e => by rcases hob1 with h | h <;> (rw [h] at e; simp [Value.ownBlock] at e; omega)), hG1⟩
    refine wpAnyH_ready (rs := [7]) (by kernel_rfl) (by simp) (AllReadyH.cons (op_at rfl) (fun K hK => ?_) AllReadyH.nil)
    rw [if_pos (show Region.wanted _ _ = true from rfl)]
    refine step_nats _ _ rfl w.heap.size v1 (ps.take at_) [x] at_ 1 HL1.out rfl rfl hMid.own ⟨W0.heap.size, 0, none⟩ 1 rfl (fun j u hu => by
      match j, hu with
      | 0, hu => simp [nats] at hu; subst hu; exact hMid.cell
      | j + 1, hu => simp [nats] at hu) (by omega) hMid.gr.size (fun v2 W2 hown2 hgr2 _ => ?_)
    have hG2 : Gr w W2 := Below.grown hMid.gr hgr2 hMid.gr.size (fun j hj => (hMid.own.lt j hj).1)
    refine hK.out _ _ hG2 (fun hHeld => ?_)
    clear hK K
    (try simp only [Act.put, List.setIfInBounds_toArray, List.set_cons_zero, List.set_cons_succ])
    refine wpAnyH_ready (rs := [11]) (by kernel_rfl) (by simp) (AllReadyH.cons (op_at rfl) (fun K hK => ?_) AllReadyH.nil)
    rw [if_pos (show Region.wanted _ _ = true from rfl)]
    refine step_nats _ _ rfl w.heap.size v2 (ps.take at_ ++ [x]) (ps.drop at_) (at_ + 1) (n - at_) (by rw [List.length_append, HL1.out]; rfl) HL2.out rfl hown2 q (c - at_) rfl (HT2.out _ hG2) (by omega) hG2.size (fun v3 W3 hown3 hgr3 _ => ?_)
    have hG3 : Gr w W3 := Below.grown hG2 hgr3 hG2.size (fun j hj => (hown2.lt j hj).1)
    refine hK.out _ _ hG3 (fun hHeld => ?_)
    clear hK K
    (try simp only [Act.put, List.setIfInBounds_toArray, List.set_cons_zero, List.set_cons_succ])
    refine wpAnyH_take (i := 12) (v := v3) (op_at rfl) (by kernel_rfl) (by kernel_rfl) (by kernel_rfl) (fun _ _ _ h => h) (Or.inl ⟨rfl, fun w hSw => ?_⟩) (by assumption) ?_
    · (try dsimp only at hSw); go_simp; try with_reducible rfl
    (try simp only [Act.put, List.setIfInBounds_toArray, List.set_cons_zero, List.set_cons_succ])
    refine wpAnyH_done (by kernel_rfl) ?_ _
    go_wp2_with fail
    go_ret
    refine ⟨v3, rfl, ?_, hG3⟩
    rw [show n + 1 = at_ + 1 + (n - at_) by omega, show ps.take at_ ++ x :: ps.drop at_ = ps.take at_ ++ [x] ++ ps.drop at_ by simp]
    exact hown3
end Go.Proofs.YtlcbdgmclhdofaaGreatDoor
