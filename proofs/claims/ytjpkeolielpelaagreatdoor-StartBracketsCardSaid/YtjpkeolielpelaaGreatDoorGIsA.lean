/- Numbers in memory; append of any numbers. -/
import Derived.Test.YtjpkeolielpelaaGreatDoorGNames
import Derived.Maps.AppendAt
import Derived.BigQuiet
import Derived.KernelRfl
namespace Go.Proofs.YtjpkeolielpelaaGreatDoor
open Go.RowKit Go.Lib
set_option linter.unusedSimpArgs false
set_option linter.unusedVariables false
theorem addr_add (b o j : Nat) : (⟨b, o, none⟩ : Addr).add j = ⟨b, o + j, none⟩ := by unfold Addr.add; split <;> simp_all
theorem own_shape {w : World} {b s n : Nat} {T : TypeId} {v : Value} {l : List Value} (h : w.ownsRow b T s v n l) : ∃ p c, v = .slice p n c ∧ n ≤ c ∧ c ≤ maxLen := by
  rcases h.2 with ⟨rfl, rfl⟩ | ⟨g, cap, cur, rfl, _, _, h1, h2, _⟩
  · exact ⟨none, 0, rfl, Nat.le_refl _, by unfold maxLen; omega⟩
  · exact ⟨_, cap, rfl, h1, h2⟩
/-- the slice holds these integers -/
structure IntS (w : World) (q : Option Addr) (m : Nat) (zs : List Int) : Prop where
  mk' ::
  len : zs.length = m
  out : 0 < m → ∃ b off, q = some ⟨b, off, none⟩ ∧ ∀ (i : Nat) (z : Int), zs[i]? = some z → w.cell? ⟨b, off + i, none⟩ = some (.int .i64 z)
theorem IntS.gr {w w' : World} {q : Option Addr} {m : Nat} {zs : List Int} (h : IntS w q m zs) (k : Gr w w') : IntS w' q m zs := ⟨h.len, fun h0 => by
  obtain ⟨g, off, e, hc⟩ := h.out h0
  exact ⟨g, off, e, fun i a ha => k.cell (hc i a ha)⟩⟩
theorem IntS.at_ {w : World} {ad : Addr} {m : Nat} {zs : List Int} (h : IntS w (some ad) m zs) : ∀ (j : Nat) (u : Value), (ints zs)[j]? = some u → w.cell? (ad.add j) = some u := fun j u hu => by
  unfold ints at hu
  rw [List.getElem?_map] at hu
  cases hz : zs[j]? with
  | none => rw [hz] at hu; cases hu
  | some z =>
    rw [hz] at hu
    cases hu
    obtain ⟨b, off, e, hc⟩ := h.out (by have := (List.getElem?_eq_some_iff.1 hz).1; have := h.len; omega)
    cases e
    rw [addr_add]
    exact hc j z hz
theorem IntS.of_own {w : World} {b n : Nat} {q : Option Addr} {c : Nat} {zs : List Int} (h : w.ownsRow b 3 1 (.slice q n c) n (ints zs)) : IntS w q n zs := by
  have hl : zs.length = n := by have := h.1; unfold ints at this; simpa using this
  refine ⟨hl, fun h0 => ?_⟩
  obtain ⟨g, c2, e, _, _, _, hc⟩ := own_at h h0
  simp only [Value.slice.injEq] at e
  exact ⟨g, 0, e.1, fun i z hz => by rw [Nat.zero_add]; exact hc i _ (by unfold ints; rw [List.getElem?_map, hz]; rfl)⟩
theorem IntS.reads {w : World} {q : Option Addr} {c m : Nat} {zs : List Int} (h : IntS w q m zs) (h0 : ∀ b off, q = some ⟨b, off, none⟩ → off = 0) : ReadsI w (.slice q m c) zs := by
  refine ⟨q, c, by rw [h.len], fun hp => ?_⟩
  obtain ⟨b, off, e, hc⟩ := h.out (by rw [← h.len]; exact hp)
  obtain rfl := h0 b off e
  exact ⟨b, e, fun i x hx => by have := hc i x hx; rwa [Nat.zero_add] at this⟩
theorem ints_one (zs : List Int) : ∀ u ∈ ints zs, u.oneCell' = true := fun u hu => by
  unfold ints at hu
  obtain ⟨z, _, rfl⟩ := List.mem_map.1 hu
  rfl
theorem ints_len' (zs : List Int) : (ints zs).length = zs.length := by unfold ints; simp
theorem ints_append (a b : List Int) : ints (a ++ b) = ints a ++ ints b := by unfold ints; simp
/-- append(own, v...) of whatever numbers -/
theorem run_append_ints {w : World} {ty : TypeId} (base : Nat) (v : Value) (n : Nat) (xs : List Value) (hown : w.ownsRow base 3 1 v n xs) (q : Option Addr) (m c : Nat) (zs : List Int) (hz : IntS w q m zs) (h1 : n + m ≤ 100000) (hbase : base ≤ w.heap.size) :
    ∃ v' w', (Builtin.append_ #[25, 25] ty #[v, .slice q m c]).run Tryz.prog w = .ok v' w' ∧ w'.ownsRow base 3 1 v' (n + m) (xs ++ ints zs) ∧ w.grownBy w' v.ownBlock := by
  obtain ⟨i1, hj, hy0, hy1, hy2⟩ := info_parts info3
  cases q with
  | none =>
    have hm : m = 0 := by
      rcases Nat.eq_zero_or_pos m with h0 | h0
      · exact h0
      · obtain ⟨_, _, e, _⟩ := hz.out h0; cases e
    subst hm
    have hzz : zs = [] := List.eq_nil_of_length_eq_zero hz.len
    subst hzz
    refine ⟨v, w, ?_, by simpa [ints] using hown, ⟨rfl, rfl, rfl, Nat.le_refl _, fun _ _ _ => rfl⟩⟩
    rcases hown.2 with ⟨rfl, rfl⟩ | ⟨g, cap, cur, rfl, _, _, hnc, _⟩
    · simp [Builtin.append_, run_underlying Tryz.underlying25, sizeOf, typeInfo, hj, Builtin.lenOf, Builtin.firstCells]
    · simp [Builtin.append_, run_underlying Tryz.underlying25, sizeOf, typeInfo, hj, Builtin.lenOf, Builtin.firstCells, hnc, storeCells]
  | some ad =>
    obtain ⟨v', w', hr, h2, h3, _, _⟩ := run_append_own_at (P := Tryz.prog) w base 25 ty 3 i1 (.int .i64 0) 1 8 Tryz.underlying25 hj hy0 hy1 hy2 rfl (by decide) v n xs hown ad m c (ints zs) (by rw [ints_len', hz.len, Nat.mul_one]) hz.at_ (ints_one zs) (by unfold maxLen; omega) (by omega) hbase
    exact ⟨v', w', hr, h2, h3⟩
theorem wpList_append_ints {ops : Array Oper} {rest : List Oper} {o : Oper} {a : Act} {w : World} {Q : Exit → Act → World → Prop} (hgd : o.guard = none) (s x : Operand) (ho : o.op = .call { callee := .builtin .append, args := #[s, x], argTypes := #[25, 25] })
    (base : Nat) (v : Value) (n : Nat) (xs : List Value) (hs : a.eval s = v) (hown : w.ownsRow base 3 1 v n xs) (q : Option Addr) (m c : Nat) (zs : List Int) (hx : a.eval x = .slice q m c) (hz : IntS w q m zs) (h1 : n + m ≤ 100000) (hbase : base ≤ w.heap.size)
    (h : ∀ v' w', w'.ownsRow base 3 1 v' (n + m) (xs ++ ints zs) → w.grownBy w' v.ownBlock → wpList Tryz.prog ops Q rest (a.put o.dst v') w') : wpList Tryz.prog ops Q (o :: rest) a w := by
  refine wpList_plain hgd fun K hK => ?_
  obtain ⟨v', w', hr, h2, h3⟩ := run_append_ints (ty := o.type) base v n xs hown q m c zs hz h1 hbase
  unfold Oper.wp execOp
  simp only [ho, resolve, invoke, builtin, Sem.run_bind, Sem.run_pure, Result.andThen_ok, List.map_toArray, List.map_cons, List.map_nil, hs, hx, hr]
  exact hK _ _ (h v' w' h2 h3)
theorem step_ints {w : World} {o : Oper} {a : Act} {K : Act → World → Prop} {Q : Exit → Act → World → Prop} (s x : Operand) (ho : o.op = .call { callee := .builtin .append, args := #[s, x], argTypes := #[25, 25] })
    (base : Nat) (v : Value) (n : Nat) (xs : List Value) (hs : a.eval s = v) (hown : w.ownsRow base 3 1 v n xs) (q : Option Addr) (m c : Nat) (zs : List Int) (hx : a.eval x = .slice q m c) (hz : IntS w q m zs) (h1 : n + m ≤ 100000) (hbase : base ≤ w.heap.size)
    (h : ∀ v' w', w'.ownsRow base 3 1 v' (n + m) (xs ++ ints zs) → w.grownBy w' v.ownBlock → K (a.put o.dst v') w') : Oper.wp Tryz.prog o a w K Q := by
  obtain ⟨v', w', hr, h2, h3⟩ := run_append_ints (ty := o.type) base v n xs hown q m c zs hz h1 hbase
  unfold Oper.wp
  simp [execOp, ho, resolve, invoke, builtin, hs, hx, hr, Result.andThen]
  exact h v' w' h2 h3
end Go.Proofs.YtjpkeolielpelaaGreatDoor
namespace Go.Proofs.YtjpkeolielpelaaGreatDoor
open Go.RowKit Go.Lib
set_option linter.unusedSimpArgs false
set_option linter.unusedVariables false
theorem intS_two (V : World) (a b : Int) (T : TypeId) : IntS (V.alloc (.cells #[.int .i64 a, .int .i64 b] T)) (some ⟨V.heap.size, 0, none⟩) 2 [a, b] := ⟨rfl, fun _ => ⟨V.heap.size, 0, rfl, fun i z hz => by
  match i, hz with
  | 0, hz => simp at hz; subst hz; exact cell_new V #[.int .i64 a, .int .i64 b] T 0 (by simp)
  | 1, hz => simp at hz; subst hz; exact cell_new V #[.int .i64 a, .int .i64 b] T 1 (by simp)
  | i + 2, hz => simp at hz⟩⟩
set_option maxHeartbeats 4000000 in
set_option maxRecDepth 100000 in
theorem refBracket_c (n : Int) (hn : 1 ≤ n ∧ n ≤ 64) (w : World) :
    Calls Tryz.prog 13 #[.int .i64 n] w fun x w' => ∃ v k, x = .returned v ∧ (n ≤ ((2 ^ k : Nat) : Int)) ∧ (((2 ^ k : Nat) : Int) < 2 * n) ∧ w'.ownsRow w.heap.size 3 1 v (2 ^ k) (ints (zK n (growB k))) ∧ Gr w w' := by
  obtain ⟨i0, hi, hz0, hz1, hz2⟩ := info_parts info3
  go_enter Tryz.func13, Tryz.ntmps13
  go_wp2_with fail
  go_loopg [3, 4, 5, 6] 7 (fun gk v s4 s5 s6 wr => ∃ (k : Nat) (u : Value), u = v ∧ gk + k = 7 ∧ (((2 ^ k : Nat) : Int) < 2 * n) ∧ wr.ownsRow w.heap.size 3 1 u (2 ^ k) (ints (growB k)) ∧ Below w.heap.size w wr)
  case atStart =>
    refine ⟨0, _, rfl, rfl, by simp; omega, ⟨rfl, .inr ⟨w.heap.size, 1, #[.int .i64 1], rfl, Nat.le_refl _, heap_alloc_new _ _, by decide, by decide, rfl, rfl⟩⟩, (Below.refl _ _).alloc (Nat.le_refl _) _⟩
  case round =>
    obtain ⟨k, u, rfl, hgk, hkn, hown, hnx⟩ := hrel
    obtain ⟨W1, rfl⟩ : ∃ W1, W1 = wr := ⟨_, rfl⟩
    have hpos : 0 < 2 ^ k := Nat.two_pow_pos k
    obtain ⟨g, cap, rfl, hbg, hgw, hcell⟩ := reads_pos hown hpos
    have hrow : ∃ cur, W1.heap[g]? = some (.cells cur 3 (0, 0)) ∧ 2 ^ k ≤ cap ∧ cap ≤ maxLen ∧ cur.size = cap * 1 ∧ cur.toList.take (2 ^ k * 1) = ints (growB k) := by
      rcases hown.2 with ⟨h, _⟩ | ⟨g', cap', cur, h1, _, h2⟩
      · simp at h
      · simp only [Value.slice.injEq, Option.some.injEq, Addr.mk.injEq, and_true] at h1
        obtain ⟨rfl, _, rfl⟩ := h1
        exact ⟨cur, h2⟩
    have hr := growB_range k
    have hlen := growB_len k
    have hdk : growB (k + 1) = dblK (2 ^ k : Nat) (growB k) := by rw [growB, hlen]
    have hp2 : 2 ^ (k + 1) = 2 ^ k * 2 := Nat.pow_succ ..
    have hpc : (2 : Int) ^ k = ((2 ^ k : Nat) : Int) := by simp
    rw [hpc] at hr
    have hk7 : 2 ^ k < 128 := by omega
    have hk6 : 2 ^ k < 64 → k < 6 := fun h => Nat.lt_of_not_le fun hh => absurd (Nat.pow_le_pow_right (show 0 < 2 by decide) hh) (by omega)
    generalize hLk : 2 ^ k = L at *
    generalize hG : growB k = xs at *
    by_cases hLn : (L : Int) < n
    · go_wp2_with fail
      go_loopw [5, 6] (fun nx i wr2 => ∃ (j : Nat) (u2 : Value), u2 = nx ∧ j ≤ L ∧ i = .int .i64 j ∧ wr2.ownsRow W1.heap.size 3 1 u2 (2 * j) (ints (dblK L (xs.take j))) ∧ Below W1.heap.size W1 wr2) (fun _ i _ => L - (intOf i).toNat)
      case atStart => exact ⟨0, _, rfl, Nat.zero_le _, rfl, World.ownsRow_nil _ _ _ _, Below.refl _ _⟩
      case round =>
        obtain ⟨j, u2, rfl, hj, rfl, hown2, hnx2⟩ := hrel
        have hsz2 := hnx2.size
        by_cases hjL : (j : Int) < L
        · have hjl : j < xs.length := by omega
          have hx : xs[j]? = some xs[j] := List.getElem?_eq_getElem hjl
          have hxr := hr xs[j] (List.getElem_mem hjl)
          have hc := Gr.cell (show Gr W1 wr from hnx2) (hcell j _ hx)
          have hd := dblK_take L xs j _ hx
          have HC0 := Lib.hid (hcell j _ hx)
          generalize xs[j] = x at *
          have HD := Lib.hid hd
          clear hd hx hcell hr
          have HOW2 := Lib.hid hown2
          have HC1 : Hid (W1.cell? ⟨g, j, none⟩ = some (.int .i64 x)) := HC0.out
          have HCV : Hid (wr.drew.cell? ⟨g, j, none⟩ = some (.int .i64 x)) := (Gr.refl wr).drew.cell hc
          have HOV : Hid ((wr.drew.alloc (.cells #[.int .i64 x, .int .i64 (2 * (L : Int) + 1 - x)] 3)).ownsRow W1.heap.size 3 1 u2 (2 * j) (ints (dblK L (xs.take j)))) := World.ownsRow.alloc (w := wr.drew) hown2 _
          have HSV : Hid (W1.heap.size ≤ (wr.drew.alloc (.cells #[.int .i64 x, .int .i64 (2 * (L : Int) + 1 - x)] 3)).heap.size) := by unfold Hid; simp; omega
          have HBV : Hid (Below W1.heap.size W1 (wr.drew.alloc (.cells #[.int .i64 x, .int .i64 (2 * (L : Int) + 1 - x)] 3))) := (show Gr W1 (wr.drew) from Gr.drew hnx2).alloc (.cells #[.int .i64 x, .int .i64 (2 * (L : Int) + 1 - x)] 3)
          have w0 : IntKind.i64.wrap (2 * (L : Int)) = 2 * (L : Int) := by rw [IntKind.wrap_i64] <;> omega
          have w2 : IntKind.i64.wrap (2 * (L : Int) + 1) = 2 * (L : Int) + 1 := by rw [IntKind.wrap_i64] <;> omega
          have w3 : IntKind.i64.wrap (2 * (L : Int) + 1 - x) = 2 * (L : Int) + 1 - x := by rw [IntKind.wrap_i64] <;> omega
          clear hown2
          go_wp2_with fail
          refine wp_region_held_drew (S := (fun w' => w'.cell? ⟨g, j, none⟩ = some (.int .i64 x))) (by kernel_rfl) HCV.out (fun hHeld => ?_)
          generalize hVV : wr.drew = V at *
          clear hVV
          refine wpAnyH_take (i := 0) (v := u2) (op_at rfl) (by kernel_rfl) (by kernel_rfl) (by kernel_rfl) (fun _ _ _ h => h) (Or.inl ⟨rfl, fun w hSw => ?_⟩) (by assumption) ?_
          · (try dsimp only at hSw); go_simp; try with_reducible rfl
          (try simp only [Act.put, List.setIfInBounds_toArray, List.set_cons_zero, List.set_cons_succ])
          refine wpAnyH_take (i := 1) (v := (.slice (some ⟨g, 0, none⟩) L cap)) (op_at rfl) (by kernel_rfl) (by kernel_rfl) (by kernel_rfl) (fun _ _ _ h => h) (Or.inl ⟨rfl, fun w hSw => ?_⟩) (by assumption) ?_
          · (try dsimp only at hSw); go_simp; try with_reducible rfl
          (try simp only [Act.put, List.setIfInBounds_toArray, List.set_cons_zero, List.set_cons_succ])
          refine wpAnyH_take (i := 2) (v := (.int .i64 (j : Int))) (op_at rfl) (by kernel_rfl) (by kernel_rfl) (by kernel_rfl) (fun _ _ _ h => h) (Or.inl ⟨rfl, fun w hSw => ?_⟩) (by assumption) ?_
          · (try dsimp only at hSw); go_simp; try with_reducible rfl
          (try simp only [Act.put, List.setIfInBounds_toArray, List.set_cons_zero, List.set_cons_succ])
          refine wpAnyH_take (i := 3) (v := (.pointer (some ⟨g, j, none⟩))) (op_at rfl) (by kernel_rfl) (by kernel_rfl) (by kernel_rfl) (fun _ _ _ h => h) (Or.inl ⟨rfl, fun w hSw => ?_⟩) (by assumption) ?_
          · (try dsimp only at hSw); go_simp; try with_reducible rfl
          (try simp only [Act.put, List.setIfInBounds_toArray, List.set_cons_zero, List.set_cons_succ])
          refine wpAnyH_take (i := 4) (v := (.int .i64 x)) (op_at rfl) (by kernel_rfl) (by kernel_rfl) (by kernel_rfl) (fun _ _ _ h => h) (Or.inl ⟨rfl, fun w hSw => ?_⟩) (by assumption) ?_
          · (try dsimp only at hSw); go_simp; try with_reducible rfl
          (try simp only [Act.put, List.setIfInBounds_toArray, List.set_cons_zero, List.set_cons_succ])
          refine wpAnyH_take (i := 5) (v := (.int .i64 (2 * (L : Int)))) (op_at rfl) (by kernel_rfl) (by kernel_rfl) (by kernel_rfl) (fun _ _ _ h => h) (Or.inl ⟨rfl, fun w hSw => ?_⟩) (by assumption) ?_
          · (try dsimp only at hSw); go_simp; try with_reducible rfl
          (try simp only [Act.put, List.setIfInBounds_toArray, List.set_cons_zero, List.set_cons_succ])
          refine wpAnyH_take (i := 6) (v := (.int .i64 (2 * (L : Int) + 1))) (op_at rfl) (by kernel_rfl) (by kernel_rfl) (by kernel_rfl) (fun _ _ _ h => h) (Or.inl ⟨rfl, fun w hSw => ?_⟩) (by assumption) ?_
          · (try dsimp only at hSw); go_simp; try with_reducible rfl
          (try simp only [Act.put, List.setIfInBounds_toArray, List.set_cons_zero, List.set_cons_succ])
          refine wpAnyH_take (i := 7) (v := (.slice (some ⟨g, 0, none⟩) L cap)) (op_at rfl) (by kernel_rfl) (by kernel_rfl) (by kernel_rfl) (fun _ _ _ h => h) (Or.inl ⟨rfl, fun w hSw => ?_⟩) (by assumption) ?_
          · (try dsimp only at hSw); go_simp; try with_reducible rfl
          (try simp only [Act.put, List.setIfInBounds_toArray, List.set_cons_zero, List.set_cons_succ])
          refine wpAnyH_take (i := 8) (v := (.int .i64 (j : Int))) (op_at rfl) (by kernel_rfl) (by kernel_rfl) (by kernel_rfl) (fun _ _ _ h => h) (Or.inl ⟨rfl, fun w hSw => ?_⟩) (by assumption) ?_
          · (try dsimp only at hSw); go_simp; try with_reducible rfl
          (try simp only [Act.put, List.setIfInBounds_toArray, List.set_cons_zero, List.set_cons_succ])
          refine wpAnyH_take (i := 9) (v := (.pointer (some ⟨g, j, none⟩))) (op_at rfl) (by kernel_rfl) (by kernel_rfl) (by kernel_rfl) (fun _ _ _ h => h) (Or.inl ⟨rfl, fun w hSw => ?_⟩) (by assumption) ?_
          · (try dsimp only at hSw); go_simp; try with_reducible rfl
          (try simp only [Act.put, List.setIfInBounds_toArray, List.set_cons_zero, List.set_cons_succ])
          refine wpAnyH_take (i := 10) (v := (.int .i64 x)) (op_at rfl) (by kernel_rfl) (by kernel_rfl) (by kernel_rfl) (fun _ _ _ h => h) (Or.inl ⟨rfl, fun w hSw => ?_⟩) (by assumption) ?_
          · (try dsimp only at hSw); go_simp; try with_reducible rfl
          (try simp only [Act.put, List.setIfInBounds_toArray, List.set_cons_zero, List.set_cons_succ])
          refine wpAnyH_take (i := 11) (v := (.int .i64 (2 * (L : Int) + 1 - x))) (op_at rfl) (by kernel_rfl) (by kernel_rfl) (by kernel_rfl) (fun _ _ _ h => h) (Or.inl ⟨rfl, fun w hSw => ?_⟩) (by assumption) ?_
          · (try dsimp only at hSw); go_simp; try with_reducible rfl
          (try simp only [Act.put, List.setIfInBounds_toArray, List.set_cons_zero, List.set_cons_succ])
          refine wpAnyH_ready (rs := [12]) (by kernel_rfl) (by simp) (AllReadyH.cons (op_at rfl) (fun K hK => ?_) AllReadyH.nil)
          go_simp
          refine hK.out _ _ (Gr.cell ((Gr.refl V).alloc _) HCV.out) (fun hHeld => ?_)
          clear hK K
          (try simp only [Act.put, List.setIfInBounds_toArray, List.set_cons_zero, List.set_cons_succ])
          refine wpAnyH_ready (rs := [13]) (by kernel_rfl) (by simp) (AllReadyH.cons (op_at rfl) (fun K hK => ?_) AllReadyH.nil)
          rw [if_pos (show Region.wanted _ _ = true from rfl)]
          refine step_ints _ _ rfl W1.heap.size u2 (2 * j) (ints (dblK L (xs.take j))) rfl HOV.out (some ⟨V.heap.size, 0, none⟩) 2 2 [x, 2 * (L : Int) + 1 - x] rfl (intS_two V x (2 * (L : Int) + 1 - x) 3) (by omega) HSV.out ?_
          intro v1 w1 hown1 hgrow1
          have C1 := Lib.hid hown1
          have C2 : Hid (Below W1.heap.size W1 w1) := HBV.out.grown hgrow1 HSV.out (fun q hq => (HOV.out.lt q hq).1)
          have C3 : Hid (w1.cell? ⟨g, j, none⟩ = some (.int .i64 x)) := Gr.cell (show Gr W1 w1 from C2.out) HC1.out
          clear hown1 hgrow1
          refine hK.out _ _ C3.out (fun hHeld => ?_)
          clear hK K
          (try simp only [Act.put, List.setIfInBounds_toArray, List.set_cons_zero, List.set_cons_succ])
          refine wpAnyH_take (i := 14) (v := v1) (op_at rfl) (by kernel_rfl) (by kernel_rfl) (by kernel_rfl) (fun _ _ _ h => h) (Or.inl ⟨rfl, fun w hSw => ?_⟩) (by assumption) ?_
          · (try dsimp only at hSw); go_simp; try with_reducible rfl
          (try simp only [Act.put, List.setIfInBounds_toArray, List.set_cons_zero, List.set_cons_succ])
          refine wpAnyH_done (by kernel_rfl) ?_ _
          go_wp2_with fail
          go_roundw
          case rel =>
            exact ⟨j + 1, _, rfl, by omega, by go_num, by rw [HD.out]; have := C1.out; simpa [ints, Nat.mul_add] using this, C2.out⟩
          case measure => simp [intOf]; omega
        · have hjj : j = L := by omega
          subst hjj
          go_wp2_with fail
          have hk5 := hk6 (by omega)
          go_roundg (gk - 1)
          case measure => omega
          case rel =>
            refine ⟨k + 1, _, rfl, by omega, by rw [hp2]; omega, ?_, (show Gr w wr from Gr.trans hnx hnx2)⟩
            rw [hdk, hp2, Nat.mul_comm]
            have := ownsRow_base hown2 hnx.size
            rwa [List.take_of_length_le (by omega)] at this
    · have hkeep : n ≤ (L : Int) ∧ (L : Int) < 2 * n := by omega
      obtain ⟨cur0, hr0, hcap, hmax, hcs, hct⟩ := hrow
      have hzl := fun i => zK_len n (xs.take i)
      go_wp2_with fail
      go_loopw [7] (fun ix wr => ∃ (i : Nat) (cur : Array Value), i ≤ L ∧ ix = .int .i64 i ∧ wr.heap[g]? = some (.cells cur 3 (0, 0)) ∧ cur.size = cap ∧ cur.toList.take L = ints (zAt n xs i) ∧ Below w.heap.size w wr) (fun ix _ => L - (intOf ix).toNat)
      case atStart => exact ⟨0, cur0, Nat.zero_le _, rfl, hr0, by omega, by simpa [zAt, zK] using hct, hnx⟩
      case round =>
        obtain ⟨i, cur, hiL, rfl, hgc, hcc, hct2, hnx2⟩ := hrel
        by_cases hlt : (i : Int) < L
        · have hil : i < xs.length := by omega
          have hx : xs[i]? = some xs[i] := List.getElem?_eq_getElem hil
          have hz := zAt_get (n := n) hx
          have hstep := zAt_step (n := n) hx
          have hcell2 : wr.cell? ⟨g, i, none⟩ = some (.int .i64 xs[i]) := by
            rw [cell_of_row wr g i cur 3 (0, 0) hgc]
            have : (cur.toList.take L)[i]? = some (.int .i64 xs[i]) := by rw [hct2]; simp [ints, hz]
            rw [List.getElem?_take, if_pos (by omega)] at this
            simpa using this
          have hfz : wr.frozen? ⟨g, i, none⟩ = false := frozen_of_row wr g i cur 3 hgc
          have hset := heap_setCell_same wr g i cur 3 (.int .i64 0) hgc
          have hsame : (zAt n xs i).set i xs[i] = zAt n xs i := set_same hz
          generalize xs[i] = x at *
          have HS := Lib.hid hset
          have HC := Lib.hid hgc
          have HT := Lib.hid hct2
          clear hset hgc hct2 hz hx hcell hr
          by_cases hxn : n < x
          · rw [if_pos hxn] at hstep
            have HZ := Lib.hid hstep
            clear hstep hsame
            go_wp2_with fail
            go_roundw
            case rel =>
              refine ⟨i + 1, _, by omega, by go_num, HS.out, by simpa using hcc, ?_, hnx2.setCell hbg _⟩
              rw [HZ.out]
              have e : (cur.setIfInBounds i (.int .i64 0)).toList.take L = (cur.toList.take L).set i (.int .i64 0) := by
                simp [List.take_set]
              rw [e, HT.out]
              simp [ints, List.map_set]
            case measure => simp [intOf]; omega
          · rw [if_neg hxn] at hstep
            rw [hsame] at hstep
            have hd : decide (n < x) = false := by simpa using hxn
            have HZ := Lib.hid hstep
            clear hstep hsame
            go_wp2_with fail
            go_roundw
            case rel => exact ⟨i + 1, cur, by omega, by go_num, HC.out, hcc, by rw [HZ.out]; exact HT.out, hnx2⟩
            case measure => simp [intOf]; omega
        · have hii : i = L := by omega
          subst hii
          go_wp2_with fail
          go_ret
          refine ⟨_, rfl, k, by rw [hpc]; exact hkeep.1, by rw [hpc]; exact hkeep.2, ?_, hnx2⟩
          rw [hLk, hG]
          have hzz : zAt n xs i = zK n xs := by
            unfold zAt
            rw [List.take_of_length_le (by omega), List.drop_of_length_le (by omega), List.append_nil]
          rw [hzz] at hct2
          exact ⟨by simp [ints, zK_len]; omega, .inr ⟨g, cap, cur, rfl, hbg, hgc, hcap, hmax, by omega, by simpa using hct2⟩⟩
end Go.Proofs.YtjpkeolielpelaaGreatDoor
namespace Go.Proofs.YtjpkeolielpelaaGreatDoor
open Go.RowKit Go.Lib
set_option linter.unusedSimpArgs false
set_option linter.unusedVariables false
set_option maxHeartbeats 1000000 in
set_option maxRecDepth 100000 in
theorem index_c (xs : List Int) (g c L r : Nat) (x : Int) (hL : xs.length = L) (hs : L ≤ 1000) (hr : xs[r]? = some x) (hf : ∀ j y, j < r → xs[j]? = some y → (x == y) = false) (w : World) (hc : ∀ i y, xs[i]? = some y → w.cell? ⟨g, i, none⟩ = some (.int .i64 y)) :
    Calls Tryz.prog 49 #[.slice (some ⟨g, 0, none⟩) L c, .int .i64 x] w fun e w' => e = .returned (.int .i64 r) ∧ Gr w w' := by
  have hrL : r < L := by
    obtain ⟨h, _⟩ := List.getElem?_eq_some_iff.1 hr
    omega
  have HC := Lib.hid hc
  have HF := Lib.hid hf
  have HR := Lib.hid hr
  have HL := Lib.hid hL
  clear hc hf hr hL
  go_enter Tryz.func49, Tryz.ntmps49
  go_wp2_with fail
  go_loopw [8] (fun i wr => ∃ k : Nat, k ≤ r ∧ i = .int .i64 k ∧ Gr w wr) (fun i _ => r - (intOf i).toNat)
  case atStart => exact ⟨0, Nat.zero_le _, rfl, Gr.refl _⟩
  case round =>
    obtain ⟨k, hk, rfl, hg⟩ := hrel
    have hkL : (k : Int) < L := by omega
    have hkl : k < xs.length := by have := HL.out; omega
    have hx : xs[k]? = some xs[k] := List.getElem?_eq_getElem hkl
    have hcell := hg.cell (HC.out k _ hx)
    by_cases hkr : k = r
    · subst hkr
      have he : xs[k] = x := by
        have h1 := HR.out
        rw [hx] at h1
        exact Option.some.inj h1
      rw [he] at hcell
      clear hx he
      go_wp2_with fail
      go_ret
      exact ⟨rfl, hg⟩
    · have hne := HF.out k _ (by omega) hx
      generalize xs[k] = y at *
      clear hx
      go_wp2_with fail
      go_roundw
      case rel => exact ⟨k + 1, by omega, by go_num, hg⟩
      case measure => simp [intOf]; omega
theorem bracketE_c (n : Int) (hn : 1 ≤ n ∧ n ≤ 64) (w : World) :
    Calls Tryz.prog 6 #[.int .i64 n] w fun x w' => ∃ v k, x = .returned (.tuple #[v, .int .i64 0]) ∧ (n ≤ ((2 ^ k : Nat) : Int)) ∧ (((2 ^ k : Nat) : Int) < 2 * n) ∧ w'.ownsRow w.heap.size 3 1 v (2 ^ k) (ints (zK n (growB k))) ∧ Gr w w' := by
  have HR : ∀ W, _ := fun W => range_c n 1 64 W
  rw [outE_zero.2 hn] at HR
  replace HR := Lib.hid HR
  have HB := Lib.hid (bracket_c n hn)
  go_enter Tryz.func6, Tryz.ntmps6
  go_wp2_with fail
  refine (HR.out _).mono ?_
  rintro e w4 ⟨rfl, rfl⟩
  go_wp2_with fail
  refine (HB.out _).mono ?_
  rintro e w4 ⟨v, k, rfl, h1, h2, h3, h4⟩
  go_wp2_with fail
  exact bodyPost_ret (v := .tuple #[v, .int .i64 0]) (by simp [results, Tryz.results6, go_sem]) rfl ⟨v, k, rfl, h1, h2, h3, h4⟩
theorem byte_getD (b : ByteArray) (i : Nat) (h : i < b.size) : b[i] = (b.data.toList[i]?).getD 0 := by
  have h' : i < b.data.toList.length := by simpa using h
  rw [List.getElem?_eq_getElem h']
  rfl
/-- how many digits to the base 2 -/
def bl (d : Int) : Int := if d < 1 then 0 else if d < 2 then 1 else if d < 4 then 2 else if d < 8 then 3 else if d < 16 then 4 else if d < 32 then 5 else 6
set_option maxHeartbeats 1000000 in
set_option maxRecDepth 100000 in
theorem len64_c (d : Int) (hd : 0 ≤ d ∧ d ≤ 63) (w : World) :
    Calls Tryz.prog 88 #[.int .u64 d] w fun e w' => e = .returned (.int .i64 (bl d)) ∧ w = w' := by
  obtain ⟨b, hb⟩ : ∃ b, b = bl d := ⟨_, rfl⟩
  rw [← hb]
  have HB := Lib.hid hb
  clear hb
  go_enter Tryz.func88, Tryz.ntmps88
  go_wp2_with fail
  go_ret
  refine ⟨?_, rfl⟩
  rw [HB.out]
  clear HB
  change Ending.returned (.int .i64 _) = Ending.returned (.int .i64 _)
  refine congrArg (fun z => Ending.returned (Value.int .i64 z)) ?_
  rw [byte_getD]
  have hc : d = 0 ∨ d = 1 ∨ d = 2 ∨ d = 3 ∨ d = 4 ∨ d = 5 ∨ d = 6 ∨ d = 7 ∨ d = 8 ∨ d = 9 ∨ d = 10 ∨ d = 11 ∨ d = 12 ∨ d = 13 ∨ d = 14 ∨ d = 15 ∨ d = 16 ∨ d = 17 ∨ d = 18 ∨ d = 19 ∨ d = 20 ∨ d = 21 ∨ d = 22 ∨ d = 23 ∨ d = 24 ∨ d = 25 ∨ d = 26 ∨ d = 27 ∨ d = 28 ∨ d = 29 ∨ d = 30 ∨ d = 31 ∨ d = 32 ∨ d = 33 ∨ d = 34 ∨ d = 35 ∨ d = 36 ∨ d = 37 ∨ d = 38 ∨ d = 39 ∨ d = 40 ∨ d = 41 ∨ d = 42 ∨ d = 43 ∨ d = 44 ∨ d = 45 ∨ d = 46 ∨ d = 47 ∨ d = 48 ∨ d = 49 ∨ d = 50 ∨ d = 51 ∨ d = 52 ∨ d = 53 ∨ d = 54 ∨ d = 55 ∨ d = 56 ∨ d = 57 ∨ d = 58 ∨ d = 59 ∨ d = 60 ∨ d = 61 ∨ d = 62 ∨ d = 63 := by omega
  rcases hc with rfl | rfl | rfl | rfl | rfl | rfl | rfl | rfl | rfl | rfl | rfl | rfl | rfl | rfl | rfl | rfl | rfl | rfl | rfl | rfl | rfl | rfl | rfl | rfl | rfl | rfl | rfl | rfl | rfl | rfl | rfl | rfl | rfl | rfl | rfl | rfl | rfl | rfl | rfl | rfl | rfl | rfl | rfl | rfl | rfl | rfl | rfl | rfl | rfl | rfl | rfl | rfl | rfl | rfl | rfl | rfl | rfl | rfl | rfl | rfl | rfl | rfl | rfl | rfl
  all_goals (clear hd; decide +kernel)
set_option maxRecDepth 100000 in
theorem len_c (d : Int) (hd : 0 ≤ d ∧ d ≤ 63) (w : World) :
    Calls Tryz.prog 48 #[.int .u64 d] w fun e w' => e = .returned (.int .i64 (bl d)) ∧ w = w' := by
  have HL := Lib.hid (fun W => len64_c d hd W)
  generalize bl d = b at *
  go_enter Tryz.func48, Tryz.ntmps48
  go_wp2_with fail
  refine (HL.out _).mono ?_
  rintro e w4 ⟨rfl, rfl⟩
  go_wp2_with fail
  go_ret
  exact ⟨rfl, rfl⟩
end Go.Proofs.YtjpkeolielpelaaGreatDoor
namespace Go.Proofs.YtjpkeolielpelaaGreatDoor
open Go.RowKit Go.Lib
/-- where x stands -/
def posOf (x : Int) : List Int → Nat
  | [] => 0
  | s :: l => if s = x then 0 else posOf x l + 1
theorem posOf_get {x : Int} : ∀ {l : List Int}, x ∈ l → l[posOf x l]? = some x ∧ ∀ j y, j < posOf x l → l[j]? = some y → y ≠ x
  | [], h => by cases h
  | s :: l, h => by
    unfold posOf
    split
    · rename_i hs
      subst hs
      exact ⟨by simp, fun j y hj => by omega⟩
    · rename_i hs
      have hl : x ∈ l := by
        cases h with
        | head => exact absurd rfl hs
        | tail _ h => exact h
      obtain ⟨h1, h2⟩ := posOf_get hl
      refine ⟨by simpa using h1, fun j y hj hy => ?_⟩
      cases j with
      | zero => simp at hy; subst hy; exact hs
      | succ j => exact h2 j y (by omega) (by simpa using hy)
theorem zK_get (n : Int) : ∀ (l : List Int) (j : Nat), (zK n l)[j]? = (l[j]?).map fun s => if n < s then 0 else s
  | [], j => by simp [zK]
  | s :: l, 0 => by simp [zK]
  | s :: l, j + 1 => by simpa [zK] using zK_get n l j
/-- the round in which two seeds meet -/
def mtK (l : List Int) (x y : Int) : Int := bl (bits BinOp.xor .i64 (posOf x l) (posOf y l))
/-- what the law says of two seeds -/
structure Pair (k : Nat) (x y : Int) : Prop where
  low : 0 ≤ bits BinOp.xor .i64 (posOf x (growB k)) (posOf y (growB k))
  high : bits BinOp.xor .i64 (posOf x (growB k)) (posOf y (growB k)) ≤ 63
  same : mtK (growB k) x y = mtK (growB k) y x
  pos : 1 ≤ mtK (growB k) x y
  most : mtK (growB k) x y ≤ k
  best : ∀ last, 1 ≤ last → last ≤ k → x ≤ 2 ^ last → y ≤ 2 ^ last → k - (last : Int) < mtK (growB k) x y
def pairB (l : List Int) (k : Nat) (x y : Int) : Bool :=
  decide (0 ≤ bits BinOp.xor .i64 (posOf x l) (posOf y l)) && decide (bits BinOp.xor .i64 (posOf x l) (posOf y l) ≤ 63) && decide (mtK l x y = mtK l y x) && decide (1 ≤ mtK l x y) && decide (mtK l x y ≤ k) &&
    (List.range 7).all fun last => decide (last < 1) || decide (k < last) || decide (2 ^ last < x) || decide (2 ^ last < y) || decide (k - (last : Int) < mtK l x y)
def allB (l : List Int) (k : Nat) : Bool := (List.range (2 ^ k)).all fun i => l.contains ((i : Int) + 1) && (List.range (2 ^ k)).all fun j => Nat.beq i j || pairB l k (i + 1) (j + 1)
theorem grow1 : growB 1 = [1, 2] := by decide +kernel
theorem all1 : allB [1, 2] 1 = true := by decide +kernel
theorem grow2 : growB 2 = [1, 4, 2, 3] := by decide +kernel
theorem all2 : allB [1, 4, 2, 3] 2 = true := by decide +kernel
theorem grow3 : growB 3 = [1, 8, 4, 5, 2, 7, 3, 6] := by decide +kernel
theorem all3 : allB [1, 8, 4, 5, 2, 7, 3, 6] 3 = true := by decide +kernel
theorem grow4 : growB 4 = [1, 16, 8, 9, 4, 13, 5, 12, 2, 15, 7, 10, 3, 14, 6, 11] := by decide +kernel
theorem all4 : allB [1, 16, 8, 9, 4, 13, 5, 12, 2, 15, 7, 10, 3, 14, 6, 11] 4 = true := by decide +kernel
theorem grow5 : growB 5 = [1, 32, 16, 17, 8, 25, 9, 24, 4, 29, 13, 20, 5, 28, 12, 21, 2, 31, 15, 18, 7, 26, 10, 23, 3, 30, 14, 19, 6, 27, 11, 22] := by decide +kernel
theorem all5 : allB [1, 32, 16, 17, 8, 25, 9, 24, 4, 29, 13, 20, 5, 28, 12, 21, 2, 31, 15, 18, 7, 26, 10, 23, 3, 30, 14, 19, 6, 27, 11, 22] 5 = true := by decide +kernel
theorem grow6 : growB 6 = [1, 64, 32, 33, 16, 49, 17, 48, 8, 57, 25, 40, 9, 56, 24, 41, 4, 61, 29, 36, 13, 52, 20, 45, 5, 60, 28, 37, 12, 53, 21, 44, 2, 63, 31, 34, 15, 50, 18, 47, 7, 58, 26, 39, 10, 55, 23, 42, 3, 62, 30, 35, 14, 51, 19, 46, 6, 59, 27, 38, 11, 54, 22, 43] := by decide +kernel
theorem all6 : allB [1, 64, 32, 33, 16, 49, 17, 48, 8, 57, 25, 40, 9, 56, 24, 41, 4, 61, 29, 36, 13, 52, 20, 45, 5, 60, 28, 37, 12, 53, 21, 44, 2, 63, 31, 34, 15, 50, 18, 47, 7, 58, 26, 39, 10, 55, 23, 42, 3, 62, 30, 35, 14, 51, 19, 46, 6, 59, 27, 38, 11, 54, 22, 43] 6 = true := by decide +kernel
theorem allB_all {k : Nat} (h1 : 1 ≤ k) (h6 : k ≤ 6) : allB (growB k) k = true := by
  have : k = 1 ∨ k = 2 ∨ k = 3 ∨ k = 4 ∨ k = 5 ∨ k = 6 := by omega
  rcases this with rfl | rfl | rfl | rfl | rfl | rfl
  · rw [grow1]; exact all1
  · rw [grow2]; exact all2
  · rw [grow3]; exact all3
  · rw [grow4]; exact all4
  · rw [grow5]; exact all5
  · rw [grow6]; exact all6
theorem pair_all {k : Nat} (h1 : 1 ≤ k) (h6 : k ≤ 6) {x y : Int} (hx : 1 ≤ x ∧ x ≤ 2 ^ k) (hy : 1 ≤ y ∧ y ≤ 2 ^ k) : x ∈ growB k ∧ (x ≠ y → Pair k x y) := by
  have h := allB_all h1 h6
  have hp : ((2 ^ k : Nat) : Int) = 2 ^ k := by simp
  unfold allB at h
  rw [List.all_eq_true] at h
  have hi := h (x - 1).toNat (by rw [List.mem_range]; omega)
  simp only [Bool.and_eq_true, List.all_eq_true] at hi
  obtain ⟨hi1, hi2⟩ := hi
  have ex : (((x - 1).toNat : Nat) : Int) + 1 = x := by omega
  rw [ex] at hi1 hi2
  refine ⟨by simpa using hi1, fun hne => ?_⟩
  have hj := hi2 (y - 1).toNat (by rw [List.mem_range]; omega)
  have ey : (((y - 1).toNat : Nat) : Int) + 1 = y := by omega
  rw [ey] at hj
  have hb : Nat.beq (x - 1).toNat (y - 1).toNat = false := by
    cases hb : Nat.beq (x - 1).toNat (y - 1).toNat
    · rfl
    · exact absurd (Nat.eq_of_beq_eq_true hb) (by omega)
  rw [hb, Bool.false_or] at hj
  unfold pairB at hj
  simp only [Bool.and_eq_true, decide_eq_true_eq, List.all_eq_true, Bool.or_eq_true, List.mem_range] at hj
  obtain ⟨⟨⟨⟨⟨a, b⟩, c⟩, d⟩, e⟩, f⟩ := hj
  refine ⟨a, b, c, d, e, fun last l1 l2 l3 l4 => ?_⟩
  have := f last (by omega)
  omega
end Go.Proofs.YtjpkeolielpelaaGreatDoor
namespace Go.Proofs.YtjpkeolielpelaaGreatDoor
open Go.RowKit Go.Lib
set_option linter.unusedSimpArgs false
set_option linter.unusedVariables false
theorem pow_one {n : Int} {k j : Nat} (h1 : n ≤ ((2 ^ k : Nat) : Int)) (h2 : ((2 ^ k : Nat) : Int) < 2 * n) (h3 : n ≤ ((2 ^ j : Nat) : Int)) (h4 : ((2 ^ j : Nat) : Int) < 2 * n) : k = j := by
  rcases Nat.lt_trichotomy k j with h | h | h
  · have := Nat.pow_le_pow_right (show 0 < 2 by decide) (show k + 1 ≤ j from h)
    rw [Nat.pow_succ] at this
    omega
  · exact h
  · have := Nat.pow_le_pow_right (show 0 < 2 by decide) (show j + 1 ≤ k from h)
    rw [Nat.pow_succ] at this
    omega
theorem first_three0 (b cap : Nat) (w : World) (hx : w.cell? ⟨b, 0, none⟩ = some (.int .i64 0)) (hy : w.cell? ⟨b, 1, none⟩ = some (.int .i64 0)) (hz : w.cell? ⟨b, 2, none⟩ = some (.int .i64 0)) :
    Calls Tryz.prog 46 #[.slice (some ⟨b, 0, none⟩) 3 cap] w fun e w' => e = .returned (.int .i64 0) ∧ w = w' := first_three 0 0 0 b cap w hx hy hz
/-- k is a number of rounds for n -/
structure Rnd (n : Int) (k : Nat) : Prop where
  n2 : 2 ≤ n
  n64 : n ≤ 64
  low : n ≤ ((2 ^ k : Nat) : Int)
  high : ((2 ^ k : Nat) : Int) < 2 * n
theorem Rnd.k {n : Int} {k : Nat} (h : Rnd n k) : 1 ≤ k ∧ k ≤ 6 := by
  obtain ⟨h1, h2, h3, h4⟩ := h
  constructor
  · rcases k with _ | k
    · simp at h3; omega
    · omega
  · apply Nat.le_of_not_lt
    intro h
    have := Nat.pow_le_pow_right (show 0 < 2 by decide) (show 7 ≤ k from h)
    omega
/-- what the two places are -/
structure Two (n x y : Int) (k : Nat) : Prop where
  r : Rnd n k
  x1 : 1 ≤ x
  xn : x ≤ n
  y1 : 1 ≤ y
  yn : y ≤ n
  ne : x ≠ y
theorem Two.at {n x y : Int} {k : Nat} (h : Two n x y k) : (∀ z, z = x ∨ z = y → (zK n (growB k))[posOf z (growB k)]? = some z ∧ posOf z (growB k) < 2 ^ k ∧ ∀ j u, j < posOf z (growB k) → (zK n (growB k))[j]? = some u → (z == u) = false) ∧ Pair k x y := by
  have hk := h.r.k
  have h3 := h.r.low
  have hp : ((2 ^ k : Nat) : Int) = 2 ^ k := by simp
  have hx := h.x1
  have hxn := h.xn
  have hy := h.y1
  have hyn := h.yn
  refine ⟨fun z hz => ?_, (pair_all hk.1 hk.2 (by omega) (by omega)).2 h.ne⟩
  have hz1 : 1 ≤ z ∧ z ≤ n := by rcases hz with rfl | rfl <;> constructor <;> assumption
  have hm := (pair_all (x := z) (y := z) hk.1 hk.2 (by omega) (by omega)).1
  obtain ⟨q1, q2⟩ := posOf_get hm
  refine ⟨by rw [zK_get, q1]; simp; omega, ?_, fun j u hj hu => ?_⟩
  · obtain ⟨hh, _⟩ := List.getElem?_eq_some_iff.1 q1
    rwa [growB_len] at hh
  · rw [zK_get] at hu
    cases he : (growB k)[j]? with
    | none => rw [he] at hu; cases hu
    | some s =>
      rw [he] at hu
      have := q2 j s hj he
      simp at hu ⊢
      split at hu <;> omega
set_option maxHeartbeats 2000000 in
set_option maxRecDepth 100000 in
theorem Meet_c (n x y : Int) (k : Nat) (h : Two n x y k) (w : World) :
    Calls Tryz.prog 7 #[.int .i64 n, .int .i64 x, .int .i64 y] w fun e w' => e = .returned (.tuple #[.int .i64 (mtK (growB k) x y), .int .i64 0]) ∧ Gr w w' := by
  have HR : ∀ W, _ := fun W => range_c n 1 64 W
  have hr1 := h.r.n2
  have hr2 := h.r.n64
  rw [outE_zero.2 ⟨by omega, by omega⟩] at HR
  replace HR := Lib.hid HR
  have HI := Lib.hid (fun b m W => if_c b m W)
  have HF := Lib.hid first_three0
  have HB := Lib.hid (bracket_c n ⟨by omega, by omega⟩)
  obtain ⟨W, hW, g, a0, a1, a2⟩ := box3 w (.int .i64 0) (.int .i64 0) (.int .i64 0) 26
  have HW := Lib.hid hW
  obtain ⟨ha, hp⟩ := h.at
  have hX := ha x (.inl rfl)
  have hY := ha y (.inr rfl)
  have hlo := hp.low
  have hhi := hp.high
  have hL := fun W => len_c _ ⟨hlo, hhi⟩ W
  have hx1 : decide (x < 1) = false := by have := h.x1; simp; omega
  have hxn : decide (n < x) = false := by have := h.xn; simp; omega
  have hy1 : decide (y < 1) = false := by have := h.y1; simp; omega
  have hyn : decide (n < y) = false := by have := h.yn; simp; omega
  have hne : (x == y) = false := by have := h.ne; simpa using this
  have hu : IntKind.u64.wrap (bits BinOp.xor .i64 (posOf x (growB k)) (posOf y (growB k))) = bits BinOp.xor .i64 (posOf x (growB k)) (posOf y (growB k)) := by
    generalize bits BinOp.xor .i64 (posOf x (growB k)) (posOf y (growB k)) = d at *
    rw [IntKind.wrap_u64]
    omega
  have hpl : posOf x (growB k) < 1000 ∧ posOf y (growB k) < 1000 := by
    have := hX.2.1
    have := hY.2.1
    have := h.r.high
    omega
  have HM : Hid (mtK (growB k) x y = bl (bits BinOp.xor .i64 (posOf x (growB k)) (posOf y (growB k)))) := rfl
  have h2k := h.r.high
  have HRN := Lib.hid h.r
  clear ha hp hlo hhi h
  generalize mtK (growB k) x y = mt at *
  generalize posOf x (growB k) = px at *
  generalize posOf y (growB k) = py at *
  obtain ⟨d, hd⟩ : ∃ d, d = bits BinOp.xor .i64 px py := ⟨_, rfl⟩
  rw [← hd] at hL HM hu
  have HL := Lib.hid hL
  have HX := Lib.hid hX
  have HY := Lib.hid hY
  clear hX hY hL hW
  go_enter Tryz.func7, Tryz.ntmps7
  go_wp2_with fail
  refine (HR.out _).mono ?_
  rintro e w4 ⟨rfl, rfl⟩
  go_wp2_with fail
  refine (HI.out _ _ _).mono ?_
  rintro e w4 ⟨rfl, rfl⟩
  go_wp2_with fail
  refine (HI.out _ _ _).mono ?_
  rintro e w4 ⟨rfl, rfl⟩
  go_wp2_with fail
  rw [HW.out]
  refine (HF.out _ _ W a0 a1 a2).mono ?_
  rintro e w4 ⟨rfl, rfl⟩
  go_wp2_with fail
  refine (HB.out _).mono ?_
  rintro e w4 ⟨v, j, rfl, h1, h2, h3, hg⟩
  have hkj := pow_one h1 h2 HRN.out.low HRN.out.high
  subst hkj
  obtain ⟨g1, cap, rfl, hbg, hgw, hcell⟩ := reads_pos h3 (Nat.two_pow_pos _)
  have HC := Lib.hid hcell
  have HZ : Hid ((zK n (growB j)).length = 2 ^ j) := by unfold Hid; rw [zK_len, growB_len]
  clear h1 h2 h3 hcell
  have hL1 : 2 ^ j ≤ 1000 := by omega
  generalize 2 ^ j = L at *
  generalize zK n (growB j) = xs at *
  go_wp2_with fail
  refine (index_c xs g1 cap L px x HZ.out hL1 (HX.out).1 (HX.out).2.2 _ HC.out).mono ?_
  rintro e w5 ⟨rfl, hg1⟩
  have HC1 := Lib.hid fun i y hy => hg1.cell (HC.out i y hy)
  go_wp2_with fail
  refine (index_c xs g1 cap L py y HZ.out hL1 (HY.out).1 (HY.out).2.2 _ HC1.out).mono ?_
  rintro e w6 ⟨rfl, hg2⟩
  go_wp2_with fail
  rw [← hd, hu]
  refine (HL.out _).mono ?_
  rintro e w7 ⟨rfl, rfl⟩
  go_wp2_with fail
  exact bodyPost_ret (v := .tuple #[.int .i64 (bl d), .int .i64 0]) (by simp [results, Tryz.results7, go_sem]; rw [hd]) rfl ⟨by rw [HM.out], ((g.trans hg).trans hg1).trans hg2⟩
end Go.Proofs.YtjpkeolielpelaaGreatDoor
namespace Go.Proofs.YtjpkeolielpelaaGreatDoor
open Go.RowKit Go.Lib
set_option linter.unusedSimpArgs false
set_option linter.unusedVariables false
/-- the first element with a property, from a place on -/
def idxQ {α : Type} (Q : α → Bool) (xs : List α) : Nat → Nat → Int
  | 0, _ => -1
  | k + 1, i => match xs[i]? with
    | some x => if Q x then i else idxQ Q xs k (i + 1)
    | none => -1
theorem idxQ_step {α : Type} {Q : α → Bool} {xs : List α} {i n : Nat} {x : α} (h : xs[i]? = some x) (hi : i < n) : idxQ Q xs (n - i) i = if Q x then (i : Int) else idxQ Q xs (n - (i + 1)) (i + 1) := by
  obtain ⟨k, hk⟩ : ∃ k, n - i = k + 1 := ⟨n - i - 1, by omega⟩
  rw [hk, show n - (i + 1) = k by omega]
  simp only [idxQ, h]
theorem idxQ_end {α : Type} {Q : α → Bool} {xs : List α} {i n : Nat} (h : n ≤ i) : idxQ Q xs (n - i) i = -1 := by
  rw [show n - i = 0 by omega]; rfl
theorem idxQ_any {α : Type} (Q : α → Bool) (xs : List α) : ∀ (k i : Nat), i + k ≤ xs.length → decide (0 ≤ idxQ Q xs k i) = ((xs.drop i).take k).any Q
  | 0, i, h => by simp [idxQ]
  | k + 1, i, h => by
    have hi : i < xs.length := by omega
    rw [List.drop_eq_getElem_cons hi, List.take_succ_cons, List.any_cons, ← idxQ_any Q xs k (i + 1) (by omega)]
    simp only [idxQ, List.getElem?_eq_getElem hi]
    cases Q xs[i] <;> simp
/-- the first error, from a place on -/
def errG {α : Type} (E : Nat → α → Int) (xs : List α) : Nat → Nat → Int
  | 0, _ => 0
  | k + 1, i => match xs[i]? with
    | some x => if E i x = 0 then errG E xs k (i + 1) else E i x
    | none => 0
theorem errG_step {α : Type} {E : Nat → α → Int} {xs : List α} {n i : Nat} {x : α} (hi : i < n) (h : xs[i]? = some x) : errG E xs (n - i) i = if E i x = 0 then errG E xs (n - (i + 1)) (i + 1) else E i x := by
  obtain ⟨k, hk⟩ : ∃ k, n - i = k + 1 := ⟨n - i - 1, by omega⟩
  have hk2 : n - (i + 1) = k := by omega
  rw [hk, hk2]
  simp only [errG, h]
theorem errG_zero {α : Type} {E : Nat → α → Int} {xs : List α} : ∀ (k i : Nat), errG E xs k i = 0 → i + k ≤ xs.length → ∀ j x, i ≤ j → j < i + k → xs[j]? = some x → E j x = 0
  | 0, i, _, _, j, x, h1, h2, _ => by omega
  | k + 1, i, h, hl, j, x, h1, h2, hx => by
    have hi : i < xs.length := by omega
    simp only [errG, List.getElem?_eq_getElem hi] at h
    split at h
    · rename_i h0
      rcases Nat.lt_or_ge i j with h3 | h3
      · exact errG_zero k (i + 1) h (by omega) j x (by omega) (by omega) hx
      · obtain rfl : i = j := by omega
        rw [List.getElem?_eq_getElem hi] at hx
        simp only [Option.some.injEq] at hx
        rw [← hx]; exact h0
    · rename_i h0
      exact absurd h h0
/-- the error of a list of at most so many elements -/
def listE {α : Type} (m : Nat) (E : Nat → α → Int) (xs : List α) : Int := if m < xs.length then 5 else errG E xs xs.length 0
/-- whether a name stands before -/
def dupN {α : Type} (f : α → ByteArray) (xs : List α) (i : Nat) (nm : ByteArray) : Bool := (xs.take i).any fun y => (f y).toList == nm.toList
def isN {α : Type} (f : α → ByteArray) (nm : ByteArray) (y : α) : Bool := (f y).toList == nm.toList
/-- the error of a name -/
def nmE (s : ByteArray) : Int := if Nm s then 0 else 8
theorem bx5 (w : World) (a0 a1 a2 a3 a4 : Value) (T : Nat) : ∃ W, w.alloc (.cells #[a0, a1, a2, a3, a4] T) = W ∧ Gr w W ∧ W.cell? ⟨w.heap.size, 0, none⟩ = some a0 ∧ W.cell? ⟨w.heap.size, 1, none⟩ = some a1 ∧ W.cell? ⟨w.heap.size, 2, none⟩ = some a2 ∧ W.cell? ⟨w.heap.size, 3, none⟩ = some a3 ∧ W.cell? ⟨w.heap.size, 4, none⟩ = some a4 :=
  ⟨_, rfl, (Gr.refl w).alloc _, cell_new w #[a0, a1, a2, a3, a4] T 0 (by simp), cell_new w #[a0, a1, a2, a3, a4] T 1 (by simp), cell_new w #[a0, a1, a2, a3, a4] T 2 (by simp), cell_new w #[a0, a1, a2, a3, a4] T 3 (by simp), cell_new w #[a0, a1, a2, a3, a4] T 4 (by simp)⟩
theorem fst5 (x y z u q : Int) (b cap : Nat) (w : World) (hx : w.cell? ⟨b, 0, none⟩ = some (.int .i64 x)) (hy : w.cell? ⟨b, 1, none⟩ = some (.int .i64 y)) (hz : w.cell? ⟨b, 2, none⟩ = some (.int .i64 z)) (hu : w.cell? ⟨b, 3, none⟩ = some (.int .i64 u)) (hq : w.cell? ⟨b, 4, none⟩ = some (.int .i64 q)) :
    Calls Tryz.prog 46 #[.slice (some ⟨b, 0, none⟩) 5 cap] w fun e w' => e = .returned (.int .i64 (firstE [x, y, z, u, q])) ∧ w = w' :=
  first_c0 b 5 cap [x, y, z, u, q] w rfl (fun i v h => by
    rcases i with _ | _ | _ | _ | _ | i <;> simp at h <;> subst h <;> assumption) (by omega)
theorem box_two (w : World) (a0 b0 : Value) (T U : Nat) : ∃ W, (w.alloc (.cells #[a0] T)).alloc (.cells #[b0] U) = W ∧ Gr w W ∧ W.cell? ⟨w.heap.size, 0, none⟩ = some a0 ∧ W.cell? ⟨w.heap.size + 1, 0, none⟩ = some b0 := by
  obtain ⟨W1, h1, g1, a1⟩ := box1 w a0 T
  obtain ⟨W2, h2, g2, a2⟩ := box1 W1 b0 U
  refine ⟨W2, by rw [h1, h2], g1.trans g2, g2.cell a1, ?_⟩
  have : W1.heap.size = w.heap.size + 1 := by rw [← h1]; simp
  rw [← this]; exact a2
/-- the range with its answer under a name -/
theorem range_e (n l h : Int) : ∃ z, z = outE n l h ∧ ∀ W, Calls Tryz.prog 44 #[.int .i64 n, .int .i64 l, .int .i64 h] W fun e w' => e = .returned (.int .i64 z) ∧ W = w' :=
  ⟨_, rfl, fun W => range_c n l h W⟩
end Go.Proofs.YtjpkeolielpelaaGreatDoor
