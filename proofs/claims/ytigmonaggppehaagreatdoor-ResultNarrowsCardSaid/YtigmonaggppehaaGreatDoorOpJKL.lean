/- Open values: slices.Grow and slices.Concat of them. -/
import Derived.Test.YtigmonaggppehaaGreatDoorOpHI
import Derived.Test.YtigmonaggppehaaGreatDoorEvWrite
namespace Go.Proofs.YtigmonaggppehaaGreatDoor
open Go.RowKit Go.Lib
set_option linter.unusedSimpArgs false
set_option linter.unusedVariables false
/-- append(nil, make([]T, l)...) -/
theorem append_made {P : Program} {w : World} {t t2 ty elem : TypeId} {ki : IntKind} {info : TypeInfo} (hu : P.underlying t = some (.slice elem)) (hi : P.info? elem = some info) (h2 : P.underlying t2 = some (.int ki))
    {z : Value} {k : IntKind} {l : Int} (h0 : 0 < l) (hl : l.toNat ≤ 100000) (hby : info.bytes ≤ 1000) (hz : ∀ w : World, (zeroValue elem).run P w = .ok z w) (hzs : z.cells.size = info.size) :
    ∃ N C, l.toNat ≤ N ∧ N ≤ maxLen ∧ C.size = N * info.size ∧ (Builtin.append_ #[t, t2] ty #[.slice none 0 0, .int k l]).run P w = .ok (.slice (some ⟨w.heap.size, 0, none⟩) l.toNat N) (w.drew.alloc (.cells C elem)) := by
  letI : Ev.Ground := ⟨w⟩
  have hcap := Ev.nextslicecap_le (0 + l.toNat) 0 (by omega)
  have hbig : ¬ (281474976710656 < Builtin.nextslicecap (0 + l.toNat) 0 * info.bytes) := by
    have : Builtin.nextslicecap (0 + l.toNat) 0 * info.bytes ≤ 404000 * 1000 := Nat.mul_le_mul (by omega) hby
    omega
  have hw : IntKind.i64.wrap l = l := by rw [IntKind.wrap_i64]; omega
  have hb : ¬ (281474976710656 < l * info.bytes) := by
    have h1 : l * (info.bytes : Int) ≤ 100000 * 1000 := Int.mul_le_mul (by omega) (by omega) (by omega) (by omega)
    omega
  have hge := grownCap_ge w (0 + l.toNat) 0 elem
  have hle := grownCap_le_maxLen w (0 + l.toNat) 0 elem (by unfold maxLen; omega)
  refine ⟨grownCap w (0 + l.toNat) 0 elem, ⟨Ev.repN z.cells.toList l.toNat ++ (Builtin.zeroCells z.cells (grownCap w (0 + l.toNat) 0 elem - l.toNat)).toList⟩, by omega, hle, ?_, ?_⟩
  · generalize grownCap w (0 + l.toNat) 0 elem = G at *
    simp only [List.size_toArray, List.length_append, Ev.repN_length, Array.length_toList, Ev.zeroCells_repN, hzs, ← Nat.add_mul]
    rw [show l.toNat + (G - l.toNat) = G by omega]
  unfold grownCap
  unfold Builtin.append_
  have hfit : ¬ (0 + l.toNat ≤ 0) := by omega
  have h63' : ¬ (9223372036854775807 < ((0 + l.toNat : Nat) : Int)) := by omega
  have hneg : ¬ l < 0 := by omega
  simp only [List.getElem?_toArray, List.getElem?_cons_zero, List.getElem?_cons_succ, Sem.run_bind, Ev.under_run hu, Result.andThen_ok, sizeOf, typeInfo, run_program, hi, Sem.run_pure, Ev.under_run h2, if_true, asInt, hw]
  simp only [asIntOf, Sem.run_pure, Result.andThen_ok, hw, hneg, if_false, Sem.run_bind, run_program, hi]
  have hb' : ¬ (l * (info.bytes : Int) > 2 ^ 48) := by simpa using hb
  have hbig' : ¬ (Builtin.nextslicecap (0 + l.toNat) 0 * info.bytes > 2 ^ 48) := by simpa using hbig
  have h63'' : ¬ (((0 + l.toNat : Nat) : Int) > IntKind.i64.max ∧ (True ∨ info.bytes = 0)) := by
    rintro ⟨h1, _⟩
    have : IntKind.i64.max = 9223372036854775807 := by decide
    omega
  have hz0 : ¬ (l.toNat * info.size = 0) ∨ Ev.repN z.cells.toList l.toNat = [] := by
    rcases Nat.eq_zero_or_pos (l.toNat * info.size) with h | h
    · exact .inr (List.eq_nil_of_length_eq_zero (by rw [Ev.repN_length]; simpa [hzs] using h))
    · exact .inl (by omega)
  simp only [hb', if_false, Sem.run_bind, Sem.run_pure, Result.andThen_ok, hfit, run_program, hi, h63'', hbig']
  simp [Question.forced, hz, newRow, Builtin.firstCells]
  split
  · rename_i h
    rcases hz0 with h' | h'
    · exact absurd h h'
    · rw [h']; rfl
  · rw [Ev.zeroCells_repN]
    congr 3
    apply Array.ext'
    simp
/-- the same, as a step of a walk -/
theorem wpList_append_made {P : Program} {ops : Array Oper} {rest : List Oper} {o : Oper} {a : Act} {w : World} {Q : Exit → Act → World → Prop} (hgd : o.guard = none) (s x : Operand) (t t2 : TypeId)
    (ho : o.op = .call { callee := .builtin .append, args := #[s, x], argTypes := #[t, t2] })
    (elem : TypeId) (ki : IntKind) (info : TypeInfo) (z : Value) (size : Nat) (hu : P.underlying t = some (.slice elem)) (hi : P.info? elem = some info) (h2 : P.underlying t2 = some (.int ki)) (hzr : info.zero = some z) (hsz : info.size = size) (hzs : z.cells.size = size) (hby : info.bytes ≤ 1000)
    (l : Nat) (hl0 : 0 < l) (hl : l ≤ 100000) (hs : a.eval s = .slice none 0 0) (k : IntKind) (hx : a.eval x = .int k l)
    (h : ∀ N C, l ≤ N → N ≤ maxLen → C.size = N * size → wpList P ops Q rest (a.put o.dst (.slice (some ⟨w.heap.size, 0, none⟩) l N)) (w.drew.alloc (.cells C elem))) :
    wpList P ops Q (o :: rest) a w := by
  refine wpList_plain hgd fun K hK => ?_
  have hz : ∀ w : World, (zeroValue elem).run P w = .ok z w := fun w => by simp [zeroValue, typeInfo, hi, hzr]
  obtain ⟨N, C, g1, g2, g3, hr⟩ := append_made (P := P) (w := w) (ty := o.type) (k := k) (l := (l : Int)) hu hi h2 (by omega) (by simpa using hl) hby hz (by rw [hzs, hsz])
  simp only [Int.toNat_natCast] at g1 hr
  unfold Oper.wp execOp
  simp only [ho, resolve, invoke, builtin, Sem.run_bind, Sem.run_pure, Result.andThen_ok, List.map_toArray, List.map_cons, List.map_nil, hs, hx, hr]
  exact hK _ _ (h N C g1 g2 (by rw [g3, hsz]))
end Go.Proofs.YtigmonaggppehaaGreatDoor
namespace Go.Proofs.YtigmonaggppehaaGreatDoor
open Go.RowKit Go.Lib
set_option linter.unusedSimpArgs false
set_option linter.unusedVariables false
theorem grow_zero (w : World) :
    Calls Tryz.prog 135 #[.slice none 0 0, .int .i64 0] w fun e w' => ∃ v, e = .returned v ∧ w'.ownsRow w.heap.size 69 3 v 0 [] ∧ Gr w w' := by
  go_enter Tryz.func135, Tryz.ntmps135
  go_wp2_with fail
  go_ret
  exact ⟨_, rfl, World.ownsRow_nil _ _ _ _, Gr.refl _⟩
set_option maxHeartbeats 1000000 in
set_option maxRecDepth 100000 in
theorem grow_pos (l : Nat) (w : World) (h0 : 0 < l) (hl : l ≤ 1000) :
    Calls Tryz.prog 135 #[.slice none 0 0, .int .i64 l] w fun e w' => ∃ v, e = .returned v ∧ w'.ownsRow w.heap.size 69 3 v 0 [] ∧ Gr w w' := by
  obtain ⟨i0, hi, hz0, hz1, hz2⟩ := info_parts info75
  have h1 : (0 : Int) < l := by omega
  go_enter Tryz.func135, Tryz.ntmps135
  go_wp2_with (first
    | (at_builtin; refine wpList_append_made rfl _ _ 30 3 rfl 69 .i64 i0 (.agg #[.string ⟨#[]⟩, .int .i64 0, .int .i64 0]) 3 Tryz.underlying30 hi Tryz.underlying3 hz0 hz1 rfl (by rw [hz2]; decide) l h0 (by omega) rfl .i64 rfl ?_; intro N C hN hM hC))
  go_ret
  refine ⟨_, rfl, ⟨rfl, .inr ⟨w.heap.size, N, C, rfl, Nat.le_refl _, heap_alloc_new w _, Nat.zero_le _, hM, hC, by simp⟩⟩, ((Gr.refl w).alloc _).drew⟩
theorem grow_c (z : Int) (l : Nat) (hz : z = l) (w : World) (hl : l ≤ 1000) :
    Calls Tryz.prog 135 #[.slice none 0 0, .int .i64 z] w fun e w' => ∃ v, e = .returned v ∧ w'.ownsRow w.heap.size 69 3 v 0 [] ∧ Gr w w' := by
  subst hz
  rcases Nat.eq_zero_or_pos l with rfl | h0
  · exact grow_zero w
  · exact grow_pos l w h0 hl
theorem opCs_one (xs : List OpR) : ∀ u ∈ opCs xs, u.oneCell' = true := by
  intro u hu
  simp only [opCs, List.mem_flatMap] at hu
  obtain ⟨x, _, hx⟩ := hu
  simp only [opC, List.mem_cons, List.not_mem_nil, or_false] at hx
  rcases hx with rfl | rfl | rfl <;> rfl
theorem opCs_append (xs ys : List OpR) : opCs (xs ++ ys) = opCs xs ++ opCs ys := by simp [opCs]
set_option maxHeartbeats 1000000 in
set_option maxRecDepth 100000 in
theorem concat_c (ys1 ys2 : List OpR) (D m1 m2 c1 c2 cap : Nat) (A1 A2 : Addr) (w : World) (hm1 : ys1.length = m1) (hm2 : ys2.length = m2) (hl1 : m1 ≤ 400) (hl2 : m2 ≤ 400)
    (hD0 : w.cell? ⟨D, 0, none⟩ = some (.slice (some A1) m1 c1)) (hD1 : w.cell? ⟨D, 1, none⟩ = some (.slice (some A2) m2 c2))
    (h1 : ∀ j u, (opCs ys1)[j]? = some u → w.cell? (A1.add j) = some u) (h2 : ∀ j u, (opCs ys2)[j]? = some u → w.cell? (A2.add j) = some u) :
    Calls Tryz.prog 85 #[.slice (some ⟨D, 0, none⟩) 2 cap] w fun e w' => ∃ v, e = .returned v ∧ w'.ownsRow w.heap.size 69 3 v (m1 + m2) (opCs (ys1 ++ ys2)) ∧ Gr w w' := by
  obtain ⟨i0, hi, hz0, hz1, hz2⟩ := info_parts info75
  have hG := fun W => grow_c ((m1 : Int) + m2) (m1 + m2) (by omega) W (by omega)
  have HG := Lib.hid hG
  have H1 := Lib.hid h1
  have H2 := Lib.hid h2
  have HL1 := Lib.hid (show (opCs ys1).length = m1 * 3 by rw [opCs_len, hm1])
  have HL2 := Lib.hid (show (opCs ys2).length = m2 * 3 by rw [opCs_len, hm2])
  have hw1 : IntKind.i64.wrap ((m1 : Int) + m2) = m1 + m2 := by rw [IntKind.wrap_i64]; omega
  have hw0 : IntKind.i64.wrap (m1 : Int) = m1 := by rw [IntKind.wrap_i64]; omega
  have hn1 : ¬ ((m1 : Int) < 0) := by omega
  have hn2 : ¬ ((m1 : Int) + m2 < 0) := by omega
  clear hG h1 h2 hm1 hm2
  go_enter Tryz.func85, Tryz.ntmps85
  go_wp2_with fail
  refine wp_loop_rounds 3 ?_
  rw [rounds_succ]
  go_wp2_with fail
  rw [rounds_succ]
  go_wp2_with fail
  rw [rounds_succ]
  go_wp2_with fail
  have E1 := Lib.hid hD1
  refine (HG.out _).mono ?_
  rintro e W1 ⟨v, rfl, hown, hg⟩
  replace hD0 := hg.cell hD0
  replace hD1 := hg.cell hD1
  have hs1 := hg.size
  go_wp2_with fail
  refine wp_loop_rounds 3 ?_
  rw [rounds_succ]
  go_wp2_with (first
    | (at_builtin; refine wpList_append_own _ rfl _ _ 30 rfl w.heap.size 69 i0 (.agg #[.string ⟨#[]⟩, .int .i64 0, .int .i64 0]) 3 32 Tryz.underlying30 hi hz0 hz1 hz2 rfl (by decide) _ _ _ rfl hown A1 m1 c1 (opCs ys1) rfl HL1.out (fun j u hu => hg.cell (H1.out j u hu)) (opCs_one ys1) (by unfold maxLen; omega) (by omega) hs1 ?_; intro v1 w1 hown1 hgrow1 hnil1))
  have hb : Gr w w1 := Below.grown hg hgrow1 hs1 (fun j hj => (hown.lt j hj).1)
  have hd1 := hb.cell E1.out
  have hs2 := hb.size
  clear hgrow1 hnil1 hD0 hD1
  rw [rounds_succ]
  go_wp2_with (first
    | (at_builtin; refine wpList_append_own _ rfl _ _ 30 rfl w.heap.size 69 i0 (.agg #[.string ⟨#[]⟩, .int .i64 0, .int .i64 0]) 3 32 Tryz.underlying30 hi hz0 hz1 hz2 rfl (by decide) _ _ _ rfl hown1 A2 m2 c2 (opCs ys2) rfl HL2.out (fun j u hu => hb.cell (H2.out j u hu)) (opCs_one ys2) (by unfold maxLen; omega) (by omega) hs2 ?_; intro v2 w2 hown2 hgrow2 hnil2))
  have hb2 : Gr w w2 := Below.grown hb hgrow2 hs2 (fun j hj => (hown1.lt j hj).1)
  clear hgrow2 hnil2
  rw [rounds_succ]
  go_wp2_with fail
  go_ret
  refine ⟨_, rfl, ?_, hb2⟩
  rw [opCs_append]
  simpa using hown2
end Go.Proofs.YtigmonaggppehaaGreatDoor
namespace Go.Proofs.YtigmonaggppehaaGreatDoor
open Go.RowKit Go.Lib
set_option linter.unusedSimpArgs false
set_option linter.unusedVariables false
/-- all but one -/
def others (xs : List OpR) (c : Nat) : List OpR := xs.take c ++ xs.drop (c + 1)
theorem opCs_cells {w : World} {b off : Nat} {ys : List OpR} (h : ∀ i x, ys[i]? = some x → OpAt w b (off + i * 3) x) : ∀ j u, (opCs ys)[j]? = some u → w.cell? ((⟨b, off, none⟩ : Addr).add j) = some u := by
  intro j u hu
  have e : (⟨b, off, none⟩ : Addr).add j = ⟨b, off + j, none⟩ := by unfold Addr.add; split <;> simp_all
  rw [e]
  have hlt : j < ys.length * 3 := by
    have := (List.getElem?_eq_some_iff.1 hu).1
    rwa [opCs_len] at this
  obtain ⟨i, k, rfl, hk⟩ : ∃ i k, j = i * 3 + k ∧ k < 3 := ⟨j / 3, j % 3, by omega, by omega⟩
  obtain ⟨x, hx⟩ : ∃ x, ys[i]? = some x := ⟨ys[i]'(by omega), List.getElem?_eq_getElem _⟩
  rw [opCs_at hx k hk] at hu
  have hc := h i x hx
  rcases k with _ | _ | _ | k
  · simp [opC] at hu; subst hu; simpa using hc.nm
  · simp [opC] at hu; subst hu; have := hc.lo; rwa [Nat.add_assoc] at this
  · simp [opC] at hu; subst hu; have := hc.hi; rwa [Nat.add_assoc] at this
  · omega
theorem owns_slice {w : World} {base : Nat} {v : Value} {n size : Nat} {T : TypeId} {l : List Value} (h : w.ownsRow base T size v n l) : ∃ p c, v = .slice p n c := by
  rcases h.2 with ⟨rfl, h0⟩ | ⟨g, cap, cur, rfl, _⟩
  · exact ⟨none, 0, by rw [h0]⟩
  · exact ⟨_, _, rfl⟩
theorem frozen_row (w : World) (g j : Nat) (cur : Array Value) (T : TypeId) (h : w.heap[g]? = some (.cells cur T (0, 0))) : w.frozen? ⟨g, j, none⟩ = false := by
  simp [World.frozen?, h]
/-- five cells that may be written -/
structure Row5 (w : World) (B : Nat) (a0 a1 a2 a3 a4 : Value) : Prop where
  c0 : w.cell? ⟨B, 0, none⟩ = some a0
  c1 : w.cell? ⟨B, 1, none⟩ = some a1
  c2 : w.cell? ⟨B, 2, none⟩ = some a2
  c3 : w.cell? ⟨B, 3, none⟩ = some a3
  c4 : w.cell? ⟨B, 4, none⟩ = some a4
  f : ∀ j, w.frozen? ⟨B, j, none⟩ = false
theorem row5 {w : World} {B : Nat} {a0 a1 a2 a3 a4 : Value} {T : TypeId} (h : w.heap[B]? = some (.cells #[a0, a1, a2, a3, a4] T)) : Row5 w B a0 a1 a2 a3 a4 :=
  ⟨by simp [World.cell?, h], by simp [World.cell?, h], by simp [World.cell?, h], by simp [World.cell?, h], by simp [World.cell?, h], fun j => frozen_row w B j _ T h⟩
/-- five cells written -/
theorem store5 {w : World} {B : Nat} {a0 a1 a2 a3 a4 : Value} {T : TypeId} (h : w.heap[B]? = some (.cells #[a0, a1, a2, a3, a4] T)) (v0 v1 v2 v3 v4 : Value) :
    ∃ W, ((((w.setCell ⟨B, 0, none⟩ v0).setCell ⟨B, 1, none⟩ v1).setCell ⟨B, 2, none⟩ v2).setCell ⟨B, 3, none⟩ v3).setCell ⟨B, 4, none⟩ v4 = W ∧
      W.heap[B]? = some (.cells #[v0, v1, v2, v3, v4] T) ∧ (∀ C w0, Below C w0 w → C ≤ B → Below C w0 W) ∧ (∀ p : Addr, p.block ≠ B → W.cell? p = w.cell? p) ∧ (∀ base e size v n l, w.ownsRow base e size v n l → B < base → W.ownsRow base e size v n l) := by
  refine ⟨_, rfl, ?_, ?_, ?_, ?_⟩
  · have h0 : (w.setCell ⟨B, 0, none⟩ v0).heap[B]? = some (.cells #[v0, a1, a2, a3, a4] T) := by simpa using heap_setCell_same w B 0 _ T v0 h
    have h1 : ((w.setCell ⟨B, 0, none⟩ v0).setCell ⟨B, 1, none⟩ v1).heap[B]? = some (.cells #[v0, v1, a2, a3, a4] T) := by simpa using heap_setCell_same _ B 1 _ T v1 h0
    have h2 : (((w.setCell ⟨B, 0, none⟩ v0).setCell ⟨B, 1, none⟩ v1).setCell ⟨B, 2, none⟩ v2).heap[B]? = some (.cells #[v0, v1, v2, a3, a4] T) := by simpa using heap_setCell_same _ B 2 _ T v2 h1
    have h3 : ((((w.setCell ⟨B, 0, none⟩ v0).setCell ⟨B, 1, none⟩ v1).setCell ⟨B, 2, none⟩ v2).setCell ⟨B, 3, none⟩ v3).heap[B]? = some (.cells #[v0, v1, v2, v3, a4] T) := by simpa using heap_setCell_same _ B 3 _ T v3 h2
    simpa using heap_setCell_same _ B 4 _ T v4 h3
  · intro C w0 hb hC
    exact ((((hb.setCell hC _).setCell hC _).setCell hC _).setCell hC _).setCell hC _
  · intro p hp
    rw [World.cell?_setCell_far _ _ _ _ (Ne.symm hp), World.cell?_setCell_far _ _ _ _ (Ne.symm hp), World.cell?_setCell_far _ _ _ _ (Ne.symm hp), World.cell?_setCell_far _ _ _ _ (Ne.symm hp), World.cell?_setCell_far _ _ _ _ (Ne.symm hp)]
  · intro base e size v n l ho hb
    exact ownsRow_setCell_below (ownsRow_setCell_below (ownsRow_setCell_below (ownsRow_setCell_below (ownsRow_setCell_below ho hb _) hb _) hb _) hb _) hb _
theorem boxQ (w : World) (a0 a1 a2 a3 a4 : Value) (T : Nat) : ∃ W, w.alloc (.cells #[a0, a1, a2, a3, a4] T) = W ∧ Gr w W ∧ W.heap[w.heap.size]? = some (.cells #[a0, a1, a2, a3, a4] T) :=
  ⟨_, rfl, (Gr.refl w).alloc _, heap_alloc_new w _⟩
set_option maxHeartbeats 1000000 in
set_option maxRecDepth 100000 in
theorem ask_pos (xs : List OpR) (n b off cap cl m2 c2 : Nat) (A2 : Addr) (r : Int) (x : OpR) (w : World) (hn : xs.length = n) (h1 : n ≤ 300) (hcap : n ≤ cap) (hmx : cap ≤ maxLen) (hc : ∀ i x, xs[i]? = some x → OpAt w b (off + i * 3) x) (hx : xs[cl]? = some x)
    (hm2 : (xs.drop (cl + 1)).length = m2) (hA : ∀ W, (Instr.slice 30 (.slice (some ⟨b, off, none⟩) n cap) (some (.int .i64 ((cl : Int) + 1))) none none).run Tryz.prog W = .ok (.slice (some A2) m2 c2) W)
    (hA2 : ∀ j u, (opCs (xs.drop (cl + 1)))[j]? = some u → w.cell? (A2.add j) = some u) :
    Calls Tryz.prog 30 #[.slice (some ⟨b, off, none⟩) n cap, .int .i64 cl, .int .i64 r] w fun e w' => ∃ v, e = .returned (.agg #[.string x.nm, .int .i64 x.lo, .int .i64 x.hi, v, .int .i64 r]) ∧ OpsV w' v (others xs cl) ∧ Gr w w' := by
  have hcl : cl < n := by
    have := (List.getElem?_eq_some_iff.1 hx).1
    omega
  have hm1 : (xs.take cl).length = cl := by rw [List.length_take]; omega
  have hA1 : ∀ j u, (opCs (xs.take cl))[j]? = some u → w.cell? ((⟨b, off, none⟩ : Addr).add j) = some u := opCs_cells fun i y hy => by
    rw [List.getElem?_take] at hy
    split at hy
    · exact hc i y hy
    · cases hy
  have hln : (others xs cl).length = cl + m2 := by unfold others; rw [List.length_append, hm1, hm2]
  have hm2b : m2 ≤ 400 := by rw [← hm2, List.length_drop]; omega
  obtain ⟨c0, c1, c2'⟩ := hc cl x hx
  obtain ⟨W, hW, g, hQ⟩ := boxQ w (.string ⟨#[]⟩) (.int .i64 0) (.int .i64 0) (.slice none 0 0) (.int .i64 0) 85
  have hw : IntKind.i64.wrap ((cl : Int) + 1) = cl + 1 := by rw [IntKind.wrap_i64]; omega
  have hi0 : (0 : Int) ≤ cl := by omega
  have hi1 : (cl : Int) < n := by omega
  have hi2 : (cl : Int) ≤ cap := by omega
  have HCat := Lib.hid (fun (D : Nat) (W2 : World) (hg : Gr w W2) d0 d1 => concat_c (xs.take cl) (xs.drop (cl + 1)) D cl m2 cap c2 2 ⟨b, off, none⟩ A2 W2 hm1 hm2 (by omega) hm2b d0 d1 (fun j u hu => hg.cell (hA1 j u hu)) (fun j u hu => hg.cell (hA2 j u hu)))
  have HLn := Lib.hid hln
  have HW := Lib.hid hW
  have HQ := Lib.hid hQ
  have hbB0 : b ≠ w.heap.size := Nat.ne_of_lt (World.block_lt_of_cell? w _ c0)
  replace c0 := g.cell c0
  replace c1 := g.cell c1
  replace c2' := g.cell c2'
  have hQs : w.heap.size < W.heap.size := by rw [← hW, World.size_alloc]; omega
  clear hc hx hm2 hA2 hm1 hA1 hln hW hQ
  go_enter Tryz.func30, Tryz.ntmps30
  go_wp2_with fail
  rw [HW.out]
  clear HW
  have hsz : w.heap.size ≤ w.heap.size := Nat.le_refl _
  have hbB : b ≠ w.heap.size := hbB0
  generalize hB : w.heap.size = B at *
  have gd := (Gr.refl W).drew
  replace c0 := gd.cell c0
  replace c1 := gd.cell c1
  replace c2' := gd.cell c2'
  replace g := g.trans gd
  replace HQ := Lib.hid (gd.block HQ.out)
  replace hQs := Nat.lt_of_lt_of_le hQs gd.size
  clear gd
  refine wp_region_held_drew (S := (fun w' => w'.cell? ⟨b, off + cl * 3, none⟩ = some (.string x.nm) ∧ w'.cell? ⟨b, off + cl * 3 + 1, none⟩ = some (.int .i64 x.lo) ∧ w'.cell? ⟨b, off + cl * 3 + 2, none⟩ = some (.int .i64 x.hi))) (by kernel_rfl) ⟨c0, c1, c2'⟩ (fun hHeld => ?_)
  generalize W.drew = V at *
  refine wpAnyH_take (i := 0) (v := (.slice (some ⟨b, off, none⟩) n cap)) (op_at rfl) (by kernel_rfl) (by kernel_rfl) (by kernel_rfl) (fun _ _ _ h => h) (Or.inl ⟨rfl, fun w hSw => ?_⟩) (by assumption) ?_
  · (try dsimp only at hSw); go_simp; try with_reducible rfl
  (try simp only [Act.put, List.setIfInBounds_toArray, List.set_cons_zero, List.set_cons_succ])
  refine wpAnyH_take (i := 1) (v := (.int .i64 cl)) (op_at rfl) (by kernel_rfl) (by kernel_rfl) (by kernel_rfl) (fun _ _ _ h => h) (Or.inl ⟨rfl, fun w hSw => ?_⟩) (by assumption) ?_
  · (try dsimp only at hSw); go_simp; try with_reducible rfl
  (try simp only [Act.put, List.setIfInBounds_toArray, List.set_cons_zero, List.set_cons_succ])
  refine wpAnyH_take (i := 2) (v := (.pointer (some ⟨b, off + cl * 3, none⟩))) (op_at rfl) (by kernel_rfl) (by kernel_rfl) (by kernel_rfl) (fun _ _ _ h => h) (Or.inl ⟨rfl, fun w hSw => ?_⟩) (by assumption) ?_
  · (try dsimp only at hSw); go_simp; try with_reducible rfl
  (try simp only [Act.put, List.setIfInBounds_toArray, List.set_cons_zero, List.set_cons_succ])
  refine wpAnyH_take (i := 3) (v := (.agg #[.string x.nm, .int .i64 x.lo, .int .i64 x.hi])) (op_at rfl) (by kernel_rfl) (by kernel_rfl) (by kernel_rfl) (fun _ _ _ h => h) (Or.inl ⟨rfl, fun w hSw => ?_⟩) (by assumption) ?_
  · (try dsimp only at hSw); go_simp; try with_reducible rfl
  (try simp only [Act.put, List.setIfInBounds_toArray, List.set_cons_zero, List.set_cons_succ])
  refine wpAnyH_take (i := 4) (v := (.slice (some ⟨b, off, none⟩) n cap)) (op_at rfl) (by kernel_rfl) (by kernel_rfl) (by kernel_rfl) (fun _ _ _ h => h) (Or.inl ⟨rfl, fun w hSw => ?_⟩) (by assumption) ?_
  · (try dsimp only at hSw); go_simp; try with_reducible rfl
  (try simp only [Act.put, List.setIfInBounds_toArray, List.set_cons_zero, List.set_cons_succ])
  refine wpAnyH_take (i := 5) (v := (.int .i64 cl)) (op_at rfl) (by kernel_rfl) (by kernel_rfl) (by kernel_rfl) (fun _ _ _ h => h) (Or.inl ⟨rfl, fun w hSw => ?_⟩) (by assumption) ?_
  · (try dsimp only at hSw); go_simp; try with_reducible rfl
  (try simp only [Act.put, List.setIfInBounds_toArray, List.set_cons_zero, List.set_cons_succ])
  refine wpAnyH_take (i := 6) (v := (.slice (some ⟨b, off, none⟩) cl cap)) (op_at rfl) (by kernel_rfl) (by kernel_rfl) (by kernel_rfl) (fun _ _ _ h => h) (Or.inl ⟨rfl, fun w hSw => ?_⟩) (by assumption) ?_
  · (try dsimp only at hSw); go_simp; try with_reducible rfl
  (try simp only [Act.put, List.setIfInBounds_toArray, List.set_cons_zero, List.set_cons_succ])
  refine wpAnyH_take (i := 7) (v := (.slice (some ⟨b, off, none⟩) n cap)) (op_at rfl) (by kernel_rfl) (by kernel_rfl) (by kernel_rfl) (fun _ _ _ h => h) (Or.inl ⟨rfl, fun w hSw => ?_⟩) (by assumption) ?_
  · (try dsimp only at hSw); go_simp; try with_reducible rfl
  (try simp only [Act.put, List.setIfInBounds_toArray, List.set_cons_zero, List.set_cons_succ])
  refine wpAnyH_take (i := 8) (v := (.int .i64 cl)) (op_at rfl) (by kernel_rfl) (by kernel_rfl) (by kernel_rfl) (fun _ _ _ h => h) (Or.inl ⟨rfl, fun w hSw => ?_⟩) (by assumption) ?_
  · (try dsimp only at hSw); go_simp; try with_reducible rfl
  (try simp only [Act.put, List.setIfInBounds_toArray, List.set_cons_zero, List.set_cons_succ])
  refine wpAnyH_take (i := 9) (v := (.int .i64 ((cl : Int) + 1))) (op_at rfl) (by kernel_rfl) (by kernel_rfl) (by kernel_rfl) (fun _ _ _ h => h) (Or.inl ⟨rfl, fun w hSw => ?_⟩) (by assumption) ?_
  · (try dsimp only at hSw); go_simp; try with_reducible rfl
  (try simp only [Act.put, List.setIfInBounds_toArray, List.set_cons_zero, List.set_cons_succ])
  refine wpAnyH_take (i := 10) (v := (.slice (some A2) m2 c2)) (op_at rfl) (by kernel_rfl) (by kernel_rfl) (by kernel_rfl) (fun _ _ _ h => h) (Or.inl ⟨rfl, fun w hSw => ?_⟩) (by assumption) ?_
  · (try dsimp only at hSw); go_simp; try with_reducible rfl
  (try simp only [Act.put, List.setIfInBounds_toArray, List.set_cons_zero, List.set_cons_succ])
  refine wpAnyH_take (i := 13) (v := (.int .i64 r)) (op_at rfl) (by kernel_rfl) (by kernel_rfl) (by kernel_rfl) (fun _ _ _ h => h) (Or.inl ⟨rfl, fun w hSw => ?_⟩) (by assumption) ?_
  · (try dsimp only at hSw); go_simp; try with_reducible rfl
  (try simp only [Act.put, List.setIfInBounds_toArray, List.set_cons_zero, List.set_cons_succ])
  refine wpAnyH_ready (rs := [11]) (by kernel_rfl) (by simp) (AllReadyH.cons (op_at rfl) (fun K hK => ?_) AllReadyH.nil)
  go_simp
  obtain ⟨W3, hW3, g3, q0, q1⟩ := box2 V (.slice (some ⟨b, off, none⟩) cl cap) (.slice (some A2) m2 c2) 30
  rw [hW3]
  clear hW3
  replace c0 := g3.cell c0
  replace c1 := g3.cell c1
  replace c2' := g3.cell c2'
  replace g := g.trans g3
  replace HQ := Lib.hid (g3.block HQ.out)
  replace hQs := Nat.lt_of_lt_of_le hQs g3.size
  refine hK.out _ _ ⟨c0, c1, c2'⟩ (fun hHeld => ?_)
  clear hK K
  (try simp only [Act.put, List.setIfInBounds_toArray, List.set_cons_zero, List.set_cons_succ])
  refine wpAnyH_ready (rs := [12]) (by kernel_rfl) (by simp) (AllReadyH.cons (op_at rfl) (fun K hK => ?_) AllReadyH.nil)
  go_simp
  (refine (HCat.out _ W3 g q0 q1).mono ?_; rintro e W4 ⟨v, rfl, hown, hg⟩; have hbase := hQs; replace c0 := hg.cell c0; replace c1 := hg.cell c1; replace c2' := hg.cell c2'; replace g := g.trans hg; replace HQ := Lib.hid (hg.block HQ.out); replace hQs := Nat.lt_of_lt_of_le hQs hg.size; obtain ⟨p3, c3, rfl⟩ := owns_slice hown)
  go_wp2_with fail
  refine hK.out _ _ ⟨c0, c1, c2'⟩ (fun hHeld => ?_)
  clear hK K
  (try simp only [Act.put, List.setIfInBounds_toArray, List.set_cons_zero, List.set_cons_succ])
  refine wpAnyH_take (i := 14) (v := (.agg #[.string x.nm, .int .i64 x.lo, .int .i64 x.hi, (.slice p3 (cl + m2) c3), .int .i64 r])) (op_at rfl) (by kernel_rfl) (by kernel_rfl) (by kernel_rfl) (fun _ _ _ h => h) (Or.inl ⟨rfl, fun w hSw => ?_⟩) (by assumption) ?_
  · (try dsimp only at hSw); go_simp; try with_reducible rfl
  (try simp only [Act.put, List.setIfInBounds_toArray, List.set_cons_zero, List.set_cons_succ])
  refine wpAnyH_ready (rs := [15]) (by kernel_rfl) (by simp) (AllReadyH.cons (op_at rfl) (fun K hK => ?_) AllReadyH.nil)
  obtain ⟨r0, r1, r2, r3, r4, rf⟩ := row5 HQ.out
  have f0 := rf 0
  have f1 := rf 1
  have f2 := rf 2
  have f3 := rf 3
  have f4 := rf 4
  go_simp
  clear r0 r1 r2 r3 r4 rf f0 f1 f2 f3 f4
  obtain ⟨W5, hW5, hrow, hbel, hfar, hkeep⟩ := store5 HQ.out (.string x.nm) (.int .i64 x.lo) (.int .i64 x.hi) (.slice p3 (cl + m2) c3) (.int .i64 r)
  rw [hW5]
  have own5 := hkeep _ _ _ _ _ _ hown hbase
  have g5 : Gr w W5 := hbel _ _ g (by omega)
  replace c0 := (hfar _ hbB).trans c0
  replace c1 := (hfar _ hbB).trans c1
  replace c2' := (hfar _ hbB).trans c2'
  refine hK.out _ _ ⟨c0, c1, c2'⟩ (fun hHeld => ?_)
  clear hK K
  (try simp only [Act.put, List.setIfInBounds_toArray, List.set_cons_zero, List.set_cons_succ])
  refine wpAnyH_done (by kernel_rfl) ?_ _
  obtain ⟨r0, r1, r2, r3, r4, _⟩ := row5 hrow
  have hO : OpsV W5 (.slice p3 (cl + m2) c3) (others xs cl) := opsV_of_owns (by rw [HLn.out]; exact own5)
  clear hHeld hown hkeep hfar hbel hrow hW5
  go_wp2_with fail
  exact bodyPost_ret (v := .agg #[.string x.nm, .int .i64 x.lo, .int .i64 x.hi, .slice p3 (cl + m2) c3, .int .i64 r]) (by simp [results, Tryz.results30, go_sem, r0, r1, r2, r3, r4]) rfl ⟨_, rfl, hO, g5⟩
theorem el38 : Tryz.prog.underlying 30 = some (.slice (Tryz.prog.elem 30)) := by kernel_rfl
theorem sz38 (W : World) : (sizeOf (Tryz.prog.elem 30)).run Tryz.prog W = .ok 3 W := by
  have h : Tryz.prog.elem 30 = 69 := by kernel_rfl
  obtain ⟨i0, hi, hz0, hz1, hz2⟩ := info_parts info75
  rw [h]
  simp [sizeOf, typeInfo, hi, hz1]
theorem ask_c {v : Value} {xs : List OpR} {cl : Nat} {x : OpR} (r : Int) {w : World} (h : OpsV w v xs) (h1 : xs.length ≤ 300) (hx : xs[cl]? = some x) :
    Calls Tryz.prog 30 #[v, .int .i64 cl, .int .i64 r] w fun e w' => ∃ u, e = .returned (.agg #[.string x.nm, .int .i64 x.lo, .int .i64 x.hi, u, .int .i64 r]) ∧ OpsV w' u (others xs cl) ∧ Gr w w' := by
  obtain ⟨⟨p, cap, rfl, hcap, hh⟩⟩ := h
  have hlt := (List.getElem?_eq_some_iff.1 hx).1
  obtain ⟨b, off, rfl, hc⟩ := hh (by omega)
  have hm2 : (xs.drop (cl + 1)).length = xs.length - (cl + 1) := List.length_drop
  have hd : ∀ i y, (xs.drop (cl + 1))[i]? = some y → OpAt w b (off + (cl + 1) * 3 + i * 3) y := fun i y hy => by
    rw [List.getElem?_drop] at hy
    have := hc _ y hy
    rwa [show off + (cl + 1 + i) * 3 = off + (cl + 1) * 3 + i * 3 by omega] at this
  have hi0 : (0 : Int) ≤ (cl : Int) + 1 := by omega
  have hi1 : (cl : Int) + 1 ≤ xs.length := by omega
  have htn : ((cl : Int) + 1).toNat = cl + 1 := by omega
  by_cases hq : cap = cl + 1
  · refine ask_pos xs _ b off cap cl _ (cap - (cl + 1)) ⟨b, off, none⟩ r x w rfl h1 hcap.1 hcap.2 hc hx hm2 (fun W => ?_) (fun j u hu => ?_)
    · rw [run_slice_l W 30 (some ⟨b, off, none⟩) xs.length cap el38 .i64 _ hi0 hi1, sz38]
      simp [sliced, htn, hq, go_sem]
    · have : xs.drop (cl + 1) = [] := List.drop_of_length_le (by omega)
      rw [this] at hu
      simp [opCs] at hu
  · refine ask_pos xs _ b off cap cl _ (cap - (cl + 1)) ⟨b, off + (cl + 1) * 3, none⟩ r x w rfl h1 hcap.1 hcap.2 hc hx hm2 (fun W => ?_) (opCs_cells hd)
    · rw [run_slice_l W 30 (some ⟨b, off, none⟩) xs.length cap el38 .i64 _ hi0 hi1, sz38]
      simp [sliced, htn, hq, go_sem, Addr.add]
end Go.Proofs.YtigmonaggppehaaGreatDoor
