/- Pools: appends of parts of lists of names and of integers, as the reference's insertion makes them. -/
import Derived.Test.YtenkbeeiblhnjaaGreatPoD
import Derived.Maps.AppendAt
namespace Go.Proofs.YtenkbeeiblhnjaaGreat
open Go.RowKit Go.Lib
set_option linter.unusedSimpArgs false
set_option linter.unusedVariables false
def intC (zs : List Int) : List Value := zs.map fun z => .int .i64 z
theorem intC_app (a b : List Int) : intC (a ++ b) = intC a ++ intC b := List.map_append
theorem intC_len (a : List Int) : (intC a).length = a.length := List.length_map _
theorem strC_app (a b : List ByteArray) : strC (a ++ b) = strC a ++ strC b := List.map_append
theorem strC_len (a : List ByteArray) : (strC a).length = a.length := List.length_map _
theorem step_str {w : World} {o : Oper} {a : Act} {K : Act → World → Prop} {Q : Exit → Act → World → Prop} (s x : Operand) (ho : o.op = .call { callee := .builtin .append, args := #[s, x], argTypes := #[22, 22] })
    (base : Nat) (v : Value) (ps qs : List ByteArray) (n m : Nat) (hn : ps.length = n) (hm : qs.length = m) (hs : a.eval s = v) (hown : w.ownsRow base 9 1 v n (strC ps)) (ad : Addr) (c : Nat) (hx : a.eval x = .slice (some ad) m c)
    (hq : ∀ j u, (strC qs)[j]? = some u → w.cell? (ad.add j) = some u) (h100 : n + m ≤ 1000) (hbase : base ≤ w.heap.size)
    (h : ∀ v' w', w'.ownsRow base 9 1 v' (n + m) (strC (ps ++ qs)) → w.grownBy w' v.ownBlock → (v'.ownBlock = v.ownBlock ∨ v'.ownBlock = some w.heap.size) → K (a.put o.dst v') w') : Oper.wp Tryz.prog o a w K Q := by
  obtain ⟨i1, hj, hy0, hy1, hy2⟩ := info_parts infoStrN
  obtain ⟨v', w', hr, h2, h3, h4, h5⟩ := run_append_own_at (P := Tryz.prog) w base 22 o.type 9 i1 (.string ⟨#[]⟩) 1 16 Tryz.underlying22 hj hy0 hy1 hy2 rfl (by decide) v n (strC ps) hown ad m c (strC qs) (by rw [strC_len, hm, Nat.mul_one]) hq
    (fun u hu => by unfold strC at hu; obtain ⟨z, _, rfl⟩ := List.mem_map.1 hu; rfl) (by unfold maxLen; omega) (by omega) hbase
  rw [← strC_app] at h2
  unfold Oper.wp
  simp [execOp, ho, resolve, invoke, builtin, hs, hx, hr, Result.andThen]
  exact h v' w' h2 h3 h5
theorem step_int {w : World} {o : Oper} {a : Act} {K : Act → World → Prop} {Q : Exit → Act → World → Prop} (s x : Operand) (ho : o.op = .call { callee := .builtin .append, args := #[s, x], argTypes := #[51, 51] })
    (base : Nat) (v : Value) (ps qs : List Int) (n m : Nat) (hn : ps.length = n) (hm : qs.length = m) (hs : a.eval s = v) (hown : w.ownsRow base 3 1 v n (intC ps)) (ad : Addr) (c : Nat) (hx : a.eval x = .slice (some ad) m c)
    (hq : ∀ j u, (intC qs)[j]? = some u → w.cell? (ad.add j) = some u) (h100 : n + m ≤ 1000) (hbase : base ≤ w.heap.size)
    (h : ∀ v' w', w'.ownsRow base 3 1 v' (n + m) (intC (ps ++ qs)) → w.grownBy w' v.ownBlock → (v'.ownBlock = v.ownBlock ∨ v'.ownBlock = some w.heap.size) → K (a.put o.dst v') w') : Oper.wp Tryz.prog o a w K Q := by
  obtain ⟨i1, hj, hy0, hy1, hy2⟩ := info_parts infoI
  obtain ⟨v', w', hr, h2, h3, h4, h5⟩ := run_append_own_at (P := Tryz.prog) w base 51 o.type 3 i1 (.int .i64 0) 1 8 Tryz.underlying51 hj hy0 hy1 hy2 rfl (by decide) v n (intC ps) hown ad m c (intC qs) (by rw [intC_len, hm, Nat.mul_one]) hq
    (fun u hu => by unfold intC at hu; obtain ⟨z, _, rfl⟩ := List.mem_map.1 hu; rfl) (by unfold maxLen; omega) (by omega) hbase
  rw [← intC_app] at h2
  unfold Oper.wp
  simp [execOp, ho, resolve, invoke, builtin, hs, hx, hr, Result.andThen]
  exact h v' w' h2 h3 h5
theorem step_str0 {w : World} {o : Oper} {a : Act} {K : Act → World → Prop} {Q : Exit → Act → World → Prop} (s x : Operand) (ho : o.op = .call { callee := .builtin .append, args := #[s, x], argTypes := #[22, 22] })
    (base : Nat) (v : Value) (n : Nat) (zs : List Value) (hs : a.eval s = v) (hown : w.ownsRow base 9 1 v n zs) (c : Nat) (hx : a.eval x = .slice none 0 c)
    (h : K (a.put o.dst v) w) : Oper.wp Tryz.prog o a w K Q := by
  obtain ⟨i1, hj, hy0, hy1, hy2⟩ := info_parts infoStrN
  have hr : (Builtin.append_ #[22, 22] o.type #[v, .slice none 0 c]).run Tryz.prog w = .ok v w := by
    rcases hown.2 with ⟨rfl, rfl⟩ | ⟨g, cap, cur, rfl, _, _, hnc, _⟩
    · simp [Builtin.append_, run_underlying Tryz.underlying22, sizeOf, typeInfo, hj, Builtin.lenOf, Builtin.firstCells]
    · simp [Builtin.append_, run_underlying Tryz.underlying22, sizeOf, typeInfo, hj, Builtin.lenOf, Builtin.firstCells, hnc, storeCells]
  unfold Oper.wp
  simp [execOp, ho, resolve, invoke, builtin, hs, hx, hr, Result.andThen]
  exact h
theorem step_int0 {w : World} {o : Oper} {a : Act} {K : Act → World → Prop} {Q : Exit → Act → World → Prop} (s x : Operand) (ho : o.op = .call { callee := .builtin .append, args := #[s, x], argTypes := #[51, 51] })
    (base : Nat) (v : Value) (n : Nat) (zs : List Value) (hs : a.eval s = v) (hown : w.ownsRow base 3 1 v n zs) (c : Nat) (hx : a.eval x = .slice none 0 c)
    (h : K (a.put o.dst v) w) : Oper.wp Tryz.prog o a w K Q := by
  obtain ⟨i1, hj, hy0, hy1, hy2⟩ := info_parts infoI
  have hr : (Builtin.append_ #[51, 51] o.type #[v, .slice none 0 c]).run Tryz.prog w = .ok v w := by
    rcases hown.2 with ⟨rfl, rfl⟩ | ⟨g, cap, cur, rfl, _, _, hnc, _⟩
    · simp [Builtin.append_, run_underlying Tryz.underlying51, sizeOf, typeInfo, hj, Builtin.lenOf, Builtin.firstCells]
    · simp [Builtin.append_, run_underlying Tryz.underlying51, sizeOf, typeInfo, hj, Builtin.lenOf, Builtin.firstCells, hnc, storeCells]
  unfold Oper.wp
  simp [execOp, ho, resolve, invoke, builtin, hs, hx, hr, Result.andThen]
  exact h
theorem list_str0 {w : World} {ops : Array Oper} {rest : List Oper} {o : Oper} {a : Act} {Q : Exit → Act → World → Prop} (hgd : o.guard = none) (s x : Operand) (ho : o.op = .call { callee := .builtin .append, args := #[s, x], argTypes := #[22, 22] })
    (base : Nat) (v : Value) (n : Nat) (zs : List Value) (hs : a.eval s = v) (hown : w.ownsRow base 9 1 v n zs) (c : Nat) (hx : a.eval x = .slice none 0 c) (h : wpList Tryz.prog ops Q rest (a.put o.dst v) w) : wpList Tryz.prog ops Q (o :: rest) a w :=
  wpList_plain hgd fun K hK => step_str0 s x ho base v n zs hs hown c hx (hK _ _ h)
theorem list_int0 {w : World} {ops : Array Oper} {rest : List Oper} {o : Oper} {a : Act} {Q : Exit → Act → World → Prop} (hgd : o.guard = none) (s x : Operand) (ho : o.op = .call { callee := .builtin .append, args := #[s, x], argTypes := #[51, 51] })
    (base : Nat) (v : Value) (n : Nat) (zs : List Value) (hs : a.eval s = v) (hown : w.ownsRow base 3 1 v n zs) (c : Nat) (hx : a.eval x = .slice none 0 c) (h : wpList Tryz.prog ops Q rest (a.put o.dst v) w) : wpList Tryz.prog ops Q (o :: rest) a w :=
  wpList_plain hgd fun K hK => step_int0 s x ho base v n zs hs hown c hx (hK _ _ h)
theorem own_none {w : World} {g base : Nat} {T : TypeId} (h : w.heap[g]? = some (.cells #[] T (0, 0))) (hb : base ≤ g) : w.ownsRow base T 1 (.slice (some ⟨g, 0, none⟩) 0 0) 0 [] :=
  ⟨by simp, .inr ⟨g, 0, #[], rfl, hb, h, Nat.le_refl _, by unfold maxLen; omega, rfl, by simp⟩⟩
theorem own_at {w : World} {base n : Nat} {T : TypeId} {v : Value} {l : List Value} (h : w.ownsRow base T 1 v n l) (h0 : 0 < n) : ∃ g c, v = .slice (some ⟨g, 0, none⟩) n c ∧ base ≤ g ∧ g < w.heap.size ∧ (n ≤ c ∧ c ≤ maxLen) ∧ ∀ i u, l[i]? = some u → w.cell? ⟨g, i, none⟩ = some u := by
  have hh := h
  rcases h.2 with ⟨rfl, h0'⟩ | ⟨g, cap, cur, rfl, hb, hcur, hle, hmx, _, _⟩
  · omega
  · refine ⟨g, cap, rfl, hb, (Array.getElem?_eq_some_iff.1 hcur).1, ⟨hle, hmx⟩, fun i u hu => ?_⟩
    have c := hh.cells (g := g) rfl i u hu
    rwa [show (⟨g, 0, none⟩ : Addr).add i = ⟨g, i, none⟩ by unfold Addr.add; split <;> simp_all] at c
theorem own_low {w : World} {b b' size n : Nat} {T : TypeId} {v : Value} {xs : List Value} (h : w.ownsRow b T size v n xs) (hb : b' ≤ b) : w.ownsRow b' T size v n xs := by
  refine ⟨h.1, ?_⟩
  rcases h.2 with hn | ⟨g, cap, cur, rfl, hg, rest⟩
  · exact .inl hn
  · exact .inr ⟨g, cap, cur, rfl, by omega, rest⟩
theorem own_two {w : World} {b1 b2 s1 s2 n1 n2 : Nat} {T1 T2 : TypeId} {v1 v2 : Value} {l1 l2 : List Value} (h1 : w.ownsRow b1 T1 s1 v1 n1 l1) (h2 : w.ownsRow b2 T2 s2 v2 n2 l2) (hne : T1 ≠ T2) : v1.ownBlock = none ∨ v1.ownBlock ≠ v2.ownBlock := by
  rcases h1.2 with ⟨rfl, _⟩ | ⟨g, cap, cur, rfl, _, hg, _⟩
  · exact .inl rfl
  · refine .inr fun e => ?_
    rcases h2.2 with ⟨rfl, _⟩ | ⟨g2, cap2, cur2, rfl, _, hg2, _⟩
    · cases e
    · simp only [Value.ownBlock, Option.some.injEq] at e
      subst e
      rw [hg] at hg2
      cases hg2
      exact hne rfl
theorem own_kept {w w' : World} {b s n : Nat} {T : TypeId} {v : Value} {l : List Value} (h : w.ownsRow b T s v n l) (k : Gr w w') : w'.ownsRow b T s v n l := by
  refine ⟨h.1, ?_⟩
  rcases h.2 with hn | ⟨g, cap, cur, rfl, hb, hgg, rest⟩
  · exact .inl hn
  · exact .inr ⟨g, cap, cur, rfl, hb, k.block hgg, rest⟩
theorem part_low {WI W : World} {g : Nat} {l : List Value} (hc : ∀ i u, l[i]? = some u → WI.cell? ⟨g, i, none⟩ = some u) (h : Gr WI W) (a : Nat) (j : Nat) (u : Value) (hu : (l.take a)[j]? = some u) : W.cell? ((⟨g, 0, none⟩ : Addr).add j) = some u := by
  rw [List.getElem?_take] at hu
  split at hu
  · rw [show (⟨g, 0, none⟩ : Addr).add j = ⟨g, j, none⟩ by unfold Addr.add; split <;> simp_all]
    exact h.cell (hc j u hu)
  · cases hu
theorem part_high {WI W : World} {g a n c : Nat} {q : Addr} {l : List Value} (hc : ∀ i u, l[i]? = some u → WI.cell? ⟨g, i, none⟩ = some u) (hl : l.length = n) (hnc : n ≤ c) (hq : q = if c = a then (⟨g, 0, none⟩ : Addr) else ⟨g, a, none⟩) (h : Gr WI W) (j : Nat) (u : Value) (hu : (l.drop a)[j]? = some u) : W.cell? (q.add j) = some u := by
  rw [List.getElem?_drop] at hu
  have := (List.getElem?_eq_some_iff.1 hu).1
  rw [hq, if_neg (by omega), show (⟨g, a, none⟩ : Addr).add j = ⟨g, a + j, none⟩ by unfold Addr.add; split <;> simp_all]
  exact h.cell (hc _ u hu)
/-- put between those that are not greater and those that are -/
theorem ins_asc {key : ByteArray → Int} {out : List ByteArray} (h : Asc (ltK key) out) (s : ByteArray) (at_ : Nat) (h1 : ∀ j t, j < at_ → out[j]? = some t → key t ≤ key s) (h2 : ∀ j t, at_ ≤ j → out[j]? = some t → key s < key t) :
    Asc (ltK key) (out.take at_ ++ s :: out.drop at_) ∧ ∀ k, (out.take at_ ++ s :: out.drop at_).filter (fun x => key x == k) = out.filter (fun x => key x == k) ++ [s].filter (fun x => key x == k) := by
  have e : out.take at_ ++ s :: out.drop at_ = mrg (ltK key) out [s] := by
    conv => rhs; rw [← List.take_append_drop at_ out]
    refine (mrg_one_right _ s _ _ (fun x hx => ?_) (fun x hx => ?_)).symm
    · obtain ⟨j, hj, rfl⟩ := List.mem_iff_getElem.1 hx
      rw [List.length_take] at hj
      have := h1 j out[j] (by omega) (List.getElem?_eq_getElem (by omega))
      rw [List.getElem_take]
      exact decide_eq_false (by omega)
    · obtain ⟨j, hj, rfl⟩ := List.mem_iff_getElem.1 hx
      rw [List.length_drop] at hj
      have := h2 (at_ + j) out[at_ + j] (by omega) (List.getElem?_eq_getElem (by omega))
      rw [List.getElem_drop]
      exact decide_eq_true this
  rw [e]
  exact ⟨mrg_asc key _ _ _ rfl h (List.pairwise_singleton _ _), fun k => mrg_filter key k _ _ _ rfl h⟩
/-- the day of the last test, as the reference asks for it -/
theorem lastT_zero {xs : List TstR} (h : ∀ x ∈ xs, 0 ≤ x.dy) (s : ByteArray) (d : Int) : lastT xs s 0 d = lastC xs d s := by
  unfold lastT lastC
  have : ∀ (l : List TstR) (m : Int), (∀ x ∈ l, 0 ≤ x.dy) → lastZ (lastQ s 0 d) l m = lastZ (lastD d s) l m := fun l => by
    induction l with
    | nil => intro m _; rfl
    | cons x l ih =>
      intro m hx
      simp only [lastZ]
      rw [show lastQ s 0 d x = lastD d s x by
        unfold lastQ lastD
        rw [decide_eq_true (hx x (List.mem_cons_self ..)), Bool.true_and]]
      exact ih _ (fun y hy => hx y (List.mem_cons_of_mem _ hy))
  exact this xs (-1) h
end Go.Proofs.YtenkbeeiblhnjaaGreat
