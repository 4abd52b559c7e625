/- Results in rows of their own: their cells. -/
import Derived.Test.YtnbboheaheicnaaGreatDoorRkABMN
import Derived.Test.YtnbboheaheicnaaGreatDoorRkCDE
import Derived.Laws.AppendOwnNone
namespace Go.Proofs.YtnbboheaheicnaaGreatDoor
open Go.RowKit Go.Lib
set_option linter.unusedSimpArgs false
set_option linter.unusedVariables false
theorem infoRes : (Tryz.prog.info? 40).map (fun i => (i.zero, i.size, i.bytes)) = some (some (.agg #[.string ⟨#[]⟩, .string ⟨#[]⟩, .slice none 0 0]), 3, 56) := by kernel_rfl
def rowC (r : RowR) : List Value := [.string r.nm, .string r.st, r.u]
def rowCs (rs : List RowR) : List Value := rs.flatMap rowC
theorem rowCs_len (rs : List RowR) : (rowCs rs).length = rs.length * 3 := by
  induction rs with
  | nil => rfl
  | cons x xs ih => simp only [rowCs, List.flatMap_cons, List.length_append, List.length_cons] at *; rw [ih]; simp [rowC]; omega
theorem rowCs_add (rs : List RowR) (r : RowR) : rowCs (rs ++ [r]) = rowCs rs ++ rowC r := by simp [rowCs]
theorem rowCs_at {rs : List RowR} {i : Nat} {x : RowR} (h : rs[i]? = some x) (j : Nat) (hj : j < 3) : (rowCs rs)[i * 3 + j]? = (rowC x)[j]? := by
  induction rs generalizing i with
  | nil => simp at h
  | cons y ys ih =>
    have e : rowCs (y :: ys) = rowC y ++ rowCs ys := rfl
    rw [e]
    cases i with
    | zero =>
      simp only [List.getElem?_cons_zero, Option.some.injEq] at h
      subst h
      rw [show 0 * 3 + j = j by omega, List.getElem?_append_left (by simp [rowC]; omega)]
    | succ i =>
      rw [List.getElem?_append_right (by simp [rowC]; omega)]
      have := ih (i := i) (by simpa using h)
      rw [← this]
      congr 1
      simp [rowC]; omega
theorem own_apart {w : World} {b1 b2 s1 s2 n1 n2 : Nat} {T1 T2 : TypeId} {v1 v2 : Value} {l1 l2 : List Value} (h1 : w.ownsRow b1 T1 s1 v1 n1 l1) (h2 : w.ownsRow b2 T2 s2 v2 n2 l2) (hne : T1 ≠ T2) : v1.ownBlock = none ∨ v1.ownBlock ≠ v2.ownBlock := by
  rcases h1.2 with ⟨rfl, _⟩ | ⟨g, cap, cur, rfl, _, hg, _⟩
  · exact .inl rfl
  · refine .inr fun e => ?_
    rcases h2.2 with ⟨rfl, _⟩ | ⟨g2, cap2, cur2, rfl, _, hg2, _⟩
    · cases e
    · simp only [Value.ownBlock, Option.some.injEq] at e
      subst e
      rw [hg] at hg2
      cases hg2
      exact hne rfl
theorem cell_apart {w : World} {b2 s2 n2 g : Nat} {T1 T2 : TypeId} {v2 : Value} {l2 : List Value} {cs : Array Value} (h1 : w.heap[g]? = some (.cells cs T1 (0, 0))) (h2 : w.ownsRow b2 T2 s2 v2 n2 l2) (hne : T1 ≠ T2) : some g ≠ v2.ownBlock := fun e => by
  rcases h2.2 with ⟨rfl, _⟩ | ⟨g2, cap2, cur2, rfl, _, hg2, _⟩
  · cases e
  · simp only [Value.ownBlock, Option.some.injEq] at e
    subst e
    rw [h1] at hg2
    cases hg2
    exact hne rfl
theorem own_gr {w w' : World} {base n s : Nat} {e : TypeId} {v : Value} {xs : List Value} (h : w.ownsRow base e s v n xs) (k : Gr w w') : w'.ownsRow base e s v n xs := by
  refine ⟨h.1, ?_⟩
  rcases h.2 with h2 | ⟨g, cap, cur, rfl, hb, hcur, r⟩
  · exact .inl h2
  · exact .inr ⟨g, cap, cur, rfl, hb, k.block hcur, r⟩
theorem below_gr {B : Nat} {a b c : World} (h : Below B a b) (k : Gr b c) (hB : B ≤ a.heap.size) : Below B a c := Below.trans h (Below.mono k (Nat.le_trans hB h.size))
theorem cell_three_new (w : World) (a b c : Value) (T : TypeId) : ∀ (j : Nat) (u : Value), [a, b, c][j]? = some u → (w.alloc (.cells #[a, b, c] T)).cell? ((⟨w.heap.size, 0, none⟩ : Addr).add j) = some u := by
  intro j u h
  have e : (⟨w.heap.size, 0, none⟩ : Addr).add j = ⟨w.heap.size, j, none⟩ := by unfold Addr.add; split <;> simp_all
  rw [e]
  rcases j with _ | _ | _ | j
  · simp at h; subst h; exact cell_new w #[a, b, c] T 0 (by simp)
  · simp at h; subst h; exact cell_new w #[a, b, c] T 1 (by simp)
  · simp at h; subst h; exact cell_new w #[a, b, c] T 2 (by simp)
  · simp at h
theorem cell_three_sz (w : World) (s : Nat) (hs : w.heap.size = s) (a b c : Value) (T : TypeId) : ∀ (j : Nat) (u : Value), [a, b, c][j]? = some u → (w.alloc (.cells #[a, b, c] T)).cell? ((⟨s, 0, none⟩ : Addr).add j) = some u := by
  subst hs; exact cell_three_new w a b c T
theorem rowCs_take {xs : List RowR} {k : Nat} {x : RowR} (h : xs[k]? = some x) : rowCs (xs.take (k + 1)) = rowCs (xs.take k) ++ rowC x := by
  rw [List.take_add_one, h]
  simp [rowCs]
/-- rows that have been made, as they read -/
theorem rows_of_owns {w : World} {base : Nat} {v : Value} {ys : List RowR} {T : TypeId} (h : w.ownsRow base T 3 v ys.length (rowCs ys)) (h0 : 0 < ys.length) (hv : ∀ (i : Nat) (x : RowR), ys[i]? = some x → IntsV w x.u x.xs ∧ x.xs.length ≤ 1000) :
    ∃ g cap, v = .slice (some ⟨g, 0, none⟩) ys.length cap ∧ base ≤ g ∧ ys.length ≤ cap ∧ cap ≤ maxLen ∧ ∀ i x, ys[i]? = some x → RowAt w g (0 + i * 3) x := by
  have hh := h
  rcases h.2 with ⟨rfl, h0'⟩ | ⟨g, cap, cur, rfl, hb, hcur, hle, hmx, h5, h6⟩
  · omega
  · refine ⟨g, cap, rfl, hb, by omega, by omega, fun i x hx => ?_⟩
    have e : ∀ t, (⟨g, 0, none⟩ : Addr).add t = ⟨g, t, none⟩ := fun t => by unfold Addr.add; split <;> simp_all
    have c : ∀ (j : Nat) (u : Value), j < 3 → (rowC x)[j]? = some u → w.cell? ⟨g, i * 3 + j, none⟩ = some u := fun j u hj hu => by
      have := hh.cells (g := g) rfl (i * 3 + j) u (by rw [rowCs_at hx j hj]; exact hu)
      rwa [e] at this
    rw [Nat.zero_add]
    exact ⟨c 0 _ (by omega) rfl, c 1 _ (by omega) rfl, c 2 _ (by omega) rfl, (hv i x hx).1, (hv i x hx).2⟩
end Go.Proofs.YtnbboheaheicnaaGreatDoor
namespace Go.Proofs.YtnbboheaheicnaaGreatDoor
open Go.RowKit Go.Lib
set_option linter.unusedSimpArgs false
set_option linter.unusedVariables false
theorem run_append_owned_nil {P : Program} {w : World} (base : Nat) (t ty e : TypeId) (i : TypeInfo) (size : Nat) (ht : P.underlying t = some (.slice e)) (hi : P.info? e = some i)
    (v : Value) (n c : Nat) (xs : List Value) (hown : w.ownsRow base e size v n xs) :
    (Builtin.append_ #[t, t] ty #[v, .slice none 0 c]).run P w = .ok v w := by
  rcases hown.2 with ⟨rfl, rfl⟩ | ⟨g, cap, cur, rfl, _, _, hnc, _⟩
  · simp [Builtin.append_, run_underlying ht, sizeOf, typeInfo, hi, Builtin.lenOf, Builtin.firstCells]
  · simp [Builtin.append_, run_underlying ht, sizeOf, typeInfo, hi, Builtin.lenOf, Builtin.firstCells, hnc, storeCells]
theorem wpList_append_own_nil {P : Program} {w : World} {ops : Array Oper} {rest : List Oper} {o : Oper} {a : Act} {Q : Exit → Act → World → Prop} (hgd : o.guard = none) (s x : Operand) (t : TypeId)
    (ho : o.op = .call { callee := .builtin .append, args := #[s, x], argTypes := #[t, t] })
    (base : Nat) (e : TypeId) (i : TypeInfo) (size : Nat) (ht : P.underlying t = some (.slice e)) (hi : P.info? e = some i)
    (v : Value) (n c : Nat) (xs : List Value) (hs : a.eval s = v) (hown : w.ownsRow base e size v n xs) (hx : a.eval x = .slice none 0 c)
    (h : wpList P ops Q rest (a.put o.dst v) w) : wpList P ops Q (o :: rest) a w := by
  refine wpList_plain hgd fun K hK => ?_
  have hrun := run_append_owned_nil (P := P) (w := w) base t o.type e i size ht hi v n c xs hown
  unfold Oper.wp
  simp [execOp, ho, resolve, invoke, builtin, hs, hx, hrun, Result.andThen]
  exact hK _ _ h
/-- row y, whose values lie in block g, is a copy of row x -/
structure Cpy (w : World) (g : Nat) (x y : RowR) : Prop where
  nm : y.nm = x.nm
  st : y.st = x.st
  xs : y.xs = x.xs
  u : ∃ cap, y.u = .slice (some ⟨g, 0, none⟩) x.xs.length cap ∧ x.xs.length ≤ cap ∧ cap ≤ maxLen
  cells : ∃ cur, w.heap[g]? = some (.cells cur 3 (0, 0)) ∧ cur.toList.take x.xs.length = ints x.xs
/-- rows ys, with values in blocks gs, are copies of xs -/
structure Cps (w : World) (base : Nat) (xs : List RowR) (gs : List Nat) (ys : List RowR) : Prop where
  leny : ys.length = xs.length
  leng : gs.length = xs.length
  cpy : ∀ (i : Nat) (x y : RowR) (g : Nat), xs[i]? = some x → ys[i]? = some y → gs[i]? = some g → Cpy w g x y
  rng : ∀ g ∈ gs, base ≤ g ∧ g < w.heap.size
  apart : ∀ (i j g : Nat), gs[i]? = some g → gs[j]? = some g → i = j
theorem Cpy.gr {w w' : World} {g : Nat} {x y : RowR} (h : Cpy w g x y) (k : w'.heap[g]? = w.heap[g]?) : Cpy w' g x y := ⟨h.nm, h.st, h.xs, h.u, by obtain ⟨cur, h1, h2⟩ := h.cells; exact ⟨cur, by rw [k]; exact h1, h2⟩⟩
theorem Cps.nil (w : World) (base : Nat) : Cps w base [] [] [] := ⟨rfl, rfl, fun i x y g h => by simp at h, fun g h => by simp at h, fun i j g h => by simp at h⟩
theorem Cps.gr {w w' : World} {base : Nat} {xs ys : List RowR} {gs : List Nat} (h : Cps w base xs gs ys) (k : Gr w w') : Cps w' base xs gs ys :=
  ⟨h.leny, h.leng, fun i x y g hx hy hg => (h.cpy i x y g hx hy hg).gr (Below.block k g (h.rng g (List.mem_of_getElem? hg)).2), fun g hg => ⟨(h.rng g hg).1, Nat.lt_of_lt_of_le (h.rng g hg).2 k.size⟩, h.apart⟩
theorem take_get {α : Type} {xs : List α} {k i : Nat} {x : α} (h : (xs.take k)[i]? = some x) : xs[i]? = some x := by
  rw [List.getElem?_take] at h
  split at h
  · exact h
  · cases h
theorem Cps.block {w : World} {base : Nat} {xs ys : List RowR} {gs : List Nat} (h : Cps w base xs gs ys) {g : Nat} (hg : g ∈ gs) : ∃ cur, w.heap[g]? = some (.cells cur 3 (0, 0)) := by
  obtain ⟨i, hi⟩ := List.mem_iff_getElem?.1 hg
  have hl := (List.getElem?_eq_some_iff.1 hi).1
  have hx : i < xs.length := by rw [← h.leng]; exact hl
  have hy : i < ys.length := by rw [h.leny]; exact hx
  obtain ⟨cur, h1, _⟩ := (h.cpy i _ _ g (List.getElem?_eq_getElem hx) (List.getElem?_eq_getElem hy) hi).cells
  exact ⟨cur, h1⟩
theorem Cps.add {w w' : World} {base : Nat} {xs ys : List RowR} {gs : List Nat} (h : Cps w base xs gs ys) {x y : RowR} {g : Nat} (hold : ∀ g' ∈ gs, w'.heap[g']? = w.heap[g']?) (hs : w.heap.size ≤ w'.heap.size) (hc : Cpy w' g x y) (hg : w.heap.size ≤ g) (hb : base ≤ w.heap.size) :
    Cps w' base (xs ++ [x]) (gs ++ [g]) (ys ++ [y]) := by
  have hgl : g < w'.heap.size := by obtain ⟨cur, h1, _⟩ := hc.cells; exact (Array.getElem?_eq_some_iff.1 h1).1
  refine ⟨by simp [h.leny], by simp [h.leng], fun i x' y' g' hx hy hg' => ?_, fun g' hg' => ?_, fun i j g' hi hj => ?_⟩
  · by_cases hi : i < xs.length
    · rw [List.getElem?_append_left hi] at hx
      rw [List.getElem?_append_left (by rw [h.leny]; exact hi)] at hy
      rw [List.getElem?_append_left (by rw [h.leng]; exact hi)] at hg'
      exact (h.cpy i x' y' g' hx hy hg').gr (hold g' (List.mem_of_getElem? hg'))
    · have hl := (List.getElem?_eq_some_iff.1 hx).1
      simp only [List.length_append, List.length_cons, List.length_nil] at hl
      have e : i = xs.length := by omega
      subst e
      rw [List.getElem?_append_right (Nat.le_refl _), Nat.sub_self] at hx
      rw [List.getElem?_append_right (by rw [h.leny]; exact Nat.le_refl _), h.leny, Nat.sub_self] at hy
      rw [List.getElem?_append_right (by rw [h.leng]; exact Nat.le_refl _), h.leng, Nat.sub_self] at hg'
      simp only [List.getElem?_cons_zero, Option.some.injEq] at hx hy hg'
      subst hx hy hg'
      exact hc
  · rw [List.mem_append, List.mem_singleton] at hg'
    rcases hg' with hg' | rfl
    · exact ⟨(h.rng g' hg').1, Nat.lt_of_lt_of_le (h.rng g' hg').2 hs⟩
    · exact ⟨Nat.le_trans hb hg, hgl⟩
  · have key : ∀ i, (gs ++ [g])[i]? = some g' → (i < gs.length ∧ gs[i]? = some g' ∧ g' < w.heap.size) ∨ (i = gs.length ∧ g' = g) := fun i hi => by
      by_cases hl : i < gs.length
      · rw [List.getElem?_append_left hl] at hi
        exact .inl ⟨hl, hi, (h.rng g' (List.mem_of_getElem? hi)).2⟩
      · have hl2 := (List.getElem?_eq_some_iff.1 hi).1
        simp only [List.length_append, List.length_cons, List.length_nil] at hl2
        have e : i = gs.length := by omega
        subst e
        rw [List.getElem?_append_right (Nat.le_refl _), Nat.sub_self] at hi
        simp only [List.getElem?_cons_zero, Option.some.injEq] at hi
        exact .inr ⟨rfl, hi.symm⟩
    rcases key i hi with ⟨a, b, c⟩ | ⟨a, b⟩ <;> rcases key j hj with ⟨a', b', c'⟩ | ⟨a', b'⟩
    · exact h.apart i j g' b b'
    · omega
    · omega
    · omega
/-- an own row of integers that is not nil -/
theorem own_some {w : World} {base n : Nat} {v : Value} {xs : List Value} {T : TypeId} (h : w.ownsRow base T 1 v n xs) (hv : v ≠ .slice none 0 0) :
    ∃ g cap cur, v = .slice (some ⟨g, 0, none⟩) n cap ∧ base ≤ g ∧ n ≤ cap ∧ cap ≤ maxLen ∧ w.heap[g]? = some (.cells cur T (0, 0)) ∧ cur.toList.take n = xs := by
  rcases h.2 with ⟨rfl, _⟩ | ⟨g, cap, cur, rfl, hb, hg, hle, hmx, _, ht⟩
  · exact absurd rfl hv
  · exact ⟨g, cap, cur, rfl, hb, by omega, by omega, hg, by simpa using ht⟩
/-- append([]int{}, xs...) -/
theorem wpList_copy {w : World} {ops : Array Oper} {rest : List Oper} {o : Oper} {a : Act} {Q : Exit → Act → World → Prop} (hgd : o.guard = none) (s x : Operand)
    (ho : o.op = .call { callee := .builtin .append, args := #[s, x], argTypes := #[25, 25] })
    (g0 : Nat) (v : Value) (xs : List Int) (hs : a.eval s = .slice (some ⟨g0, 0, none⟩) 0 0) (h0 : w.heap[g0]? = some (.cells #[] 3 (0, 0))) (hx : a.eval x = v) (hv : IntsV w v xs) (hl : xs.length ≤ 1000)
    (h : ∀ g cap cur w1, w1.heap[g]? = some (.cells cur 3 (0, 0)) → cur.toList.take xs.length = ints xs → g0 ≤ g → xs.length ≤ cap → cap ≤ maxLen → w.grownBy w1 (some g0) → wpList Tryz.prog ops Q rest (a.put o.dst (.slice (some ⟨g, 0, none⟩) xs.length cap)) w1) :
    wpList Tryz.prog ops Q (o :: rest) a w := by
  obtain ⟨i1, hj, hy0, hy1, hy2⟩ := info_parts info3
  have hlt := (Array.getElem?_eq_some_iff.1 h0).1
  have hown : w.ownsRow g0 3 1 (.slice (some ⟨g0, 0, none⟩) 0 0) 0 [] := ⟨by simp, .inr ⟨g0, 0, #[], rfl, Nat.le_refl _, h0, Nat.le_refl _, by unfold maxLen; omega, rfl, by simp⟩⟩
  obtain ⟨⟨p, cap, rfl, hc⟩⟩ := hv
  rcases p with _ | ad
  · have hz : xs.length = 0 := by
      rcases Nat.eq_zero_or_pos xs.length with h | h
      · exact h
      · obtain ⟨b, off, e, _⟩ := hc h
        cases e
    rw [hz] at hx
    refine wpList_append_own_nil hgd s x 25 ho g0 3 i1 1 Tryz.underlying25 hj _ 0 cap [] hs hown hx ?_
    have := h g0 0 #[] w h0 (by rw [hz]; simp [ints, List.length_eq_zero_iff.1 hz]) (Nat.le_refl _) (by omega) (by unfold maxLen; omega) ⟨rfl, rfl, rfl, Nat.le_refl _, fun _ _ _ => rfl⟩
    rwa [hz] at this
  · refine wpList_append_own _ hgd s x 25 ho g0 3 i1 (.int .i64 0) 1 8 Tryz.underlying25 hj hy0 hy1 hy2 rfl (by decide) _ 0 [] hs hown ad xs.length cap (ints xs) hx (by simp [ints]) (fun j u hu => ?_) (fun u hu => ?_) (by unfold maxLen; omega) (by omega) (by omega) (fun v1 w1 hown1 hgrow1 hnil1 => ?_)
    · have hj' : j < xs.length := by have := (List.getElem?_eq_some_iff.1 hu).1; simpa [ints] using this
      obtain ⟨b, off, e, hcc⟩ := hc (by omega)
      cases e
      simp only [ints, List.getElem?_map, Option.map_eq_some_iff] at hu
      obtain ⟨z, hz, rfl⟩ := hu
      have := hcc j z hz
      rw [show (⟨b, off, none⟩ : Addr).add j = ⟨b, off + j, none⟩ by unfold Addr.add; split <;> simp_all]
      exact this
    · simp [ints] at hu
      obtain ⟨z, _, rfl⟩ := hu
      rfl
    · rw [Nat.zero_add] at hown1
      obtain ⟨g, capg, cur, rfl, hbg, h1, h2, hg, ht⟩ := own_some hown1 (fun e => by have := (hnil1.1 e).1; cases this)
      exact h g capg cur w1 hg ht hbg h1 h2 hgrow1
set_option maxHeartbeats 2000000 in
set_option maxRecDepth 100000 in
theorem results_pos (xs : List RowR) (n b off cap : Nat) (w : World) (hn : xs.length = n) (h1 : n ≤ 200) (hlen : ∀ x ∈ xs, x.xs.length ≤ 20)
    (hc : ∀ i x, xs[i]? = some x → RowAt w b (off + i * 3) x) :
    Calls Tryz.prog 8 #[.slice (some ⟨b, off, none⟩) n cap] w fun e w' => ∃ v gs ys, e = .returned v ∧ w'.ownsRow w.heap.size 40 3 v n (rowCs ys) ∧ Cps w' w.heap.size xs gs ys ∧ Gr w w' := by
  obtain ⟨i0, hi, hz0, hz1, hz2⟩ := info_parts infoRes
  obtain ⟨i1, hj, hy0, hy1, hy2⟩ := info_parts info3
  have HX := Lib.hid (fun k (h : k < n) => (show ∃ x, xs[k]? = some x from ⟨xs[k]'(by omega), List.getElem?_eq_getElem _⟩))
  have HC := Lib.hid hc
  have HN := Lib.hid hn
  have HLn := Lib.hid hlen
  clear hc hn hlen
  go_enter Tryz.func8, Tryz.ntmps8
  go_wp2_with fail
  go_loopw [3, 8] (fun v i wr => ∃ (k : Nat) (gs : List Nat) (ys : List RowR), k ≤ n ∧ i = .int .i64 k ∧ wr.ownsRow w.heap.size 40 3 v k (rowCs ys) ∧ Cps wr w.heap.size (xs.take k) gs ys ∧ Gr w wr) (fun _ i _ => n - (intOf i).toNat)
  case atStart => exact ⟨0, [], [], Nat.zero_le _, rfl, World.ownsRow_nil _ _ _ _, by simpa using Cps.nil _ _, Gr.refl _⟩
  case round =>
    obtain ⟨k, gs, ys, hk, rfl, hown, hcp, hnx⟩ := hrel
    have hsize := hnx.size
    by_cases hkN : k < n
    · obtain ⟨x, hx⟩ := HX.out k hkN
      obtain ⟨c0, c1, c2, hv, _⟩ := (HC.out k x hx).gr hnx
      have HV := Lib.hid hv
      obtain ⟨⟨p', cap', hu, hvv⟩⟩ := hv
      rw [hu] at c2 HV
      have hlx : x.xs.length ≤ 20 := HLn.out x (List.mem_of_getElem? hx)
      have hi2 : (k : Int) < n := by omega
      have HTK := Lib.hid (show xs.take (k + 1) = xs.take k ++ [x] from by rw [List.take_add_one, hx]; rfl)
      have HLY := Lib.hid (show (rowCs ys).length = k * 3 from by have := hcp.leny; rw [rowCs_len, this, List.length_take]; have := HN.out; rw [Nat.min_eq_left (by omega)])
      clear hx hu hvv
      have hA0 := heap_alloc_new wr (.cells #[.string x.nm, .string x.st, .slice p' x.xs.length cap'] 40)
      have hgA : Gr wr (wr.alloc (.cells #[.string x.nm, .string x.st, .slice p' x.xs.length cap'] 40)) := (Gr.refl wr).alloc _
      have hsA : (wr.alloc (.cells #[.string x.nm, .string x.st, .slice p' x.xs.length cap'] 40)).heap.size = wr.heap.size + 1 := World.size_alloc _ _
      have hB0 := heap_alloc_new (wr.alloc (.cells #[.string x.nm, .string x.st, .slice p' x.xs.length cap'] 40)) (.cells #[] 3)
      rw [hsA] at hB0
      have HB0 := Lib.hid hB0
      have HA1 := Lib.hid (((Gr.refl (wr.alloc (.cells #[.string x.nm, .string x.st, .slice p' x.xs.length cap'] 40))).alloc (.cells #[] 3)).block hA0)
      have HgB := Lib.hid (hgA.alloc (.cells #[] 3))
      clear hA0 hgA hsA hB0
      go_wp2_with (first
        | (at_builtin; refine wpList_copy rfl _ _ rfl (wr.heap.size + 1) (.slice p' x.xs.length cap') x.xs rfl HB0.out rfl (HV.out.gr HgB.out) (by omega) ?_; intro g capg cur w1 hg1 ht1 hbg1 hcg1 hcm1 hgrow1;
           have hblk : w1.heap[wr.heap.size]? = some (.cells #[.string x.nm, .string x.st, .slice p' x.xs.length cap'] 40 (0, 0)) := by (rw [hgrow1.block wr.heap.size (by simp; omega) (by simp)]; exact HA1.out);
           have hfz := frozen_of_row w1 wr.heap.size 2 _ 40 hblk;
           have hcl : w1.cell? ⟨wr.heap.size, 2, none⟩ = some (.slice p' x.xs.length cap') := by (rw [cell_of_row w1 wr.heap.size 2 _ 40 (0, 0) hblk]; rfl);
           have hcl0 : w1.cell? ⟨wr.heap.size, 0, none⟩ = some (.string x.nm) := by (rw [cell_of_row w1 wr.heap.size 0 _ 40 (0, 0) hblk]; rfl);
           have hcl1 : w1.cell? ⟨wr.heap.size, 1, none⟩ = some (.string x.st) := by (rw [cell_of_row w1 wr.heap.size 1 _ 40 (0, 0) hblk]; rfl);
           have hgr1 : Gr wr w1 := Below.grown HgB.out hgrow1 (by simp; omega) (fun j hj => by cases hj; omega);
           have hgS : Gr wr (w1.setCell ⟨wr.heap.size, 2, none⟩ (.slice (some ⟨g, 0, none⟩) x.xs.length capg)) := Below.setCell hgr1 (Nat.le_refl _) _;
           have hsz1 := hgr1.size)
        | (at_builtin; refine wpList_append_own _ rfl _ _ 22 rfl w.heap.size 40 i0 (.agg #[.string ⟨#[]⟩, .string ⟨#[]⟩, .slice none 0 0]) 3 56 Tryz.underlying22 hi hz0 hz1 hz2 rfl (by decide) _ _ _ rfl ((own_gr hown hgS).alloc _) ⟨w1.heap.size, 0, none⟩ 1 1 [.string x.nm, .string x.st, .slice (some ⟨g, 0, none⟩) x.xs.length capg] rfl rfl (cell_three_sz _ _ (by simp) _ _ _ _) (by intro u hu; simp at hu; rcases hu with rfl | rfl | rfl <;> rfl) (by unfold maxLen; omega) (by omega) (by simp; omega) ?_; intro v2 w2 hown2 hgrow2 hnil2))
      go_roundw
      case rel =>
        have hg4 := hgS.alloc (.cells #[.string x.nm, .string x.st, .slice (some ⟨g, 0, none⟩) x.xs.length capg] 40)
        have hown4 := (own_gr hown hgS).alloc (.cells #[.string x.nm, .string x.st, .slice (some ⟨g, 0, none⟩) x.xs.length capg] 40)
        have hw4g : ((w1.setCell ⟨wr.heap.size, 2, none⟩ (.slice (some ⟨g, 0, none⟩) x.xs.length capg)).alloc (.cells #[.string x.nm, .string x.st, .slice (some ⟨g, 0, none⟩) x.xs.length capg] 40)).heap[g]? = some (.cells cur 3 (0, 0)) := by
          refine ((Gr.refl _).alloc _).block ?_
          rw [heap_setCell_other _ _ _ _ (show g ≠ wr.heap.size by omega)]
          exact hg1
        generalize (w1.setCell ⟨wr.heap.size, 2, none⟩ (.slice (some ⟨g, 0, none⟩) x.xs.length capg)).alloc (.cells #[.string x.nm, .string x.st, .slice (some ⟨g, 0, none⟩) x.xs.length capg] 40) = W4 at *
        have hkeep : ∀ (g' : Nat) (cur' : Array Value), W4.heap[g']? = some (Obj.cells cur' 3 (0, 0)) → w2.heap[g']? = some (Obj.cells cur' 3 (0, 0)) := fun g' cur' h => by
          rw [hgrow2.block g' (Array.getElem?_eq_some_iff.1 h).1 (cell_apart h hown4 (by decide))]
          exact h
        have hs4 := hg4.size
        have hs2 := hgrow2.size
        refine ⟨k + 1, gs ++ [g], ys ++ [⟨x.nm, x.st, .slice (some ⟨g, 0, none⟩) x.xs.length capg, x.xs⟩], by omega, by go_num, by rw [rowCs_add]; exact hown2, ?_, ?_⟩
        · rw [HTK.out]
          refine hcp.add (fun g' hg' => ?_) (by omega) ⟨rfl, rfl, rfl, ⟨capg, rfl, hcg1, hcm1⟩, ⟨cur, hkeep g cur hw4g, ht1⟩⟩ (by omega) hsize
          obtain ⟨cur', h'⟩ := hcp.block hg'
          rw [hkeep g' cur' (hg4.block h'), h']
        · exact Below.grown (hnx.trans hg4) hgrow2 (by omega) (fun j hj => (hown.lt j hj).1)
      case measure => simp [intOf]; omega
    · obtain rfl : k = n := by omega
      rw [List.take_of_length_le (by have := HN.out; omega)] at hcp
      go_wp2_with fail
      go_ret
      exact ⟨_, _, _, rfl, hown, hcp, hnx⟩
end Go.Proofs.YtnbboheaheicnaaGreatDoor
