/- ResultNarrows: rows that are made side by side. -/
import Derived.Test.YtigmonaggppehaaGreatDoorNaMN
import Derived.Test.YtigmonaggppehaaGreatDoorOpV
import Derived.Test.YtigmonaggppehaaGreatDoorExAEG
namespace Go.Proofs.YtigmonaggppehaaGreatDoor
open Go.RowKit Go.Lib
set_option linter.unusedSimpArgs false
set_option linter.unusedVariables false
theorem infoRO : (Tryz.prog.info? 40).map (fun i => (i.zero, i.size, i.bytes)) = some (some (.agg #[.string ⟨#[]⟩, .int .i64 0, .int .i64 0]), 3, 32) := by kernel_rfl
theorem infoRes : (Tryz.prog.info? 42).map (fun i => (i.zero, i.size, i.bytes)) = some (some (.agg #[.string ⟨#[]⟩, .string ⟨#[]⟩, .slice none 0 0]), 3, 56) := by kernel_rfl
def rowC (r : RowR) : List Value := [.string r.nm, .string r.st, r.u]
def rowCs (rs : List RowR) : List Value := rs.flatMap rowC
theorem rowCs_len (rs : List RowR) : (rowCs rs).length = rs.length * 3 := by
  induction rs with
  | nil => rfl
  | cons x xs ih => simp only [rowCs, List.flatMap_cons, List.length_append, List.length_cons] at *; rw [ih]; simp [rowC]; omega
theorem rowCs_add (rs : List RowR) (r : RowR) : rowCs (rs ++ [r]) = rowCs rs ++ rowC r := by simp [rowCs]
theorem rowCs_at {rs : List RowR} {i : Nat} {x : RowR} (h : rs[i]? = some x) (j : Nat) (hj : j < 3) : (rowCs rs)[i * 3 + j]? = (rowC x)[j]? := by
  induction rs generalizing i with
  | nil => simp at h
  | cons y ys ih =>
    have e : rowCs (y :: ys) = rowC y ++ rowCs ys := rfl
    rw [e]
    cases i with
    | zero =>
      simp only [List.getElem?_cons_zero, Option.some.injEq] at h
      subst h
      rw [show 0 * 3 + j = j by omega, List.getElem?_append_left (by simp [rowC]; omega)]
    | succ i =>
      rw [List.getElem?_append_right (by simp [rowC]; omega)]
      have := ih (i := i) (by simpa using h)
      rw [← this]
      congr 1
      simp [rowC]; omega
/-- the values of results lie in blocks of their own -/
def ValsAt (w : World) (m : Int) (xs : List OpR) (rs : List RowR) : Prop :=
  ∀ (j : Nat) (y : OpR) (r : RowR), xs[j]? = some y → rs[j]? = some r → (r.nm = y.nm ∧ r.st = ⟨#[]⟩ ∧ r.xs = [vOf m y]) ∧ ∃ g, r.u = .slice (some ⟨g, 0, none⟩) 1 1 ∧ w.heap[g]? = some (.cells #[.int .i64 (vOf m y)] 3 (0, 0))
theorem ValsAt.gr {w w' : World} {m : Int} {xs : List OpR} {rs : List RowR} (h : ValsAt w m xs rs) (k : Gr w w') : ValsAt w' m xs rs := fun j y r hy hr => by
  obtain ⟨h1, g, h2, h3⟩ := h j y r hy hr
  exact ⟨h1, g, h2, k.block h3⟩
theorem own_apart {w : World} {b1 b2 s1 s2 n1 n2 : Nat} {T1 T2 : TypeId} {v1 v2 : Value} {l1 l2 : List Value} (h1 : w.ownsRow b1 T1 s1 v1 n1 l1) (h2 : w.ownsRow b2 T2 s2 v2 n2 l2) (hne : T1 ≠ T2) : v1.ownBlock = none ∨ v1.ownBlock ≠ v2.ownBlock := by
  rcases h1.2 with ⟨rfl, _⟩ | ⟨g, cap, cur, rfl, _, hg, _⟩
  · exact .inl rfl
  · refine .inr fun e => ?_
    rcases h2.2 with ⟨rfl, _⟩ | ⟨g2, cap2, cur2, rfl, _, hg2, _⟩
    · cases e
    · simp only [Value.ownBlock, Option.some.injEq] at e
      subst e
      rw [hg] at hg2
      cases hg2
      exact hne rfl
theorem cell_apart {w : World} {b2 s2 n2 g : Nat} {T1 T2 : TypeId} {v2 : Value} {l2 : List Value} {cs : Array Value} (h1 : w.heap[g]? = some (.cells cs T1 (0, 0))) (h2 : w.ownsRow b2 T2 s2 v2 n2 l2) (hne : T1 ≠ T2) : some g ≠ v2.ownBlock := fun e => by
  rcases h2.2 with ⟨rfl, _⟩ | ⟨g2, cap2, cur2, rfl, _, hg2, _⟩
  · cases e
  · simp only [Value.ownBlock, Option.some.injEq] at e
    subst e
    rw [h1] at hg2
    cases hg2
    exact hne rfl
theorem ValsAt.kept {w w' : World} {m : Int} {xs : List OpR} {rs : List RowR} {b2 s2 n2 : Nat} {T2 : TypeId} {v2 : Value} {l2 : List Value} (h : ValsAt w m xs rs) (ho : w.ownsRow b2 T2 s2 v2 n2 l2) (hne : (3 : TypeId) ≠ T2) (hg : w.grownBy w' v2.ownBlock) : ValsAt w' m xs rs := fun j y r hy hr => by
  obtain ⟨h1, g, h2, h3⟩ := h j y r hy hr
  refine ⟨h1, g, h2, ?_⟩
  rw [hg.block g (Array.getElem?_eq_some_iff.1 h3).1 (cell_apart h3 ho hne)]
  exact h3
theorem ValsAt.add {w : World} {m : Int} {xs : List OpR} {rs : List RowR} (h : ValsAt w m xs rs) {i : Nat} (hi : rs.length = i) {y : OpR} (hy : xs[i]? = some y) {r : RowR} (hr : r.nm = y.nm ∧ r.st = ⟨#[]⟩ ∧ r.xs = [vOf m y]) {g : Nat} (hu : r.u = .slice (some ⟨g, 0, none⟩) 1 1) (hg : w.heap[g]? = some (.cells #[.int .i64 (vOf m y)] 3 (0, 0))) : ValsAt w m xs (rs ++ [r]) := fun j y' r' hy' hr' => by
  by_cases hj : j < rs.length
  · rw [List.getElem?_append_left hj] at hr'
    exact h j y' r' hy' hr'
  · have hl := (List.getElem?_eq_some_iff.1 hr').1
    have hji : j = i := by simp at hl; omega
    subst hji
    rw [List.getElem?_append_right (by omega), show j - rs.length = 0 by omega] at hr'
    simp only [List.getElem?_cons_zero, Option.some.injEq] at hr'
    subst hr'
    rw [hy] at hy'
    cases hy'
    exact ⟨hr, g, hu, hg⟩
theorem cnt_take {p : Nat → OpR → Bool} : ∀ (xs : List OpR) (k i : Nat) (x : OpR), xs[k]? = some x → cnt p (xs.take (k + 1)) i = cnt p (xs.take k) i + (if p (i + k) x then 1 else 0)
  | [], k, i, x, h => by simp at h
  | y :: ys, 0, i, x, h => by
    simp only [List.getElem?_cons_zero, Option.some.injEq] at h
    subst h
    simp [cnt]
  | y :: ys, k + 1, i, x, h => by
    have ih := cnt_take (p := p) ys k (i + 1) x (by simpa using h)
    rw [show i + 1 + k = i + (k + 1) by omega] at ih
    simp only [List.take_succ_cons, cnt] at *
    omega
theorem rowsV_of_owns {w : World} {base n : Nat} {v : Value} {m : Int} {xs : List OpR} {rs : List RowR} {T : TypeId} (hn : rs.length = n) (hx : rs.length = xs.length) (h : w.ownsRow base T 3 v n (rowCs rs)) (hv : ValsAt w m xs rs) : RowsV w v rs := by
  subst hn
  rcases h.2 with ⟨rfl, h0⟩ | ⟨g, cap, cur, rfl, _, _, hle, hmx, _, _⟩
  · exact ⟨none, 0, by rw [h0], ⟨by omega, by unfold maxLen; omega⟩, fun h => by omega⟩
  · refine ⟨some ⟨g, 0, none⟩, cap, rfl, ⟨hle, hmx⟩, fun _ => ⟨g, 0, rfl, fun i x hx' => ?_⟩⟩
    have e : ∀ j, (⟨g, 0, none⟩ : Addr).add j = ⟨g, j, none⟩ := fun j => by unfold Addr.add; split <;> simp_all
    have hil := (List.getElem?_eq_some_iff.1 hx').1
    obtain ⟨y, hy⟩ : ∃ y, xs[i]? = some y := ⟨xs[i]'(by omega), List.getElem?_eq_getElem _⟩
    obtain ⟨⟨_, _, h3⟩, k, hu, hk⟩ := hv i y x hy hx'
    have c0 := h.cells (g := g) rfl (i * 3 + 0) (.string x.nm) (by rw [rowCs_at hx' 0 (by omega)]; rfl)
    have c1 := h.cells (g := g) rfl (i * 3 + 1) (.string x.st) (by rw [rowCs_at hx' 1 (by omega)]; rfl)
    have c2 := h.cells (g := g) rfl (i * 3 + 2) x.u (by rw [rowCs_at hx' 2 (by omega)]; rfl)
    rw [e] at c0 c1 c2
    refine ⟨by simpa using c0, by simpa using c1, by simpa using c2, ⟨some ⟨k, 0, none⟩, 1, by rw [hu, h3]; rfl, fun _ => ⟨k, 0, rfl, fun q z hz => ?_⟩⟩, by rw [h3]; simp⟩
    rw [h3] at hz
    have hq : q = 0 := by
      have := (List.getElem?_eq_some_iff.1 hz).1
      simpa using this
    subst hq
    simp only [List.getElem?_cons_zero, Option.some.injEq] at hz
    subst hz
    rw [cell_of_row w k _ _ 3 (0, 0) hk]
    rfl
theorem rowsOf_vals {w : World} {m : Int} {xs : List OpR} {rs : List RowR} (h : ValsAt w m xs rs) (hn : rs.length = xs.length) : RowsOf m xs rs := ⟨hn, fun j y r hy hr => (h j y r hy hr).1⟩
end Go.Proofs.YtigmonaggppehaaGreatDoor
namespace Go.Proofs.YtigmonaggppehaaGreatDoor
open Go.RowKit Go.Lib
set_option linter.unusedSimpArgs false
set_option linter.unusedVariables false
theorem store3 {w : World} {g : Nat} {cur : Array Value} {T : TypeId} (h : w.heap[g]? = some (.cells cur T (0, 0))) (j : Nat) (v0 v1 v2 : Value) :
    (((w.setCell ⟨g, j, none⟩ v0).setCell ⟨g, j + 1, none⟩ v1).setCell ⟨g, j + 2, none⟩ v2).heap[g]? = some (.cells (((cur.setIfInBounds j v0).setIfInBounds (j + 1) v1).setIfInBounds (j + 2) v2) T (0, 0)) :=
  heap_setCell_same _ g (j + 2) _ T v2 (heap_setCell_same _ g (j + 1) _ T v1 (heap_setCell_same w g j cur T v0 h))
theorem few_store {w : World} {N g capf n k : Nat} {xs : List OpR} {T : TypeId} (d : OpR) (ho : w.ownsRow N T 3 (.slice (some ⟨g, 0, none⟩) n capf) n (opCs xs)) (hn : xs.length = n) (hk : k < n) :
    OpsV (((w.setCell ⟨g, k * 3, none⟩ (.string d.nm)).setCell ⟨g, k * 3 + 1, none⟩ (.int .i64 d.lo)).setCell ⟨g, k * 3 + 2, none⟩ (.int .i64 d.hi)) (.slice (some ⟨g, 0, none⟩) n capf) (xs.set k d) ∧
      Below N w (((w.setCell ⟨g, k * 3, none⟩ (.string d.nm)).setCell ⟨g, k * 3 + 1, none⟩ (.int .i64 d.lo)).setCell ⟨g, k * 3 + 2, none⟩ (.int .i64 d.hi)) := by
  rcases ho.2 with ⟨e, _⟩ | ⟨g', cap', cur, e, hbg, hcur, hle, hmx, hsz, htk⟩
  · cases e
  simp only [Value.slice.injEq, Option.some.injEq, Addr.mk.injEq, and_true, true_and] at e
  obtain ⟨rfl, rfl⟩ := e
  have hs := store3 hcur (k * 3) (.string d.nm) (.int .i64 d.lo) (.int .i64 d.hi)
  refine ⟨⟨_, _, by simp [hn], ⟨by simp [hn]; exact hle, hmx⟩, fun _ => ⟨g, 0, rfl, fun i x hx => ?_⟩⟩, ?_⟩
  · have hil := (List.getElem?_eq_some_iff.1 hx).1
    rw [List.length_set] at hil
    rw [List.getElem?_set] at hx
    have hc : ∀ j, (((w.setCell ⟨g, k * 3, none⟩ (.string d.nm)).setCell ⟨g, k * 3 + 1, none⟩ (.int .i64 d.lo)).setCell ⟨g, k * 3 + 2, none⟩ (.int .i64 d.hi)).cell? ⟨g, j, none⟩ = (((cur.setIfInBounds (k * 3) (.string d.nm)).setIfInBounds (k * 3 + 1) (.int .i64 d.lo)).setIfInBounds (k * 3 + 2) (.int .i64 d.hi))[j]? := fun j => cell_of_row _ g j _ T (0, 0) hs
    by_cases hki : k = i
    · subst hki
      rw [if_pos rfl, if_pos (by omega)] at hx
      cases hx
      have q : k * 3 + 2 < cur.size := by rw [hsz]; omega
      refine ⟨?_, ?_, ?_⟩
      · rw [hc, Array.getElem?_setIfInBounds, if_neg (by omega), Array.getElem?_setIfInBounds, if_neg (by omega), Array.getElem?_setIfInBounds, if_pos (by omega), if_pos (by omega)]
      · rw [hc, Array.getElem?_setIfInBounds, if_neg (by omega), Array.getElem?_setIfInBounds, if_pos (by omega), if_pos (by simp; omega)]
      · rw [hc, Array.getElem?_setIfInBounds, if_pos (by omega), if_pos (by simp; omega)]
    · rw [if_neg hki] at hx
      have hold : ∀ j, j < 3 → (((w.setCell ⟨g, k * 3, none⟩ (.string d.nm)).setCell ⟨g, k * 3 + 1, none⟩ (.int .i64 d.lo)).setCell ⟨g, k * 3 + 2, none⟩ (.int .i64 d.hi)).cell? ⟨g, i * 3 + j, none⟩ = (opC x)[j]? := by
        intro j hj
        rw [hc, Array.getElem?_setIfInBounds, if_neg (by omega), Array.getElem?_setIfInBounds, if_neg (by omega), Array.getElem?_setIfInBounds, if_neg (by omega)]
        have h1 : (cur.toList.take (n * 3))[i * 3 + j]? = (opC x)[j]? := by rw [htk]; exact opCs_at hx j hj
        rw [List.getElem?_take, if_pos (by omega), Array.getElem?_toList] at h1
        exact h1
      rw [Nat.zero_add]
      exact ⟨hold 0 (by omega), hold 1 (by omega), hold 2 (by omega)⟩
  · exact (((Below.refl N w).setCell hbg _).setCell hbg _).setCell hbg _
theorem opsV_cells {w : World} {base n : Nat} {v : Value} {xs : List OpR} {T : TypeId} (hn : xs.length = n) (h : w.ownsRow base T 3 v n (opCs xs)) : OpsV w v xs := by
  subst hn
  exact opsV_of_owns h
set_option maxRecDepth 100000 in
theorem same_one (g R c n c2 : Nat) (v : Int) (cap : Nat) (w : World) (ha : w.cell? ⟨g, 0, none⟩ = some (.int .i64 v)) (hb : w.cell? ⟨R, c, none⟩ = some (.int .i64 v)) :
    Calls Tryz.prog 15 #[.slice (some ⟨g, 0, none⟩) 1 cap, .slice (some ⟨R, c, none⟩) 1 c2] w fun e w' => e = .returned (.bool true) ∧ Gr w w' := by
  go_enter Tryz.func15, Tryz.ntmps15
  go_wp2_with fail
  refine wp_loop_rounds 2 ?_
  rw [rounds_succ]
  go_wp2_with fail
  go_quiet (fail)
  go_wp2_with fail
  rw [rounds_succ]
  go_wp2_with fail
  go_ret
  exact ⟨rfl, (Gr.refl w).drewN _⟩
end Go.Proofs.YtigmonaggppehaaGreatDoor
