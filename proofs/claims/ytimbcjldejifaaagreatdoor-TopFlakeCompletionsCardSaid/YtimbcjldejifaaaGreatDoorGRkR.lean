/- Results in rows of their own: their cells. -/
import Derived.Test.YtimbcjldejifaaaGreatDoorGRkA
import Derived.Test.YtimbcjldejifaaaGreatDoorGNaM
import Derived.Test.YtimbcjldejifaaaGreatDoorGExA
import Derived.Test.YtimbcjldejifaaaGreatDoorGFcM
import Derived.Test.YtimbcjldejifaaaGreatDoorGRkG
import Derived.Test.YtimbcjldejifaaaGreatDoorGNat
import Derived.MapKept
namespace Go.Proofs.YtimbcjldejifaaaGreatDoor
open Go.RowKit Go.Lib
set_option linter.unusedSimpArgs false
set_option linter.unusedVariables false
theorem infoRes : (Tryz.prog.info? 33).map (fun i => (i.zero, i.size, i.bytes)) = some (some (.agg #[.string ⟨#[]⟩, .string ⟨#[]⟩, .slice none 0 0]), 3, 56) := by kernel_rfl
def rowC (r : RowR) : List Value := [.string r.nm, .string r.st, r.u]
def rowCs (rs : List RowR) : List Value := rs.flatMap rowC
theorem rowCs_len (rs : List RowR) : (rowCs rs).length = rs.length * 3 := by
  induction rs with
  | nil => rfl
  | cons x xs ih => simp only [rowCs, List.flatMap_cons, List.length_append, List.length_cons] at *; rw [ih]; simp [rowC]; omega
theorem rowCs_add (rs : List RowR) (r : RowR) : rowCs (rs ++ [r]) = rowCs rs ++ rowC r := by simp [rowCs]
theorem rowCs_at {rs : List RowR} {i : Nat} {x : RowR} (h : rs[i]? = some x) (j : Nat) (hj : j < 3) : (rowCs rs)[i * 3 + j]? = (rowC x)[j]? := by
  induction rs generalizing i with
  | nil => simp at h
  | cons y ys ih =>
    have e : rowCs (y :: ys) = rowC y ++ rowCs ys := rfl
    rw [e]
    cases i with
    | zero =>
      simp only [List.getElem?_cons_zero, Option.some.injEq] at h
      subst h
      rw [show 0 * 3 + j = j by omega, List.getElem?_append_left (by simp [rowC]; omega)]
    | succ i =>
      rw [List.getElem?_append_right (by simp [rowC]; omega)]
      have := ih (i := i) (by simpa using h)
      rw [← this]
      congr 1
      simp [rowC]; omega
theorem own_apart {w : World} {b1 b2 s1 s2 n1 n2 : Nat} {T1 T2 : TypeId} {v1 v2 : Value} {l1 l2 : List Value} (h1 : w.ownsRow b1 T1 s1 v1 n1 l1) (h2 : w.ownsRow b2 T2 s2 v2 n2 l2) (hne : T1 ≠ T2) : v1.ownBlock = none ∨ v1.ownBlock ≠ v2.ownBlock := by
  rcases h1.2 with ⟨rfl, _⟩ | ⟨g, cap, cur, rfl, _, hg, _⟩
  · exact .inl rfl
  · refine .inr fun e => ?_
    rcases h2.2 with ⟨rfl, _⟩ | ⟨g2, cap2, cur2, rfl, _, hg2, _⟩
    · cases e
    · simp only [Value.ownBlock, Option.some.injEq] at e
      subst e
      rw [hg] at hg2
      cases hg2
      exact hne rfl
theorem cell_apart {w : World} {b2 s2 n2 g : Nat} {T1 T2 : TypeId} {v2 : Value} {l2 : List Value} {cs : Array Value} (h1 : w.heap[g]? = some (.cells cs T1 (0, 0))) (h2 : w.ownsRow b2 T2 s2 v2 n2 l2) (hne : T1 ≠ T2) : some g ≠ v2.ownBlock := fun e => by
  rcases h2.2 with ⟨rfl, _⟩ | ⟨g2, cap2, cur2, rfl, _, hg2, _⟩
  · cases e
  · simp only [Value.ownBlock, Option.some.injEq] at e
    subst e
    rw [h1] at hg2
    cases hg2
    exact hne rfl
theorem below_gr {B : Nat} {a b c : World} (h : Below B a b) (k : Gr b c) (hB : B ≤ a.heap.size) : Below B a c := Below.trans h (Below.mono k (Nat.le_trans hB h.size))
theorem cell_three_own (w : World) (a b c : Value) (T : TypeId) : ∀ (j : Nat) (u : Value), [a, b, c][j]? = some u → (w.alloc (.cells #[a, b, c] T)).cell? ((⟨w.heap.size, 0, none⟩ : Addr).add j) = some u := by
  intro j u h
  have e : (⟨w.heap.size, 0, none⟩ : Addr).add j = ⟨w.heap.size, j, none⟩ := by unfold Addr.add; split <;> simp_all
  rw [e]
  rcases j with _ | _ | _ | j
  · simp at h; subst h; exact cell_new w #[a, b, c] T 0 (by simp)
  · simp at h; subst h; exact cell_new w #[a, b, c] T 1 (by simp)
  · simp at h; subst h; exact cell_new w #[a, b, c] T 2 (by simp)
  · simp at h
theorem cell_three_sz (w : World) (s : Nat) (hs : w.heap.size = s) (a b c : Value) (T : TypeId) : ∀ (j : Nat) (u : Value), [a, b, c][j]? = some u → (w.alloc (.cells #[a, b, c] T)).cell? ((⟨s, 0, none⟩ : Addr).add j) = some u := by
  subst hs; exact cell_three_own w a b c T
theorem rowCs_take {xs : List RowR} {k : Nat} {x : RowR} (h : xs[k]? = some x) : rowCs (xs.take (k + 1)) = rowCs (xs.take k) ++ rowC x := by
  rw [List.take_add_one, h]
  simp [rowCs]
/-- rows that have been made, as they read -/
theorem rows_of_owns {w : World} {base : Nat} {v : Value} {ys : List RowR} {T : TypeId} (h : w.ownsRow base T 3 v ys.length (rowCs ys)) (h0 : 0 < ys.length) (hv : ∀ (i : Nat) (x : RowR), ys[i]? = some x → IntsV w x.u x.xs ∧ x.xs.length ≤ 1000) :
    ∃ g cap, v = .slice (some ⟨g, 0, none⟩) ys.length cap ∧ base ≤ g ∧ ys.length ≤ cap ∧ cap ≤ maxLen ∧ ∀ i x, ys[i]? = some x → RowAt w g (0 + i * 3) x := by
  have hh := h
  rcases h.2 with ⟨rfl, h0'⟩ | ⟨g, cap, cur, rfl, hb, hcur, hle, hmx, h5, h6⟩
  · omega
  · refine ⟨g, cap, rfl, hb, by omega, by omega, fun i x hx => ?_⟩
    have e : ∀ t, (⟨g, 0, none⟩ : Addr).add t = ⟨g, t, none⟩ := fun t => by unfold Addr.add; split <;> simp_all
    have c : ∀ (j : Nat) (u : Value), j < 3 → (rowC x)[j]? = some u → w.cell? ⟨g, i * 3 + j, none⟩ = some u := fun j u hj hu => by
      have := hh.cells (g := g) rfl (i * 3 + j) u (by rw [rowCs_at hx j hj]; exact hu)
      rwa [e] at this
    rw [Nat.zero_add]
    exact ⟨c 0 _ (by omega) rfl, c 1 _ (by omega) rfl, c 2 _ (by omega) rfl, (hv i x hx).1, (hv i x hx).2⟩
end Go.Proofs.YtimbcjldejifaaaGreatDoor
namespace Go.Proofs.YtimbcjldejifaaaGreatDoor
open Go.RowKit Go.Lib
set_option linter.unusedSimpArgs false
set_option linter.unusedVariables false
theorem infoRO : (Tryz.prog.info? 27).map (fun i => (i.zero, i.size, i.bytes)) = some (some (.agg #[.string ⟨#[]⟩, .int .i64 0, .int .i64 0]), 3, 32) := by kernel_rfl
/-- the values of results lie in blocks of their own -/
def ValsAt (w : World) (m : Int) (xs : List OpR) (rs : List RowR) : Prop :=
  ∀ (j : Nat) (y : OpR) (r : RowR), xs[j]? = some y → rs[j]? = some r → (r.nm = y.nm ∧ r.st = ⟨#[]⟩ ∧ r.xs = [vOf m y]) ∧ ∃ g, r.u = .slice (some ⟨g, 0, none⟩) 1 1 ∧ w.heap[g]? = some (.cells #[.int .i64 (vOf m y)] 3 (0, 0))
theorem ValsAt.gr {w w' : World} {m : Int} {xs : List OpR} {rs : List RowR} (h : ValsAt w m xs rs) (k : Gr w w') : ValsAt w' m xs rs := fun j y r hy hr => by
  obtain ⟨h1, g, h2, h3⟩ := h j y r hy hr
  exact ⟨h1, g, h2, k.block h3⟩
theorem ValsAt.kept {w w' : World} {m : Int} {xs : List OpR} {rs : List RowR} {b2 s2 n2 : Nat} {T2 : TypeId} {v2 : Value} {l2 : List Value} (h : ValsAt w m xs rs) (ho : w.ownsRow b2 T2 s2 v2 n2 l2) (hne : (3 : TypeId) ≠ T2) (hg : w.grownBy w' v2.ownBlock) : ValsAt w' m xs rs := fun j y r hy hr => by
  obtain ⟨h1, g, h2, h3⟩ := h j y r hy hr
  refine ⟨h1, g, h2, ?_⟩
  rw [hg.block g (Array.getElem?_eq_some_iff.1 h3).1 (cell_apart h3 ho hne)]
  exact h3
theorem ValsAt.add {w : World} {m : Int} {xs : List OpR} {rs : List RowR} (h : ValsAt w m xs rs) {i : Nat} (hi : rs.length = i) {y : OpR} (hy : xs[i]? = some y) {r : RowR} (hr : r.nm = y.nm ∧ r.st = ⟨#[]⟩ ∧ r.xs = [vOf m y]) {g : Nat} (hu : r.u = .slice (some ⟨g, 0, none⟩) 1 1) (hg : w.heap[g]? = some (.cells #[.int .i64 (vOf m y)] 3 (0, 0))) : ValsAt w m xs (rs ++ [r]) := fun j y' r' hy' hr' => by
  by_cases hj : j < rs.length
  · rw [List.getElem?_append_left hj] at hr'
    exact h j y' r' hy' hr'
  · have hl := (List.getElem?_eq_some_iff.1 hr').1
    have hji : j = i := by simp at hl; omega
    subst hji
    rw [List.getElem?_append_right (by omega), show j - rs.length = 0 by omega] at hr'
    simp only [List.getElem?_cons_zero, Option.some.injEq] at hr'
    subst hr'
    rw [hy] at hy'
    cases hy'
    exact ⟨hr, g, hu, hg⟩
theorem cnt_take {p : Nat → OpR → Bool} : ∀ (xs : List OpR) (k i : Nat) (x : OpR), xs[k]? = some x → cnt p (xs.take (k + 1)) i = cnt p (xs.take k) i + (if p (i + k) x then 1 else 0)
  | [], k, i, x, h => by simp at h
  | y :: ys, 0, i, x, h => by
    simp only [List.getElem?_cons_zero, Option.some.injEq] at h
    subst h
    simp [cnt]
  | y :: ys, k + 1, i, x, h => by
    have ih := cnt_take (p := p) ys k (i + 1) x (by simpa using h)
    rw [show i + 1 + k = i + (k + 1) by omega] at ih
    simp only [List.take_succ_cons, cnt] at *
    omega
theorem rowsV_of_owns {w : World} {base n : Nat} {v : Value} {m : Int} {xs : List OpR} {rs : List RowR} {T : TypeId} (hn : rs.length = n) (hx : rs.length = xs.length) (h : w.ownsRow base T 3 v n (rowCs rs)) (hv : ValsAt w m xs rs) : RowsV w v rs := by
  subst hn
  rcases h.2 with ⟨rfl, h0⟩ | ⟨g, cap, cur, rfl, _, _, hle, hmx, _, _⟩
  · exact ⟨none, 0, by rw [h0], ⟨by omega, by unfold maxLen; omega⟩, fun h => by omega⟩
  · refine ⟨some ⟨g, 0, none⟩, cap, rfl, ⟨hle, hmx⟩, fun _ => ⟨g, 0, rfl, fun i x hx' => ?_⟩⟩
    have e : ∀ j, (⟨g, 0, none⟩ : Addr).add j = ⟨g, j, none⟩ := fun j => by unfold Addr.add; split <;> simp_all
    have hil := (List.getElem?_eq_some_iff.1 hx').1
    obtain ⟨y, hy⟩ : ∃ y, xs[i]? = some y := ⟨xs[i]'(by omega), List.getElem?_eq_getElem _⟩
    obtain ⟨⟨_, _, h3⟩, k, hu, hk⟩ := hv i y x hy hx'
    have c0 := h.cells (g := g) rfl (i * 3 + 0) (.string x.nm) (by rw [rowCs_at hx' 0 (by omega)]; rfl)
    have c1 := h.cells (g := g) rfl (i * 3 + 1) (.string x.st) (by rw [rowCs_at hx' 1 (by omega)]; rfl)
    have c2 := h.cells (g := g) rfl (i * 3 + 2) x.u (by rw [rowCs_at hx' 2 (by omega)]; rfl)
    rw [e] at c0 c1 c2
    refine ⟨by simpa using c0, by simpa using c1, by simpa using c2, ⟨some ⟨k, 0, none⟩, 1, by rw [hu, h3]; rfl, fun _ => ⟨k, 0, rfl, fun q z hz => ?_⟩⟩, by rw [h3]; simp⟩
    rw [h3] at hz
    have hq : q = 0 := by
      have := (List.getElem?_eq_some_iff.1 hz).1
      simpa using this
    subst hq
    simp only [List.getElem?_cons_zero, Option.some.injEq] at hz
    subst hz
    rw [cell_of_row w k _ _ 3 (0, 0) hk]
    rfl
theorem rowsOf_vals {w : World} {m : Int} {xs : List OpR} {rs : List RowR} (h : ValsAt w m xs rs) (hn : rs.length = xs.length) : RowsOf m xs rs := ⟨hn, fun j y r hy hr => (h j y r hy hr).1⟩
end Go.Proofs.YtimbcjldejifaaaGreatDoor
namespace Go.Proofs.YtimbcjldejifaaaGreatDoor
open Go.RowKit Go.Lib
set_option linter.unusedSimpArgs false
set_option linter.unusedVariables false
/-- what is left of a number behind the first climbers -/
def restN : List OpR → Nat → Nat → Nat
  | _, n, 0 => n
  | [], n, _ + 1 => n
  | x :: xs, n, i + 1 => restN xs (n / sizeO x) i
theorem restN_zero (xs : List OpR) (n : Nat) : restN xs n 0 = n := by cases xs <;> rfl
theorem restN_step : ∀ {xs : List OpR} {n i : Nat} {x : OpR}, xs[i]? = some x → restN xs n (i + 1) = restN xs n i / sizeO x
  | [], n, i, x, h => by simp at h
  | z :: xs, n, 0, x, h => by simp at h; subst h; simp [restN, restN_zero]
  | z :: xs, n, i + 1, x, h => by
    simp at h
    have := restN_step (n := n / sizeO z) h
    simpa [restN] using this
theorem restN_le : ∀ (xs : List OpR) (n i : Nat), restN xs n i ≤ n
  | _, n, 0 => by rw [restN_zero]; exact Nat.le_refl _
  | [], n, _ + 1 => Nat.le_refl _
  | x :: xs, n, i + 1 => Nat.le_trans (restN_le xs _ i) (Nat.div_le_self _ _)
theorem digs_at : ∀ {xs : List OpR} {n i : Nat} {x : OpR}, xs[i]? = some x → (digs xs n)[i]? = some (x.lo + ((restN xs n i % sizeO x : Nat) : Int))
  | [], n, i, x, h => by simp at h
  | z :: xs, n, 0, x, h => by simp at h; subst h; simp [digs, restN]
  | z :: xs, n, i + 1, x, h => by
    simp at h
    have := digs_at (n := n / sizeO z) h
    simpa [digs, restN] using this
/-- the climbers, decided -/
def decL (xs : List OpR) (ys : List Int) : List OpR := List.zipWith (fun x y => ⟨x.nm, y, y⟩) xs ys
theorem decL_at {xs : List OpR} {ys : List Int} {i : Nat} {x : OpR} {y : Int} (hx : xs[i]? = some x) (hy : ys[i]? = some y) : (decL xs ys)[i]? = some ⟨x.nm, y, y⟩ := by
  unfold decL
  rw [List.getElem?_zipWith, hx, hy]
theorem decL_len {xs : List OpR} {ys : List Int} (h : ys.length = xs.length) : (decL xs ys).length = xs.length := by
  unfold decL; rw [List.length_zipWith]; omega
theorem vOf_dec (nm : ByteArray) (y : Int) : vOf 0 ⟨nm, y, y⟩ = y := by
  unfold vOf; simp
theorem dec_open {xs : List OpR} (h : openE xs = 0) (n : Nat) : openE (decL xs (digs xs n)) = 0 := by
  have hok := ok_of h
  have hdl := digs_len xs n
  have hle : ∀ x ∈ xs, x.lo ≤ x.hi := fun x hx => by
    obtain ⟨j, hj⟩ := List.mem_iff_getElem?.1 hx
    exact (hok.ends j x hj).2.1
  have key : ∀ (j : Nat) (b : OpR), (decL xs (digs xs n))[j]? = some b → ∃ x y, xs[j]? = some x ∧ (digs xs n)[j]? = some y ∧ b = ⟨x.nm, y, y⟩ := fun j b hb => by
    have hjl := (List.getElem?_eq_some_iff.1 hb).1
    rw [decL_len hdl] at hjl
    have hx : xs[j]? = some (xs[j]'hjl) := List.getElem?_eq_getElem _
    have hy : (digs xs n)[j]? = some ((digs xs n)[j]'(by omega)) := List.getElem?_eq_getElem _
    rw [decL_at hx hy] at hb
    exact ⟨_, _, hx, hy, (Option.some.inj hb).symm⟩
  refine openE_same h ⟨(decL_len hdl).symm, fun j a b ha hb => ?_, fun j b hb => ?_⟩
  · obtain ⟨x, y, hx, _, rfl⟩ := key j b hb
    rw [hx] at ha; cases ha; rfl
  · obtain ⟨x, y, hx, hy, rfl⟩ := key j b hb
    have h1 := hok.ends j x hx
    have h2 := digs_in xs n j x y hle hx hy
    exact ⟨by show 0 ≤ y; omega, Int.le_refl _, by show y ≤ 99999; omega⟩
theorem rank_dec {xs : List OpR} {ys : List Int} {rs : List RowR} (hl : ys.length = xs.length) (h : RowsOf 0 (decL xs ys) rs) {c : Nat} {y : Int} {r : RowR} (hy : ys[c]? = some y) (hr : rs[c]? = some r) : rankR rs r = rankI ys y := by
  have hlen := h.len
  rw [decL_len hl] at hlen
  have key : ∀ (j : Nat) (q : RowR) (z : Int), rs[j]? = some q → ys[j]? = some z → q.st = ⟨#[]⟩ ∧ q.xs = [z] := fun j q z hq hz => by
    have hjl := (List.getElem?_eq_some_iff.1 hz).1
    have hx : xs[j]? = some (xs[j]'(by omega)) := List.getElem?_eq_getElem _
    obtain ⟨_, h2, h3⟩ := h.at' j _ q (decL_at hx hz) hq
    rw [vOf_dec] at h3
    exact ⟨h2, h3⟩
  obtain ⟨k1, k2⟩ := key c r y hr hy
  unfold rankR rankI cntI
  congr 2
  exact countP_two _ _ rs ys (by omega) (fun j a b ha hb => by
    obtain ⟨q1, q2⟩ := key j a b ha hb
    exact cmpR_one q1 k1 q2 k2)
theorem total_le : ∀ {xs : List OpR}, (∀ x ∈ xs, x.hi - x.lo ≤ 3) → totalO xs ≤ 4 ^ xs.length
  | [], _ => Nat.le_refl _
  | x :: xs, h => by
    have ih := total_le (fun z hz => h z (List.mem_cons_of_mem _ hz))
    have := h x (List.mem_cons_self ..)
    have hs : sizeO x ≤ 4 := by unfold sizeO; omega
    unfold totalO
    rw [List.length_cons, Nat.pow_succ, Nat.mul_comm (4 ^ xs.length)]
    exact Nat.mul_le_mul hs ih
theorem total_take : ∀ {xs : List OpR} {k : Nat} {x : OpR}, xs[k]? = some x → totalO (xs.take (k + 1)) = totalO (xs.take k) * sizeO x
  | [], k, x, h => by simp at h
  | z :: xs, 0, x, h => by simp at h; subst h; simp [totalO]
  | z :: xs, k + 1, x, h => by
    simp at h
    have := total_take h
    simp only [List.take_succ_cons, totalO] at *
    rw [this, Nat.mul_assoc]
end Go.Proofs.YtimbcjldejifaaaGreatDoor
namespace Go.Proofs.YtimbcjldejifaaaGreatDoor
open Go.RowKit Go.Lib
set_option linter.unusedSimpArgs false
set_option linter.unusedVariables false
/-- the block holds the set ks -/
structure SetAt (w : World) (g : Nat) (ks : List Int) : Prop where
  mk' ::
  out : ∃ es clock, w.heap[g]? = some (.map ⟨es⟩ clock) ∧ es.map (fun e : MapEntry => (e.key, e.val)) = ks.map fun k => (.int .i64 k, .bool true)
theorem SetAt.gr {w w' : World} {g : Nat} {ks : List Int} (h : SetAt w g ks) (k : Gr w w') : SetAt w' g ks := by
  obtain ⟨⟨es, clock, h1, h2⟩⟩ := h
  exact ⟨es, clock, k.block h1, h2⟩
theorem set_find {k : Int} : ∀ {es : List MapEntry} {ks : List Int} (i : Nat), es.map (fun e : MapEntry => (e.key, e.val)) = ks.map (fun k => (Value.int .i64 k, Value.bool true)) →
    if k ∈ ks then ∃ j, Instr.findNow (.int .i64) (.int .i64 k) es i = some (some (i + j, .bool true)) ∧ j < es.length ∧ ∃ e, es[j]? = some e ∧ e.key = .int .i64 k ∧ e.val = .bool true else Instr.findNow (.int .i64) (.int .i64 k) es i = some none
  | [], [], i, _ => by simp [Instr.findNow]
  | [], _ :: _, _, h => by simp at h
  | _ :: _, [], _, h => by simp at h
  | e :: es, z :: ks, i, h => by
    simp only [List.map_cons, List.cons.injEq, Prod.mk.injEq] at h
    obtain ⟨⟨h1, h2⟩, h3⟩ := h
    have ih := set_find (k := k) (i + 1) h3
    by_cases hz : z = k
    · subst hz
      rw [if_pos (List.mem_cons_self ..)]
      exact ⟨0, by simp [Instr.findNow, h1, h2, Instr.sameNow], by simp, e, rfl, h1, h2⟩
    · have hs : Instr.sameNow (.int .i64) (.int .i64 k) e.key = some false := by
        rw [h1]
        simp [Instr.sameNow]
        exact fun e => hz e.symm
      by_cases hk : k ∈ ks
      · rw [if_pos hk] at ih
        rw [if_pos (List.mem_cons_of_mem _ hk)]
        obtain ⟨j, h4, h5, e2, h6, h7⟩ := ih
        refine ⟨j + 1, ?_, by simp; omega, e2, by simpa using h6, h7⟩
        rw [show i + (j + 1) = i + 1 + j by omega, ← h4]
        simp [Instr.findNow, hs]
      · rw [if_neg hk] at ih
        rw [if_neg (by simp [hk]; exact fun e => hz e.symm)]
        rw [← ih]
        simp [Instr.findNow, hs]
theorem uMap : Tryz.prog.underlying 29 = some (.map 3 4) := by kernel_rfl
theorem u3 : Tryz.prog.underlying 3 = some (.int .i64) := by kernel_rfl
theorem run_und {t : TypeId} {d : TypeDesc} (h : Tryz.prog.underlying t = some d) (w : World) : (underlying t).run Tryz.prog w = .ok d w := run_underlying h w
theorem zero4 (w : World) : (zeroValue 4).run Tryz.prog w = .ok (.bool false) w := by kernel_rfl
theorem checkKey3 (e : Bool) (k : Value) (w : World) : (Instr.checkKey e 10000 3 k).run Tryz.prog w = .ok () w := by
  unfold Instr.checkKey
  simp only [Sem.run_bind, run_und u3, Result.andThen_ok]
  rfl
/-- one block changed -/
def putO (w : World) (g : Nat) (ob : Obj) : World := { w with heap := w.heap.setIfInBounds g ob }
/-- asked -/
theorem set_look {w : World} {g : Nat} {ks : List Int} (h : SetAt w g ks) (k : Int) : (Instr.lookup 29 (.map (some g)) (.int .i64 k) false).run Tryz.prog w = .ok (.bool (decide (k ∈ ks))) w := by
  obtain ⟨⟨es, clock, h1, h2⟩⟩ := h
  have hg : (getObj g).run Tryz.prog w = .ok (.map ⟨es⟩ clock) w := by simp [getObj, Sem.run, h1]
  have hf := set_find (k := k) 0 h2
  unfold Instr.lookup
  by_cases hk : k ∈ ks
  · rw [if_pos hk] at hf
    obtain ⟨j, h3, _⟩ := hf
    have hfk := Go.MapKept.run_findKey (P := Tryz.prog) (w := w) u3 h3
    simp only [Sem.run_bind, run_und uMap, Result.andThen_ok, Sem.run_pure, hg, checkKey3, hfk]
    simp [hk]
  · rw [if_neg hk] at hf
    have hfk := Go.MapKept.run_findKey (P := Tryz.prog) (w := w) u3 hf
    simp only [Sem.run_bind, run_und uMap, Result.andThen_ok, Sem.run_pure, hg, checkKey3, hfk]
    simp [hk, zero4]
/-- the set with one more -/
def addK (ks : List Int) (k : Int) : List Int := if k ∈ ks then ks else ks ++ [k]
/-- added to -/
theorem set_put {w : World} {g : Nat} {ks : List Int} (h : SetAt w g ks) (k : Int) : ∃ ob, (Instr.mapUpdate 29 (.map (some g)) (.int .i64 k) (.bool true)).run Tryz.prog w = .ok () (putO w g ob) ∧ SetAt (putO w g ob) g (addK ks k) := by
  obtain ⟨⟨es, clock, h1, h2⟩⟩ := h
  have hg : (getObj g).run Tryz.prog w = .ok (.map ⟨es⟩ clock) w := by simp [getObj, Sem.run, h1]
  have hset : ∀ ob, (setObj g ob).run Tryz.prog w = .ok () (putO w g ob) := fun ob => by simp [setObj, Sem.run, h1, putO]
  have hlt := (Array.getElem?_eq_some_iff.1 h1).1
  have hput : ∀ ob, (putO w g ob).heap[g]? = some ob := fun ob => by simp [putO, hlt]
  have hf := set_find (k := k) 0 h2
  unfold addK
  by_cases hk : k ∈ ks
  · rw [if_pos hk] at hf ⊢
    obtain ⟨j, h3, h4, e, h5, h6, h7⟩ := hf
    rw [Nat.zero_add] at h3
    have hfk := Go.MapKept.run_findKey (P := Tryz.prog) (w := w) u3 h3
    refine ⟨.map ⟨es.modify j fun e => { e with key := .int .i64 k, val := .bool true }⟩ clock, ?_, ?_⟩
    · simp [Instr.mapUpdate, run_und uMap, hg, checkKey3, hfk, hset, h5, h6, Instr.keyThatStays, Instr.sameBits]
    · refine ⟨_, _, hput _, ?_⟩
      rw [← h2]
      apply List.ext_getElem?
      intro i
      rw [List.getElem?_map, List.getElem?_map, List.getElem?_modify]
      by_cases hi : j = i
      · subst hi; simp [h5, h6, h7]
      · simp [hi]
  · rw [if_neg hk] at hf ⊢
    have hfk := Go.MapKept.run_findKey (P := Tryz.prog) (w := w) u3 hf
    refine ⟨.map ⟨es ++ [⟨.int .i64 k, .bool true, clock⟩]⟩ (clock + 1), ?_, ?_⟩
    · simp [Instr.mapUpdate, run_und uMap, hg, checkKey3, hfk, hset]
    · exact ⟨_, _, hput _, by simp [h2]⟩
/-- counted -/
theorem set_len {w : World} {g : Nat} {ks : List Int} (h : SetAt w g ks) (ty : TypeId) : (Builtin.len_ #[29] ty #[.map (some g)]).run Tryz.prog w = .ok (goInt ((ks.length : Nat) : Int)) w := by
  obtain ⟨⟨es, clock, h1, h2⟩⟩ := h
  have hl : es.length = ks.length := by have := congrArg List.length h2; simpa using this
  simp [Builtin.len_, run_und uMap, getObj, Sem.run, h1, Result.andThen, hl]
theorem set_new (w : World) : SetAt (w.alloc (.map #[] 0)) w.heap.size [] := ⟨[], 0, heap_alloc_new _ _, rfl⟩
theorem gr_putObj {w0 w : World} {g : Nat} {ob : Obj} (h : Gr w0 w) (hg : w0.heap.size ≤ g) : Gr w0 (putO w g ob) := by
  have hsz : (putO w g ob).heap.size = w.heap.size := by simp [putO]
  refine ⟨h.os, h.tape, h.output, by rw [hsz]; exact h.size, fun k hk => ?_⟩
  have hne : ¬ g = k := by omega
  rw [← Below.block h k hk]
  simp [putO, hne]
end Go.Proofs.YtimbcjldejifaaaGreatDoor
