/- Members: tests of sizes, and copies, of categories. -/
import Derived.Test.YtmlmbgifkmkmgaaGreatGMbE
import Derived.Test.YtmlmbgifkmkmgaaGreatMbB
namespace Go.Proofs.YtmlmbgifkmkmgaaGreat
open Go.RowKit Go.Lib
set_option linter.unusedSimpArgs false
set_option linter.unusedVariables false
/-- what a test of sizes returns -/
structure ShortRet (e : Ending) (n m : Nat) : Prop where
  mk' ::
  out : ∃ r, e = .returned (.bool r) ∧ (r = true → n ≤ m)
def catC (x : CatR) : List Value := [.string x.nm, .int .i64 x.lo, .int .i64 x.hi]
def catCs (xs : List CatR) : List Value := xs.flatMap catC
theorem catCs_len (xs : List CatR) : (catCs xs).length = xs.length * 3 := by
  induction xs with
  | nil => rfl
  | cons x xs ih => simp only [catCs, List.flatMap_cons, List.length_append, List.length_cons] at *; rw [ih]; simp [catC]; omega
theorem catCs_add (xs : List CatR) (x : CatR) : catCs (xs ++ [x]) = catCs xs ++ catC x := by simp [catCs]
theorem catCs_take {xs : List CatR} {k : Nat} {x : CatR} (h : xs[k]? = some x) : catCs (xs.take (k + 1)) = catCs (xs.take k) ++ catC x := by
  rw [List.take_add_one, h]
  simp [catCs]
theorem catCs_at {xs : List CatR} {i : Nat} {x : CatR} (h : xs[i]? = some x) (j : Nat) (hj : j < 3) : (catCs xs)[i * 3 + j]? = (catC x)[j]? := by
  induction xs generalizing i with
  | nil => simp at h
  | cons y ys ih =>
    have e : catCs (y :: ys) = catC y ++ catCs ys := rfl
    rw [e]
    cases i with
    | zero =>
      simp only [List.getElem?_cons_zero, Option.some.injEq] at h
      subst h
      rw [show 0 * 3 + j = j by omega, List.getElem?_append_left (by simp [catC]; omega)]
    | succ i =>
      rw [List.getElem?_append_right (by simp [catC]; omega)]
      have := ih (i := i) (by simpa using h)
      rw [← this]
      congr 1
      simp [catC]; omega
theorem CatAts_of_owns {w : World} {base : Nat} {v : Value} {xs : List CatR} {T : TypeId} {n : Nat} (hn : xs.length = n) (h : w.ownsRow base T 3 v n (catCs xs)) : CatAts w v xs := by
  subst hn
  rcases h.2 with ⟨rfl, h0⟩ | ⟨g, cap, cur, rfl, _, _, hle, hmx, _, _⟩
  · exact ⟨none, 0, by rw [h0], ⟨by omega, by unfold maxLen; omega⟩, fun h => by omega⟩
  · refine ⟨some ⟨g, 0, none⟩, cap, rfl, ⟨hle, hmx⟩, fun _ => ⟨g, 0, rfl, fun i x hx => ?_⟩⟩
    have e : ∀ j, (⟨g, 0, none⟩ : Addr).add j = ⟨g, j, none⟩ := fun j => by unfold Addr.add; split <;> simp_all
    have c0 := h.cells (g := g) rfl (i * 3 + 0) (.string x.nm) (by rw [catCs_at hx 0 (by omega)]; rfl)
    have c1 := h.cells (g := g) rfl (i * 3 + 1) (.int .i64 x.lo) (by rw [catCs_at hx 1 (by omega)]; rfl)
    have c2 := h.cells (g := g) rfl (i * 3 + 2) (.int .i64 x.hi) (by rw [catCs_at hx 2 (by omega)]; rfl)
    rw [e] at c0 c1 c2
    exact ⟨by simpa using c0, by simpa using c1, by simpa using c2⟩
theorem cell_catC (w : World) (x : CatR) (T : TypeId) : ∀ (j : Nat) (u : Value), (catC x)[j]? = some u → (w.alloc (.cells #[.string x.nm, .int .i64 x.lo, .int .i64 x.hi] T)).cell? ((⟨w.heap.size, 0, none⟩ : Addr).add j) = some u := by
  intro j u h
  unfold catC at h
  have e : (⟨w.heap.size, 0, none⟩ : Addr).add j = ⟨w.heap.size, j, none⟩ := by unfold Addr.add; split <;> simp_all
  rw [e]
  rcases j with _ | _ | _ | j
  · simp at h; subst h; exact cell_new w #[.string x.nm, .int .i64 x.lo, .int .i64 x.hi] T 0 (by simp)
  · simp at h; subst h; exact cell_new w #[.string x.nm, .int .i64 x.lo, .int .i64 x.hi] T 1 (by simp)
  · simp at h; subst h; exact cell_new w #[.string x.nm, .int .i64 x.lo, .int .i64 x.hi] T 2 (by simp)
  · simp at h
set_option maxHeartbeats 1000000 in
set_option maxRecDepth 100000 in
theorem shortCats_c {v : Value} {xs : List CatR} {w : World} (h : CatAts w v xs) :
    Calls Tryz.prog 10 #[v] w fun e w' => ShortRet e xs.length 259 ∧ w = w' := by
  obtain ⟨⟨p, cap, rfl, ⟨hcap, hmx⟩, hh⟩⟩ := h
  rcases Nat.eq_zero_or_pos xs.length with h0 | h0
  · have hx : xs = [] := List.eq_nil_of_length_eq_zero h0
    subst hx
    go_enter Tryz.func10, Tryz.ntmps10
    go_wp2_with fail
    refine wp_loop_rounds 2 ?_
    rw [rounds_succ]
    go_wp2_with fail
    go_ret
    exact ⟨⟨true, rfl, fun _ => by simp⟩, rfl⟩
  obtain ⟨b, off, rfl, hc⟩ := hh h0
  have HX := Lib.hid (fun k (h : k < xs.length) => (show ∃ x, xs[k]? = some x from ⟨xs[k]'(by omega), List.getElem?_eq_getElem _⟩))
  have HC := Lib.hid hc
  clear hc hh
  have hnm := Nat.le_trans hcap hmx
  unfold maxLen at hnm
  clear hmx
  generalize xs.length = n at *
  cases hr : decide ((n : Int) ≤ 259)
  all_goals
    go_enter Tryz.func10, Tryz.ntmps10
    go_wp2_with fail
    go_loopg [3] n (fun gk s5 wr => ∃ i : Nat, s5 = .int .i64 i ∧ gk + i = n ∧ wr = w)
    case atStart => exact ⟨0, rfl, by omega, rfl⟩
    case round =>
      obtain ⟨i, rfl, hi, rfl⟩ := hrel
      by_cases hlt : i < n
      · obtain ⟨x, hx⟩ := HX.out i hlt
        obtain ⟨c0, c1, c2⟩ := HC.out i x hx
        have hi2 : (i : Int) < n := by omega
        clear hx
        rcases Nat.lt_or_ge 40 x.nm.size with hs0 | hs0
        · go_wp2_with fail
          go_ret
          exact ⟨⟨false, rfl, fun h => (by cases h)⟩, rfl⟩
        go_wp2_with fail
        go_roundg (gk - 1)
        case measure => omega
        case rel => exact ⟨i + 1, by go_num, by omega, rfl⟩
      · obtain rfl : i = n := by omega
        go_wp2_with fail
        go_ret
        first
          | exact ⟨⟨false, rfl, fun h => (by cases h)⟩, rfl⟩
          | exact ⟨⟨true, rfl, fun _ => by have := of_decide_eq_true hr; omega⟩, rfl⟩
theorem infoCat : (Tryz.prog.info? 76).map (fun i => (i.zero, i.size, i.bytes)) = some (some (.agg #[.string ⟨#[]⟩, .int .i64 0, .int .i64 0]), 3, 32) := by kernel_rfl
set_option maxHeartbeats 1000000 in
set_option maxRecDepth 100000 in
theorem cats_pos (xs : List CatR) (n b off cap : Nat) (w : World) (hn : xs.length = n) (hb : n * 32 ≤ 140737488355328) (hc : ∀ i x, xs[i]? = some x → CatAt w b (off + i * 3) x) :
    Calls Tryz.prog 7 #[.slice (some ⟨b, off, none⟩) n cap] w fun e w' => ∃ v, e = .returned v ∧ w'.ownsRow w.heap.size 76 3 v n (catCs xs) ∧ Gr w w' := by
  obtain ⟨i0, hi, hz0, hz1, hz2⟩ := info_parts infoCat
  have HC := Lib.hid hc
  have HN := Lib.hid hn
  have HB := Lib.hid hb
  have hnm : n ≤ 9223372036854775807 := by omega
  clear hc hn hb
  go_enter Tryz.func7, Tryz.ntmps7
  go_wp2_with fail
  go_loopw [3, 4] (fun v i wr => ∃ k : Nat, k ≤ n ∧ i = .int .i64 k ∧ wr.ownsRow w.heap.size 76 3 v k (catCs (xs.take k)) ∧ Below w.heap.size w wr) (fun _ i _ => n - (intOf i).toNat)
  case atStart => exact ⟨0, Nat.zero_le _, rfl, World.ownsRow_nil _ _ _ _, Below.refl _ _⟩
  case round =>
    obtain ⟨k, hk, rfl, hown, hnx⟩ := hrel
    have hsize := hnx.size
    by_cases hkN : k < n
    · obtain ⟨x, hx⟩ : ∃ x, xs[k]? = some x := ⟨xs[k]'(by have := HN.out; omega), List.getElem?_eq_getElem _⟩
      obtain ⟨c0, c1, c2⟩ := (HC.out k x hx).gr hnx
      have HQ := Lib.hid (catCs_take hx)
      have HLn := Lib.hid (catCs_len (xs.take k))
      have HT := Lib.hid (show (xs.take k).length = k by rw [List.length_take]; have := HN.out; omega)
      have hi2 : (k : Int) < n := by omega
      clear hx
      go_wp2_with (first
        | (at_builtin; refine wpList_append_own _ rfl _ _ 24 rfl w.heap.size 76 i0 (.agg #[.string ⟨#[]⟩, .int .i64 0, .int .i64 0]) 3 32 Tryz.underlying24 hi hz0 hz1 hz2 rfl (by decide) _ _ _ rfl (hown.alloc _) ⟨wr.heap.size, 0, none⟩ 1 1 (catC x) rfl rfl (cell_catC _ _ _) (by intro u hu; simp [catC] at hu; rcases hu with rfl | rfl | rfl <;> rfl) (by have := HB.out; unfold maxLen; omega) (by have := HB.out; omega) (by simp; omega) ?_; intro v1 w1 hown1 hgrow1 hnil1))
      go_roundw
      case rel =>
        exact ⟨k + 1, by omega, by go_num, by rw [HQ.out]; exact hown1, (hnx.alloc hsize _).grown hgrow1 (by simp; omega) (fun j hj => (hown.lt j hj).1)⟩
      case measure => simp [intOf]; omega
    · have hkk : k = n := by omega
      subst hkk
      rw [List.take_of_length_le (by have := HN.out; omega)] at hown
      go_wp2_with fail
      go_ret
      exact ⟨_, rfl, hown, hnx⟩
theorem cats_c {v : Value} {xs : List CatR} {w : World} (h : CatAts w v xs) (hb : xs.length * 32 ≤ 140737488355328) :
    Calls Tryz.prog 7 #[v] w fun e w' => ∃ v, e = .returned v ∧ CatAts w' v xs ∧ Gr w w' := by
  obtain ⟨⟨p, cap, rfl, _, hh⟩⟩ := h
  rcases Nat.eq_zero_or_pos xs.length with h0 | h0
  · have hx : xs = [] := List.eq_nil_of_length_eq_zero h0
    subst hx
    go_enter Tryz.func7, Tryz.ntmps7
    go_wp2_with fail
    refine wp_loop_rounds 2 ?_
    rw [rounds_succ]
    go_wp2_with fail
    go_ret
    exact ⟨_, rfl, ⟨none, 0, rfl, ⟨by simp, by unfold maxLen; omega⟩, fun h => absurd h (by simp)⟩, Gr.refl _⟩
  · obtain ⟨b, off, rfl, hc⟩ := hh h0
    refine (cats_pos xs _ b off cap w rfl hb hc).mono ?_
    rintro e w' ⟨v, rfl, ho, hg⟩
    exact ⟨v, rfl, CatAts_of_owns rfl ho, hg⟩
end Go.Proofs.YtmlmbgifkmkmgaaGreat
namespace Go.Proofs.YtmlmbgifkmkmgaaGreat
open Go.RowKit Go.Lib
set_option linter.unusedSimpArgs false
set_option linter.unusedVariables false
/-- whether a category suits an age; whether one of them does; the names of those -/
def suitB (c : CatR) (a : Int) : Bool := decide (c.lo ≤ a) && decide (a ≤ c.hi)
def covB (xs : List CatR) (a : Int) : Bool := xs.any fun c => suitB c a
def suitL (xs : List CatR) (a : Int) : List ByteArray := (xs.filter fun c => suitB c a).map fun c => c.nm
theorem covB_take {xs : List CatR} {k : Nat} {x : CatR} (h : xs[k]? = some x) (a : Int) : covB (xs.take (k + 1)) a = (covB (xs.take k) a || suitB x a) := by
  unfold covB; rw [List.take_add_one, h]; simp
theorem suitL_take {xs : List CatR} {k : Nat} {x : CatR} (h : xs[k]? = some x) (a : Int) : suitL (xs.take (k + 1)) a = suitL (xs.take k) a ++ (if suitB x a then [x.nm] else []) := by
  unfold suitL; rw [List.take_add_one, h, List.filter_append, List.map_append]
  cases e : suitB x a <;> simp [e]
theorem suitL_cov (xs : List CatR) (a : Int) : (0 < (suitL xs a).length) ↔ covB xs a = true := by
  unfold suitL covB
  rw [List.length_map, List.length_pos_iff_exists_mem, List.any_eq_true]
  constructor
  · rintro ⟨c, hc⟩; rw [List.mem_filter] at hc; exact ⟨c, hc⟩
  · rintro ⟨c, hc⟩; exact ⟨c, List.mem_filter.2 hc⟩
theorem suitL_len (xs : List CatR) (a : Int) : (suitL xs a).length ≤ xs.length := by
  unfold suitL; rw [List.length_map]; exact List.length_filter_le _ _
/-- a row of N truth values -/
structure BitsA (N : Nat) (f : Nat → Bool) (cur : Array Value) : Prop where
  size : cur.size = N
  cell : ∀ a, a < N → cur[a]? = some (.bool (f a))
theorem BitsA.store {N : Nat} {f : Nat → Bool} {cur : Array Value} (h : BitsA N f cur) {m : Nat} (hm : m < N) : BitsA N (fun a => f a || a == m) (cur.setIfInBounds m (.bool true)) := by
  refine ⟨by simpa using h.size, fun a ha => ?_⟩
  rw [Array.getElem?_setIfInBounds]
  have hs := h.size
  by_cases q : m = a
  · subst q; rw [if_pos rfl, if_pos (by omega)]; simp
  · rw [if_neg q, h.cell a ha]
    have q2 : (a == m) = false := by simpa using fun e : a = m => q e.symm
    simp [q2]
theorem BitsA.congr {N : Nat} {f g : Nat → Bool} {cur : Array Value} (h : BitsA N f cur) (e : ∀ a, a < N → f a = g a) : BitsA N g cur := ⟨h.size, fun a ha => by rw [h.cell a ha, e a ha]⟩
structure GapR where
  a : Int
  b : Int
/-- the gaps among the ages below k -/
def gapL (f : Nat → Bool) : Nat → List GapR
  | 0 => []
  | k + 1 => if f k then gapL f k else match (gapL f k).getLast? with
    | some q => if q.b = (k : Int) - 1 then (gapL f k).dropLast ++ [⟨q.a, k⟩] else gapL f k ++ [⟨k, k⟩]
    | none => [⟨k, k⟩]
/-- what the gaps below k have in common -/
structure GapsOK (f : Nat → Bool) (k : Nat) (l : List GapR) : Prop where
  low : ∀ q ∈ l, 0 ≤ q.a ∧ q.a ≤ q.b ∧ q.b < k
  asc : ∀ (i : Nat) (p q : GapR), l[i]? = some p → l[i + 1]? = some q → p.b + 1 < q.a
  mem : ∀ a : Nat, a < k → ((∃ q ∈ l, q.a ≤ (a : Int) ∧ (a : Int) ≤ q.b) ↔ f a = false)
theorem gap_last {f : Nat → Bool} {k : Nat} {l : List GapR} (h : GapsOK f k l) (hk : 0 < k) {q : GapR} (hq : l.getLast? = some q) : q.b = (k : Int) - 1 ↔ f (k - 1) = false := by
  have hm := List.mem_of_getLast? hq
  have hb := h.low q hm
  rw [← h.mem (k - 1) (by omega)]
  constructor
  · intro e; exact ⟨q, hm, by omega, by omega⟩
  · rintro ⟨p, hp, h1, h2⟩
    have hpb := h.low p hp
    -- p is the last one
    obtain ⟨i, hi⟩ := List.mem_iff_getElem?.1 hp
    have hil := (List.getElem?_eq_some_iff.1 hi).1
    rcases Nat.lt_or_ge (i + 1) l.length with h3 | h3
    · exfalso
      have h4 := h.asc i p _ hi (List.getElem?_eq_getElem h3)
      have h5 := h.low _ (List.getElem_mem h3)
      omega
    · have : l.getLast? = l[i]? := by rw [List.getLast?_eq_getElem?]; congr 1; omega
      rw [hq, hi] at this
      cases this
      omega
theorem gap_none {f : Nat → Bool} {k : Nat} {l : List GapR} (h : GapsOK f k l) (hk : 0 < k) (hq : l.getLast? = none) : f (k - 1) = true := by
  rw [List.getLast?_eq_none_iff] at hq
  subst hq
  cases e : f (k - 1)
  · obtain ⟨q, hq, _⟩ := (h.mem (k - 1) (by omega)).2 e
    cases hq
  · rfl
theorem getLast_app {l : List GapR} {q : GapR} (h : l.getLast? = some q) : l = l.dropLast ++ [q] := by
  have hne : l ≠ [] := by intro e; subst e; cases h
  rw [List.getLast?_eq_some_getLast hne] at h
  cases h
  exact (List.dropLast_concat_getLast hne).symm
theorem gaps_ok (f : Nat → Bool) : ∀ k, GapsOK f k (gapL f k)
  | 0 => ⟨fun q hq => (by cases hq), fun i p q h => (by simp [gapL] at h), fun a h => (by omega)⟩
  | k + 1 => by
    have ih := gaps_ok f k
    cases e : f k
    · -- not covered
      have add : (∀ q ∈ gapL f k, q.b + 1 < (k : Int)) → GapsOK f (k + 1) (gapL f k ++ [⟨k, k⟩]) := fun hfar => by
        refine ⟨fun q hq => ?_, fun i p q hp hq => ?_, fun a ha => ?_⟩
        · rw [List.mem_append, List.mem_singleton] at hq
          rcases hq with hq | rfl
          · have := ih.low q hq; omega
          · simp; omega
        · rcases Nat.lt_or_ge (i + 1) (gapL f k).length with h1 | h1
          · rw [List.getElem?_append_left (by omega)] at hp
            rw [List.getElem?_append_left h1] at hq
            exact ih.asc i p q hp hq
          · have hl := (List.getElem?_eq_some_iff.1 hq).1
            simp at hl
            have h2 : i + 1 = (gapL f k).length := by omega
            rw [List.getElem?_append_left (by omega)] at hp
            rw [List.getElem?_append_right h1, h2, Nat.sub_self] at hq
            simp at hq
            subst hq
            exact hfar p (List.mem_of_getElem? hp)
        · rcases Nat.lt_or_ge a k with h1 | h1
          · rw [← ih.mem a h1]
            constructor
            · rintro ⟨q, hq, h2⟩
              rw [List.mem_append, List.mem_singleton] at hq
              rcases hq with hq | rfl
              · exact ⟨q, hq, h2⟩
              · simp at h2; omega
            · rintro ⟨q, hq, h2⟩
              exact ⟨q, List.mem_append_left _ hq, h2⟩
          · obtain rfl : a = k := by omega
            exact ⟨fun _ => e, fun _ => ⟨⟨a, a⟩, by simp, by simp⟩⟩
      cases hq : (gapL f k).getLast? with
      | none =>
        have hnil : gapL f k = [] := List.getLast?_eq_none_iff.1 hq
        have h2 : gapL f (k + 1) = gapL f k ++ [⟨k, k⟩] := by simp only [gapL, e, hq, hnil]; rfl
        rw [h2]
        exact add fun q hq2 => by rw [hnil] at hq2; cases hq2
      | some q =>
        have happ := getLast_app hq
        have hqm := List.mem_of_getLast? hq
        have hql := ih.low q hqm
        by_cases hb : q.b = (k : Int) - 1
        · have h2 : gapL f (k + 1) = (gapL f k).dropLast ++ [⟨q.a, k⟩] := by simp only [gapL, e, hq, hb]; rfl
          rw [h2]
          have hdm : ∀ p ∈ (gapL f k).dropLast, p ∈ gapL f k := fun p hp => by rw [happ]; exact List.mem_append_left _ hp
          refine ⟨fun p hp => ?_, fun i p r hp hr => ?_, fun a ha => ?_⟩
          · rw [List.mem_append, List.mem_singleton] at hp
            rcases hp with hp | rfl
            · have := ih.low p (hdm p hp); omega
            · simp; omega
          · rcases Nat.lt_or_ge (i + 1) (gapL f k).dropLast.length with h1 | h1
            · rw [List.getElem?_append_left (by omega)] at hp
              rw [List.getElem?_append_left h1] at hr
              refine ih.asc i p r ?_ ?_
              · rw [happ, List.getElem?_append_left (by omega)]; exact hp
              · rw [happ, List.getElem?_append_left h1]; exact hr
            · have hl := (List.getElem?_eq_some_iff.1 hr).1
              simp only [List.length_append, List.length_singleton] at hl
              have h3 : i + 1 = (gapL f k).dropLast.length := by omega
              rw [List.getElem?_append_left (by omega)] at hp
              rw [List.getElem?_append_right h1, h3, Nat.sub_self] at hr
              simp at hr
              subst hr
              refine ih.asc i p q ?_ ?_
              · rw [happ, List.getElem?_append_left (by omega)]; exact hp
              · rw [happ, List.getElem?_append_right h1, h3, Nat.sub_self]; rfl
          · rcases Nat.lt_or_ge a k with h1 | h1
            · rw [← ih.mem a h1]
              constructor
              · rintro ⟨p, hp, h3⟩
                rw [List.mem_append, List.mem_singleton] at hp
                rcases hp with hp | rfl
                · exact ⟨p, hdm p hp, h3⟩
                · simp at h3; exact ⟨q, hqm, by omega, by omega⟩
              · rintro ⟨p, hp, h3⟩
                rw [happ, List.mem_append, List.mem_singleton] at hp
                rcases hp with hp | rfl
                · exact ⟨p, List.mem_append_left _ hp, h3⟩
                · exact ⟨⟨p.a, k⟩, by simp, by simp; omega⟩
            · obtain rfl : a = k := by omega
              exact ⟨fun _ => e, fun _ => ⟨⟨q.a, a⟩, by simp, by simp; omega⟩⟩
        · have h2 : gapL f (k + 1) = gapL f k ++ [⟨k, k⟩] := by simp only [gapL, e, hq, hb]; rfl
          rw [h2]
          refine add fun p hp => ?_
          have hpl := ih.low p hp
          obtain ⟨i, hi⟩ := List.mem_iff_getElem?.1 hp
          have hil := (List.getElem?_eq_some_iff.1 hi).1
          rcases Nat.lt_or_ge (i + 1) (gapL f k).length with h3 | h3
          · have h4 := ih.asc i p _ hi (List.getElem?_eq_getElem h3)
            have h5 := ih.low _ (List.getElem_mem h3)
            omega
          · have h6 : (gapL f k).getLast? = (gapL f k)[i]? := by rw [List.getLast?_eq_getElem?]; congr 1; omega
            rw [hq, hi] at h6
            cases h6
            omega
    · have h2 : gapL f (k + 1) = gapL f k := by simp only [gapL, e]; rfl
      rw [h2]
      refine ⟨fun q hq => by have := ih.low q hq; omega, ih.asc, fun a ha => ?_⟩
      rcases Nat.lt_or_ge a k with h1 | h1
      · exact ih.mem a h1
      · obtain rfl : a = k := by omega
        rw [e]
        constructor
        · rintro ⟨q, hq, h3⟩; have := ih.low q hq; omega
        · intro h; cases h
/-- one step, as the program takes it -/
theorem gapL_step (f : Nat → Bool) (k : Nat) : (f k = true ∧ gapL f (k + 1) = gapL f k) ∨ (f k = false ∧ (k = 0 ∨ f (k - 1) = true) ∧ gapL f (k + 1) = gapL f k ++ [⟨k, k⟩] ∧ ∀ q, (gapL f k).getLast? = some q → q.b ≠ (k : Int) - 1) ∨
    (f k = false ∧ 0 < k ∧ f (k - 1) = false ∧ ∃ l q, gapL f k = l ++ [q] ∧ q.b = (k : Int) - 1 ∧ gapL f (k + 1) = l ++ [⟨q.a, k⟩]) := by
  have ih := gaps_ok f k
  cases e : f k
  · right
    rcases Nat.eq_zero_or_pos k with rfl | hk
    · left
      refine ⟨rfl, .inl rfl, by simp [gapL, e], fun q h => by simp [gapL] at h⟩
    · cases hq : (gapL f k).getLast? with
      | none =>
        left
        have hnil : gapL f k = [] := List.getLast?_eq_none_iff.1 hq
        exact ⟨rfl, .inr (gap_none ih hk hq), by simp only [gapL, e, hq, hnil]; rfl, fun q h => by cases h⟩
      | some q =>
        have hg := gap_last ih hk hq
        by_cases hb : q.b = (k : Int) - 1
        · right
          exact ⟨rfl, hk, hg.1 hb, _, q, getLast_app hq, hb, by simp only [gapL, e, hq, hb]; rfl⟩
        · left
          refine ⟨rfl, .inr ?_, by simp only [gapL, e, hq, hb]; rfl, fun p hp => ?_⟩
          · cases e2 : f (k - 1)
            · exact absurd (hg.2 e2) hb
            · rfl
          · cases hp; exact hb
  · exact .inl ⟨rfl, by simp only [gapL, e]; rfl⟩
theorem gapL_len (f : Nat → Bool) : ∀ k, (gapL f k).length ≤ k
  | 0 => by simp [gapL]
  | k + 1 => by
    have ih := gapL_len f k
    rcases gapL_step f k with ⟨_, h⟩ | ⟨_, _, h, _⟩ | ⟨_, _, _, l, q, h1, _, h⟩
    · rw [h]; omega
    · rw [h]; simp; omega
    · rw [h]; rw [h1] at ih; simp at *; omega
end Go.Proofs.YtmlmbgifkmkmgaaGreat
