/- Copies of rows: plain. -/
import Derived.Test.YtenhodepaoaiiaaGreatDoorGRkR
import Derived.Test.YtenhodepaoaiiaaGreatDoorGCmp
namespace Go.Proofs.YtenhodepaoaiiaaGreatDoor
open Go.RowKit Go.Lib
set_option linter.unusedSimpArgs false
set_option linter.unusedVariables false
/-- row y, whose values lie in block g, is a copy of row x -/
structure Cpy (w : World) (g : Nat) (x y : RowR) : Prop where
  nm : y.nm = x.nm
  st : y.st = x.st
  xs : y.xs = x.xs
  u : ∃ cap, y.u = .slice (some ⟨g, 0, none⟩) x.xs.length cap ∧ x.xs.length ≤ cap ∧ cap ≤ maxLen
  cells : ∃ cur, w.heap[g]? = some (.cells cur 3 (0, 0)) ∧ cur.toList.take x.xs.length = ints x.xs
/-- rows ys, with values in blocks gs, are copies of xs -/
structure Cps (w : World) (base : Nat) (xs : List RowR) (gs : List Nat) (ys : List RowR) : Prop where
  leny : ys.length = xs.length
  leng : gs.length = xs.length
  cpy : ∀ (i : Nat) (x y : RowR) (g : Nat), xs[i]? = some x → ys[i]? = some y → gs[i]? = some g → Cpy w g x y
  rng : ∀ g ∈ gs, base ≤ g ∧ g < w.heap.size
  apart : ∀ (i j g : Nat), gs[i]? = some g → gs[j]? = some g → i = j
theorem Cpy.gr {w w' : World} {g : Nat} {x y : RowR} (h : Cpy w g x y) (k : w'.heap[g]? = w.heap[g]?) : Cpy w' g x y := ⟨h.nm, h.st, h.xs, h.u, by obtain ⟨cur, h1, h2⟩ := h.cells; exact ⟨cur, by rw [k]; exact h1, h2⟩⟩
theorem Cps.nil (w : World) (base : Nat) : Cps w base [] [] [] := ⟨rfl, rfl, fun i x y g h => by simp at h, fun g h => by simp at h, fun i j g h => by simp at h⟩
theorem Cps.gr {w w' : World} {base : Nat} {xs ys : List RowR} {gs : List Nat} (h : Cps w base xs gs ys) (k : Gr w w') : Cps w' base xs gs ys :=
  ⟨h.leny, h.leng, fun i x y g hx hy hg => (h.cpy i x y g hx hy hg).gr (Below.block k g (h.rng g (List.mem_of_getElem? hg)).2), fun g hg => ⟨(h.rng g hg).1, Nat.lt_of_lt_of_le (h.rng g hg).2 k.size⟩, h.apart⟩
theorem take_get {α : Type} {xs : List α} {k i : Nat} {x : α} (h : (xs.take k)[i]? = some x) : xs[i]? = some x := by
  rw [List.getElem?_take] at h
  split at h
  · exact h
  · cases h
theorem Cps.block {w : World} {base : Nat} {xs ys : List RowR} {gs : List Nat} (h : Cps w base xs gs ys) {g : Nat} (hg : g ∈ gs) : ∃ cur, w.heap[g]? = some (.cells cur 3 (0, 0)) := by
  obtain ⟨i, hi⟩ := List.mem_iff_getElem?.1 hg
  have hl := (List.getElem?_eq_some_iff.1 hi).1
  have hx : i < xs.length := by rw [← h.leng]; exact hl
  have hy : i < ys.length := by rw [h.leny]; exact hx
  obtain ⟨cur, h1, _⟩ := (h.cpy i _ _ g (List.getElem?_eq_getElem hx) (List.getElem?_eq_getElem hy) hi).cells
  exact ⟨cur, h1⟩
theorem Cps.add {w w' : World} {base : Nat} {xs ys : List RowR} {gs : List Nat} (h : Cps w base xs gs ys) {x y : RowR} {g : Nat} (hold : ∀ g' ∈ gs, w'.heap[g']? = w.heap[g']?) (hs : w.heap.size ≤ w'.heap.size) (hc : Cpy w' g x y) (hg : w.heap.size ≤ g) (hb : base ≤ w.heap.size) :
    Cps w' base (xs ++ [x]) (gs ++ [g]) (ys ++ [y]) := by
  have hgl : g < w'.heap.size := by obtain ⟨cur, h1, _⟩ := hc.cells; exact (Array.getElem?_eq_some_iff.1 h1).1
  refine ⟨by simp [h.leny], by simp [h.leng], fun i x' y' g' hx hy hg' => ?_, fun g' hg' => ?_, fun i j g' hi hj => ?_⟩
  · by_cases hi : i < xs.length
    · rw [List.getElem?_append_left hi] at hx
      rw [List.getElem?_append_left (by rw [h.leny]; exact hi)] at hy
      rw [List.getElem?_append_left (by rw [h.leng]; exact hi)] at hg'
      exact (h.cpy i x' y' g' hx hy hg').gr (hold g' (List.mem_of_getElem? hg'))
    · have hl := (List.getElem?_eq_some_iff.1 hx).1
      simp only [List.length_append, List.length_cons, List.length_nil] at hl
      have e : i = xs.length := by omega
      subst e
      rw [List.getElem?_append_right (Nat.le_refl _), Nat.sub_self] at hx
      rw [List.getElem?_append_right (by rw [h.leny]; exact Nat.le_refl _), h.leny, Nat.sub_self] at hy
      rw [List.getElem?_append_right (by rw [h.leng]; exact Nat.le_refl _), h.leng, Nat.sub_self] at hg'
      simp only [List.getElem?_cons_zero, Option.some.injEq] at hx hy hg'
      subst hx hy hg'
      exact hc
  · rw [List.mem_append, List.mem_singleton] at hg'
    rcases hg' with hg' | rfl
    · exact ⟨(h.rng g' hg').1, Nat.lt_of_lt_of_le (h.rng g' hg').2 hs⟩
    · exact ⟨Nat.le_trans hb hg, hgl⟩
  · have key : ∀ i, (gs ++ [g])[i]? = some g' → (i < gs.length ∧ gs[i]? = some g' ∧ g' < w.heap.size) ∨ (i = gs.length ∧ g' = g) := fun i hi => by
      by_cases hl : i < gs.length
      · rw [List.getElem?_append_left hl] at hi
        exact .inl ⟨hl, hi, (h.rng g' (List.mem_of_getElem? hi)).2⟩
      · have hl2 := (List.getElem?_eq_some_iff.1 hi).1
        simp only [List.length_append, List.length_cons, List.length_nil] at hl2
        have e : i = gs.length := by omega
        subst e
        rw [List.getElem?_append_right (Nat.le_refl _), Nat.sub_self] at hi
        simp only [List.getElem?_cons_zero, Option.some.injEq] at hi
        exact .inr ⟨rfl, hi.symm⟩
    rcases key i hi with ⟨a, b, c⟩ | ⟨a, b⟩ <;> rcases key j hj with ⟨a', b', c'⟩ | ⟨a', b'⟩
    · exact h.apart i j g' b b'
    · omega
    · omega
    · omega
/-- an own row of integers that is not nil -/
theorem own_some {w : World} {base n : Nat} {v : Value} {xs : List Value} {T : TypeId} (h : w.ownsRow base T 1 v n xs) (hv : v ≠ .slice none 0 0) :
    ∃ g cap cur, v = .slice (some ⟨g, 0, none⟩) n cap ∧ base ≤ g ∧ n ≤ cap ∧ cap ≤ maxLen ∧ w.heap[g]? = some (.cells cur T (0, 0)) ∧ cur.toList.take n = xs := by
  rcases h.2 with ⟨rfl, _⟩ | ⟨g, cap, cur, rfl, hb, hg, hle, hmx, _, ht⟩
  · exact absurd rfl hv
  · exact ⟨g, cap, cur, rfl, hb, by omega, by omega, hg, by simpa using ht⟩
end Go.Proofs.YtenhodepaoaiiaaGreatDoor
namespace Go.Proofs.YtenhodepaoaiiaaGreatDoor
open Go.RowKit Go.Lib
set_option linter.unusedSimpArgs false
set_option linter.unusedVariables false
/-- a result without its place in memory: name, state, values -/
structure Bare where
  nm : ByteArray
  st : ByteArray
  xs : List Int
def bare (x : RowR) : Bare := ⟨x.nm, x.st, x.xs⟩
def cmpB (a b : Bare) : Int := ordZ a.st b.st a.xs b.xs
theorem cmpR_bare (x y : RowR) : cmpR x y = cmpB (bare x) (bare y) := rfl
def rankB (bs : List Bare) (b : Bare) : Int := 1 + (bs.countP fun c => decide (cmpB c b < 0) : Nat)
def ranksB (bs : List Bare) : List Int := bs.map (rankB bs)
theorem rankR_bare (xs : List RowR) (x : RowR) : rankR xs x = rankB (xs.map bare) (bare x) := by
  unfold rankR rankB
  rw [List.countP_map]
  rfl
theorem ranksL_bare (xs : List RowR) : ranksL xs = ranksB (xs.map bare) := by
  unfold ranksL ranksB
  rw [List.map_map]
  apply List.map_congr_left
  intro x _
  exact rankR_bare xs x
theorem ranksB_len (bs : List Bare) : (ranksB bs).length = bs.length := by simp [ranksB]
theorem ranksB_at {bs : List Bare} {i : Nat} {b : Bare} (h : bs[i]? = some b) : (ranksB bs)[i]? = some (rankB bs b) := by
  unfold ranksB; rw [List.getElem?_map, h]; rfl
theorem cmpB_flip (a b : Bare) : cmpB b a = - cmpB a b := cmpR_flip ⟨a.nm, a.st, undef, a.xs⟩ ⟨b.nm, b.st, undef, b.xs⟩
theorem cmpB_trans (a b c : Bare) (h1 : cmpB a b ≤ 0) (h2 : cmpB b c ≤ 0) : cmpB a c ≤ 0 := cmpR_trans ⟨a.nm, a.st, undef, a.xs⟩ ⟨b.nm, b.st, undef, b.xs⟩ ⟨c.nm, c.st, undef, c.xs⟩ h1 h2
theorem cmpB_self (a : Bare) : cmpB a a = 0 := by have := cmpB_flip a a; omega
theorem rankB_same {bs : List Bare} {a b : Bare} (h : cmpB a b = 0) : rankB bs a = rankB bs b := by
  unfold rankB
  congr 2
  apply List.countP_congr
  intro c _
  have f1 := cmpB_flip a b
  have t1 := cmpB_trans c a b
  have t2 := cmpB_trans c b a
  have t3 := cmpB_trans a b c
  have t4 := cmpB_trans b a c
  have f2 := cmpB_flip a c
  have f3 := cmpB_flip b c
  simp only [decide_eq_true_eq]
  constructor
  · intro h1
    by_cases h2 : cmpB c b < 0
    · exact h2
    · have := t4 (by omega) (by omega); omega
  · intro h1
    by_cases h2 : cmpB c a < 0
    · exact h2
    · have := t3 (by omega) (by omega); omega
theorem countP_strict {α : Type} {P Q : α → Bool} : ∀ (l : List α), (∀ x ∈ l, P x = true → Q x = true) → (∃ x ∈ l, P x = false ∧ Q x = true) → l.countP P < l.countP Q
  | [], _, h => by obtain ⟨x, hx, _⟩ := h; cases hx
  | y :: l, h, hx => by
    have hle := List.countP_mono_left (l := l) (p := P) (q := Q) (fun x hx => h x (List.mem_cons_of_mem _ hx))
    rw [List.countP_cons, List.countP_cons]
    obtain ⟨x, hm, hp, hq⟩ := hx
    rcases List.mem_cons.1 hm with rfl | hm
    · rw [hp, hq]; simp; omega
    · have := countP_strict l (fun x hx => h x (List.mem_cons_of_mem _ hx)) ⟨x, hm, hp, hq⟩
      have h0 := h y (by simp)
      cases hpy : P y <;> cases hqy : Q y <;> simp_all <;> omega
theorem rankB_less {bs : List Bare} {a b : Bare} (ha : a ∈ bs) (h : cmpB a b < 0) : rankB bs a < rankB bs b := by
  unfold rankB
  have := countP_strict (P := fun c => decide (cmpB c a < 0)) (Q := fun c => decide (cmpB c b < 0)) bs (fun c _ hc => by
    have hc' : cmpB c a < 0 := by simpa using hc
    have t1 := cmpB_trans c a b (by omega) (by omega)
    have t2 := cmpB_trans b c a
    have f1 := cmpB_flip a b
    have f2 := cmpB_flip b c
    have t3 := cmpB_trans b c a
    by_cases h2 : cmpB c b < 0
    · simpa using h2
    · have := t3 (by omega) (by omega); omega) ⟨a, ha, by rw [cmpB_self]; rfl, by simpa using h⟩
  omega
/-- ranks agree with comparisons -/
theorem rankB_iff {bs : List Bare} {a b : Bare} (ha : a ∈ bs) (hb : b ∈ bs) : (decide (cmpB a b < 0) = decide (rankB bs a < rankB bs b)) ∧ (decide (cmpB a b = 0) = decide (rankB bs a = rankB bs b)) := by
  have f := cmpB_flip a b
  rcases Int.lt_trichotomy (cmpB a b) 0 with h | h | h
  · have := rankB_less (bs := bs) ha h
    exact ⟨by rw [decide_eq_true h, decide_eq_true this], by rw [decide_eq_false (by omega), decide_eq_false (by omega)]⟩
  · have := rankB_same (bs := bs) h
    exact ⟨by rw [decide_eq_false (by omega), decide_eq_false (by omega)], by rw [decide_eq_true h, decide_eq_true this]⟩
  · have := rankB_less (bs := bs) (a := b) (b := a) hb (by omega)
    exact ⟨by rw [decide_eq_false (by omega), decide_eq_false (by omega)], by rw [decide_eq_false (by omega), decide_eq_false (by omega)]⟩
theorem rankB_perm {bs cs : List Bare} (h : bs.Perm cs) (b : Bare) : rankB bs b = rankB cs b := by
  unfold rankB; rw [h.countP_eq]
theorem ranksB_rev (bs : List Bare) : ranksB bs.reverse = (ranksB bs).reverse := by
  unfold ranksB
  rw [List.map_reverse]
  congr 1
  apply List.map_congr_left
  intro b _
  exact rankB_perm (List.reverse_perm bs) b
/-- a round without an error -/
structure ValidB (bs : List Bare) : Prop where
  each : ∀ b ∈ bs, resE b.nm b.st b.xs = 0
  apart : (bs.map fun b => b.nm.toList).Nodup
  even : ∀ b ∈ bs, ∀ c ∈ bs, b.st.toList.isEmpty = true → c.st.toList.isEmpty = true → b.xs.length = c.xs.length
theorem rowFrom_zero_of {xs : List RowR} {fz : Int} (h : ∀ (i : Nat) (x : RowR), xs[i]? = some x → rowE xs fz i x = 0) : ∀ k i, rowFrom xs fz k i = 0
  | 0, _ => rfl
  | k + 1, i => by
    simp only [rowFrom]
    cases hx : xs[i]? with
    | none => rfl
    | some x => simp only [h i x hx]; simpa using rowFrom_zero_of h k (i + 1)
theorem rowE_zero {xs : List RowR} {fz : Int} : ∀ (k i : Nat), rowFrom xs fz k i = 0 → ∀ (j : Nat) (x : RowR), i ≤ j → j < i + k → xs[j]? = some x → rowE xs fz j x = 0
  | 0, i, _, j, x, h1, h2, _ => by omega
  | k + 1, i, h, j, x, h1, h2, hx => by
    simp only [rowFrom] at h
    cases hxi : xs[i]? with
    | none => 
      have := List.getElem?_eq_none_iff.1 hxi
      have := (List.getElem?_eq_some_iff.1 hx).1
      omega
    | some y =>
      rw [hxi] at h
      simp only at h
      by_cases h0 : rowE xs fz i y = 0
      · rw [if_pos h0] at h
        by_cases hji : j = i
        · subst hji; rw [hx] at hxi; cases hxi; exact h0
        · exact rowE_zero k (i + 1) h j x (by omega) (by omega) hx
      · rw [if_neg h0] at h; exact absurd h h0
theorem rowE_parts {xs : List RowR} {fz : Int} {i : Nat} {x : RowR} : rowE xs fz i x = 0 ↔ resE x.nm x.st x.xs = 0 ∧ dupR xs i x.nm = false ∧ (if (if decide (0 ≤ fz) then !fitFirst xs fz x else false) then (2 : Int) else 0) = 0 := by
  unfold rowE
  generalize resE x.nm x.st x.xs = a
  generalize (if (if decide (0 ≤ fz) then !fitFirst xs fz x else false) then (2 : Int) else 0) = c
  cases dupR xs i x.nm <;> simp only [firstE] <;> by_cases ha : a = 0 <;> by_cases hc : c = 0 <;> simp [ha, hc]
theorem valid_of_zero {xs : List RowR} (h : rowFrom xs (firstV xs) xs.length 0 = 0) : ValidB (xs.map bare) := by
  have hz := fun j x (hx : xs[j]? = some x) => rowE_parts.1 (rowE_zero xs.length 0 h j x (Nat.zero_le _) (by have := (List.getElem?_eq_some_iff.1 hx).1; omega) hx)
  refine ⟨fun b hb => ?_, ?_, fun b hb c hc hbs hcs => ?_⟩
  · obtain ⟨x, hx, rfl⟩ := List.mem_map.1 hb
    obtain ⟨j, hj⟩ := List.mem_iff_getElem?.1 hx
    exact (hz j x hj).1
  · rw [List.map_map]
    unfold List.Nodup
    rw [List.pairwise_iff_getElem]
    intro i j hi hj hij
    simp only [List.length_map] at hi hj
    simp only [List.getElem_map, Function.comp, bare]
    have hd := (hz j _ (List.getElem?_eq_getElem hj)).2.1
    unfold dupR at hd
    rw [List.any_eq_false] at hd
    have := hd xs[i] (List.mem_iff_getElem?.2 ⟨i, by rw [List.getElem?_take, if_pos hij]; exact List.getElem?_eq_getElem hi⟩)
    simpa using this
  · obtain ⟨x, hx, rfl⟩ := List.mem_map.1 hb
    obtain ⟨y, hy, rfl⟩ := List.mem_map.1 hc
    rcases firstP_spec hasV xs xs.length 0 (by omega) with ⟨e, hh⟩ | ⟨f, e, h1, h2, ⟨q, hq, hqv⟩, h4⟩
    · obtain ⟨j, hj⟩ := List.mem_iff_getElem?.1 hx
      have := hh j x (by omega) (by have := (List.getElem?_eq_some_iff.1 hj).1; omega) hj
      have hbs' : hasV x = true := hbs
      rw [this] at hbs'; cases hbs'
    · have key : ∀ z ∈ xs, z.st.toList.isEmpty = true → z.xs.length = q.xs.length := fun z hz' hzs => by
        obtain ⟨j, hj⟩ := List.mem_iff_getElem?.1 hz'
        have h3 := (hz j z hj).2.2
        have e' : firstV xs = f := e
        rw [e'] at h3
        have hfit : fitFirst xs (f : Int) z = fitB q.st z.st q.xs z.xs := by unfold fitFirst; rw [Int.toNat_natCast, hq]
        rw [hfit] at h3
        have hqs : q.st.toList.isEmpty = true := hqv
        unfold fitB at h3
        rw [hqs, hzs] at h3
        by_cases hl : q.xs.length = z.xs.length
        · exact hl.symm
        · have hl4 : ¬ (q.xs.length : Int) = z.xs.length := by omega
          simp [hl, hl4] at h3
      have e1 := key x hx hbs
      have e2 := key y hy hcs
      show x.xs.length = y.xs.length
      omega
theorem zero_of_valid {xs : List RowR} (h : ValidB (xs.map bare)) : rowFrom xs (firstV xs) xs.length 0 = 0 := by
  apply rowFrom_zero_of
  intro i x hx
  have hil := (List.getElem?_eq_some_iff.1 hx).1
  have hm : bare x ∈ xs.map bare := List.mem_map.2 ⟨x, List.mem_of_getElem? hx, rfl⟩
  refine rowE_parts.2 ⟨h.each _ hm, ?_, ?_⟩
  · unfold dupR
    rw [List.any_eq_false]
    intro y hy
    obtain ⟨j, hj⟩ := List.mem_iff_getElem?.1 hy
    have hji := (List.getElem?_eq_some_iff.1 hj).1
    rw [List.length_take] at hji
    rw [List.getElem?_take, if_pos (by omega)] at hj
    have hp := h.apart
    rw [List.map_map] at hp
    unfold List.Nodup at hp
    rw [List.pairwise_iff_getElem] at hp
    have := hp j i (by simp; omega) (by simp; omega) (by omega)
    simp only [List.getElem_map, Function.comp, bare] at this
    have e1 := (List.getElem?_eq_some_iff.1 hj).2
    have e2 := (List.getElem?_eq_some_iff.1 hx).2
    rw [e1, e2] at this
    simpa using this
  · rcases firstP_spec hasV xs xs.length 0 (by omega) with ⟨e, hh⟩ | ⟨f, e, h1, h2, ⟨q, hq, hqv⟩, h4⟩
    · have e' : firstV xs = -1 := e
      rw [e']; simp
    · have e' : firstV xs = f := e
      rw [e']
      have hfit : fitFirst xs (f : Int) x = fitB q.st x.st q.xs x.xs := by unfold fitFirst; rw [Int.toNat_natCast, hq]
      rw [hfit]
      unfold fitB
      cases hxs : x.st.toList.isEmpty
      · simp
      · have := h.even (bare q) (List.mem_map.2 ⟨q, List.mem_of_getElem? hq, rfl⟩) (bare x) hm hqv hxs
        have this' : q.xs.length = x.xs.length := this
        rw [this']; simp
theorem ValidB.rev {bs : List Bare} (h : ValidB bs) : ValidB bs.reverse :=
  ⟨fun b hb => h.each b (List.mem_reverse.1 hb), by rw [List.map_reverse]; exact (List.reverse_perm _).nodup_iff.2 h.apart, fun b hb c hc => h.even b (List.mem_reverse.1 hb) c (List.mem_reverse.1 hc)⟩
end Go.Proofs.YtenhodepaoaiiaaGreatDoor
namespace Go.Proofs.YtenhodepaoaiiaaGreatDoor
open Go.RowKit Go.Lib
set_option linter.unusedSimpArgs false
set_option linter.unusedVariables false
def fineB (bs : List Bare) : List Bare := bs.filter fun b => b.st.toList.isEmpty
theorem fine_bare (xs : List RowR) : (fine xs).map bare = fineB (xs.map bare) := by
  unfold fine fineB
  rw [List.filter_map]
  rfl
def thruB (bs : List Bare) (m : Int) : List ByteArray := goOn m (srtP (pls ((fineB bs).map fun b => b.nm) (ranksB (fineB bs))))
theorem thru_bare (xs : List RowR) (m : Int) : thru xs m = thruB (xs.map bare) m := by
  unfold thru thruB
  rw [← fine_bare, ranksL_bare, List.map_map]
  rfl
theorem sorted_prefix {m m' : Int} (hm : m ≤ m') : ∀ (ps : List PlR), ps.Pairwise (fun a b => a.rk ≤ b.rk) → (ps.filter fun p => decide (p.rk ≤ m)) <+: (ps.filter fun p => decide (p.rk ≤ m'))
  | [], _ => List.prefix_refl _
  | p :: ps, h => by
    rw [List.pairwise_cons] at h
    by_cases h1 : p.rk ≤ m
    · rw [List.filter_cons_of_pos (by simpa using h1), List.filter_cons_of_pos (by simp; omega)]
      exact List.cons_prefix_cons.2 ⟨rfl, sorted_prefix hm ps h.2⟩
    · have : (ps.filter fun q => decide (q.rk ≤ m)) = [] := by
        rw [List.filter_eq_nil_iff]
        intro q hq
        have := h.1 q hq
        simp; omega
      rw [List.filter_cons_of_neg (by simpa using h1), this]
      exact List.nil_prefix
theorem srtP_pairwise (ps : List PlR) : (srtP ps).Pairwise (fun a b => a.rk ≤ b.rk) := by
  rw [List.pairwise_iff_getElem]
  intro i j hi hj hij
  exact (srtP_spec ps).2.2 i j _ _ hij (List.getElem?_eq_getElem hi) (List.getElem?_eq_getElem hj)
theorem goOn_prefix {m m' : Int} (hm : m ≤ m') (ps : List PlR) : goOn m (srtP ps) <+: goOn m' (srtP ps) := by
  unfold goOn
  obtain ⟨t, ht⟩ := sorted_prefix hm _ (srtP_pairwise ps)
  exact ⟨t.map fun p => p.nm, by rw [← List.map_append, ht]⟩
theorem thruB_prefix {m m' : Int} (hm : m ≤ m') (bs : List Bare) : thruB bs m <+: thruB bs m' := goOn_prefix hm _
theorem goOn_len (m : Int) (ps : List PlR) : (goOn m ps).length ≤ ps.length := by
  unfold goOn; rw [List.length_map]; exact List.length_filter_le _ _
theorem thruB_len (bs : List Bare) (m : Int) : (thruB bs m).length ≤ bs.length := by
  refine Nat.le_trans (goOn_len _ _) ?_
  rw [(srtP_spec _).2.1, pls_len _ _ (fineB bs).length (by simp) (ranksB_len _)]
  exact List.length_filter_le _ _
theorem firstE_all : ∀ {l : List Int}, (∀ x ∈ l, x = 0) → firstE l = 0
  | [], _ => rfl
  | x :: l, h => by simp only [firstE]; rw [if_pos (h x (by simp))]; exact firstE_all fun y hy => h y (List.mem_cons_of_mem _ hy)
/-- a greater first value -/
def up (b : Bare) (v : Int) (t : List Int) : Bare := ⟨b.nm, b.st, (v + 1) :: t⟩
theorem resE_up {b : Bare} {v : Int} {t : List Int} (hb : b.xs = v :: t) (hv : v < 999999999) (h : resE b.nm b.st b.xs = 0) : resE (up b v t).nm (up b v t).st (up b v t).xs = 0 := by
  have hz := firstE_zero h
  rw [hb] at hz
  apply firstE_all
  intro x hx
  simp only [List.mem_cons, List.not_mem_nil, or_false] at hx hz
  show x = 0
  rcases hx with rfl | rfl | rfl | rfl | rfl
  · exact hz _ (.inl rfl)
  · exact hz _ (.inr (.inl rfl))
  · exact hz _ (.inr (.inr (.inl rfl)))
  · exact hz _ (.inr (.inr (.inr (.inl rfl))))
  · have h5 := hz _ (.inr (.inr (.inr (.inr rfl))))
    unfold valsE at h5 ⊢
    have hz5 := firstE_zero h5
    apply firstE_all
    intro y hy
    simp only [up, List.map_cons, List.mem_cons] at hy
    rcases hy with rfl | hy
    · have := outE_zero.1 (hz5 (outE v (-999999999) 999999999) (by simp))
      exact outE_zero.2 ⟨by omega, by omega⟩
    · exact hz5 y (by simp only [List.map_cons, List.mem_cons]; exact .inr hy)
theorem cmpB_up {b : Bare} {v : Int} {t : List Int} (hb : b.xs = v :: t) : cmpB (up b v t) b ≤ 0 := by
  unfold cmpB ordZ up
  rw [hb]
  simp only [cmpZ_self, firstE, if_true]
  rcases cmpZ_cases v (v + 1) with ⟨h, e⟩ | ⟨h, e⟩ | ⟨h, e⟩
  · have : cmpL (v :: t) ((v + 1) :: t) = -1 := by simp [cmpL, e]
    rw [this]; omega
  · omega
  · omega
theorem valid_up {bs : List Bare} {k : Nat} {b : Bare} {v : Int} {t : List Int} (h : ValidB bs) (hk : bs[k]? = some b) (hb : b.xs = v :: t) (hv : v < 999999999) : ValidB (bs.set k (up b v t)) := by
  have hkl := (List.getElem?_eq_some_iff.1 hk).1
  have hbm := List.mem_of_getElem? hk
  have hmem : ∀ c ∈ bs.set k (up b v t), c ∈ bs ∨ c = up b v t := fun c hc => List.mem_or_eq_of_mem_set hc
  have hupl : (up b v t).xs.length = b.xs.length := by rw [hb]; simp [up]
  refine ⟨fun c hc => ?_, ?_, fun c hc d hd hcs hds => ?_⟩
  · rcases hmem c hc with hc | rfl
    · exact h.each c hc
    · exact resE_up hb hv (h.each b hbm)
  · have : (bs.set k (up b v t)).map (fun b => b.nm.toList) = bs.map fun b => b.nm.toList := by
      apply List.ext_getElem?
      intro i
      rw [List.getElem?_map, List.getElem?_map, List.getElem?_set]
      by_cases hki : k = i
      · subst hki; rw [if_pos rfl, if_pos hkl, hk]; rfl
      · rw [if_neg hki]
    rw [this]; exact h.apart
  · have key : ∀ c, (c ∈ bs ∨ c = up b v t) → c.st.toList.isEmpty = true → ∃ c' ∈ bs, c'.st.toList.isEmpty = true ∧ c.xs.length = c'.xs.length := fun c hc hs => by
      rcases hc with hc | rfl
      · exact ⟨c, hc, hs, rfl⟩
      · exact ⟨b, hbm, hs, hupl⟩
    obtain ⟨c', hc', hcs', e1⟩ := key c (hmem c hc) hcs
    obtain ⟨d', hd', hds', e2⟩ := key d (hmem d hd) hds
    rw [e1, e2]; exact h.even c' hc' d' hd' hcs' hds'
theorem rank_up {bs : List Bare} {k : Nat} {b : Bare} {v : Int} {t : List Int} (hk : bs[k]? = some b) (hb : b.xs = v :: t) : rankB (bs.set k (up b v t)) (up b v t) ≤ rankB bs b := by
  obtain ⟨hkl, hkb⟩ := List.getElem?_eq_some_iff.1 hk
  have hup := cmpB_up hb
  have key : ∀ c, decide (cmpB c (up b v t) < 0) = true → decide (cmpB c b < 0) = true := fun c hc => by
    have hc' : cmpB c (up b v t) < 0 := by simpa using hc
    by_cases h2 : cmpB c b < 0
    · simpa using h2
    · have f1 := cmpB_flip c b
      have f2 := cmpB_flip c (up b v t)
      have := cmpB_trans (up b v t) b c hup (by omega)
      omega
  unfold rankB
  have e1 : bs.set k (up b v t) = bs.take k ++ up b v t :: bs.drop (k + 1) := by rw [List.set_eq_take_append_cons_drop, if_pos hkl]
  have e2 : bs = bs.take k ++ b :: bs.drop (k + 1) := by rw [← hkb, ← List.drop_eq_getElem_cons hkl, List.take_append_drop]
  have c1 : (bs.set k (up b v t)).countP (fun c => decide (cmpB c (up b v t) < 0)) ≤ bs.countP fun c => decide (cmpB c b < 0) := by
    rw [e1]
    conv => rhs; rw [e2]
    rw [List.countP_append, List.countP_append, List.countP_cons, List.countP_cons, cmpB_self]
    have m1 := List.countP_mono_left (l := bs.take k) (fun c _ => key c)
    have m2 := List.countP_mono_left (l := bs.drop (k + 1)) (fun c _ => key c)
    simp only [Int.lt_irrefl, decide_false, Bool.false_eq_true, if_false]
    split <;> omega
  omega
/-- copies read as the same results -/
theorem Cps.bare {w : World} {base : Nat} {xs ys : List RowR} {gs : List Nat} (h : Cps w base xs gs ys) : ys.map bare = xs.map bare := by
  apply List.ext_getElem?
  intro i
  rw [List.getElem?_map, List.getElem?_map]
  by_cases hi : i < xs.length
  · have hy : i < ys.length := by rw [h.leny]; exact hi
    have hg : i < gs.length := by rw [h.leng]; exact hi
    have c := h.cpy i _ _ _ (List.getElem?_eq_getElem hi) (List.getElem?_eq_getElem hy) (List.getElem?_eq_getElem hg)
    rw [List.getElem?_eq_getElem hi, List.getElem?_eq_getElem hy]
    simp only [Option.map_some, Go.Proofs.YtenhodepaoaiiaaGreatDoor.bare, c.nm, c.st, c.xs]
  · rw [List.getElem?_eq_none (l := xs) (by omega), List.getElem?_eq_none (l := ys) (by rw [h.leny]; omega)]
/-- a copied value reads as integers -/
theorem Cpy.val {w : World} {g : Nat} {x y : RowR} (h : Cpy w g x y) : IntsV w y.u y.xs := by
  obtain ⟨cap, hu, hc1, hc2⟩ := h.u
  obtain ⟨cur, hg, ht⟩ := h.cells
  rw [hu, h.xs]
  refine ⟨_, cap, rfl, fun h0 => ⟨g, 0, rfl, fun i z hz => ?_⟩⟩
  have hi := (List.getElem?_eq_some_iff.1 hz).1
  have e : (cur.toList.take x.xs.length)[i]? = some (.int .i64 z) := by rw [ht]; simp [ints, hz]
  rw [List.getElem?_take, if_pos hi, Array.getElem?_toList] at e
  rw [Nat.zero_add, cell_of_row w g i _ 3 (0, 0) hg, e]
end Go.Proofs.YtenhodepaoaiiaaGreatDoor
namespace Go.Proofs.YtenhodepaoaiiaaGreatDoor
open Go.RowKit Go.Lib
set_option linter.unusedSimpArgs false
set_option linter.unusedVariables false
end Go.Proofs.YtenhodepaoaiiaaGreatDoor
namespace Go.Proofs.YtenhodepaoaiiaaGreatDoor
open Go.RowKit Go.Lib
set_option linter.unusedSimpArgs false
set_option linter.unusedVariables false
/-- rows that have been made of copies -/
structure Made (w : World) (base : Nat) (xs zs : List RowR) : Prop where
  len : zs.length = xs.length
  cpy : ∀ (i : Nat) (x z : RowR), xs[i]? = some x → zs[i]? = some z → ∃ g, base ≤ g ∧ Cpy w g x z
theorem Cps.made {w : World} {base : Nat} {xs ys : List RowR} {gs : List Nat} (h : Cps w base xs gs ys) : Made w base xs ys :=
  ⟨h.leny, fun i x z hx hz => by
    have hg : i < gs.length := by rw [h.leng]; exact (List.getElem?_eq_some_iff.1 hx).1
    exact ⟨_, (h.rng _ (List.getElem_mem hg)).1, h.cpy i x z _ hx hz (List.getElem?_eq_getElem hg)⟩⟩
theorem Made.gr {w w' : World} {base : Nat} {xs zs : List RowR} (h : Made w base xs zs) (k : Gr w w') : Made w' base xs zs :=
  ⟨h.len, fun i x z hx hz => by
    obtain ⟨g, hb, c⟩ := h.cpy i x z hx hz
    obtain ⟨cur, h1, _⟩ := c.cells
    exact ⟨g, hb, c.gr (by rw [k.block h1, h1])⟩⟩
theorem Made.kept {w w' : World} {base b2 s2 n2 : Nat} {xs zs : List RowR} {T2 : TypeId} {v2 : Value} {l2 : List Value} (h : Made w base xs zs) (ho : w.ownsRow b2 T2 s2 v2 n2 l2) (hne : (3 : TypeId) ≠ T2) (hg : w.grownBy w' v2.ownBlock) : Made w' base xs zs :=
  ⟨h.len, fun i x z hx hz => by
    obtain ⟨g, hb, c⟩ := h.cpy i x z hx hz
    obtain ⟨cur, h1, _⟩ := c.cells
    exact ⟨g, hb, c.gr (hg.block g (Array.getElem?_eq_some_iff.1 h1).1 (cell_apart h1 ho hne))⟩⟩
theorem Made.bare {w : World} {base : Nat} {xs zs : List RowR} (h : Made w base xs zs) : zs.map bare = xs.map Go.Proofs.YtenhodepaoaiiaaGreatDoor.bare := by
  apply List.ext_getElem?
  intro i
  rw [List.getElem?_map, List.getElem?_map]
  by_cases hi : i < xs.length
  · have hz : i < zs.length := by rw [h.len]; exact hi
    obtain ⟨g, _, c⟩ := h.cpy i _ _ (List.getElem?_eq_getElem hi) (List.getElem?_eq_getElem hz)
    rw [List.getElem?_eq_getElem hi, List.getElem?_eq_getElem hz]
    simp only [Option.map_some, Go.Proofs.YtenhodepaoaiiaaGreatDoor.bare, c.nm, c.st, c.xs]
  · rw [List.getElem?_eq_none (l := xs) (by omega), List.getElem?_eq_none (l := zs) (by rw [h.len]; omega)]
theorem Made.rows {w : World} {base b1 n : Nat} {v : Value} {xs zs : List RowR} {T : TypeId} (h : Made w base xs zs) (ho : w.ownsRow b1 T 3 v n (rowCs zs)) (hn : xs.length = n) (hl : ∀ x ∈ xs, x.xs.length ≤ 1000) : RowsV w v zs := by
  have hzn : zs.length = n := by rw [h.len, hn]
  by_cases h0 : 0 < n
  · obtain ⟨g, cap, rfl, _, h1, h2, h3⟩ := rows_of_owns (ys := zs) (by rw [hzn]; exact ho) (by omega) (fun i z hz => by
      have hx : i < xs.length := by rw [← h.len]; exact (List.getElem?_eq_some_iff.1 hz).1
      obtain ⟨g, _, c⟩ := h.cpy i _ z (List.getElem?_eq_getElem hx) hz
      exact ⟨c.val, by rw [c.xs]; exact hl _ (List.getElem_mem hx)⟩)
    exact ⟨_, cap, rfl, ⟨by omega, by omega⟩, fun _ => ⟨g, 0, rfl, fun i x hx => h3 i x hx⟩⟩
  · have hz : n = 0 := by omega
    subst hz
    rcases ho.2 with ⟨rfl, _⟩ | ⟨g, cap, cur, rfl, _, hg, hle, hmx, _, _⟩
    · exact ⟨none, 0, by rw [hzn], ⟨by omega, by unfold maxLen; omega⟩, fun h => by omega⟩
    · exact ⟨_, cap, by rw [hzn], ⟨by omega, by omega⟩, fun h => by omega⟩
theorem Made.nil (w : World) (base : Nat) : Made w base [] [] := ⟨rfl, fun i x z h => by simp at h⟩
theorem Made.add {w : World} {base g : Nat} {xs zs : List RowR} {x z : RowR} (h : Made w base xs zs) (hg : base ≤ g) (hc : Cpy w g x z) : Made w base (xs ++ [x]) (zs ++ [z]) := by
  refine ⟨by simp [h.len], fun i x' z' hx hz => ?_⟩
  by_cases hi : i < xs.length
  · rw [List.getElem?_append_left hi] at hx
    rw [List.getElem?_append_left (by rw [h.len]; exact hi)] at hz
    exact h.cpy i x' z' hx hz
  · have hl := (List.getElem?_eq_some_iff.1 hx).1
    simp only [List.length_append, List.length_cons, List.length_nil] at hl
    have e : i = xs.length := by omega
    subst e
    rw [List.getElem?_append_right (Nat.le_refl _), Nat.sub_self] at hx
    rw [List.getElem?_append_right (by rw [h.len]; exact Nat.le_refl _), h.len, Nat.sub_self] at hz
    simp only [List.getElem?_cons_zero, Option.some.injEq] at hx hz
    subst hx hz
    exact ⟨g, hg, hc⟩
end Go.Proofs.YtenhodepaoaiiaaGreatDoor
