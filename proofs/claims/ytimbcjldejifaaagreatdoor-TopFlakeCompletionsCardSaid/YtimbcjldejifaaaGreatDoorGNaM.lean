/- ResultNarrows: possible ranks, narrowed. Plain. -/
import Derived.Test.YtimbcjldejifaaaGreatDoorGRkG
import Derived.Test.YtimbcjldejifaaaGreatDoorGOpP
import Derived.Test.YtimbcjldejifaaaGreatDoorGNamesB
import Derived.Laws.AppendOwn
namespace Go.Proofs.YtimbcjldejifaaaGreatDoor
open Go.RowKit Go.Lib
set_option linter.unusedSimpArgs false
set_option linter.unusedVariables false
theorem poss_iff (xs : List OpR) (c r : Int) (x : OpR) (h : x.lo ≤ x.hi) : possB xs c r x = true ↔ ∃ u, x.lo ≤ u ∧ u ≤ x.hi ∧ cnt (surP c u) xs 0 < r ∧ r - 1 ≤ cnt (perP c u) xs 0 := by
  unfold possB
  rw [someV_iff]
  constructor
  · rintro ⟨u, h1, h2, h3⟩
    unfold okV at h3
    rw [Bool.and_eq_true, decide_eq_true_eq, decide_eq_true_eq] at h3
    exact ⟨u, h1, by omega, h3.1, h3.2⟩
  · rintro ⟨u, h1, h2, h3, h4⟩
    refine ⟨u, h1, by omega, ?_⟩
    unfold okV
    rw [Bool.and_eq_true, decide_eq_true_eq, decide_eq_true_eq]
    exact ⟨h3, h4⟩
theorem cnt_mono2 (p q : Nat → OpR → Bool) : ∀ (xs ys : List OpR) (i : Nat), xs.length = ys.length → (∀ (j : Nat) (x y : OpR), xs[j]? = some x → ys[j]? = some y → p (i + j) x = true → q (i + j) y = true) → cnt p xs i ≤ cnt q ys i
  | [], [], _, _, _ => Int.le_refl _
  | [], _ :: _, _, h, _ => by simp at h
  | _ :: _, [], _, h, _ => by simp at h
  | x :: xs, y :: ys, i, h, hp => by
    have ih := cnt_mono2 p q xs ys (i + 1) (by simpa using h) (fun j a b ha hb hpp => by
      have := hp (j + 1) a b (by simpa using ha) (by simpa using hb) (by rwa [show i + (j + 1) = i + 1 + j by omega])
      rwa [show i + (j + 1) = i + 1 + j by omega] at this)
    have h0 := hp 0 x y rfl rfl
    simp only [cnt, Nat.add_zero] at *
    by_cases h1 : p i x = true
    · rw [if_pos h1, if_pos (h0 h1)]
      omega
    · rw [if_neg h1]
      split <;> omega
theorem cnt_less (p : Nat → OpR → Bool) : ∀ (xs : List OpR) (i c : Nat) (x : OpR), xs[c]? = some x → p (i + c) x = false → cnt p xs i ≤ xs.length - 1
  | [], _, c, x, h, _ => by simp at h
  | y :: ys, i, 0, x, h, hp => by
    simp only [List.getElem?_cons_zero, Option.some.injEq] at h
    subst h
    have := (cnt_le p ys (i + 1)).2
    simp only [cnt, Nat.add_zero] at *
    rw [hp]
    simp
    omega
  | y :: ys, i, c + 1, x, h, hp => by
    have ih := cnt_less p ys (i + 1) c x (by simpa using h) (by rwa [show i + 1 + c = i + (c + 1) by omega])
    have hl := (List.getElem?_eq_some_iff.1 (show ys[c]? = some x by simpa using h)).1
    simp only [cnt, List.length_cons]
    split <;> omega
theorem mem_ranksK (xs : List OpR) (c : Int) (x : OpR) : ∀ (k : Nat) (r : Int), r ∈ ranksK xs c x k ↔ 1 ≤ r ∧ r ≤ k ∧ possB xs c r x = true
  | 0, r => by
    simp only [ranksK, List.not_mem_nil, false_iff]
    rintro ⟨h1, h2, _⟩
    omega
  | k + 1, r => by
    simp only [ranksK, List.mem_append]
    rw [mem_ranksK xs c x k r]
    constructor
    · rintro (⟨h1, h2, h3⟩ | h)
      · exact ⟨h1, by omega, h3⟩
      · split at h
        · next hp =>
          rw [List.mem_singleton] at h
          subst h
          exact ⟨by omega, by omega, by rw [← hp]; congr 1⟩
        · simp at h
    · rintro ⟨h1, h2, h3⟩
      by_cases hr : r ≤ k
      · exact .inl ⟨h1, hr, h3⟩
      · have e : r = ((k + 1 : Nat) : Int) := by omega
        refine .inr ?_
        have e2 : possB xs c ((k : Int) + 1) x = true := by rw [← h3, e]; congr 1
        rw [if_pos e2, List.mem_singleton]
        exact e
theorem inc_ranksK (xs : List OpR) (c : Int) (x : OpR) : ∀ k : Nat, (ranksK xs c x k).Pairwise (· < ·)
  | 0 => List.Pairwise.nil
  | k + 1 => by
    simp only [ranksK]
    rw [List.pairwise_append]
    refine ⟨inc_ranksK xs c x k, by split <;> simp, fun a ha b hb => ?_⟩
    have := (mem_ranksK xs c x k a).1 ha
    split at hb
    · rw [List.mem_singleton] at hb
      omega
    · simp at hb
/-- the least and the greatest one -/
theorem inc_first {L : List Int} (hi : L.Pairwise (· < ·)) {B : Int} (hB : B ∈ L) (hle : ∀ r ∈ L, B ≤ r) : L[0]? = some B := by
  cases L with
  | nil => simp at hB
  | cons a l =>
    rw [List.pairwise_cons] at hi
    have h1 := hle a (by simp)
    rcases List.mem_cons.1 hB with h | h
    · rw [h]; rfl
    · have := hi.1 B h
      omega
theorem inc_last {L : List Int} (hi : L.Pairwise (· < ·)) {B : Int} (hB : B ∈ L) (hle : ∀ r ∈ L, r ≤ B) : L[L.length - 1]? = some B := by
  obtain ⟨q, hq⟩ := List.mem_iff_getElem?.1 hB
  obtain ⟨hql, hqe⟩ := List.getElem?_eq_some_iff.1 hq
  by_cases h : q = L.length - 1
  · rw [← h]; exact hq
  · have h2 := List.pairwise_iff_getElem.1 hi q (L.length - 1) hql (by omega) (by omega)
    have h3 := hle _ (List.getElem_mem (show L.length - 1 < L.length by omega))
    omega
theorem inc_single {L : List Int} (hi : L.Pairwise (· < ·)) {B : Int} (hB : B ∈ L) (hle : ∀ r ∈ L, r = B) : L = [B] := by
  cases L with
  | nil => simp at hB
  | cons a l =>
    rw [List.pairwise_cons] at hi
    have h1 := hle a (by simp)
    cases l with
    | nil => rw [h1]
    | cons b l =>
      have h2 := hle b (by simp)
      have h3 := hi.1 b (by simp)
      omega
/-- the best and the worst possible rank -/
def bestN (xs : List OpR) (c : Int) (x : OpR) : Int := 1 + cnt (surP c x.hi) xs 0
def worstN (xs : List OpR) (c : Int) (x : OpR) : Int := 1 + cnt (perP c x.lo) xs 0
structure Ends (xs : List OpR) (c : Nat) (x : OpR) : Prop where
  first : (ranksK xs c x xs.length)[0]? = some (bestN xs c x)
  last : (ranksK xs c x xs.length)[(ranksK xs c x xs.length).length - 1]? = some (worstN xs c x)
  low : ∀ r ∈ ranksK xs c x xs.length, bestN xs c x ≤ r ∧ r ≤ worstN xs c x
  mem : bestN xs c x ∈ ranksK xs c x xs.length
theorem sur_anti (xs : List OpR) (c : Int) {u v : Int} (h : u ≤ v) : cnt (surP c v) xs 0 ≤ cnt (surP c u) xs 0 :=
  cnt_mono2 _ _ xs xs 0 rfl fun j a b ha hb hp => by
    rw [ha] at hb
    cases hb
    unfold surP at *
    rw [Bool.and_eq_true, decide_eq_true_eq] at *
    exact ⟨hp.1, by omega⟩
theorem per_anti (xs : List OpR) (c : Int) {u v : Int} (h : u ≤ v) : cnt (perP c v) xs 0 ≤ cnt (perP c u) xs 0 :=
  cnt_mono2 _ _ xs xs 0 rfl fun j a b ha hb hp => by
    rw [ha] at hb
    cases hb
    unfold perP at *
    rw [Bool.and_eq_true, decide_eq_true_eq] at *
    exact ⟨hp.1, by omega⟩
theorem sur_per (xs : List OpR) (c u : Int) (hle : ∀ (j : Nat) (x : OpR), xs[j]? = some x → x.lo ≤ x.hi) : cnt (surP c u) xs 0 ≤ cnt (perP c u) xs 0 :=
  cnt_mono2 _ _ xs xs 0 rfl fun j a b ha hb hp => by
    rw [ha] at hb
    cases hb
    have := hle j a ha
    unfold surP at hp
    unfold perP
    rw [Bool.and_eq_true, decide_eq_true_eq] at *
    exact ⟨hp.1, by omega⟩
theorem ends_of (xs : List OpR) (c : Nat) (x : OpR) (hx : xs[c]? = some x) (hle : ∀ (j : Nat) (x : OpR), xs[j]? = some x → x.lo ≤ x.hi) : Ends xs c x := by
  have hl := hle c x hx
  have hlen := (List.getElem?_eq_some_iff.1 hx).1
  have n1 := cnt_less (surP c x.hi) xs 0 c x hx (by simp [surP])
  have n2 := cnt_less (perP c x.lo) xs 0 c x hx (by simp [perP])
  have z1 := (cnt_le (surP c x.hi) xs 0).1
  have z2 := (cnt_le (perP c x.lo) xs 0).1
  have a1 := sur_per xs c x.hi hle
  have a2 := sur_per xs c x.lo hle
  have hlow : ∀ r ∈ ranksK xs c x xs.length, bestN xs c x ≤ r ∧ r ≤ worstN xs c x := by
    intro r hr
    obtain ⟨h1, h2, h3⟩ := (mem_ranksK xs c x _ r).1 hr
    obtain ⟨u, h4, h5, h6, h7⟩ := (poss_iff xs c r x hl).1 h3
    have := sur_anti xs c h5
    have := per_anti xs c h4
    unfold bestN worstN
    omega
  have hb : bestN xs c x ∈ ranksK xs c x xs.length := by
    rw [mem_ranksK]
    refine ⟨by unfold bestN; omega, by unfold bestN; omega, (poss_iff xs c _ x hl).2 ⟨x.hi, hl, Int.le_refl _, ?_, ?_⟩⟩
    · unfold bestN; omega
    · unfold bestN; omega
  have hw : worstN xs c x ∈ ranksK xs c x xs.length := by
    rw [mem_ranksK]
    refine ⟨by unfold worstN; omega, by unfold worstN; omega, (poss_iff xs c _ x hl).2 ⟨x.lo, Int.le_refl _, hl, ?_, ?_⟩⟩
    · unfold worstN; omega
    · unfold worstN; omega
  exact ⟨inc_first (inc_ranksK _ _ _ _) hb fun r hr => (hlow r hr).1, inc_last (inc_ranksK _ _ _ _) hw fun r hr => (hlow r hr).2, hlow, hb⟩
/-- with all values decided just one rank is left -/
theorem decided_one (xs : List OpR) (c : Nat) (x : OpR) (hx : xs[c]? = some x) (hd : ∀ (j : Nat) (x : OpR), xs[j]? = some x → x.lo = x.hi) : ranksK xs c x xs.length = [bestN xs c x] := by
  have he := ends_of xs c x hx fun j y hy => by have := hd j y hy; omega
  have hxl := hd c x hx
  refine inc_single (inc_ranksK _ _ _ _) he.mem fun r hr => ?_
  have h1 := he.low r hr
  have h2 : worstN xs c x ≤ bestN xs c x := by
    unfold worstN bestN
    rw [hxl]
    have := cnt_mono2 (perP c x.hi) (surP c x.hi) xs xs 0 rfl fun j a b ha hb hp => by
      rw [ha] at hb
      cases hb
      have := hd j a ha
      unfold perP at hp
      unfold surP
      rw [Bool.and_eq_true, decide_eq_true_eq] at *
      exact ⟨hp.1, by omega⟩
    omega
  omega
/-- with a value that is decided no further rank becomes possible -/
theorem narrow_sub (xs ys : List OpR) (c : Nat) (x y : OpR) (hlen : xs.length = ys.length) (hx : xs[c]? = some x) (hy : ys[c]? = some y)
    (hn : ∀ (j : Nat) (a b : OpR), xs[j]? = some a → ys[j]? = some b → a.lo ≤ b.lo ∧ b.lo ≤ b.hi ∧ b.hi ≤ a.hi) : ∀ r ∈ ranksK ys c y ys.length, r ∈ ranksK xs c x xs.length := by
  intro r hr
  obtain ⟨h1, h2, h3⟩ := (mem_ranksK ys c y _ r).1 hr
  obtain ⟨n1, n2, n3⟩ := hn c x y hx hy
  obtain ⟨u, h4, h5, h6, h7⟩ := (poss_iff ys c r y n2).1 h3
  rw [mem_ranksK, hlen]
  refine ⟨h1, h2, (poss_iff xs c r x (by omega)).2 ⟨u, by omega, by omega, ?_, ?_⟩⟩
  · have := cnt_mono2 (surP c u) (surP c u) xs ys 0 hlen fun j a b ha hb hp => by
      have := hn j a b ha hb
      unfold surP at *
      rw [Bool.and_eq_true, decide_eq_true_eq] at *
      exact ⟨hp.1, by omega⟩
    omega
  · have := cnt_mono2 (perP c u) (perP c u) ys xs 0 hlen.symm fun j a b ha hb hp => by
      have := hn j b a hb ha
      unfold perP at *
      rw [Bool.and_eq_true, decide_eq_true_eq] at *
      exact ⟨hp.1, by omega⟩
    omega
end Go.Proofs.YtimbcjldejifaaaGreatDoor
namespace Go.Proofs.YtimbcjldejifaaaGreatDoor
open Go.RowKit Go.Lib
set_option linter.unusedSimpArgs false
set_option linter.unusedVariables false
/-- the value that the numbers choose -/
def vOf (m : Int) (y : OpR) : Int := y.lo + Int.tmod m (y.hi - y.lo + 1)
def decO (m : Int) (y : OpR) : OpR := ⟨y.nm, vOf m y, vOf m y⟩
theorem vOf_in {m : Int} {y : OpR} (hm : 0 ≤ m) (h : y.lo ≤ y.hi) : y.lo ≤ vOf m y ∧ vOf m y ≤ y.hi := by
  unfold vOf
  rw [Int.tmod_eq_emod_of_nonneg hm]
  have h1 := Int.emod_nonneg m (show y.hi - y.lo + 1 ≠ 0 by omega)
  have h2 := Int.emod_lt_of_pos m (show 0 < y.hi - y.lo + 1 by omega)
  omega
/-- the same names, other values -/
structure SameN (xs ys : List OpR) : Prop where
  len : xs.length = ys.length
  nm : ∀ (j : Nat) (a b : OpR), xs[j]? = some a → ys[j]? = some b → b.nm = a.nm
  ends : ∀ (j : Nat) (b : OpR), ys[j]? = some b → 0 ≤ b.lo ∧ b.lo ≤ b.hi ∧ b.hi ≤ 99999
theorem SameN.names {xs ys : List OpR} (h : SameN xs ys) : xs.map (fun y => y.nm) = ys.map (fun y => y.nm) := by
  apply List.ext_getElem?
  intro j
  rw [List.getElem?_map, List.getElem?_map]
  by_cases hj : j < xs.length
  · have h1 := List.getElem?_eq_getElem hj
    have h2 := List.getElem?_eq_getElem (show j < ys.length by have := h.len; omega)
    rw [h1, h2, Option.map_some, Option.map_some, h.nm j _ _ h1 h2]
  · rw [List.getElem?_eq_none (by omega), List.getElem?_eq_none (by have := h.len; omega)]
theorem dupB_map (xs : List OpR) (i : Nat) (nm : ByteArray) : dupB xs i nm = ((xs.map fun y => y.nm).take i).any fun s => s.toList == nm.toList := by
  unfold dupB
  rw [← List.map_take, List.any_map]
  rfl
theorem errFrom_all {ys : List OpR} (h : ∀ (j : Nat) (y : OpR), ys[j]? = some y → errAt ys j y = 0) : ∀ (k i : Nat), errFrom ys k i = 0
  | 0, _ => rfl
  | k + 1, i => by
    simp only [errFrom]
    split
    · next x hx => rw [if_pos (h i x hx), errFrom_all h k (i + 1)]
    · rfl
theorem openE_same {xs ys : List OpR} (h : openE xs = 0) (hs : SameN xs ys) : openE ys = 0 := by
  have hok := ok_of h
  have hl := hs.len
  unfold openE at h ⊢
  rw [if_neg (show ¬ xs.length = 0 by have := hok.len0; omega), if_neg (show ¬ 160 < xs.length by have := hok.len; omega)] at h
  rw [if_neg (show ¬ ys.length = 0 by have := hok.len0; omega), if_neg (show ¬ 160 < ys.length by have := hok.len; omega)]
  refine errFrom_all (fun j y hy => ?_) _ _
  have hjl := (List.getElem?_eq_some_iff.1 hy).1
  obtain ⟨x, hx⟩ : ∃ x, xs[j]? = some x := ⟨xs[j]'(by omega), List.getElem?_eq_getElem _⟩
  have hnm := hs.nm j x y hx hy
  obtain ⟨e0, e1, e2⟩ := hs.ends j y hy
  have hz := errFrom_zero _ 0 (by omega) h j x (Nat.zero_le _) hx
  rw [errAt_eq] at hz ⊢
  have hd : dupB ys j y.nm = dupB xs j x.nm := by rw [dupB_map, dupB_map, ← hs.names, hnm]
  rw [hd, hnm]
  split at hz
  · cases hz
  · next h1 =>
    rw [if_neg h1]
    split at hz
    · cases hz
    · next h2 =>
      rw [if_neg h2, decide_eq_false (show ¬ y.lo < 0 by omega), decide_eq_false (show ¬ 99999 < y.lo by omega), decide_eq_false (show ¬ y.hi < 0 by omega), decide_eq_false (show ¬ 99999 < y.hi by omega), decide_eq_false (show ¬ y.hi < y.lo by omega)]
      rfl
theorem names_ok {xs : List OpR} (h : openE xs = 0) {j : Nat} {x : OpR} (hx : xs[j]? = some x) : decide (Nm x.nm) = true ∧ dupB xs j x.nm = false := by
  have hok := ok_of h
  unfold openE at h
  rw [if_neg (show ¬ xs.length = 0 by have := hok.len0; omega), if_neg (show ¬ 160 < xs.length by have := hok.len; omega)] at h
  have hz := errFrom_zero _ 0 (by omega) h j x (Nat.zero_le _) hx
  rw [errAt_eq] at hz
  split at hz
  · cases hz
  · next h1 =>
    split at hz
    · cases hz
    · next h2 => exact ⟨by simpa using h1, by simpa using h2⟩
/-- the results with the values -/
structure RowsOf (m : Int) (xs : List OpR) (rs : List RowR) : Prop where
  len : rs.length = xs.length
  at' : ∀ (j : Nat) (y : OpR) (r : RowR), xs[j]? = some y → rs[j]? = some r → r.nm = y.nm ∧ r.st = ⟨#[]⟩ ∧ r.xs = [vOf m y]
theorem nil_list : (⟨#[]⟩ : ByteArray).toList = [] := by decide +kernel
theorem grade_nil : gradeZ (⟨#[]⟩ : ByteArray).toList = 0 := by rw [nil_list]; rfl
theorem resE_one {nm : ByteArray} (h : decide (Nm nm) = true) {v : Int} (h0 : 0 ≤ v) (h1 : v ≤ 99999) : resE nm ⟨#[]⟩ [v] = 0 := by
  have hv : valsE [v] = 0 := by
    have : outE v (-999999999) 999999999 = 0 := outE_zero.2 ⟨by omega, by omega⟩
    unfold valsE
    rw [List.map_cons, List.map_nil, this]
    rfl
  unfold resE
  rw [h, grade_nil, nil_list, hv]
  rfl
theorem dupR_of {m : Int} {xs : List OpR} {rs : List RowR} (h : RowsOf m xs rs) (i : Nat) (nm : ByteArray) : dupR rs i nm = dupB xs i nm := by
  have e : rs.map (fun r => r.nm) = xs.map (fun y => y.nm) := by
    apply List.ext_getElem?
    intro j
    rw [List.getElem?_map, List.getElem?_map]
    by_cases hj : j < xs.length
    · have h1 := List.getElem?_eq_getElem hj
      have h2 := List.getElem?_eq_getElem (show j < rs.length by have := h.len; omega)
      rw [h1, h2, Option.map_some, Option.map_some, (h.at' j _ _ h1 h2).1]
    · rw [List.getElem?_eq_none (by have := h.len; omega), List.getElem?_eq_none (by omega)]
      rfl
  rw [dupB_map, ← e]
  unfold dupR
  rw [← List.map_take, List.any_map]
  rfl
theorem rowFrom_all {rs : List RowR} {fz : Int} (h : ∀ (j : Nat) (r : RowR), rs[j]? = some r → rowE rs fz j r = 0) : ∀ (k i : Nat), rowFrom rs fz k i = 0
  | 0, _ => rfl
  | k + 1, i => by
    simp only [rowFrom]
    split
    · next x hx => rw [if_pos (h i x hx), rowFrom_all h k (i + 1)]
    · rfl
theorem rows_ok {m : Int} (hm : 0 ≤ m) {xs : List OpR} {rs : List RowR} (h : RowsOf m xs rs) (hE : openE xs = 0) (n : Nat) : rowFrom rs (firstV rs) n 0 = 0 := by
  have hok := ok_of hE
  refine rowFrom_all (fun j r hr => ?_) _ _
  have hjl := (List.getElem?_eq_some_iff.1 hr).1
  obtain ⟨y, hy⟩ : ∃ y, xs[j]? = some y := ⟨xs[j]'(by have := h.len; omega), List.getElem?_eq_getElem _⟩
  obtain ⟨r1, r2, r3⟩ := h.at' j y r hy hr
  obtain ⟨n1, n2⟩ := names_ok hE hy
  obtain ⟨e0, e1, e2⟩ := hok.ends j y hy
  obtain ⟨v1, v2⟩ := vOf_in hm e1
  have hf : fitFirst rs (firstV rs) r = true := by
    unfold fitFirst
    split
    · next f hf =>
      have hfl := (List.getElem?_eq_some_iff.1 hf).1
      obtain ⟨z, hz⟩ : ∃ z, xs[(firstV rs).toNat]? = some z := ⟨xs[(firstV rs).toNat]'(by have := h.len; omega), List.getElem?_eq_getElem _⟩
      obtain ⟨_, f2, f3⟩ := h.at' _ z f hz hf
      unfold fitB
      rw [f2, r2, f3, r3, nil_list]
      rfl
    · rfl
  unfold rowE
  rw [r1, r2, r3, resE_one n1 (by omega) (by omega), dupR_of h, n2, hf]
  cases decide (0 ≤ firstV rs) <;> rfl
theorem countP_two {α β : Type} (P : α → Bool) (Q : β → Bool) : ∀ (xs : List α) (ys : List β), xs.length = ys.length → (∀ (j : Nat) (a : α) (b : β), xs[j]? = some a → ys[j]? = some b → P a = Q b) → xs.countP P = ys.countP Q
  | [], [], _, _ => rfl
  | [], _ :: _, h, _ => by simp at h
  | _ :: _, [], h, _ => by simp at h
  | x :: xs, y :: ys, h, hp => by
    rw [List.countP_cons, List.countP_cons, hp 0 x y rfl rfl, countP_two P Q xs ys (by simpa using h) fun j a b ha hb => hp (j + 1) a b (by simpa using ha) (by simpa using hb)]
theorem cmpR_one {x y : RowR} {u v : Int} (hx : x.st = ⟨#[]⟩) (hy : y.st = ⟨#[]⟩) (hu : x.xs = [u]) (hv : y.xs = [v]) : decide (cmpR x y < 0) = decide (v < u) := by
  unfold cmpR ordZ
  rw [firstE_pair, hx, hy, hu, hv, cmpZ_self, if_pos rfl]
  show decide ((if cmpZ v u = 0 then (0 : Int) else cmpZ v u) < 0) = decide (v < u)
  rcases cmpZ_cases v u with ⟨h, e⟩ | ⟨h, e⟩ | ⟨h, e⟩
  · rw [e, if_neg (by decide), decide_eq_true h]
    rfl
  · rw [e, if_pos rfl, decide_eq_false (show ¬ v < u by omega)]
    rfl
  · rw [e, if_neg (by decide), decide_eq_false (show ¬ v < u by omega)]
    rfl
/-- the rank of a result is the one rank that is left -/
theorem rank_best {m : Int} {xs : List OpR} {rs : List RowR} (h : RowsOf m xs rs) {c : Nat} {x : OpR} {r : RowR} (hx : xs[c]? = some x) (hr : rs[c]? = some r) : rankR rs r = bestN (xs.map (decO m)) c (decO m x) := by
  unfold rankR bestN
  obtain ⟨_, r2, r3⟩ := h.at' c x r hx hr
  have h1 : cnt (surP c (decO m x).hi) (xs.map (decO m)) 0 = cnt (fun _ y => decide (vOf m x < y.lo)) (xs.map (decO m)) 0 := by
    refine Int.le_antisymm (cnt_mono2 _ _ _ _ 0 rfl fun j a b ha hb hp => ?_) (cnt_mono2 _ _ _ _ 0 rfl fun j a b ha hb hp => ?_)
    · rw [ha] at hb
      cases hb
      unfold surP at hp
      rw [Bool.and_eq_true] at hp
      exact hp.2
    · rw [ha] at hb
      cases hb
      unfold surP
      rw [Bool.and_eq_true]
      refine ⟨?_, hp⟩
      rw [Bool.not_eq_true', beq_eq_false_iff_ne]
      intro e
      have hjc : j = c := by omega
      subst hjc
      rw [List.getElem?_map, hx, Option.map_some] at ha
      cases ha
      rw [decide_eq_true_eq] at hp
      exact absurd hp (Int.lt_irrefl _)
  rw [h1, cnt_plain]
  congr 2
  refine countP_two _ _ _ _ (by simp [h.len]) fun j a b ha hb => ?_
  rw [List.getElem?_map, Option.map_eq_some_iff] at hb
  obtain ⟨y, hy, rfl⟩ := hb
  obtain ⟨_, a2, a3⟩ := h.at' j y a hy ha
  exact cmpR_one a2 r2 a3 r3
/-- the list with one value decided -/
def fewL (m : Int) (k : Nat) (xs : List OpR) : List OpR := match xs[k]? with
  | some y => xs.set k (decO m y)
  | none => xs
theorem fewL_at {m : Int} {k : Nat} {xs : List OpR} {y : OpR} (h : xs[k]? = some y) : fewL m k xs = xs.set k (decO m y) := by unfold fewL; rw [h]
theorem few_each {m : Int} {k : Nat} {xs : List OpR} (j : Nat) (a b : OpR) (ha : xs[j]? = some a) (hb : (fewL m k xs)[j]? = some b) : b = a ∨ b = decO m a := by
  unfold fewL at hb
  split at hb
  · next y hy =>
    rw [List.getElem?_set] at hb
    split at hb
    · next hkj =>
      subst hkj
      rw [hy] at ha
      cases ha
      split at hb
      · cases hb; exact .inr rfl
      · cases hb
    · rw [ha] at hb
      cases hb
      exact .inl rfl
  · rw [ha] at hb
    cases hb
    exact .inl rfl
theorem fewL_len (m : Int) (k : Nat) (xs : List OpR) : xs.length = (fewL m k xs).length := by
  unfold fewL
  split <;> simp
theorem few_same {m : Int} (hm : 0 ≤ m) (k : Nat) {xs : List OpR} (hok : OkR xs) : SameN xs (fewL m k xs) := by
  refine ⟨fewL_len m k xs, fun j a b ha hb => ?_, fun j b hb => ?_⟩
  · rcases few_each j a b ha hb with rfl | rfl <;> rfl
  · have hjl := (List.getElem?_eq_some_iff.1 hb).1
    obtain ⟨a, ha⟩ : ∃ a, xs[j]? = some a := ⟨xs[j]'(by have := fewL_len m k xs; omega), List.getElem?_eq_getElem _⟩
    have he := hok.ends j a ha
    rcases few_each j a b ha hb with rfl | rfl
    · exact he
    · have := vOf_in hm he.2.1
      exact ⟨by show 0 ≤ vOf m a; omega, Int.le_refl _, by show vOf m a ≤ 99999; omega⟩
theorem dec_same {m : Int} (hm : 0 ≤ m) {xs : List OpR} (hok : OkR xs) : SameN xs (xs.map (decO m)) := by
  refine ⟨by simp, fun j a b ha hb => ?_, fun j b hb => ?_⟩
  · rw [List.getElem?_map, ha, Option.map_some] at hb
    cases hb
    rfl
  · rw [List.getElem?_map, Option.map_eq_some_iff] at hb
    obtain ⟨a, ha, rfl⟩ := hb
    have he := hok.ends j a ha
    have := vOf_in hm he.2.1
    exact ⟨by show 0 ≤ vOf m a; omega, Int.le_refl _, by show vOf m a ≤ 99999; omega⟩
theorem few_narrow {m : Int} (hm : 0 ≤ m) (k : Nat) {xs : List OpR} (hok : OkR xs) (j : Nat) (a b : OpR) (ha : xs[j]? = some a) (hb : (fewL m k xs)[j]? = some b) : a.lo ≤ b.lo ∧ b.lo ≤ b.hi ∧ b.hi ≤ a.hi := by
  have he := hok.ends j a ha
  rcases few_each j a b ha hb with rfl | rfl
  · exact ⟨Int.le_refl _, he.2.1, Int.le_refl _⟩
  · have := vOf_in hm he.2.1
    exact ⟨this.1, Int.le_refl _, this.2⟩
end Go.Proofs.YtimbcjldejifaaaGreatDoor
namespace Go.Proofs.YtimbcjldejifaaaGreatDoor
open Go.RowKit Go.Lib
set_option linter.unusedSimpArgs false
set_option linter.unusedVariables false
end Go.Proofs.YtimbcjldejifaaaGreatDoor
namespace Go.Proofs.YtimbcjldejifaaaGreatDoor
open Go.RowKit Go.Lib
set_option linter.unusedSimpArgs false
set_option linter.unusedVariables false
/-- the slice v reads as the integers xs -/
structure ReadsI (w : World) (v : Value) (xs : List Int) : Prop where
  mk' ::
  out : ∃ p cap, v = .slice p xs.length cap ∧ (0 < xs.length → ∃ g, p = some ⟨g, 0, none⟩ ∧ ∀ i x, xs[i]? = some x → w.cell? ⟨g, i, none⟩ = some (.int .i64 x))
theorem ReadsI.gr {w w' : World} {v : Value} {xs : List Int} (h : ReadsI w v xs) (k : Gr w w') : ReadsI w' v xs := by
  obtain ⟨⟨p, cap, rfl, hh⟩⟩ := h
  refine ⟨p, cap, rfl, fun h0 => ?_⟩
  obtain ⟨g, h1, h2⟩ := hh h0
  exact ⟨g, h1, fun i x hx => k.cell (h2 i x hx)⟩
theorem reads_of_owns {w : World} {base : Nat} {v : Value} {xs : List Int} (h : w.ownsRow base 3 1 v xs.length (ints xs)) : ReadsI w v xs := by
  rcases h.2 with ⟨rfl, h0⟩ | ⟨g, cap, cur, rfl, _⟩
  · exact ⟨none, 0, by rw [h0], fun h => by omega⟩
  · refine ⟨some ⟨g, 0, none⟩, cap, rfl, fun _ => ⟨g, rfl, fun i x hx => ?_⟩⟩
    have := h.cells (g := g) rfl i (.int .i64 x) (by simp [ints, hx])
    rwa [show (⟨g, 0, none⟩ : Addr).add i = ⟨g, i, none⟩ by unfold Addr.add; split <;> simp_all] at this
set_option maxHeartbeats 1000000 in
set_option maxRecDepth 100000 in
theorem same_pos (xs : List Int) (n g g2 c c2 : Nat) (w : World) (hn : xs.length = n) (ha : ∀ i x, xs[i]? = some x → w.cell? ⟨g, i, none⟩ = some (.int .i64 x)) (hb : ∀ i x, xs[i]? = some x → w.cell? ⟨g2, i, none⟩ = some (.int .i64 x)) (hs : n ≤ 1000) :
    Calls Tryz.prog 15 #[.slice (some ⟨g, 0, none⟩) n c, .slice (some ⟨g2, 0, none⟩) n c2] w fun e w' => e = .returned (.bool true) ∧ Gr w w' := by
  have HA := Lib.hid ha
  have HB := Lib.hid hb
  have HN := Lib.hid hn
  clear ha hb hn
  go_enter Tryz.func15, Tryz.ntmps15
  go_wp2_with fail
  go_loopg [5] n (fun gk s5 wr => ∃ k : Nat, s5 = .int .i64 k ∧ gk + k = n ∧ Gr w wr)
  case atStart => exact ⟨0, rfl, by omega, Gr.refl _⟩
  case round =>
    obtain ⟨k, rfl, hk, hg⟩ := hrel
    by_cases hlt : k < n
    · obtain ⟨x, hx⟩ : ∃ x, xs[k]? = some x := ⟨xs[k]'(by have := HN.out; omega), List.getElem?_eq_getElem _⟩
      have a0 : wr.cell? ⟨g, k, none⟩ = some (.int .i64 x) := hg.cell (HA.out k x hx)
      have b0 : wr.cell? ⟨g2, k, none⟩ = some (.int .i64 x) := hg.cell (HB.out k x hx)
      have hi : (k : Int) < (n : Int) := by omega
      clear hx
      go_wp2_with fail
      go_quiet (fail)
      go_wp2_with fail
      go_roundg (gk - 1)
      case measure => omega
      case rel => exact ⟨k + 1, by go_num, by omega, hg.drewN _⟩
    · have : k = n := by omega
      subst this
      go_wp2_with fail
      go_ret
      exact ⟨rfl, hg⟩
set_option maxRecDepth 100000 in
theorem same_nil (p p2 : Option Addr) (c c2 : Nat) (w : World) :
    Calls Tryz.prog 15 #[.slice p 0 c, .slice p2 0 c2] w fun e w' => e = .returned (.bool true) ∧ w = w' := by
  go_enter Tryz.func15, Tryz.ntmps15
  go_wp2_with fail
  refine wp_loop_rounds 1 ?_
  rw [rounds_succ]
  go_wp2_with fail
  go_ret
  exact ⟨rfl, rfl⟩
theorem same_c {xs : List Int} {v v2 : Value} {w : World} (h : ReadsI w v xs) (h2 : ReadsI w v2 xs) (hs : xs.length ≤ 1000) :
    Calls Tryz.prog 15 #[v, v2] w fun e w' => e = .returned (.bool true) ∧ Gr w w' := by
  obtain ⟨⟨p, cap, rfl, ha⟩⟩ := h
  obtain ⟨⟨p2, cap2, rfl, hb⟩⟩ := h2
  by_cases h0 : 0 < xs.length
  · obtain ⟨g, rfl, a⟩ := ha h0
    obtain ⟨g2, rfl, b⟩ := hb h0
    exact same_pos xs _ g g2 cap cap2 w rfl a b hs
  · rw [show xs.length = 0 by omega]
    refine (same_nil p p2 cap cap2 w).mono ?_
    rintro e w' ⟨rfl, rfl⟩
    exact ⟨rfl, Gr.refl _⟩
end Go.Proofs.YtimbcjldejifaaaGreatDoor
namespace Go.Proofs.YtimbcjldejifaaaGreatDoor
open Go.RowKit Go.Lib
set_option linter.unusedSimpArgs false
set_option linter.unusedVariables false
end Go.Proofs.YtimbcjldejifaaaGreatDoor
