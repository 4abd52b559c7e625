/- The library's stable sort: symMerge, whole; what an insertion sort leaves as it was. -/
import Derived.Test.YtlcbdgmclhdofaaGreatDoorSzF
namespace Go.Proofs.YtlcbdgmclhdofaaGreatDoor
open Go.RowKit Go.Lib
set_option linter.unusedSimpArgs false
set_option linter.unusedVariables false
variable {Mx : Nat}
set_option linter.unusedSectionVars false
open Go.Sort Go.Shelf in
theorem symMerge_c (mm : Fin (Mx + 1) → Int) (cb : Array Value) {w0 : World} {blk off : Nat} {d0 : Array (Fin (Mx + 1))} (R : Row1 encN w0 blk off d0) (N : Nat) (hN : d0.size = N) (hsz : N < 4611686018427387904) (hC : CmpLays1 Tryz.prog 93 cb encN (cmpK mm) blk off N w0) (cap : Nat) :
    ∀ (n : Nat) (L A B Q : List (Fin (Mx + 1))) (a m b : Nat) (w : World), b - a = n → 0 < A.length → 0 < B.length → a = L.length → m = L.length + A.length → b = L.length + A.length + B.length → N = L.length + A.length + B.length + Q.length → Asc (ltK mm) A → Asc (ltK mm) B → SW encN w0 blk off (L ++ (A ++ (B ++ Q))).toArray w →
      Calls Tryz.prog 153 #[.slice (some ⟨blk, off, none⟩) N cap, .int .i64 (a : Int), .int .i64 (m : Int), .int .i64 (b : Int), .func (.func 93) #[] cb] w fun e w' => e = .returned (.tuple #[]) ∧ SW encN w0 blk off (L ++ (mrg (ltK mm) A B ++ Q)).toArray w' := by
  intro n
  induction n using Nat.strongRecOn with
  | _ n ih =>
    intro L A B Q a m b w hn hA hB ha hm hb hs sA sB S
    by_cases h1 : A.length = 1
    · obtain ⟨x, rfl⟩ := List.length_eq_one_iff.1 h1
      simp only [List.length_singleton] at hm hb hs
      exact symOneL_c mm cb R N hN hsz hC L B Q x a m b cap w ha hm hb hB hs sB S
    · by_cases h2 : B.length = 1
      · obtain ⟨y, rfl⟩ := List.length_eq_one_iff.1 h2
        simp only [List.length_singleton] at hb hs
        exact symOneR_c mm cb R N hN hsz hC L A Q y a m b cap w ha hm hb (by omega) hs sA S
      · exact symMany_c mm cb R N hN hsz hC L A B Q a m b cap w ha hm hb (by omega) (by omega) hs sA sB
          (fun L' A' B' Q' a' m' b' W' hlt hA' hB' ha' hm' hb' hs' sA' sB' S' => ih (b' - a') (by omega) L' A' B' Q' a' m' b' W' rfl hA' hB' ha' hm' hb' hs' sA' sB' S') S
section
open Go.Sort
variable {α : Type} [Inhabited α] {lt : α → α → Bool} {p : α → Bool}
theorem swap_filter (d : Array α) (j : Nat) (hj : j + 1 < d.size) (h : ¬ (p d[j + 1]! = true ∧ p d[j]! = true)) : (swp d (j + 1) j).toList.filter p = d.toList.filter p := by
  have hl : d.toList.length = d.size := by simp
  have e1 : d.toList = d.toList.take j ++ d[j]! :: ([] ++ d[j + 1]! :: d.toList.drop (j + 2)) := by
    conv => lhs; rw [← List.take_append_drop j d.toList]
    congr 1
    rw [List.drop_eq_getElem_cons (by omega), List.nil_append, List.drop_eq_getElem_cons (i := j + 1) (by omega)]
    congr 1
    · rw [getElem!_pos d j (by omega)]; simp
    · congr 1
      rw [getElem!_pos d (j + 1) hj]; simp
  have e2 : d = (d.toList.take j ++ d[j]! :: ([] ++ d[j + 1]! :: d.toList.drop (j + 2))).toArray := by
    apply Array.toList_inj.1
    simpa using e1
  have hs := swp_list (d.toList.take j) [] (d.toList.drop (j + 2)) d[j]! d[j + 1]! j (j + 1) (by rw [List.length_take]; omega) (by rw [List.length_take]; simp; omega)
  rw [← e2] at hs
  rw [swp_comm' d j (j + 1) (by omega) hj, hs]
  conv => rhs; rw [e1]
  simp only [List.filter_append, List.filter_cons, List.filter_nil, List.nil_append, List.toList_toArray]
  clear hs e1 e2 hl
  cases hp1 : p d[j]! <;> cases hp2 : p d[j + 1]! <;> simp [hp1, hp2] at h ⊢
theorem insInner_size' (a : Nat) : ∀ (j : Nat) (d : Array α), (insInner lt a j d).size = d.size
  | 0, d => by simp [insInner]
  | j + 1, d => by
    unfold insInner
    split
    · rw [insInner_size' a j, size_swp]
    · rfl
theorem insInner_filter' (hp : ∀ x y, lt x y = true → ¬ (p x = true ∧ p y = true)) (a : Nat) : ∀ (j : Nat) (d : Array α), j < d.size → (insInner lt a j d).toList.filter p = d.toList.filter p
  | 0, d, _ => by simp [insInner]
  | j + 1, d, hj => by
    unfold insInner
    split
    · rename_i h
      simp only [Bool.and_eq_true] at h
      rw [insInner_filter' hp a j _ (by rw [size_swp]; omega)]
      exact swap_filter d j hj (hp _ _ h.2)
    · rfl
theorem insOuter_filter' (hp : ∀ x y, lt x y = true → ¬ (p x = true ∧ p y = true)) (a b : Nat) : ∀ (k i : Nat) (d : Array α), b - i = k → b ≤ d.size → (insOuter lt a b i d).toList.filter p = d.toList.filter p
  | 0, i, d, hk, _ => by
    unfold insOuter
    rw [if_neg (by omega)]
  | k + 1, i, d, hk, hb => by
    unfold insOuter
    rw [if_pos (by omega), insOuter_filter' hp a b k (i + 1) _ (by omega) (by rw [insInner_size']; exact hb)]
    exact insInner_filter' hp a i d (by omega)
theorem ins_filter' (hp : ∀ x y, lt x y = true → ¬ (p x = true ∧ p y = true)) (d : Array α) (a b : Nat) (hb : b ≤ d.size) : (insertionSort lt d a b).toList.filter p = d.toList.filter p := insOuter_filter' hp a b _ _ d rfl hb
/-- the part of a list from a place to another one -/
def seg (l : List α) (a b : Nat) : List α := (l.take b).drop a
theorem seg_at {l : List α} {a b i : Nat} : (seg l a b)[i]? = if a + i < b then l[a + i]? else none := by
  unfold seg
  rw [List.getElem?_drop, List.getElem?_take]
theorem seg_same {l r : List α} {a b : Nat} (h : ∀ i, a ≤ i → i < b → l[i]? = r[i]?) : seg l a b = seg r a b := by
  apply List.ext_getElem?
  intro i
  rw [seg_at, seg_at]
  split
  · exact h (a + i) (by omega) (by omega)
  · rfl
theorem seg_app {L A Q : List α} {a b : Nat} (ha : a = L.length) (hb : b = L.length + A.length) : seg (L ++ (A ++ Q)) a b = A := by
  subst ha hb
  unfold seg
  rw [← List.append_assoc, List.take_left' (by simp), List.drop_left]
theorem seg_cut (l : List α) {a m b : Nat} (h1 : a ≤ m) (h2 : m ≤ b) (h3 : b ≤ l.length) : l = l.take a ++ (seg l a m ++ (seg l m b ++ l.drop b)) ∧ (seg l a m).length = m - a ∧ (seg l m b).length = b - m := by
  refine ⟨?_, by simp [seg]; omega, by simp [seg]; omega⟩
  apply List.ext_getElem?
  intro i
  by_cases q1 : i < a
  · rw [List.getElem?_append_left (by rw [List.length_take]; omega), List.getElem?_take, if_pos q1]
  · rw [List.getElem?_append_right (by rw [List.length_take]; omega), List.length_take, Nat.min_eq_left (by omega)]
    by_cases q2 : i < m
    · rw [List.getElem?_append_left (by simp [seg]; omega), seg_at, if_pos (by omega), show a + (i - a) = i by omega]
    · rw [List.getElem?_append_right (by simp [seg]; omega)]
      rw [show (seg l a m).length = m - a by simp [seg]; omega]
      by_cases q3 : i < b
      · rw [List.getElem?_append_left (by simp [seg]; omega), seg_at, if_pos (by omega), show m + (i - a - (m - a)) = i by omega]
      · rw [List.getElem?_append_right (by simp [seg]; omega), List.getElem?_drop]
        rw [show (seg l m b).length = b - m by simp [seg]; omega, show b + (i - a - (m - a) - (b - m)) = i by omega]
theorem asc_of_sorted {l : Array α} {a b : Nat} (hb : b ≤ l.size) (h : SortedIn lt a b l) : Asc lt (seg l.toList a b) := by
  unfold Asc
  rw [List.pairwise_iff_getElem]
  intro i j hi hj hij
  have hlen : (seg l.toList a b).length = b - a := by simp [seg]; omega
  have e1 : (seg l.toList a b)[i]? = l.toList[a + i]? := by rw [seg_at, if_pos (by omega)]
  have e2 : (seg l.toList a b)[j]? = l.toList[a + j]? := by rw [seg_at, if_pos (by omega)]
  rw [List.getElem?_eq_getElem hi, Array.getElem?_toList, Array.getElem?_eq_getElem (by omega)] at e1
  rw [List.getElem?_eq_getElem hj, Array.getElem?_toList, Array.getElem?_eq_getElem (by omega)] at e2
  simp only [Option.some.injEq] at e1 e2
  rw [e1, e2]
  have := h (a + i) (a + j) (by omega) (by omega) (by omega)
  rwa [getElem!_pos l (a + i) (by omega), getElem!_pos l (a + j) (by omega)] at this
end
end Go.Proofs.YtlcbdgmclhdofaaGreatDoor
namespace Go.Proofs.YtlcbdgmclhdofaaGreatDoor
open Go.RowKit Go.Lib
set_option linter.unusedSimpArgs false
set_option linter.unusedVariables false
variable {Mx : Nat}
/-- the same elements in the same order at each size, as many -/
structure Flt (key : Fin (Mx + 1) → Int) (l r : List (Fin (Mx + 1))) : Prop where
  len : r.length = l.length
  flt : ∀ k, r.filter (fun x => key x == k) = l.filter (fun x => key x == k)
theorem Flt.trans {key : Fin (Mx + 1) → Int} {a b c : List (Fin (Mx + 1))} (h : Flt key a b) (k : Flt key b c) : Flt key a c := ⟨k.len.trans h.len, fun q => (k.flt q).trans (h.flt q)⟩
/-- only what lies between two places is moved -/
def Out (r r' : List (Fin (Mx + 1))) (a b : Nat) : Prop := ∀ i, (i < a ∨ b ≤ i) → r'[i]? = r[i]?
structure Stp (key : Fin (Mx + 1) → Int) (r r' : List (Fin (Mx + 1))) (a b : Nat) : Prop where
  flt : Flt key r r'
  asc : Asc (ltK key) (seg r' a b)
  out : Out r r' a b
theorem ltOf_key (mm : Fin (Mx + 1) → Int) : ltOf (cmpK mm) = ltK mm := by
  funext x y
  rw [lt_cmpK]; rfl
open Go.Sort in
theorem ins_step (mm : Fin (Mx + 1) → Int) (r : List (Fin (Mx + 1))) {a b : Nat} (hab : a ≤ b) (hb : b ≤ r.length) : Stp mm r (insertionSort (ltOf (cmpK mm)) r.toArray a b).toList a b := by
  obtain ⟨hp, hso⟩ := insertionSort_holds (swo_cmpK mm) r.toArray a b hab (by simpa using hb)
  have hsz : (insertionSort (ltOf (cmpK mm)) r.toArray a b).size = r.length := by rw [hp.1]; simp
  refine ⟨⟨by rw [Array.length_toList, hsz], fun k => ?_⟩, ?_, fun i hi => ?_⟩
  · have := ins_filter' (lt := ltOf (cmpK mm)) (p := fun x => mm x == k) (fun x y h hh => by
      rw [lt_cmpK] at h
      have := of_decide_eq_true h
      simp at hh
      omega) r.toArray a b (by simpa using hb)
    simpa using this
  · rw [← ltOf_key]
    exact asc_of_sorted (by omega) hso
  · have h1 := hp.2.1 i hi
    rw [Array.getElem?_toList]
    by_cases hl : i < r.length
    · rw [getElem!_pos _ i (by omega), getElem!_pos _ i (by simpa using hl)] at h1
      rw [Array.getElem?_eq_getElem (by omega), h1]
      simp [hl]
    · rw [Array.getElem?_eq_none (by omega), List.getElem?_eq_none (by omega)]
theorem mrg_step (key : Fin (Mx + 1) → Int) (r : List (Fin (Mx + 1))) {a m b : Nat} (h1 : a ≤ m) (h2 : m ≤ b) (h3 : b ≤ r.length) (sA : Asc (ltK key) (seg r a m)) (sB : Asc (ltK key) (seg r m b)) : Stp key r (r.take a ++ (mrg (ltK key) (seg r a m) (seg r m b) ++ r.drop b)) a b := by
  obtain ⟨e, l1, l2⟩ := seg_cut r h1 h2 h3
  have lm : (mrg (ltK key) (seg r a m) (seg r m b)).length = b - a := by rw [mrg_len _ _ _ _ rfl]; omega
  have lt : (r.take a).length = a := by rw [List.length_take]; omega
  refine ⟨⟨?_, fun k => ?_⟩, ?_, fun i hi => ?_⟩
  · rw [List.length_append, List.length_append, lm, lt, List.length_drop]; omega
  · rw [List.filter_append, List.filter_append, mrg_filter key k _ _ _ rfl sA]
    conv => rhs; rw [e]
    simp
  · rw [seg_app lt.symm (by rw [lt, lm]; omega)]
    exact mrg_asc key _ _ _ rfl sA sB
  · rcases hi with hi | hi
    · rw [List.getElem?_append_left (by omega), List.getElem?_take, if_pos hi]
    · rw [List.getElem?_append_right (by omega), List.getElem?_append_right (by omega), List.getElem?_drop, lt, lm, show b + (i - a - (b - a)) = i by omega]
theorem seg_low {r r' : List (Fin (Mx + 1))} {a b x y : Nat} (h : Out r r' a b) (hy : y ≤ a) : seg r' x y = seg r x y := seg_same fun i _ hi => h i (.inl (by omega))
theorem seg_high {r r' : List (Fin (Mx + 1))} {a b x y : Nat} (h : Out r r' a b) (hx : b ≤ x) : seg r' x y = seg r x y := seg_same fun i hi _ => h i (.inr (by omega))
theorem seg_end {r : List (Fin (Mx + 1))} {a b n : Nat} (hn : r.length = n) (hb : n ≤ b) : seg r a b = seg r a n := by
  unfold seg
  rw [List.take_of_length_le (by omega), List.take_of_length_le (by omega)]
theorem seg_none {r : List (Fin (Mx + 1))} {a b : Nat} (h : r.length ≤ a) : seg r a b = [] := by
  unfold seg
  exact List.drop_eq_nil_of_le (by rw [List.length_take]; omega)
theorem asc_nil (key : Fin (Mx + 1) → Int) : Asc (ltK key) [] := List.Pairwise.nil
/-- ascending in blocks; the first t double ones already merged -/
structure Blks (key : Fin (Mx + 1) → Int) (r : List (Fin (Mx + 1))) (bs : Nat) : Prop where
  at' : ∀ u, Asc (ltK key) (seg r (bs * u) (bs * u + bs))
structure Half (key : Fin (Mx + 1) → Int) (r : List (Fin (Mx + 1))) (bs t : Nat) : Prop where
  lo : ∀ u, u < t → Asc (ltK key) (seg r (2 * bs * u) (2 * bs * u + 2 * bs))
  hi : ∀ u, 2 * t ≤ u → Asc (ltK key) (seg r (bs * u) (bs * u + bs))
structure Firsts (key : Fin (Mx + 1) → Int) (r : List (Fin (Mx + 1))) (t : Nat) : Prop where
  lo : ∀ u, u < t → Asc (ltK key) (seg r (20 * u) (20 * u + 20))
theorem Firsts.step {key : Fin (Mx + 1) → Int} {r r' : List (Fin (Mx + 1))} {t : Nat} (h : Firsts key r t) (s : Stp key r r' (20 * t) (20 * t + 20)) : Firsts key r' (t + 1) := ⟨fun u hu => by
  rcases Nat.lt_or_ge u t with h1 | h1
  · rw [seg_low s.out (by omega)]; exact h.lo u h1
  · obtain rfl : u = t := by omega
    exact s.asc⟩
theorem Firsts.last {key : Fin (Mx + 1) → Int} {r r' : List (Fin (Mx + 1))} {t n : Nat} (h : Firsts key r t) (hn : r.length = n) (hb : n < 20 * t + 20) (s : Stp key r r' (20 * t) n) : Blks key r' 20 := ⟨fun u => by
  have hn' : r'.length = n := by rw [s.flt.len, hn]
  rcases Nat.lt_trichotomy u t with h1 | h1 | h1
  · rw [seg_low s.out (by omega)]; exact h.lo u h1
  · subst h1
    rw [seg_end hn' (by omega)]; exact s.asc
  · rw [seg_none (by omega)]; exact asc_nil key⟩
theorem Half.step {key : Fin (Mx + 1) → Int} {r r' : List (Fin (Mx + 1))} {bs t : Nat} (h : Half key r bs t) (s : Stp key r r' (2 * bs * t) (2 * bs * t + 2 * bs)) : Half key r' bs (t + 1) := by
  refine ⟨fun u hu => ?_, fun u hu => ?_⟩
  · rcases Nat.lt_or_ge u t with h1 | h1
    · have h2 : 2 * bs * (u + 1) ≤ 2 * bs * t := Nat.mul_le_mul_left _ (by omega)
      rw [Nat.mul_add] at h2
      rw [seg_low s.out (by omega)]; exact h.lo u h1
    · obtain rfl : u = t := by omega
      exact s.asc
  · have h2 : bs * (2 * (t + 1)) ≤ bs * u := Nat.mul_le_mul_left _ (by omega)
    have h3 : bs * (2 * (t + 1)) = 2 * bs * t + 2 * bs := by rw [Nat.mul_comm 2 bs, Nat.mul_assoc, ← Nat.mul_add]; congr 1
    rw [seg_high s.out (by omega)]; exact h.hi u (by omega)
theorem two_mul_at (bs t : Nat) : bs * (2 * t) = 2 * bs * t := by rw [Nat.mul_comm 2 bs, Nat.mul_assoc]
theorem two_mul_at1 (bs t : Nat) : bs * (2 * t + 1) = 2 * bs * t + bs := by rw [Nat.mul_add, two_mul_at, Nat.mul_one]
theorem Half.merge {key : Fin (Mx + 1) → Int} {r r' : List (Fin (Mx + 1))} {bs t n : Nat} (h : Half key r bs t) (hn : r.length = n) (hb : n < 2 * bs * t + 2 * bs) (s : Stp key r r' (2 * bs * t) n) : Blks key r' (2 * bs) := ⟨fun u => by
  have hn' : r'.length = n := by rw [s.flt.len, hn]
  rcases Nat.lt_trichotomy u t with h1 | h1 | h1
  · have h2 : 2 * bs * (u + 1) ≤ 2 * bs * t := Nat.mul_le_mul_left _ (by omega)
    rw [Nat.mul_add] at h2
    rw [seg_low s.out (by omega)]; exact h.lo u h1
  · subst h1
    rw [seg_end hn' (by omega)]; exact s.asc
  · have h2 : 2 * bs * (t + 1) ≤ 2 * bs * u := Nat.mul_le_mul_left _ (by omega)
    rw [Nat.mul_add] at h2
    rw [seg_none (by omega)]; exact asc_nil key⟩
theorem Half.rest {key : Fin (Mx + 1) → Int} {r : List (Fin (Mx + 1))} {bs t n : Nat} (h : Half key r bs t) (hn : r.length = n) (hb : n ≤ 2 * bs * t + bs) : Blks key r (2 * bs) := ⟨fun u => by
  rcases Nat.lt_trichotomy u t with h1 | h1 | h1
  · exact h.lo u h1
  · subst h1
    have := h.hi (2 * u) (Nat.le_refl _)
    rw [two_mul_at] at this
    rw [seg_end hn (by omega)]
    rwa [seg_end hn (by omega)] at this
  · have h2 : 2 * bs * (t + 1) ≤ 2 * bs * u := Nat.mul_le_mul_left _ (by omega)
    rw [Nat.mul_add] at h2
    rw [seg_none (by omega)]; exact asc_nil key⟩
theorem Blks.half {key : Fin (Mx + 1) → Int} {r : List (Fin (Mx + 1))} {bs : Nat} (h : Blks key r bs) : Half key r bs 0 := ⟨fun u hu => absurd hu (by omega), fun u _ => h.at' u⟩
theorem Blks.whole {key : Fin (Mx + 1) → Int} {r : List (Fin (Mx + 1))} {bs n : Nat} (h : Blks key r bs) (hn : r.length = n) (hb : n ≤ bs) : Asc (ltK key) r := by
  have := h.at' 0
  rw [Nat.mul_zero, Nat.zero_add] at this
  unfold seg at this
  rwa [List.take_of_length_le (by omega), List.drop_zero] at this
end Go.Proofs.YtlcbdgmclhdofaaGreatDoor
