/- The library's stable sort: symMerge, whole; what an insertion sort leaves as it was. -/
import Derived.Test.YtcnpmebihdonoaaGreatDoorSzF
import Derived.Test.YtcnpmebihdonoaaGreatDoorGCmp
import Derived.Test.YtcnpmebihdonoaaGreatDoorGOpN
import Derived.BigRegion
import Derived.BigQuiet
import Derived.Laws.Rows
namespace Go.Proofs.YtcnpmebihdonoaaGreatDoor
open Go.RowKit Go.Lib
set_option linter.unusedSimpArgs false
set_option linter.unusedVariables false
variable {Mx : Nat}
set_option linter.unusedSectionVars false
open Go.Sort Go.Shelf in
theorem symMerge_c (mm : Fin (Mx + 1) → Int) (cb : Array Value) {w0 : World} {blk off : Nat} {d0 : Array (Fin (Mx + 1))} (R : Row1 encN w0 blk off d0) (N : Nat) (hN : d0.size = N) (hsz : N < 4611686018427387904) (hC : CmpLays1 Tryz.prog 88 cb encN (cmpK mm) blk off N w0) (cap : Nat) :
    ∀ (n : Nat) (L A B Q : List (Fin (Mx + 1))) (a m b : Nat) (w : World), b - a = n → 0 < A.length → 0 < B.length → a = L.length → m = L.length + A.length → b = L.length + A.length + B.length → N = L.length + A.length + B.length + Q.length → Asc (ltK mm) A → Asc (ltK mm) B → SW encN w0 blk off (L ++ (A ++ (B ++ Q))).toArray w →
      Calls Tryz.prog 146 #[.slice (some ⟨blk, off, none⟩) N cap, .int .i64 (a : Int), .int .i64 (m : Int), .int .i64 (b : Int), .func (.func 88) #[] cb] w fun e w' => e = .returned (.tuple #[]) ∧ SW encN w0 blk off (L ++ (mrg (ltK mm) A B ++ Q)).toArray w' := by
  intro n
  induction n using Nat.strongRecOn with
  | _ n ih =>
    intro L A B Q a m b w hn hA hB ha hm hb hs sA sB S
    by_cases h1 : A.length = 1
    · obtain ⟨x, rfl⟩ := List.length_eq_one_iff.1 h1
      simp only [List.length_singleton] at hm hb hs
      exact symOneL_c mm cb R N hN hsz hC L B Q x a m b cap w ha hm hb hB hs sB S
    · by_cases h2 : B.length = 1
      · obtain ⟨y, rfl⟩ := List.length_eq_one_iff.1 h2
        simp only [List.length_singleton] at hb hs
        exact symOneR_c mm cb R N hN hsz hC L A Q y a m b cap w ha hm hb (by omega) hs sA S
      · exact symMany_c mm cb R N hN hsz hC L A B Q a m b cap w ha hm hb (by omega) (by omega) hs sA sB
          (fun L' A' B' Q' a' m' b' W' hlt hA' hB' ha' hm' hb' hs' sA' sB' S' => ih (b' - a') (by omega) L' A' B' Q' a' m' b' W' rfl hA' hB' ha' hm' hb' hs' sA' sB' S') S
section
open Go.Sort
variable {α : Type} [Inhabited α] {lt : α → α → Bool} {p : α → Bool}
theorem swap_filter (d : Array α) (j : Nat) (hj : j + 1 < d.size) (h : ¬ (p d[j + 1]! = true ∧ p d[j]! = true)) : (swp d (j + 1) j).toList.filter p = d.toList.filter p := by
  have hl : d.toList.length = d.size := by simp
  have e1 : d.toList = d.toList.take j ++ d[j]! :: ([] ++ d[j + 1]! :: d.toList.drop (j + 2)) := by
    conv => lhs; rw [← List.take_append_drop j d.toList]
    congr 1
    rw [List.drop_eq_getElem_cons (by omega), List.nil_append, List.drop_eq_getElem_cons (i := j + 1) (by omega)]
    congr 1
    · rw [getElem!_pos d j (by omega)]; simp
    · congr 1
      rw [getElem!_pos d (j + 1) hj]; simp
  have e2 : d = (d.toList.take j ++ d[j]! :: ([] ++ d[j + 1]! :: d.toList.drop (j + 2))).toArray := by
    apply Array.toList_inj.1
    simpa using e1
  have hs := swp_list (d.toList.take j) [] (d.toList.drop (j + 2)) d[j]! d[j + 1]! j (j + 1) (by rw [List.length_take]; omega) (by rw [List.length_take]; simp; omega)
  rw [← e2] at hs
  rw [swp_comm' d j (j + 1) (by omega) hj, hs]
  conv => rhs; rw [e1]
  simp only [List.filter_append, List.filter_cons, List.filter_nil, List.nil_append, List.toList_toArray]
  clear hs e1 e2 hl
  cases hp1 : p d[j]! <;> cases hp2 : p d[j + 1]! <;> simp [hp1, hp2] at h ⊢
theorem insInner_size' (a : Nat) : ∀ (j : Nat) (d : Array α), (insInner lt a j d).size = d.size
  | 0, d => by simp [insInner]
  | j + 1, d => by
    unfold insInner
    split
    · rw [insInner_size' a j, size_swp]
    · rfl
theorem insInner_filter' (hp : ∀ x y, lt x y = true → ¬ (p x = true ∧ p y = true)) (a : Nat) : ∀ (j : Nat) (d : Array α), j < d.size → (insInner lt a j d).toList.filter p = d.toList.filter p
  | 0, d, _ => by simp [insInner]
  | j + 1, d, hj => by
    unfold insInner
    split
    · rename_i h
      simp only [Bool.and_eq_true] at h
      rw [insInner_filter' hp a j _ (by rw [size_swp]; omega)]
      exact swap_filter d j hj (hp _ _ h.2)
    · rfl
theorem insOuter_filter' (hp : ∀ x y, lt x y = true → ¬ (p x = true ∧ p y = true)) (a b : Nat) : ∀ (k i : Nat) (d : Array α), b - i = k → b ≤ d.size → (insOuter lt a b i d).toList.filter p = d.toList.filter p
  | 0, i, d, hk, _ => by
    unfold insOuter
    rw [if_neg (by omega)]
  | k + 1, i, d, hk, hb => by
    unfold insOuter
    rw [if_pos (by omega), insOuter_filter' hp a b k (i + 1) _ (by omega) (by rw [insInner_size']; exact hb)]
    exact insInner_filter' hp a i d (by omega)
theorem ins_filter' (hp : ∀ x y, lt x y = true → ¬ (p x = true ∧ p y = true)) (d : Array α) (a b : Nat) (hb : b ≤ d.size) : (insertionSort lt d a b).toList.filter p = d.toList.filter p := insOuter_filter' hp a b _ _ d rfl hb
/-- the part of a list from a place to another one -/
def seg (l : List α) (a b : Nat) : List α := (l.take b).drop a
theorem seg_at {l : List α} {a b i : Nat} : (seg l a b)[i]? = if a + i < b then l[a + i]? else none := by
  unfold seg
  rw [List.getElem?_drop, List.getElem?_take]
theorem seg_same {l r : List α} {a b : Nat} (h : ∀ i, a ≤ i → i < b → l[i]? = r[i]?) : seg l a b = seg r a b := by
  apply List.ext_getElem?
  intro i
  rw [seg_at, seg_at]
  split
  · exact h (a + i) (by omega) (by omega)
  · rfl
theorem seg_app {L A Q : List α} {a b : Nat} (ha : a = L.length) (hb : b = L.length + A.length) : seg (L ++ (A ++ Q)) a b = A := by
  subst ha hb
  unfold seg
  rw [← List.append_assoc, List.take_left' (by simp), List.drop_left]
theorem seg_cut (l : List α) {a m b : Nat} (h1 : a ≤ m) (h2 : m ≤ b) (h3 : b ≤ l.length) : l = l.take a ++ (seg l a m ++ (seg l m b ++ l.drop b)) ∧ (seg l a m).length = m - a ∧ (seg l m b).length = b - m := by
  refine ⟨?_, by simp [seg]; omega, by simp [seg]; omega⟩
  apply List.ext_getElem?
  intro i
  by_cases q1 : i < a
  · rw [List.getElem?_append_left (by rw [List.length_take]; omega), List.getElem?_take, if_pos q1]
  · rw [List.getElem?_append_right (by rw [List.length_take]; omega), List.length_take, Nat.min_eq_left (by omega)]
    by_cases q2 : i < m
    · rw [List.getElem?_append_left (by simp [seg]; omega), seg_at, if_pos (by omega), show a + (i - a) = i by omega]
    · rw [List.getElem?_append_right (by simp [seg]; omega)]
      rw [show (seg l a m).length = m - a by simp [seg]; omega]
      by_cases q3 : i < b
      · rw [List.getElem?_append_left (by simp [seg]; omega), seg_at, if_pos (by omega), show m + (i - a - (m - a)) = i by omega]
      · rw [List.getElem?_append_right (by simp [seg]; omega), List.getElem?_drop]
        rw [show (seg l m b).length = b - m by simp [seg]; omega, show b + (i - a - (m - a) - (b - m)) = i by omega]
theorem asc_of_sorted {l : Array α} {a b : Nat} (hb : b ≤ l.size) (h : SortedIn lt a b l) : Asc lt (seg l.toList a b) := by
  unfold Asc
  rw [List.pairwise_iff_getElem]
  intro i j hi hj hij
  have hlen : (seg l.toList a b).length = b - a := by simp [seg]; omega
  have e1 : (seg l.toList a b)[i]? = l.toList[a + i]? := by rw [seg_at, if_pos (by omega)]
  have e2 : (seg l.toList a b)[j]? = l.toList[a + j]? := by rw [seg_at, if_pos (by omega)]
  rw [List.getElem?_eq_getElem hi, Array.getElem?_toList, Array.getElem?_eq_getElem (by omega)] at e1
  rw [List.getElem?_eq_getElem hj, Array.getElem?_toList, Array.getElem?_eq_getElem (by omega)] at e2
  simp only [Option.some.injEq] at e1 e2
  rw [e1, e2]
  have := h (a + i) (a + j) (by omega) (by omega) (by omega)
  rwa [getElem!_pos l (a + i) (by omega), getElem!_pos l (a + j) (by omega)] at this
end
end Go.Proofs.YtcnpmebihdonoaaGreatDoor
namespace Go.Proofs.YtcnpmebihdonoaaGreatDoor
open Go.RowKit Go.Lib
set_option linter.unusedSimpArgs false
set_option linter.unusedVariables false
variable {Mx : Nat}
/-- the same elements in the same order at each size, as many -/
structure Flt (key : Fin (Mx + 1) → Int) (l r : List (Fin (Mx + 1))) : Prop where
  len : r.length = l.length
  flt : ∀ k, r.filter (fun x => key x == k) = l.filter (fun x => key x == k)
theorem Flt.trans {key : Fin (Mx + 1) → Int} {a b c : List (Fin (Mx + 1))} (h : Flt key a b) (k : Flt key b c) : Flt key a c := ⟨k.len.trans h.len, fun q => (k.flt q).trans (h.flt q)⟩
/-- only what lies between two places is moved -/
def Out (r r' : List (Fin (Mx + 1))) (a b : Nat) : Prop := ∀ i, (i < a ∨ b ≤ i) → r'[i]? = r[i]?
structure Stp (key : Fin (Mx + 1) → Int) (r r' : List (Fin (Mx + 1))) (a b : Nat) : Prop where
  flt : Flt key r r'
  asc : Asc (ltK key) (seg r' a b)
  out : Out r r' a b
theorem ltOf_key (mm : Fin (Mx + 1) → Int) : ltOf (cmpK mm) = ltK mm := by
  funext x y
  rw [lt_cmpK]; rfl
open Go.Sort in
theorem ins_step (mm : Fin (Mx + 1) → Int) (r : List (Fin (Mx + 1))) {a b : Nat} (hab : a ≤ b) (hb : b ≤ r.length) : Stp mm r (insertionSort (ltOf (cmpK mm)) r.toArray a b).toList a b := by
  obtain ⟨hp, hso⟩ := insertionSort_holds (swo_cmpK mm) r.toArray a b hab (by simpa using hb)
  have hsz : (insertionSort (ltOf (cmpK mm)) r.toArray a b).size = r.length := by rw [hp.1]; simp
  refine ⟨⟨by rw [Array.length_toList, hsz], fun k => ?_⟩, ?_, fun i hi => ?_⟩
  · have := ins_filter' (lt := ltOf (cmpK mm)) (p := fun x => mm x == k) (fun x y h hh => by
      rw [lt_cmpK] at h
      have := of_decide_eq_true h
      simp at hh
      omega) r.toArray a b (by simpa using hb)
    simpa using this
  · rw [← ltOf_key]
    exact asc_of_sorted (by omega) hso
  · have h1 := hp.2.1 i hi
    rw [Array.getElem?_toList]
    by_cases hl : i < r.length
    · rw [getElem!_pos _ i (by omega), getElem!_pos _ i (by simpa using hl)] at h1
      rw [Array.getElem?_eq_getElem (by omega), h1]
      simp [hl]
    · rw [Array.getElem?_eq_none (by omega), List.getElem?_eq_none (by omega)]
theorem mrg_step (key : Fin (Mx + 1) → Int) (r : List (Fin (Mx + 1))) {a m b : Nat} (h1 : a ≤ m) (h2 : m ≤ b) (h3 : b ≤ r.length) (sA : Asc (ltK key) (seg r a m)) (sB : Asc (ltK key) (seg r m b)) : Stp key r (r.take a ++ (mrg (ltK key) (seg r a m) (seg r m b) ++ r.drop b)) a b := by
  obtain ⟨e, l1, l2⟩ := seg_cut r h1 h2 h3
  have lm : (mrg (ltK key) (seg r a m) (seg r m b)).length = b - a := by rw [mrg_len _ _ _ _ rfl]; omega
  have lt : (r.take a).length = a := by rw [List.length_take]; omega
  refine ⟨⟨?_, fun k => ?_⟩, ?_, fun i hi => ?_⟩
  · rw [List.length_append, List.length_append, lm, lt, List.length_drop]; omega
  · rw [List.filter_append, List.filter_append, mrg_filter key k _ _ _ rfl sA]
    conv => rhs; rw [e]
    simp
  · rw [seg_app lt.symm (by rw [lt, lm]; omega)]
    exact mrg_asc key _ _ _ rfl sA sB
  · rcases hi with hi | hi
    · rw [List.getElem?_append_left (by omega), List.getElem?_take, if_pos hi]
    · rw [List.getElem?_append_right (by omega), List.getElem?_append_right (by omega), List.getElem?_drop, lt, lm, show b + (i - a - (b - a)) = i by omega]
theorem seg_low {r r' : List (Fin (Mx + 1))} {a b x y : Nat} (h : Out r r' a b) (hy : y ≤ a) : seg r' x y = seg r x y := seg_same fun i _ hi => h i (.inl (by omega))
theorem seg_high {r r' : List (Fin (Mx + 1))} {a b x y : Nat} (h : Out r r' a b) (hx : b ≤ x) : seg r' x y = seg r x y := seg_same fun i hi _ => h i (.inr (by omega))
theorem seg_end {r : List (Fin (Mx + 1))} {a b n : Nat} (hn : r.length = n) (hb : n ≤ b) : seg r a b = seg r a n := by
  unfold seg
  rw [List.take_of_length_le (by omega), List.take_of_length_le (by omega)]
theorem seg_none {r : List (Fin (Mx + 1))} {a b : Nat} (h : r.length ≤ a) : seg r a b = [] := by
  unfold seg
  exact List.drop_eq_nil_of_le (by rw [List.length_take]; omega)
theorem asc_nil (key : Fin (Mx + 1) → Int) : Asc (ltK key) [] := List.Pairwise.nil
/-- ascending in blocks; the first t double ones already merged -/
structure Blks (key : Fin (Mx + 1) → Int) (r : List (Fin (Mx + 1))) (bs : Nat) : Prop where
  at' : ∀ u, Asc (ltK key) (seg r (bs * u) (bs * u + bs))
structure Half (key : Fin (Mx + 1) → Int) (r : List (Fin (Mx + 1))) (bs t : Nat) : Prop where
  lo : ∀ u, u < t → Asc (ltK key) (seg r (2 * bs * u) (2 * bs * u + 2 * bs))
  hi : ∀ u, 2 * t ≤ u → Asc (ltK key) (seg r (bs * u) (bs * u + bs))
structure Firsts (key : Fin (Mx + 1) → Int) (r : List (Fin (Mx + 1))) (t : Nat) : Prop where
  lo : ∀ u, u < t → Asc (ltK key) (seg r (20 * u) (20 * u + 20))
theorem Firsts.step {key : Fin (Mx + 1) → Int} {r r' : List (Fin (Mx + 1))} {t : Nat} (h : Firsts key r t) (s : Stp key r r' (20 * t) (20 * t + 20)) : Firsts key r' (t + 1) := ⟨fun u hu => by
  rcases Nat.lt_or_ge u t with h1 | h1
  · rw [seg_low s.out (by omega)]; exact h.lo u h1
  · obtain rfl : u = t := by omega
    exact s.asc⟩
theorem Firsts.last {key : Fin (Mx + 1) → Int} {r r' : List (Fin (Mx + 1))} {t n : Nat} (h : Firsts key r t) (hn : r.length = n) (hb : n < 20 * t + 20) (s : Stp key r r' (20 * t) n) : Blks key r' 20 := ⟨fun u => by
  have hn' : r'.length = n := by rw [s.flt.len, hn]
  rcases Nat.lt_trichotomy u t with h1 | h1 | h1
  · rw [seg_low s.out (by omega)]; exact h.lo u h1
  · subst h1
    rw [seg_end hn' (by omega)]; exact s.asc
  · rw [seg_none (by omega)]; exact asc_nil key⟩
theorem Half.step {key : Fin (Mx + 1) → Int} {r r' : List (Fin (Mx + 1))} {bs t : Nat} (h : Half key r bs t) (s : Stp key r r' (2 * bs * t) (2 * bs * t + 2 * bs)) : Half key r' bs (t + 1) := by
  refine ⟨fun u hu => ?_, fun u hu => ?_⟩
  · rcases Nat.lt_or_ge u t with h1 | h1
    · have h2 : 2 * bs * (u + 1) ≤ 2 * bs * t := Nat.mul_le_mul_left _ (by omega)
      rw [Nat.mul_add] at h2
      rw [seg_low s.out (by omega)]; exact h.lo u h1
    · obtain rfl : u = t := by omega
      exact s.asc
  · have h2 : bs * (2 * (t + 1)) ≤ bs * u := Nat.mul_le_mul_left _ (by omega)
    have h3 : bs * (2 * (t + 1)) = 2 * bs * t + 2 * bs := by rw [Nat.mul_comm 2 bs, Nat.mul_assoc, ← Nat.mul_add]; congr 1
    rw [seg_high s.out (by omega)]; exact h.hi u (by omega)
theorem two_mul_at (bs t : Nat) : bs * (2 * t) = 2 * bs * t := by rw [Nat.mul_comm 2 bs, Nat.mul_assoc]
theorem two_mul_at1 (bs t : Nat) : bs * (2 * t + 1) = 2 * bs * t + bs := by rw [Nat.mul_add, two_mul_at, Nat.mul_one]
theorem Half.merge {key : Fin (Mx + 1) → Int} {r r' : List (Fin (Mx + 1))} {bs t n : Nat} (h : Half key r bs t) (hn : r.length = n) (hb : n < 2 * bs * t + 2 * bs) (s : Stp key r r' (2 * bs * t) n) : Blks key r' (2 * bs) := ⟨fun u => by
  have hn' : r'.length = n := by rw [s.flt.len, hn]
  rcases Nat.lt_trichotomy u t with h1 | h1 | h1
  · have h2 : 2 * bs * (u + 1) ≤ 2 * bs * t := Nat.mul_le_mul_left _ (by omega)
    rw [Nat.mul_add] at h2
    rw [seg_low s.out (by omega)]; exact h.lo u h1
  · subst h1
    rw [seg_end hn' (by omega)]; exact s.asc
  · have h2 : 2 * bs * (t + 1) ≤ 2 * bs * u := Nat.mul_le_mul_left _ (by omega)
    rw [Nat.mul_add] at h2
    rw [seg_none (by omega)]; exact asc_nil key⟩
theorem Half.rest {key : Fin (Mx + 1) → Int} {r : List (Fin (Mx + 1))} {bs t n : Nat} (h : Half key r bs t) (hn : r.length = n) (hb : n ≤ 2 * bs * t + bs) : Blks key r (2 * bs) := ⟨fun u => by
  rcases Nat.lt_trichotomy u t with h1 | h1 | h1
  · exact h.lo u h1
  · subst h1
    have := h.hi (2 * u) (Nat.le_refl _)
    rw [two_mul_at] at this
    rw [seg_end hn (by omega)]
    rwa [seg_end hn (by omega)] at this
  · have h2 : 2 * bs * (t + 1) ≤ 2 * bs * u := Nat.mul_le_mul_left _ (by omega)
    rw [Nat.mul_add] at h2
    rw [seg_none (by omega)]; exact asc_nil key⟩
theorem Blks.half {key : Fin (Mx + 1) → Int} {r : List (Fin (Mx + 1))} {bs : Nat} (h : Blks key r bs) : Half key r bs 0 := ⟨fun u hu => absurd hu (by omega), fun u _ => h.at' u⟩
theorem Blks.whole {key : Fin (Mx + 1) → Int} {r : List (Fin (Mx + 1))} {bs n : Nat} (h : Blks key r bs) (hn : r.length = n) (hb : n ≤ bs) : Asc (ltK key) r := by
  have := h.at' 0
  rw [Nat.mul_zero, Nat.zero_add] at this
  unfold seg at this
  rwa [List.take_of_length_le (by omega), List.drop_zero] at this
end Go.Proofs.YtcnpmebihdonoaaGreatDoor
namespace Go.Proofs.YtcnpmebihdonoaaGreatDoor
open Go.RowKit Go.Lib
set_option linter.unusedSimpArgs false
set_option linter.unusedVariables false
variable {Mx : Nat}
open Go.Sort Go.Shelf in
theorem mergeR_c (mm : Fin (Mx + 1) → Int) (cb : Array Value) {w0 : World} {blk off : Nat} {d0 : Array (Fin (Mx + 1))} (R : Row1 encN w0 blk off d0) (N : Nat) (hN : d0.size = N) (hsz : N ≤ 1000) (hC : CmpLays1 Tryz.prog 88 cb encN (cmpK mm) blk off N w0) (cap : Nat)
    (r : List (Fin (Mx + 1))) (hr : r.length = N) (a m b : Nat) (w : World) (h1 : a < m) (h2 : m < b) (h3 : b ≤ N) (sA : Asc (ltK mm) (seg r a m)) (sB : Asc (ltK mm) (seg r m b)) (S : SW encN w0 blk off r.toArray w) :
    Calls Tryz.prog 146 #[.slice (some ⟨blk, off, none⟩) N cap, .int .i64 (a : Int), .int .i64 (m : Int), .int .i64 (b : Int), .func (.func 88) #[] cb] w fun e w' => e = .returned (.tuple #[]) ∧ ∃ r', Stp mm r r' a b ∧ SW encN w0 blk off r'.toArray w' := by
  obtain ⟨e, l1, l2⟩ := seg_cut r (a := a) (m := m) (b := b) (by omega) (by omega) (by omega)
  have lt : (r.take a).length = a := by rw [List.length_take]; omega
  have ld : (r.drop b).length = N - b := by rw [List.length_drop]; omega
  have hst := mrg_step mm r (a := a) (m := m) (b := b) (by omega) (by omega) (by omega) sA sB
  rw [e] at S
  refine (symMerge_c mm cb R N hN (by omega) hC cap (b - a) (r.take a) (seg r a m) (seg r m b) (r.drop b) a m b w rfl (by omega) (by omega) lt.symm (by omega) (by omega) (by omega) sA sB S).mono ?_
  rintro e w' ⟨rfl, hS⟩
  exact ⟨rfl, _, hst, hS⟩
open Go.Sort Go.Shelf in
theorem insR_c (I : InsNOK) (mm : Fin (Mx + 1) → Int) (cb : Array Value) {w0 : World} {blk off : Nat} {d0 : Array (Fin (Mx + 1))} (R : Row1 encN w0 blk off d0) (N : Nat) (hN : d0.size = N) (hsz : N ≤ 1000) (hC : CmpLays1 Tryz.prog 88 cb encN (cmpK mm) blk off N w0) (cap : Nat)
    (r : List (Fin (Mx + 1))) (hr : r.length = N) (a b : Nat) (w : World) (h1 : a ≤ b) (h3 : b ≤ N) (S : SW encN w0 blk off r.toArray w) :
    Calls Tryz.prog 145 #[.slice (some ⟨blk, off, none⟩) N cap, .int .i64 (a : Int), .int .i64 (b : Int), .func (.func 88) #[] cb] w fun e w' => e = .returned (.tuple #[]) ∧ ∃ r', Stp mm r r' a b ∧ SW encN w0 blk off r'.toArray w' := by
  have hrs : r.toArray.size = N := by simpa using hr
  have := I.some _ mm cb blk off cap a b d0 r.toArray w0 w (by rw [hN]; exact hC) R (by rw [hN, hrs]) S h1 (by omega) (by omega)
  rw [hrs] at this
  refine this.mono ?_
  rintro e w' ⟨rfl, hS⟩
  exact ⟨rfl, _, ins_step mm r h1 (by omega), by simpa using hS⟩
open Go.Sort Go.Shelf in
set_option maxHeartbeats 8000000 in
set_option maxRecDepth 100000 in
theorem stableN_c (I : InsNOK) (mm : Fin (Mx + 1) → Int) (cb : Array Value) {w0 : World} {blk off : Nat} (N cap : Nat) (l : List (Fin (Mx + 1))) (hl : l.length = N) (hsz : N ≤ 1000) (R : Row1 encN w0 blk off l.toArray) (hC : CmpLays1 Tryz.prog 88 cb encN (cmpK mm) blk off N w0) (w : World) (S : SW encN w0 blk off l.toArray w) :
    Calls Tryz.prog 127 #[.slice (some ⟨blk, off, none⟩) N cap, .int .i64 (N : Int), .func (.func 88) #[] cb] w fun e w' =>
      e = .returned (.tuple #[]) ∧ ∃ r, Flt mm l r ∧ Asc (ltK mm) r ∧ SW encN w0 blk off r.toArray w' := by
  have hN : l.toArray.size = N := by simpa using hl
  have HIN := Lib.hid (fun r hr a b w h1 h3 S => insR_c I mm cb R N hN hsz hC cap r hr a b w h1 h3 S)
  have HMR := Lib.hid (fun r hr a m b w h1 h2 h3 sA sB S => mergeR_c mm cb R N hN hsz hC cap r hr a m b w h1 h2 h3 sA sB S)
  have S0 := Lib.hid S
  have HLL := Lib.hid hl
  have HF0 : Hid (Flt mm l l) := ⟨rfl, fun _ => rfl⟩
  clear S hl hN hC R I
  go_enter Tryz.func127, Tryz.ntmps127
  go_wp2_with fail
  go_loopg [7, 8] N (fun gk s7 s8 wr => ∃ a b : Nat, s7 = .int .i64 a ∧ s8 = .int .i64 b ∧ a ≤ N ∧ N - a ≤ gk ∧ Hid (∃ t r, a = 20 * t ∧ b = a + 20 ∧ Flt mm l r ∧ Firsts mm r t ∧ SW encN w0 blk off r.toArray wr))
  case atStart => exact ⟨0, 20, by simp, by simp, by omega, by omega, 0, l, by omega, by omega, HF0.out, ⟨fun u hu => absurd hu (by omega)⟩, S0.out⟩
  case round =>
    clear S0 HF0
    obtain ⟨a, b, rfl, rfl, haN, hgk, HI⟩ := hrel
    obtain ⟨t, r, hat, hba, hF, hFi, hS⟩ := HI.out
    have hrl : r.length = N := by rw [hF.len]; exact HLL.out
    by_cases hb : b ≤ N
    · have hb2 : (b : Int) ≤ N := by omega
      have hb3 : decide ((b : Int) ≤ N) = true := decide_eq_true hb2
      have HC1 := Lib.hid (HIN.out r hrl a b wr (by omega) hb hS)
      have hg2 : N - b ≤ gk - 1 := by omega
      have hg3 : gk - 1 < gk := by omega
      obtain ⟨b', hb'⟩ : ∃ q, q = b + 20 := ⟨_, rfl⟩
      have zb : (b : Int) + 20 = (b' : Int) := by omega
      have vb : IntKind.i64.wrap (b' : Int) = (b' : Int) := by rw [IntKind.wrap_i64]; omega
      have HNX := Lib.hid (fun r' W (hs : Stp mm r r' a b) (hw : SW encN w0 blk off r'.toArray W) => (show ∃ t r, b = 20 * t ∧ b' = b + 20 ∧ Flt mm l r ∧ Firsts mm r t ∧ SW encN w0 blk off r.toArray W from ⟨t + 1, r', by omega, hb', hF.trans hs.flt, hFi.step (by rw [← hat, ← hba]; exact hs), hw⟩))
      clear hat hba hF hFi hS HI hrl hb'
      go_wp2_with fail
      refine HC1.out.mono ?_
      rintro e W4 ⟨rfl, r', hs, hW⟩
      have HN2 := Lib.hid (HNX.out r' W4 hs hW)
      clear hs hW HNX HC1
      go_wp2_with fail
      go_roundg (gk - 1)
      case measure => exact hg3
      case rel => exact ⟨b, b', rfl, by first | rfl | go_num, hb, hg2, HN2⟩
    · have hb2 : ¬ (b : Int) ≤ N := by omega
      have hb3 : decide ((b : Int) ≤ N) = false := decide_eq_false hb2
      have HC1 := Lib.hid (HIN.out r hrl a N wr haN (Nat.le_refl _) hS)
      have HNX := Lib.hid (fun r' W (hs : Stp mm r r' a N) (hw : SW encN w0 blk off r'.toArray W) => (show ∃ r, Flt mm l r ∧ Blks mm r 20 ∧ SW encN w0 blk off r.toArray W from ⟨r', hF.trans hs.flt, hFi.last hrl (by omega) (by rw [← hat]; exact hs), hw⟩))
      clear hat hba hF hFi hS HI hrl
      go_wp2_with fail
      refine HC1.out.mono ?_
      rintro e W4 ⟨rfl, r', hs, hW⟩
      have HN2 := Lib.hid (HNX.out r' W4 hs hW)
      clear hs hW HNX HC1 hb hb2 hb3 haN hgk
      go_wp2_with fail
      go_loopg [6, 7, 8, 9] N (fun gk s6 s7 s8 s9 wr => ∃ bs : Nat, s6 = .int .i64 bs ∧ 0 < bs ∧ bs ≤ 2000 ∧ N - bs ≤ gk ∧ Hid (∃ r, Flt mm l r ∧ Blks mm r bs ∧ SW encN w0 blk off r.toArray wr))
      case atStart => exact ⟨20, by simp, by omega, by omega, by omega, HN2⟩
      case round =>
        clear HN2
        obtain ⟨bs, rfl, hbs, hbm, hgk, HI⟩ := hrel
        by_cases hlt : bs < N
        · obtain ⟨r, hF, hB, hS⟩ := HI.out
          have hlt2 : (bs : Int) < N := by omega
          have hlt3 : decide ((bs : Int) < N) = true := decide_eq_true hlt2
          obtain ⟨d2, hd2⟩ : ∃ d, d = 2 * bs := ⟨_, rfl⟩
          have z2 : (2 : Int) * bs = (d2 : Int) := by omega
          have z3 : (bs : Int) * 2 = (d2 : Int) := by omega
          have v2 : IntKind.i64.wrap (d2 : Int) = (d2 : Int) := by rw [IntKind.wrap_i64]; omega
          have hd3 : d2 ≤ 2000 := by omega
          have hd4 : 0 < d2 := by omega
          obtain ⟨G, rfl⟩ : ∃ G, G = gk := ⟨gk, rfl⟩
          have hgd : N - d2 ≤ G - 1 := by omega
          have hgd1 : G - 1 < G := by omega
          have HI0 : Hid (∃ t r, 0 = 2 * bs * t ∧ d2 = 0 + 2 * bs ∧ Flt mm l r ∧ Half mm r bs t ∧ SW encN w0 blk off r.toArray wr) := ⟨0, r, by omega, by omega, hF, hB.half, hS⟩
          have HD2 := Lib.hid hd2
          clear hF hB hS HI hd2
          go_wp2_with fail
          go_loopg [7, 8] N (fun g2 s7 s8 wr => ∃ a b : Nat, s7 = .int .i64 a ∧ s8 = .int .i64 b ∧ a ≤ N ∧ b ≤ 4000 ∧ N - a ≤ g2 ∧ Hid (∃ t r, a = 2 * bs * t ∧ b = a + 2 * bs ∧ Flt mm l r ∧ Half mm r bs t ∧ SW encN w0 blk off r.toArray wr))
          case atStart => exact ⟨0, d2, by simp, by first | rfl | simp, by omega, by omega, by omega, HI0⟩
          case round =>
            clear HI0
            obtain ⟨a, b, rfl, rfl, haN, hbM, hg2, HI⟩ := hrel
            obtain ⟨t, r, hat, hba, hF, hH, hS⟩ := HI.out
            have hrl : r.length = N := by rw [hF.len]; exact HLL.out
            obtain ⟨m, hm⟩ : ∃ q, q = a + bs := ⟨_, rfl⟩
            have zm : (a : Int) + bs = (m : Int) := by omega
            have vm : IntKind.i64.wrap (m : Int) = (m : Int) := by rw [IntKind.wrap_i64]; omega
            have sA : Asc (ltK mm) (seg r a m) := by
              have := hH.hi (2 * t) (Nat.le_refl _)
              rw [two_mul_at, ← hat, ← hm] at this
              exact this
            by_cases hb : b ≤ N
            · have hb2 : (b : Int) ≤ N := by omega
              have hb3 : decide ((b : Int) ≤ N) = true := decide_eq_true hb2
              have sB : Asc (ltK mm) (seg r m b) := by
                have := hH.hi (2 * t + 1) (by omega)
                rw [two_mul_at1, ← hat, ← hm] at this
                rw [show b = m + bs by omega]
                exact this
              have HC1 := Lib.hid (HMR.out r hrl a m b wr (by omega) (by omega) hb sA sB hS)
              obtain ⟨b', hb'⟩ : ∃ q, q = b + d2 := ⟨_, rfl⟩
              have zb : (b : Int) + d2 = (b' : Int) := by omega
              have vb : IntKind.i64.wrap (b' : Int) = (b' : Int) := by rw [IntKind.wrap_i64]; omega
              have hbm' : b' ≤ 4000 := by omega
              have hg3 : N - b ≤ gk - 1 := by omega
              have hg4 : gk - 1 < gk := by omega
              have HNX := Lib.hid (fun r' W (hs : Stp mm r r' a b) (hw : SW encN w0 blk off r'.toArray W) => (show ∃ t r, b = 2 * bs * t ∧ b' = b + 2 * bs ∧ Flt mm l r ∧ Half mm r bs t ∧ SW encN w0 blk off r.toArray W from ⟨t + 1, r', by rw [Nat.mul_add, ← hat]; omega, by have := HD2.out; omega, hF.trans hs.flt, hH.step (by rw [← hat, ← hba]; exact hs), hw⟩))
              clear hat hba hF hH hS HI hrl sA sB hm hb'
              go_wp2_with fail
              refine HC1.out.mono ?_
              rintro e W5 ⟨rfl, r', hs, hW⟩
              have HN2 := Lib.hid (HNX.out r' W5 hs hW)
              clear hs hW HNX HC1
              go_wp2_with fail
              go_roundg (gk - 1)
              case measure => exact hg4
              case rel => exact ⟨b, b', rfl, by first | rfl | go_num, hb, hbm', hg3, HN2⟩
            · have hb2 : ¬ (b : Int) ≤ N := by omega
              have hb3 : decide ((b : Int) ≤ N) = false := decide_eq_false hb2
              by_cases hmN : m < N
              · have hm2 : (m : Int) < N := by omega
                have hm3 : decide ((m : Int) < N) = true := decide_eq_true hm2
                have sB : Asc (ltK mm) (seg r m N) := by
                  have := hH.hi (2 * t + 1) (by omega)
                  rw [two_mul_at1, ← hat, ← hm] at this
                  rwa [seg_end hrl (by omega)] at this
                have HC1 := Lib.hid (HMR.out r hrl a m N wr (by omega) hmN (Nat.le_refl _) sA sB hS)
                have HNX := Lib.hid (fun r' W (hs : Stp mm r r' a N) (hw : SW encN w0 blk off r'.toArray W) => (show ∃ r, Flt mm l r ∧ Blks mm r d2 ∧ SW encN w0 blk off r.toArray W from ⟨r', hF.trans hs.flt, by rw [HD2.out]; exact hH.merge hrl (by omega) (by rw [← hat]; exact hs), hw⟩))
                clear hat hba hF hH hS HI hrl sA sB hm
                go_wp2_with fail
                refine HC1.out.mono ?_
                rintro e W5 ⟨rfl, r', hs, hW⟩
                have HN2 := Lib.hid (HNX.out r' W5 hs hW)
                clear hs hW HNX HC1
                go_wp2_with fail
                go_roundg (G - 1)
                case measure => exact hgd1
                case rel => exact ⟨d2, by first | rfl | go_num, hd4, hd3, hgd, HN2⟩
              · have hm2 : ¬ (m : Int) < N := by omega
                have hm3 : decide ((m : Int) < N) = false := decide_eq_false hm2
                have HN2 : Hid (∃ r, Flt mm l r ∧ Blks mm r d2 ∧ SW encN w0 blk off r.toArray wr) := ⟨r, hF, by rw [HD2.out]; exact hH.rest hrl (by omega), hS⟩
                clear hat hba hF hH hS HI hrl sA hm
                go_wp2_with fail
                go_roundg (G - 1)
                case measure => exact hgd1
                case rel => exact ⟨d2, by first | rfl | go_num, hd4, hd3, hgd, HN2⟩
        · have hnl : ¬ (bs : Int) < N := by omega
          have hnl2 : decide ((bs : Int) < N) = false := decide_eq_false hnl
          have HFIN : Hid (∃ r, Flt mm l r ∧ Asc (ltK mm) r ∧ SW encN w0 blk off r.toArray wr) := by
            obtain ⟨r, hF, hB, hS⟩ := HI.out
            exact ⟨r, hF, hB.whole (n := N) (by rw [hF.len]; exact HLL.out) (by omega), hS⟩
          clear HI
          go_wp2_with fail
          go_end0
          exact ⟨rfl, HFIN.out⟩
end Go.Proofs.YtcnpmebihdonoaaGreatDoor
namespace Go.Proofs.YtcnpmebihdonoaaGreatDoor
open Go.RowKit Go.Lib
set_option linter.unusedSimpArgs false
set_option linter.unusedVariables false
variable {Mx : Nat}
open Go.Sort Go.Shelf in
theorem grownBy_sortedN {w : World} {g n : Nat} {os : Array Obj} (d : Array (Fin (Mx + 1))) : w.grownBy (sortWorld encN w g 0 n d os) (some g) := by
  unfold sortWorld
  refine ⟨rfl, rfl, rfl, by simp, fun k hk hne => ?_⟩
  rw [heap_grow_old _ _ (by simpa using hk)]
  have : g ≠ k := fun e => hne (by rw [e])
  simp [putRow, mapBlock, Sort.ahead, Array.getElem?_modify, this]
theorem cell_keep {w w' : World} {g : Nat} {p : Addr} {v : Value} (h : w.cell? p = some v) (k : w.grownBy w' (some g)) (hne : p.block ≠ g) : w'.cell? p = some v := by
  obtain ⟨_, _, _, _, hold⟩ := k
  have hFl : p.block < w.heap.size := by
    rcases Nat.lt_or_ge p.block w.heap.size with h2 | h2
    · exact h2
    · simp [World.cell?, Array.getElem?_eq_none h2] at h
  have := hold p.block hFl (by intro e; cases e; exact hne rfl)
  simp only [World.cell?] at h ⊢
  rw [this]
  exact h
/-- the key of a place -/
def keyN (xs : List EntR) (a : Nat) : Int := match xs[a]? with
  | some x => rankE x
  | none => 0
theorem keyN_at {xs : List EntR} {a : Nat} {x : EntR} (h : xs[a]? = some x) : keyN xs a = rankE x := by
  unfold keyN
  rw [h]
def keyF (xs : List EntR) (a : Fin (Mx + 1)) : Int := keyN xs a.val
theorem arrN_get {l : List (Fin (Mx + 1))} {i : Nat} {s : Fin (Mx + 1)} (h : l[i]? = some s) : l.toArray[i]! = s := by
  obtain ⟨h1, h2⟩ := List.getElem?_eq_some_iff.1 h
  rw [getElem!_pos _ _ (by simpa using h1)]
  simpa using h2
theorem EntAt.keep {w w' : World} {g b o : Nat} {x : EntR} (h : EntAt w b o x) (k : w.grownBy w' (some g)) (hne : b ≠ g) : EntAt w' b o x := ⟨cell_keep h.nm k hne, cell_keep h.na k hne, cell_keep h.sd k hne⟩
open Go.Sort Go.Shelf in
set_option maxHeartbeats 1000000 in
set_option maxRecDepth 100000 in
theorem sortEnt_c (I : InsNOK) (xs : List EntR) (l : List (Fin (Mx + 1))) (hx : xs.length = Mx + 1) (h1 : xs.length ≤ 160) (hl : l.length = Mx + 1) (b off cap g cap2 L : Nat) (w : World) (hg : g < w.heap.size) (hH : Holds encN w g 0 l.toArray)
    (hc : ∀ i x, xs[i]? = some x → EntAt w b (off + i * 3) x) (hb : b ≠ g) (hL : w.cell? ⟨L, 0, none⟩ = some (.slice (some ⟨b, off, none⟩) (Mx + 1) cap)) (hLg : L ≠ g) :
    Calls Tryz.prog 87 #[.slice (some ⟨g, 0, none⟩) (Mx + 1) cap2, .func (.func 88) #[] #[.pointer (some ⟨L, 0, none⟩)]] w fun e w' =>
      e = .returned (.tuple #[]) ∧ w.grownBy w' (some g) ∧ ∃ r : List (Fin (Mx + 1)), Flt (keyF xs) l r ∧ Asc (ltK (keyF xs)) r ∧ ∀ i s, r[i]? = some s → w'.cell? ⟨g, i, none⟩ = some (encN s) := by
  have hcmp : CmpLays1 Tryz.prog 88 #[.pointer (some ⟨L, 0, none⟩)] encN (cmpK (Mx := Mx) (keyF xs)) g 0 (Mx + 1) w := by
    intro q os dk _ x y
    have hk := grownBy_sortedN (w := w) (g := g) (n := q) (os := os) dk
    obtain ⟨ex, hex⟩ : ∃ z, xs[x.val]? = some z := ⟨xs[x.val]'(by rw [hx]; exact x.isLt), List.getElem?_eq_getElem _⟩
    obtain ⟨ey, hey⟩ : ∃ z, xs[y.val]? = some z := ⟨xs[y.val]'(by rw [hx]; exact y.isLt), List.getElem?_eq_getElem _⟩
    refine (seedCmp_c (Mx + 1) b off cap x.val y.val L ex ey _ x.isLt y.isLt (by omega) ((hc _ _ hex).keep hk hb) ((hc _ _ hey).keep hk hb) (cell_keep hL hk hLg)).mono ?_
    rintro e w' ⟨rfl, gd⟩
    refine ⟨?_, gd.grow⟩
    rw [show cmpK (keyF xs) x y = cmpY (rankE ex) (rankE ey) by unfold cmpK keyF; rw [keyN_at hex, keyN_at hey]]
  have hR : Row1 encN w g 0 l.toArray := ⟨fun _ => rfl, hH, hg⟩
  have HI := Lib.hid (stableN_c I (keyF xs) #[.pointer (some ⟨L, 0, none⟩)] (Mx + 1) cap2 l hl (by omega) hR hcmp w (SW.start hH))
  have HE : Hid (∀ (r : List (Fin (Mx + 1))) W, Flt (keyF xs) l r → SW encN w g 0 r.toArray W → w.grownBy W (some g) ∧ ∀ i s, r[i]? = some s → W.cell? ⟨g, i, none⟩ = some (encN s)) := by
    intro r W hf hSW
    have hHs := hSW.holds hg hH (by have := hf.len; simp; omega)
    refine ⟨?_, fun i s hs => ?_⟩
    · obtain ⟨q, os, rfl⟩ := hSW
      exact grownBy_sortedN _
    · have c := (hHs i (by simpa using (List.getElem?_eq_some_iff.1 hs).1)).1
      rw [arrN_get hs, Nat.zero_add] at c
      exact c
  clear hcmp hR hH hc hL hl hx h1 I
  go_enter Tryz.func87, Tryz.ntmps87
  go_wp2_with (refine HI.out.mono ?_; rintro e w4 ⟨rfl, r, hf, ha, hW⟩)
  go_end0
  obtain ⟨h1, h2⟩ := HE.out r _ hf hW
  exact ⟨rfl, h1, r, hf, ha, h2⟩
end Go.Proofs.YtcnpmebihdonoaaGreatDoor
namespace Go.Proofs.YtcnpmebihdonoaaGreatDoor
open Go.RowKit Go.Lib
set_option linter.unusedSimpArgs false
set_option linter.unusedVariables false
/-- the next number of a draw; a swap; the order after k steps -/
def lcgN (x : Nat) : Nat := 48271 * x % 2147483647
def swapN (l : Array Nat) (i j : Nat) : Array Nat := (l.setIfInBounds i (l.getD j 0)).setIfInBounds j (l.getD i 0)
def drawA (n : Nat) : Nat → Nat → Nat → Array Nat → Array Nat
  | 0, _, _, l => l
  | k + 1, i, x, l => drawA n k (i + 1) (lcgN x) (swapN l i (i + lcgN x % (n - i)))
def drawN (key n : Nat) : Array Nat := drawA n (n - 1) 0 key (Array.range n)
theorem swapN_size (l : Array Nat) (i j : Nat) : (swapN l i j).size = l.size := by simp [swapN]
/-- a block that is just these numbers -/
def intsA (l : Array Nat) : Array Value := l.map fun x : Nat => Value.int .i64 (x : Int)
theorem intsA_at {l : Array Nat} {i : Nat} (h : i < l.size) : (intsA l)[i]? = some (.int .i64 ((l.getD i 0 : Nat) : Int)) := by
  simp [intsA, h, Array.getD]
theorem intsA_set (l : Array Nat) (i x : Nat) : (intsA l).setIfInBounds i (.int .i64 (x : Int)) = intsA (l.setIfInBounds i x) := by
  unfold intsA
  rw [Array.map_setIfInBounds]
/-- the block g holds just these numbers -/
def RowA (w : World) (g : Nat) (l : Array Nat) : Prop := w.heap[g]? = some (.cells (intsA l) 3 (0, 0))
theorem RowA.cell {w : World} {g : Nat} {l : Array Nat} (h : RowA w g l) {i : Nat} (hi : i < l.size) : w.cell? ⟨g, i, none⟩ = some (.int .i64 ((l.getD i 0 : Nat) : Int)) := by
  rw [cell_of_row w g i _ 3 (0, 0) h]
  exact intsA_at hi
theorem RowA.frozen {w : World} {g : Nat} {l : Array Nat} (h : RowA w g l) (i : Nat) : w.frozen? ⟨g, i, none⟩ = false := frozen_of_row w g i _ 3 h
theorem RowA.set {w : World} {g : Nat} {l : Array Nat} (h : RowA w g l) (i x : Nat) : RowA (w.setCell ⟨g, i, none⟩ (.int .i64 (x : Int))) g (l.setIfInBounds i x) := by
  unfold RowA
  rw [← intsA_set]
  exact heap_setCell_same w g i _ 3 _ h
theorem RowA.drewN {w : World} {g : Nat} {l : Array Nat} (h : RowA w g l) (n : Nat) : RowA (w.drewN n) g l := h
theorem RowA.drew {w : World} {g : Nat} {l : Array Nat} (h : RowA w g l) : RowA w.drew g l := h
def fillA (n k : Nat) : Array Nat := Array.ofFn (n := n) fun j => if j.val < k then j.val else 0
theorem fillA_size (n k : Nat) : (fillA n k).size = n := by simp [fillA]
theorem fillA_zero (n : Nat) : intsA (fillA n 0) = Array.replicate n (.int .i64 0) := by
  unfold intsA fillA
  apply Array.ext
  · simp
  · intro i h1 h2
    simp
theorem fillA_set {n k : Nat} (h : k < n) : (fillA n k).setIfInBounds k k = fillA n (k + 1) := by
  unfold fillA
  apply Array.ext
  · simp
  · intro i h1 h2
    simp at h1
    rw [Array.getElem_setIfInBounds (by simpa using h1)]
    simp only [Array.getElem_ofFn]
    by_cases e : k = i
    · simp [e]
    · rw [if_neg e]
      have : (i < k) ↔ (i < k + 1) := by omega
      simp [this]
theorem fillA_all (n : Nat) : fillA n n = Array.range n := by
  unfold fillA
  apply Array.ext
  · simp
  · intro i h1 h2
    simp at h1
    simp [h1]
theorem infoI : (Tryz.prog.info? 3).map (fun i => (i.zero, i.size, i.bytes)) = some (some (.int .i64 0), 1, 8) := by kernel_rfl
theorem make_ints (n : Nat) (hn : n ≤ 256) (w : World) : (Instr.makeSlice 23 (.int .i64 (n : Int)) (.int .i64 (n : Int))).run Tryz.prog w = .ok (.slice (some ⟨w.heap.size, 0, none⟩) n n) (w.alloc (.cells (intsA (fillA n 0)) 3)) := by
  obtain ⟨i0, hi, hz0, hz1, hz2⟩ := info_parts infoI
  have := run_make (P := Tryz.prog) w 23 3 i0 (.int .i64 0) Tryz.underlying23 hi hz0 .i64 .i64 (n : Int) (n : Int) (by omega) (by omega) (by rw [hz2]; omega) (by omega)
  rw [hz1] at this
  have e : madeCells (#[.int .i64 0] : Array Value) n = Array.replicate n (.int .i64 0) := Array.ext' (by rw [toList_madeCells_one]; simp)
  rw [fillA_zero]
  simpa [Value.cells, e] using this
/-- the error of a draw -/
def drawE (key n : Int) : Int := if decide (key < 1) || decide (2147483647 ≤ key) || decide (n < 0) || decide (256 < n) then 3 else 0
theorem drawE_zero {key n : Int} (h : drawE key n = 0) : 1 ≤ key ∧ key < 2147483647 ∧ 0 ≤ n ∧ n ≤ 256 := by
  unfold drawE at h
  split at h
  · cases h
  · rename_i h1
    simp only [Bool.or_eq_true, decide_eq_true_eq] at h1
    omega
theorem lcgN_le (x : Nat) : lcgN x ≤ 2147483646 := by
  have := Nat.mod_lt (48271 * x) (show 0 < 2147483647 by omega)
  unfold lcgN
  omega
theorem lcg_tmod {x : Nat} : Int.tmod (48271 * (x : Int)) 2147483647 = ((lcgN x : Nat) : Int) := by
  unfold lcgN
  have h0 : (0 : Int) ≤ 48271 * (x : Int) := by omega
  rw [Int.tmod_eq_emod_of_nonneg h0]
  omega
end Go.Proofs.YtcnpmebihdonoaaGreatDoor
