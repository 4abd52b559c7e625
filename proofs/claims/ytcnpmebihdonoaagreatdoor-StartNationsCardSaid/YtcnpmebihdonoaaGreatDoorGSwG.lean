/- The library's stable sort: symMerge, whole; what an insertion sort leaves as it was. -/
import Derived.Test.YtcnpmebihdonoaaGreatDoorSwF
import Derived.Test.YtcnpmebihdonoaaGreatDoorGSzG
import Derived.Test.YtcnpmebihdonoaaGreatDoorGSpNa
import Derived.Test.YtcnpmebihdonoaaGreatDoorGNtB
namespace Go.Proofs.YtcnpmebihdonoaaGreatDoor
open Go.RowKit Go.Lib
set_option linter.unusedSimpArgs false
set_option linter.unusedVariables false
set_option linter.unusedSectionVars false
open Go.Sort Go.Shelf in
theorem symMerge_cT (mm : SlT → Int) (cb : Array Value) {w0 : World} {blk off : Nat} {d0 : Array SlT} (R : Row1 encNT w0 blk off d0) (N : Nat) (hN : d0.size = N) (hsz : N < 4611686018427387904) (hC : CmpLays1 Tryz.prog 45 cb encNT (cmpKT mm) blk off N w0) (cap : Nat) :
    ∀ (n : Nat) (L A B Q : List SlT) (a m b : Nat) (w : World), b - a = n → 0 < A.length → 0 < B.length → a = L.length → m = L.length + A.length → b = L.length + A.length + B.length → N = L.length + A.length + B.length + Q.length → Asc (ltK mm) A → Asc (ltK mm) B → SW encNT w0 blk off (L ++ (A ++ (B ++ Q))).toArray w →
      Calls Tryz.prog 126 #[.slice (some ⟨blk, off, none⟩) N cap, .int .i64 (a : Int), .int .i64 (m : Int), .int .i64 (b : Int), .func (.func 45) #[] cb] w fun e w' => e = .returned (.tuple #[]) ∧ SW encNT w0 blk off (L ++ (mrg (ltK mm) A B ++ Q)).toArray w' := by
  intro n
  induction n using Nat.strongRecOn with
  | _ n ih =>
    intro L A B Q a m b w hn hA hB ha hm hb hs sA sB S
    by_cases h1 : A.length = 1
    · obtain ⟨x, rfl⟩ := List.length_eq_one_iff.1 h1
      simp only [List.length_singleton] at hm hb hs
      exact symOneL_cT mm cb R N hN hsz hC L B Q x a m b cap w ha hm hb hB hs sB S
    · by_cases h2 : B.length = 1
      · obtain ⟨y, rfl⟩ := List.length_eq_one_iff.1 h2
        simp only [List.length_singleton] at hb hs
        exact symOneR_cT mm cb R N hN hsz hC L A Q y a m b cap w ha hm hb (by omega) hs sA S
      · exact symMany_cT mm cb R N hN hsz hC L A B Q a m b cap w ha hm hb (by omega) (by omega) hs sA sB
          (fun L' A' B' Q' a' m' b' W' hlt hA' hB' ha' hm' hb' hs' sA' sB' S' => ih (b' - a') (by omega) L' A' B' Q' a' m' b' W' rfl hA' hB' ha' hm' hb' hs' sA' sB' S') S
section
open Go.Sort
variable {α : Type} [Inhabited α] {lt : α → α → Bool} {p : α → Bool}
theorem swap_filterT (d : Array α) (j : Nat) (hj : j + 1 < d.size) (h : ¬ (p d[j + 1]! = true ∧ p d[j]! = true)) : (swp d (j + 1) j).toList.filter p = d.toList.filter p := by
  have hl : d.toList.length = d.size := by simp
  have e1 : d.toList = d.toList.take j ++ d[j]! :: ([] ++ d[j + 1]! :: d.toList.drop (j + 2)) := by
    conv => lhs; rw [← List.take_append_drop j d.toList]
    congr 1
    rw [List.drop_eq_getElem_cons (by omega), List.nil_append, List.drop_eq_getElem_cons (i := j + 1) (by omega)]
    congr 1
    · rw [getElem!_pos d j (by omega)]; simp
    · congr 1
      rw [getElem!_pos d (j + 1) hj]; simp
  have e2 : d = (d.toList.take j ++ d[j]! :: ([] ++ d[j + 1]! :: d.toList.drop (j + 2))).toArray := by
    apply Array.toList_inj.1
    simpa using e1
  have hs := swp_list (d.toList.take j) [] (d.toList.drop (j + 2)) d[j]! d[j + 1]! j (j + 1) (by rw [List.length_take]; omega) (by rw [List.length_take]; simp; omega)
  rw [← e2] at hs
  rw [swp_comm' d j (j + 1) (by omega) hj, hs]
  conv => rhs; rw [e1]
  simp only [List.filter_append, List.filter_cons, List.filter_nil, List.nil_append, List.toList_toArray]
  clear hs e1 e2 hl
  cases hp1 : p d[j]! <;> cases hp2 : p d[j + 1]! <;> simp [hp1, hp2] at h ⊢
theorem insInner_sizeT' (a : Nat) : ∀ (j : Nat) (d : Array α), (insInner lt a j d).size = d.size
  | 0, d => by simp [insInner]
  | j + 1, d => by
    unfold insInner
    split
    · rw [insInner_sizeT' a j, size_swp]
    · rfl
theorem insInner_filterT' (hp : ∀ x y, lt x y = true → ¬ (p x = true ∧ p y = true)) (a : Nat) : ∀ (j : Nat) (d : Array α), j < d.size → (insInner lt a j d).toList.filter p = d.toList.filter p
  | 0, d, _ => by simp [insInner]
  | j + 1, d, hj => by
    unfold insInner
    split
    · rename_i h
      simp only [Bool.and_eq_true] at h
      rw [insInner_filterT' hp a j _ (by rw [size_swp]; omega)]
      exact swap_filterT d j hj (hp _ _ h.2)
    · rfl
theorem insOuter_filterT' (hp : ∀ x y, lt x y = true → ¬ (p x = true ∧ p y = true)) (a b : Nat) : ∀ (k i : Nat) (d : Array α), b - i = k → b ≤ d.size → (insOuter lt a b i d).toList.filter p = d.toList.filter p
  | 0, i, d, hk, _ => by
    unfold insOuter
    rw [if_neg (by omega)]
  | k + 1, i, d, hk, hb => by
    unfold insOuter
    rw [if_pos (by omega), insOuter_filterT' hp a b k (i + 1) _ (by omega) (by rw [insInner_sizeT']; exact hb)]
    exact insInner_filterT' hp a i d (by omega)
theorem ins_filterT' (hp : ∀ x y, lt x y = true → ¬ (p x = true ∧ p y = true)) (d : Array α) (a b : Nat) (hb : b ≤ d.size) : (insertionSort lt d a b).toList.filter p = d.toList.filter p := insOuter_filterT' hp a b _ _ d rfl hb
/-- the part of a list from a place to another one -/
def segT (l : List α) (a b : Nat) : List α := (l.take b).drop a
theorem seg_atT {l : List α} {a b i : Nat} : (segT l a b)[i]? = if a + i < b then l[a + i]? else none := by
  unfold segT
  rw [List.getElem?_drop, List.getElem?_take]
theorem seg_sameT {l r : List α} {a b : Nat} (h : ∀ i, a ≤ i → i < b → l[i]? = r[i]?) : segT l a b = segT r a b := by
  apply List.ext_getElem?
  intro i
  rw [seg_atT, seg_atT]
  split
  · exact h (a + i) (by omega) (by omega)
  · rfl
theorem seg_appT {L A Q : List α} {a b : Nat} (ha : a = L.length) (hb : b = L.length + A.length) : segT (L ++ (A ++ Q)) a b = A := by
  subst ha hb
  unfold segT
  rw [← List.append_assoc, List.take_left' (by simp), List.drop_left]
theorem seg_cutT (l : List α) {a m b : Nat} (h1 : a ≤ m) (h2 : m ≤ b) (h3 : b ≤ l.length) : l = l.take a ++ (segT l a m ++ (segT l m b ++ l.drop b)) ∧ (segT l a m).length = m - a ∧ (segT l m b).length = b - m := by
  refine ⟨?_, by simp [segT]; omega, by simp [segT]; omega⟩
  apply List.ext_getElem?
  intro i
  by_cases q1 : i < a
  · rw [List.getElem?_append_left (by rw [List.length_take]; omega), List.getElem?_take, if_pos q1]
  · rw [List.getElem?_append_right (by rw [List.length_take]; omega), List.length_take, Nat.min_eq_left (by omega)]
    by_cases q2 : i < m
    · rw [List.getElem?_append_left (by simp [segT]; omega), seg_atT, if_pos (by omega), show a + (i - a) = i by omega]
    · rw [List.getElem?_append_right (by simp [segT]; omega)]
      rw [show (segT l a m).length = m - a by simp [segT]; omega]
      by_cases q3 : i < b
      · rw [List.getElem?_append_left (by simp [segT]; omega), seg_atT, if_pos (by omega), show m + (i - a - (m - a)) = i by omega]
      · rw [List.getElem?_append_right (by simp [segT]; omega), List.getElem?_drop]
        rw [show (segT l m b).length = b - m by simp [segT]; omega, show b + (i - a - (m - a) - (b - m)) = i by omega]
theorem asc_of_sortedT {l : Array α} {a b : Nat} (hb : b ≤ l.size) (h : SortedIn lt a b l) : Asc lt (segT l.toList a b) := by
  unfold Asc
  rw [List.pairwise_iff_getElem]
  intro i j hi hj hij
  have hlen : (segT l.toList a b).length = b - a := by simp [segT]; omega
  have e1 : (segT l.toList a b)[i]? = l.toList[a + i]? := by rw [seg_atT, if_pos (by omega)]
  have e2 : (segT l.toList a b)[j]? = l.toList[a + j]? := by rw [seg_atT, if_pos (by omega)]
  rw [List.getElem?_eq_getElem hi, Array.getElem?_toList, Array.getElem?_eq_getElem (by omega)] at e1
  rw [List.getElem?_eq_getElem hj, Array.getElem?_toList, Array.getElem?_eq_getElem (by omega)] at e2
  simp only [Option.some.injEq] at e1 e2
  rw [e1, e2]
  have := h (a + i) (a + j) (by omega) (by omega) (by omega)
  rwa [getElem!_pos l (a + i) (by omega), getElem!_pos l (a + j) (by omega)] at this
end
end Go.Proofs.YtcnpmebihdonoaaGreatDoor
namespace Go.Proofs.YtcnpmebihdonoaaGreatDoor
open Go.RowKit Go.Lib
set_option linter.unusedSimpArgs false
set_option linter.unusedVariables false
/-- the same elements in the same order at each size, as many -/
structure FltT (key : SlT → Int) (l r : List SlT) : Prop where
  len : r.length = l.length
  flt : ∀ k, r.filter (fun x => key x == k) = l.filter (fun x => key x == k)
theorem FltT.trans {key : SlT → Int} {a b c : List SlT} (h : FltT key a b) (k : FltT key b c) : FltT key a c := ⟨k.len.trans h.len, fun q => (k.flt q).trans (h.flt q)⟩
/-- only what lies between two places is moved -/
def OutT (r r' : List SlT) (a b : Nat) : Prop := ∀ i, (i < a ∨ b ≤ i) → r'[i]? = r[i]?
structure StpT (key : SlT → Int) (r r' : List SlT) (a b : Nat) : Prop where
  flt : FltT key r r'
  asc : Asc (ltK key) (segT r' a b)
  out : OutT r r' a b
theorem ltOf_keyT (mm : SlT → Int) : ltOf (cmpKT mm) = ltK mm := by
  funext x y
  rw [lt_cmpKT]; rfl
open Go.Sort in
theorem ins_stepT (mm : SlT → Int) (r : List SlT) {a b : Nat} (hab : a ≤ b) (hb : b ≤ r.length) : StpT mm r (insertionSort (ltOf (cmpKT mm)) r.toArray a b).toList a b := by
  obtain ⟨hp, hso⟩ := insertionSort_holds (swo_cmpKT mm) r.toArray a b hab (by simpa using hb)
  have hsz : (insertionSort (ltOf (cmpKT mm)) r.toArray a b).size = r.length := by rw [hp.1]; simp
  refine ⟨⟨by rw [Array.length_toList, hsz], fun k => ?_⟩, ?_, fun i hi => ?_⟩
  · have := ins_filterT' (lt := ltOf (cmpKT mm)) (p := fun x => mm x == k) (fun x y h hh => by
      rw [lt_cmpKT] at h
      have := of_decide_eq_true h
      simp at hh
      omega) r.toArray a b (by simpa using hb)
    simpa using this
  · rw [← ltOf_keyT]
    exact asc_of_sortedT (by omega) hso
  · have h1 := hp.2.1 i hi
    rw [Array.getElem?_toList]
    by_cases hl : i < r.length
    · rw [getElem!_pos _ i (by omega), getElem!_pos _ i (by simpa using hl)] at h1
      rw [Array.getElem?_eq_getElem (by omega), h1]
      simp [hl]
    · rw [Array.getElem?_eq_none (by omega), List.getElem?_eq_none (by omega)]
theorem mrg_stepT (key : SlT → Int) (r : List SlT) {a m b : Nat} (h1 : a ≤ m) (h2 : m ≤ b) (h3 : b ≤ r.length) (sA : Asc (ltK key) (segT r a m)) (sB : Asc (ltK key) (segT r m b)) : StpT key r (r.take a ++ (mrg (ltK key) (segT r a m) (segT r m b) ++ r.drop b)) a b := by
  obtain ⟨e, l1, l2⟩ := seg_cutT r h1 h2 h3
  have lm : (mrg (ltK key) (segT r a m) (segT r m b)).length = b - a := by rw [mrg_len _ _ _ _ rfl]; omega
  have lt : (r.take a).length = a := by rw [List.length_take]; omega
  refine ⟨⟨?_, fun k => ?_⟩, ?_, fun i hi => ?_⟩
  · rw [List.length_append, List.length_append, lm, lt, List.length_drop]; omega
  · rw [List.filter_append, List.filter_append, mrg_filter key k _ _ _ rfl sA]
    conv => rhs; rw [e]
    simp
  · rw [seg_appT lt.symm (by rw [lt, lm]; omega)]
    exact mrg_asc key _ _ _ rfl sA sB
  · rcases hi with hi | hi
    · rw [List.getElem?_append_left (by omega), List.getElem?_take, if_pos hi]
    · rw [List.getElem?_append_right (by omega), List.getElem?_append_right (by omega), List.getElem?_drop, lt, lm, show b + (i - a - (b - a)) = i by omega]
theorem seg_lowT {r r' : List SlT} {a b x y : Nat} (h : OutT r r' a b) (hy : y ≤ a) : segT r' x y = segT r x y := seg_sameT fun i _ hi => h i (.inl (by omega))
theorem seg_highT {r r' : List SlT} {a b x y : Nat} (h : OutT r r' a b) (hx : b ≤ x) : segT r' x y = segT r x y := seg_sameT fun i hi _ => h i (.inr (by omega))
theorem seg_endT {r : List SlT} {a b n : Nat} (hn : r.length = n) (hb : n ≤ b) : segT r a b = segT r a n := by
  unfold segT
  rw [List.take_of_length_le (by omega), List.take_of_length_le (by omega)]
theorem seg_noneT {r : List SlT} {a b : Nat} (h : r.length ≤ a) : segT r a b = [] := by
  unfold segT
  exact List.drop_eq_nil_of_le (by rw [List.length_take]; omega)
theorem asc_nilT (key : SlT → Int) : Asc (ltK key) [] := List.Pairwise.nil
/-- ascending in blocks; the first t double ones already merged -/
structure BlksT (key : SlT → Int) (r : List SlT) (bs : Nat) : Prop where
  at' : ∀ u, Asc (ltK key) (segT r (bs * u) (bs * u + bs))
structure HalfT (key : SlT → Int) (r : List SlT) (bs t : Nat) : Prop where
  lo : ∀ u, u < t → Asc (ltK key) (segT r (2 * bs * u) (2 * bs * u + 2 * bs))
  hi : ∀ u, 2 * t ≤ u → Asc (ltK key) (segT r (bs * u) (bs * u + bs))
structure FirstsT (key : SlT → Int) (r : List SlT) (t : Nat) : Prop where
  lo : ∀ u, u < t → Asc (ltK key) (segT r (20 * u) (20 * u + 20))
theorem FirstsT.step {key : SlT → Int} {r r' : List SlT} {t : Nat} (h : FirstsT key r t) (s : StpT key r r' (20 * t) (20 * t + 20)) : FirstsT key r' (t + 1) := ⟨fun u hu => by
  rcases Nat.lt_or_ge u t with h1 | h1
  · rw [seg_lowT s.out (by omega)]; exact h.lo u h1
  · obtain rfl : u = t := by omega
    exact s.asc⟩
theorem FirstsT.last {key : SlT → Int} {r r' : List SlT} {t n : Nat} (h : FirstsT key r t) (hn : r.length = n) (hb : n < 20 * t + 20) (s : StpT key r r' (20 * t) n) : BlksT key r' 20 := ⟨fun u => by
  have hn' : r'.length = n := by rw [s.flt.len, hn]
  rcases Nat.lt_trichotomy u t with h1 | h1 | h1
  · rw [seg_lowT s.out (by omega)]; exact h.lo u h1
  · subst h1
    rw [seg_endT hn' (by omega)]; exact s.asc
  · rw [seg_noneT (by omega)]; exact asc_nilT key⟩
theorem HalfT.step {key : SlT → Int} {r r' : List SlT} {bs t : Nat} (h : HalfT key r bs t) (s : StpT key r r' (2 * bs * t) (2 * bs * t + 2 * bs)) : HalfT key r' bs (t + 1) := by
  refine ⟨fun u hu => ?_, fun u hu => ?_⟩
  · rcases Nat.lt_or_ge u t with h1 | h1
    · have h2 : 2 * bs * (u + 1) ≤ 2 * bs * t := Nat.mul_le_mul_left _ (by omega)
      rw [Nat.mul_add] at h2
      rw [seg_lowT s.out (by omega)]; exact h.lo u h1
    · obtain rfl : u = t := by omega
      exact s.asc
  · have h2 : bs * (2 * (t + 1)) ≤ bs * u := Nat.mul_le_mul_left _ (by omega)
    have h3 : bs * (2 * (t + 1)) = 2 * bs * t + 2 * bs := by rw [Nat.mul_comm 2 bs, Nat.mul_assoc, ← Nat.mul_add]; congr 1
    rw [seg_highT s.out (by omega)]; exact h.hi u (by omega)
theorem two_mul_atT (bs t : Nat) : bs * (2 * t) = 2 * bs * t := by rw [Nat.mul_comm 2 bs, Nat.mul_assoc]
theorem two_mul_at1T (bs t : Nat) : bs * (2 * t + 1) = 2 * bs * t + bs := by rw [Nat.mul_add, two_mul_atT, Nat.mul_one]
theorem HalfT.merge {key : SlT → Int} {r r' : List SlT} {bs t n : Nat} (h : HalfT key r bs t) (hn : r.length = n) (hb : n < 2 * bs * t + 2 * bs) (s : StpT key r r' (2 * bs * t) n) : BlksT key r' (2 * bs) := ⟨fun u => by
  have hn' : r'.length = n := by rw [s.flt.len, hn]
  rcases Nat.lt_trichotomy u t with h1 | h1 | h1
  · have h2 : 2 * bs * (u + 1) ≤ 2 * bs * t := Nat.mul_le_mul_left _ (by omega)
    rw [Nat.mul_add] at h2
    rw [seg_lowT s.out (by omega)]; exact h.lo u h1
  · subst h1
    rw [seg_endT hn' (by omega)]; exact s.asc
  · have h2 : 2 * bs * (t + 1) ≤ 2 * bs * u := Nat.mul_le_mul_left _ (by omega)
    rw [Nat.mul_add] at h2
    rw [seg_noneT (by omega)]; exact asc_nilT key⟩
theorem HalfT.rest {key : SlT → Int} {r : List SlT} {bs t n : Nat} (h : HalfT key r bs t) (hn : r.length = n) (hb : n ≤ 2 * bs * t + bs) : BlksT key r (2 * bs) := ⟨fun u => by
  rcases Nat.lt_trichotomy u t with h1 | h1 | h1
  · exact h.lo u h1
  · subst h1
    have := h.hi (2 * u) (Nat.le_refl _)
    rw [two_mul_atT] at this
    rw [seg_endT hn (by omega)]
    rwa [seg_endT hn (by omega)] at this
  · have h2 : 2 * bs * (t + 1) ≤ 2 * bs * u := Nat.mul_le_mul_left _ (by omega)
    rw [Nat.mul_add] at h2
    rw [seg_noneT (by omega)]; exact asc_nilT key⟩
theorem BlksT.half {key : SlT → Int} {r : List SlT} {bs : Nat} (h : BlksT key r bs) : HalfT key r bs 0 := ⟨fun u hu => absurd hu (by omega), fun u _ => h.at' u⟩
theorem BlksT.whole {key : SlT → Int} {r : List SlT} {bs n : Nat} (h : BlksT key r bs) (hn : r.length = n) (hb : n ≤ bs) : Asc (ltK key) r := by
  have := h.at' 0
  rw [Nat.mul_zero, Nat.zero_add] at this
  unfold segT at this
  rwa [List.take_of_length_le (by omega), List.drop_zero] at this
end Go.Proofs.YtcnpmebihdonoaaGreatDoor
namespace Go.Proofs.YtcnpmebihdonoaaGreatDoor
open Go.RowKit Go.Lib
set_option linter.unusedSimpArgs false
set_option linter.unusedVariables false
open Go.Sort Go.Shelf in
theorem mergeR_cT (mm : SlT → Int) (cb : Array Value) {w0 : World} {blk off : Nat} {d0 : Array SlT} (R : Row1 encNT w0 blk off d0) (N : Nat) (hN : d0.size = N) (hsz : N ≤ 1000) (hC : CmpLays1 Tryz.prog 45 cb encNT (cmpKT mm) blk off N w0) (cap : Nat)
    (r : List SlT) (hr : r.length = N) (a m b : Nat) (w : World) (h1 : a < m) (h2 : m < b) (h3 : b ≤ N) (sA : Asc (ltK mm) (segT r a m)) (sB : Asc (ltK mm) (segT r m b)) (S : SW encNT w0 blk off r.toArray w) :
    Calls Tryz.prog 126 #[.slice (some ⟨blk, off, none⟩) N cap, .int .i64 (a : Int), .int .i64 (m : Int), .int .i64 (b : Int), .func (.func 45) #[] cb] w fun e w' => e = .returned (.tuple #[]) ∧ ∃ r', StpT mm r r' a b ∧ SW encNT w0 blk off r'.toArray w' := by
  obtain ⟨e, l1, l2⟩ := seg_cutT r (a := a) (m := m) (b := b) (by omega) (by omega) (by omega)
  have lt : (r.take a).length = a := by rw [List.length_take]; omega
  have ld : (r.drop b).length = N - b := by rw [List.length_drop]; omega
  have hst := mrg_stepT mm r (a := a) (m := m) (b := b) (by omega) (by omega) (by omega) sA sB
  rw [e] at S
  refine (symMerge_cT mm cb R N hN (by omega) hC cap (b - a) (r.take a) (segT r a m) (segT r m b) (r.drop b) a m b w rfl (by omega) (by omega) lt.symm (by omega) (by omega) (by omega) sA sB S).mono ?_
  rintro e w' ⟨rfl, hS⟩
  exact ⟨rfl, _, hst, hS⟩
open Go.Sort Go.Shelf in
theorem insR_cT (I : InsNOKT) (mm : SlT → Int) (cb : Array Value) {w0 : World} {blk off : Nat} {d0 : Array SlT} (R : Row1 encNT w0 blk off d0) (N : Nat) (hN : d0.size = N) (hsz : N ≤ 1000) (hC : CmpLays1 Tryz.prog 45 cb encNT (cmpKT mm) blk off N w0) (cap : Nat)
    (r : List SlT) (hr : r.length = N) (a b : Nat) (w : World) (h1 : a ≤ b) (h3 : b ≤ N) (S : SW encNT w0 blk off r.toArray w) :
    Calls Tryz.prog 125 #[.slice (some ⟨blk, off, none⟩) N cap, .int .i64 (a : Int), .int .i64 (b : Int), .func (.func 45) #[] cb] w fun e w' => e = .returned (.tuple #[]) ∧ ∃ r', StpT mm r r' a b ∧ SW encNT w0 blk off r'.toArray w' := by
  have hrs : r.toArray.size = N := by simpa using hr
  have := I.some mm cb blk off cap a b d0 r.toArray w0 w (by rw [hN]; exact hC) R (by rw [hN, hrs]) S h1 (by omega) (by omega)
  rw [hrs] at this
  refine this.mono ?_
  rintro e w' ⟨rfl, hS⟩
  exact ⟨rfl, _, ins_stepT mm r h1 (by omega), by simpa using hS⟩
open Go.Sort Go.Shelf in
set_option maxHeartbeats 8000000 in
set_option maxRecDepth 100000 in
theorem stableN_cT (I : InsNOKT) (mm : SlT → Int) (cb : Array Value) {w0 : World} {blk off : Nat} (N cap : Nat) (l : List SlT) (hl : l.length = N) (hsz : N ≤ 1000) (R : Row1 encNT w0 blk off l.toArray) (hC : CmpLays1 Tryz.prog 45 cb encNT (cmpKT mm) blk off N w0) (w : World) (S : SW encNT w0 blk off l.toArray w) :
    Calls Tryz.prog 84 #[.slice (some ⟨blk, off, none⟩) N cap, .int .i64 (N : Int), .func (.func 45) #[] cb] w fun e w' =>
      e = .returned (.tuple #[]) ∧ ∃ r, FltT mm l r ∧ Asc (ltK mm) r ∧ SW encNT w0 blk off r.toArray w' := by
  have hN : l.toArray.size = N := by simpa using hl
  have HIN := Lib.hid (fun r hr a b w h1 h3 S => insR_cT I mm cb R N hN hsz hC cap r hr a b w h1 h3 S)
  have HMR := Lib.hid (fun r hr a m b w h1 h2 h3 sA sB S => mergeR_cT mm cb R N hN hsz hC cap r hr a m b w h1 h2 h3 sA sB S)
  have S0 := Lib.hid S
  have HLL := Lib.hid hl
  have HF0 : Hid (FltT mm l l) := ⟨rfl, fun _ => rfl⟩
  clear S hl hN hC R I
  go_enter Tryz.func84, Tryz.ntmps84
  go_wp2_with fail
  go_loopg [7, 8] N (fun gk s7 s8 wr => ∃ a b : Nat, s7 = .int .i64 a ∧ s8 = .int .i64 b ∧ a ≤ N ∧ N - a ≤ gk ∧ Hid (∃ t r, a = 20 * t ∧ b = a + 20 ∧ FltT mm l r ∧ FirstsT mm r t ∧ SW encNT w0 blk off r.toArray wr))
  case atStart => exact ⟨0, 20, by simp, by simp, by omega, by omega, 0, l, by omega, by omega, HF0.out, ⟨fun u hu => absurd hu (by omega)⟩, S0.out⟩
  case round =>
    clear S0 HF0
    obtain ⟨a, b, rfl, rfl, haN, hgk, HI⟩ := hrel
    obtain ⟨t, r, hat, hba, hF, hFi, hS⟩ := HI.out
    have hrl : r.length = N := by rw [hF.len]; exact HLL.out
    by_cases hb : b ≤ N
    · have hb2 : (b : Int) ≤ N := by omega
      have hb3 : decide ((b : Int) ≤ N) = true := decide_eq_true hb2
      have HC1 := Lib.hid (HIN.out r hrl a b wr (by omega) hb hS)
      have hg2 : N - b ≤ gk - 1 := by omega
      have hg3 : gk - 1 < gk := by omega
      obtain ⟨b', hb'⟩ : ∃ q, q = b + 20 := ⟨_, rfl⟩
      have zb : (b : Int) + 20 = (b' : Int) := by omega
      have vb : IntKind.i64.wrap (b' : Int) = (b' : Int) := by rw [IntKind.wrap_i64]; omega
      have HNX := Lib.hid (fun r' W (hs : StpT mm r r' a b) (hw : SW encNT w0 blk off r'.toArray W) => (show ∃ t r, b = 20 * t ∧ b' = b + 20 ∧ FltT mm l r ∧ FirstsT mm r t ∧ SW encNT w0 blk off r.toArray W from ⟨t + 1, r', by omega, hb', hF.trans hs.flt, hFi.step (by rw [← hat, ← hba]; exact hs), hw⟩))
      clear hat hba hF hFi hS HI hrl hb'
      go_wp2_with fail
      refine HC1.out.mono ?_
      rintro e W4 ⟨rfl, r', hs, hW⟩
      have HN2 := Lib.hid (HNX.out r' W4 hs hW)
      clear hs hW HNX HC1
      go_wp2_with fail
      go_roundg (gk - 1)
      case measure => exact hg3
      case rel => exact ⟨b, b', rfl, by first | rfl | go_num, hb, hg2, HN2⟩
    · have hb2 : ¬ (b : Int) ≤ N := by omega
      have hb3 : decide ((b : Int) ≤ N) = false := decide_eq_false hb2
      have HC1 := Lib.hid (HIN.out r hrl a N wr haN (Nat.le_refl _) hS)
      have HNX := Lib.hid (fun r' W (hs : StpT mm r r' a N) (hw : SW encNT w0 blk off r'.toArray W) => (show ∃ r, FltT mm l r ∧ BlksT mm r 20 ∧ SW encNT w0 blk off r.toArray W from ⟨r', hF.trans hs.flt, hFi.last hrl (by omega) (by rw [← hat]; exact hs), hw⟩))
      clear hat hba hF hFi hS HI hrl
      go_wp2_with fail
      refine HC1.out.mono ?_
      rintro e W4 ⟨rfl, r', hs, hW⟩
      have HN2 := Lib.hid (HNX.out r' W4 hs hW)
      clear hs hW HNX HC1 hb hb2 hb3 haN hgk
      go_wp2_with fail
      go_loopg [6, 7, 8, 9] N (fun gk s6 s7 s8 s9 wr => ∃ bs : Nat, s6 = .int .i64 bs ∧ 0 < bs ∧ bs ≤ 2000 ∧ N - bs ≤ gk ∧ Hid (∃ r, FltT mm l r ∧ BlksT mm r bs ∧ SW encNT w0 blk off r.toArray wr))
      case atStart => exact ⟨20, by simp, by omega, by omega, by omega, HN2⟩
      case round =>
        clear HN2
        obtain ⟨bs, rfl, hbs, hbm, hgk, HI⟩ := hrel
        by_cases hlt : bs < N
        · obtain ⟨r, hF, hB, hS⟩ := HI.out
          have hlt2 : (bs : Int) < N := by omega
          have hlt3 : decide ((bs : Int) < N) = true := decide_eq_true hlt2
          obtain ⟨d2, hd2⟩ : ∃ d, d = 2 * bs := ⟨_, rfl⟩
          have z2 : (2 : Int) * bs = (d2 : Int) := by omega
          have z3 : (bs : Int) * 2 = (d2 : Int) := by omega
          have v2 : IntKind.i64.wrap (d2 : Int) = (d2 : Int) := by rw [IntKind.wrap_i64]; omega
          have hd3 : d2 ≤ 2000 := by omega
          have hd4 : 0 < d2 := by omega
          obtain ⟨G, rfl⟩ : ∃ G, G = gk := ⟨gk, rfl⟩
          have hgd : N - d2 ≤ G - 1 := by omega
          have hgd1 : G - 1 < G := by omega
          have HI0 : Hid (∃ t r, 0 = 2 * bs * t ∧ d2 = 0 + 2 * bs ∧ FltT mm l r ∧ HalfT mm r bs t ∧ SW encNT w0 blk off r.toArray wr) := ⟨0, r, by omega, by omega, hF, hB.half, hS⟩
          have HD2 := Lib.hid hd2
          clear hF hB hS HI hd2
          go_wp2_with fail
          go_loopg [7, 8] N (fun g2 s7 s8 wr => ∃ a b : Nat, s7 = .int .i64 a ∧ s8 = .int .i64 b ∧ a ≤ N ∧ b ≤ 4000 ∧ N - a ≤ g2 ∧ Hid (∃ t r, a = 2 * bs * t ∧ b = a + 2 * bs ∧ FltT mm l r ∧ HalfT mm r bs t ∧ SW encNT w0 blk off r.toArray wr))
          case atStart => exact ⟨0, d2, by simp, by first | rfl | simp, by omega, by omega, by omega, HI0⟩
          case round =>
            clear HI0
            obtain ⟨a, b, rfl, rfl, haN, hbM, hg2, HI⟩ := hrel
            obtain ⟨t, r, hat, hba, hF, hH, hS⟩ := HI.out
            have hrl : r.length = N := by rw [hF.len]; exact HLL.out
            obtain ⟨m, hm⟩ : ∃ q, q = a + bs := ⟨_, rfl⟩
            have zm : (a : Int) + bs = (m : Int) := by omega
            have vm : IntKind.i64.wrap (m : Int) = (m : Int) := by rw [IntKind.wrap_i64]; omega
            have sA : Asc (ltK mm) (segT r a m) := by
              have := hH.hi (2 * t) (Nat.le_refl _)
              rw [two_mul_atT, ← hat, ← hm] at this
              exact this
            by_cases hb : b ≤ N
            · have hb2 : (b : Int) ≤ N := by omega
              have hb3 : decide ((b : Int) ≤ N) = true := decide_eq_true hb2
              have sB : Asc (ltK mm) (segT r m b) := by
                have := hH.hi (2 * t + 1) (by omega)
                rw [two_mul_at1T, ← hat, ← hm] at this
                rw [show b = m + bs by omega]
                exact this
              have HC1 := Lib.hid (HMR.out r hrl a m b wr (by omega) (by omega) hb sA sB hS)
              obtain ⟨b', hb'⟩ : ∃ q, q = b + d2 := ⟨_, rfl⟩
              have zb : (b : Int) + d2 = (b' : Int) := by omega
              have vb : IntKind.i64.wrap (b' : Int) = (b' : Int) := by rw [IntKind.wrap_i64]; omega
              have hbm' : b' ≤ 4000 := by omega
              have hg3 : N - b ≤ gk - 1 := by omega
              have hg4 : gk - 1 < gk := by omega
              have HNX := Lib.hid (fun r' W (hs : StpT mm r r' a b) (hw : SW encNT w0 blk off r'.toArray W) => (show ∃ t r, b = 2 * bs * t ∧ b' = b + 2 * bs ∧ FltT mm l r ∧ HalfT mm r bs t ∧ SW encNT w0 blk off r.toArray W from ⟨t + 1, r', by rw [Nat.mul_add, ← hat]; omega, by have := HD2.out; omega, hF.trans hs.flt, hH.step (by rw [← hat, ← hba]; exact hs), hw⟩))
              clear hat hba hF hH hS HI hrl sA sB hm hb'
              go_wp2_with fail
              refine HC1.out.mono ?_
              rintro e W5 ⟨rfl, r', hs, hW⟩
              have HN2 := Lib.hid (HNX.out r' W5 hs hW)
              clear hs hW HNX HC1
              go_wp2_with fail
              go_roundg (gk - 1)
              case measure => exact hg4
              case rel => exact ⟨b, b', rfl, by first | rfl | go_num, hb, hbm', hg3, HN2⟩
            · have hb2 : ¬ (b : Int) ≤ N := by omega
              have hb3 : decide ((b : Int) ≤ N) = false := decide_eq_false hb2
              by_cases hmN : m < N
              · have hm2 : (m : Int) < N := by omega
                have hm3 : decide ((m : Int) < N) = true := decide_eq_true hm2
                have sB : Asc (ltK mm) (segT r m N) := by
                  have := hH.hi (2 * t + 1) (by omega)
                  rw [two_mul_at1T, ← hat, ← hm] at this
                  rwa [seg_endT hrl (by omega)] at this
                have HC1 := Lib.hid (HMR.out r hrl a m N wr (by omega) hmN (Nat.le_refl _) sA sB hS)
                have HNX := Lib.hid (fun r' W (hs : StpT mm r r' a N) (hw : SW encNT w0 blk off r'.toArray W) => (show ∃ r, FltT mm l r ∧ BlksT mm r d2 ∧ SW encNT w0 blk off r.toArray W from ⟨r', hF.trans hs.flt, by rw [HD2.out]; exact hH.merge hrl (by omega) (by rw [← hat]; exact hs), hw⟩))
                clear hat hba hF hH hS HI hrl sA sB hm
                go_wp2_with fail
                refine HC1.out.mono ?_
                rintro e W5 ⟨rfl, r', hs, hW⟩
                have HN2 := Lib.hid (HNX.out r' W5 hs hW)
                clear hs hW HNX HC1
                go_wp2_with fail
                go_roundg (G - 1)
                case measure => exact hgd1
                case rel => exact ⟨d2, by first | rfl | go_num, hd4, hd3, hgd, HN2⟩
              · have hm2 : ¬ (m : Int) < N := by omega
                have hm3 : decide ((m : Int) < N) = false := decide_eq_false hm2
                have HN2 : Hid (∃ r, FltT mm l r ∧ BlksT mm r d2 ∧ SW encNT w0 blk off r.toArray wr) := ⟨r, hF, by rw [HD2.out]; exact hH.rest hrl (by omega), hS⟩
                clear hat hba hF hH hS HI hrl sA hm
                go_wp2_with fail
                go_roundg (G - 1)
                case measure => exact hgd1
                case rel => exact ⟨d2, by first | rfl | go_num, hd4, hd3, hgd, HN2⟩
        · have hnl : ¬ (bs : Int) < N := by omega
          have hnl2 : decide ((bs : Int) < N) = false := decide_eq_false hnl
          have HFIN : Hid (∃ r, FltT mm l r ∧ Asc (ltK mm) r ∧ SW encNT w0 blk off r.toArray wr) := by
            obtain ⟨r, hF, hB, hS⟩ := HI.out
            exact ⟨r, hF, hB.whole (n := N) (by rw [hF.len]; exact HLL.out) (by omega), hS⟩
          clear HI
          go_wp2_with fail
          go_end0
          exact ⟨rfl, HFIN.out⟩
end Go.Proofs.YtcnpmebihdonoaaGreatDoor
namespace Go.Proofs.YtcnpmebihdonoaaGreatDoor
open Go.RowKit Go.Lib
set_option linter.unusedSimpArgs false
set_option linter.unusedVariables false
open Go.Sort Go.Shelf in
theorem grownBy_sortedT {w : World} {g n : Nat} {os : Array Obj} (d : Array SlT) : w.grownBy (sortWorld encNT w g 0 n d os) (some g) := by
  unfold sortWorld
  refine ⟨rfl, rfl, rfl, by simp, fun k hk hne => ?_⟩
  rw [heap_grow_old _ _ (by simpa using hk)]
  have : g ≠ k := fun e => hne (by rw [e])
  simp [putRow, mapBlock, Sort.ahead, Array.getElem?_modify, this]
/-- larger ones first -/
def keyT (s : SlT) : Int := -(s.2.1 : Int)
set_option maxHeartbeats 1000000 in
set_option maxRecDepth 100000 in
theorem apartCmp_c (x y : SlT) (w : World) : Calls Tryz.prog 45 #[encNT x, encNT y] w fun e w' => e = .returned (.int .i64 (cmpKT keyT x y)) ∧ w = w' := by
  obtain ⟨xp, xn, xc⟩ := x
  obtain ⟨yp, yn, yc⟩ := y
  have HE : cmpKT keyT (xp, xn, xc) (yp, yn, yc) = cmpYT (yn : Int) (xn : Int) := by
    unfold cmpKT keyT cmpYT
    rw [show decide (-((xp, xn, xc) : SlT).2.1 < (-((yp, yn, yc) : SlT).2.1 : Int)) = decide ((yn : Int) < xn) from decide_eq_decide.2 (by dsimp only; omega), show decide (-((yp, yn, yc) : SlT).2.1 < (-((xp, xn, xc) : SlT).2.1 : Int)) = decide ((xn : Int) < yn) from decide_eq_decide.2 (by dsimp only; omega)]
  have HC := Lib.hid (fun W => cmpYInt_cT (yn : Int) (xn : Int) W)
  rw [← HE] at HC
  generalize cmpKT keyT (xp, xn, xc) (yp, yn, yc) = z at *
  unfold encNT
  clear HE
  go_enter Tryz.func45, Tryz.ntmps45
  go_wp2_with fail
  refine (HC.out _).mono ?_
  rintro e w4 ⟨rfl, rfl⟩
  go_wp2_with fail
  go_ret
  exact ⟨rfl, rfl⟩
theorem perm_fltT {key : SlT → Int} {l r : List SlT} (h : FltT key l r) : r.Perm l := by
  rw [List.perm_iff_count]
  intro a
  have h1 : ∀ q : List SlT, q.count a = (q.filter fun x => key x == key a).count a := fun q => by
    rw [List.count_filter]
    simp
  rw [h1 r, h1 l, h.flt]
open Go.Sort Go.Shelf in
set_option maxHeartbeats 1000000 in
set_option maxRecDepth 100000 in
theorem sortTm_c (I : InsNOKT) (l : List SlT) (N : Nat) (hl : l.length = N) (h1 : N ≤ 1000) (g cap2 : Nat) (w : World) (hg : g < w.heap.size) (hH : Holds encNT w g 0 l.toArray) :
    Calls Tryz.prog 44 #[.slice (some ⟨g, 0, none⟩) N cap2, .func (.func 45) #[] #[]] w fun e w' =>
      e = .returned (.tuple #[]) ∧ w.grownBy w' (some g) ∧ ∃ r : List SlT, r.Perm l ∧ Asc (ltK keyT) r ∧ Holds encNT w' g 0 r.toArray := by
  have hcmp : CmpLays1 Tryz.prog 45 #[] encNT (cmpKT keyT) g 0 N w := by
    intro q os dk _ x y
    refine (apartCmp_c x y _).mono ?_
    rintro e w' ⟨rfl, rfl⟩
    exact ⟨rfl, 0, #[], (grow_empty _).symm⟩
  have hR : Row1 encNT w g 0 l.toArray := ⟨fun _ => rfl, hH, hg⟩
  have HI := Lib.hid (stableN_cT I keyT #[] N cap2 l hl (by omega) hR hcmp w (SW.start hH))
  have HE : Hid (∀ (r : List SlT) W, FltT keyT l r → SW encNT w g 0 r.toArray W → w.grownBy W (some g) ∧ Holds encNT W g 0 r.toArray) := by
    intro r W hf hSW
    have hHs := hSW.holds hg hH (by have := hf.len; simp; omega)
    refine ⟨?_, hHs⟩
    obtain ⟨q, os, rfl⟩ := hSW
    exact grownBy_sortedT _
  clear hcmp hR hH hl h1 I
  go_enter Tryz.func44, Tryz.ntmps44
  go_wp2_with (refine HI.out.mono ?_; rintro e w4 ⟨rfl, r, hf, ha, hW⟩)
  go_end0
  obtain ⟨h1, h2⟩ := HE.out r _ hf hW
  exact ⟨rfl, h1, r, perm_fltT hf, ha, h2⟩
end Go.Proofs.YtcnpmebihdonoaaGreatDoor
namespace Go.Proofs.YtcnpmebihdonoaaGreatDoor
open Go.RowKit Go.Lib
set_option linter.unusedSimpArgs false
set_option linter.unusedVariables false
/-- the number that lies at a place -/
def valW (W : World) (b o : Nat) : Nat := match W.cell? ⟨b, o, none⟩ with
  | some (.int _ i) => i.toNat
  | _ => 0
theorem valW_at {W : World} {b o a : Nat} (h : W.cell? ⟨b, o, none⟩ = some (.int .i64 (a : Int))) : valW W b o = a := by simp [valW, h]
/-- the numbers of a slice -/
def lstW (W : World) (s : SlT) : List Nat := match s.1 with
  | some a => (List.range s.2.1).map fun k => valW W a.block (a.off + k)
  | none => []
/-- a slice that can be read, away from the block G -/
structure GoodS (W : World) (G : Nat) (s : SlT) : Prop where
  le : s.2.1 ≤ s.2.2
  mx : s.2.2 ≤ maxLen
  at_ : 0 < s.2.1 → ∃ b o, s.1 = some ⟨b, o, none⟩ ∧ b ≠ G ∧ b < W.heap.size ∧ ∀ k, k < s.2.1 → ∃ a : Nat, W.cell? ⟨b, o + k, none⟩ = some (.int .i64 (a : Int))
/-- what is left of a slice behind its first element -/
def tailT (s : SlT) : SlT := (if s.2.2 = 1 then s.1 else s.1.map (·.add 1), s.2.1 - 1, s.2.2 - 1)
theorem lstW_nil {W : World} {s : SlT} (h : s.2.1 = 0) : lstW W s = [] := by
  unfold lstW
  rw [h]
  cases s.1 <;> rfl
theorem lstW_len {W : World} {G : Nat} {s : SlT} (h : GoodS W G s) : (lstW W s).length = s.2.1 := by
  rcases Nat.eq_zero_or_pos s.2.1 with h0 | h0
  · rw [lstW_nil h0, h0]; rfl
  · obtain ⟨b, o, e, _⟩ := h.at_ h0
    unfold lstW
    rw [e]
    simp
theorem good_cons {W : World} {G : Nat} {s : SlT} (h : GoodS W G s) (h0 : 0 < s.2.1) : ∃ b o a, s.1 = some ⟨b, o, none⟩ ∧ b ≠ G ∧ b < W.heap.size ∧ W.cell? ⟨b, o, none⟩ = some (.int .i64 ((a : Nat) : Int)) ∧ lstW W s = a :: lstW W (tailT s) ∧ GoodS W G (tailT s) := by
  obtain ⟨b, o, e, hb, hbl, hc⟩ := h.at_ h0
  obtain ⟨p, n, c⟩ := s
  simp only at e h0 hc
  subst e
  have hle := h.le
  have hmx := h.mx
  simp only at hle hmx
  obtain ⟨a, ha⟩ := hc 0 h0
  rw [Nat.add_zero] at ha
  have hadd : (⟨b, o, none⟩ : Addr).add 1 = ⟨b, o + 1, none⟩ := by unfold Addr.add; split <;> simp_all
  refine ⟨b, o, a, rfl, hb, hbl, ha, ?_, ?_⟩
  · unfold lstW tailT
    obtain ⟨m, rfl⟩ : ∃ m, n = m + 1 := ⟨n - 1, by omega⟩
    simp only [Nat.add_sub_cancel, Option.map_some, hadd]
    rw [List.range_succ_eq_map, List.map_cons, List.map_map]
    rw [Nat.add_zero, valW_at ha]
    congr 1
    by_cases hc1 : c = 1
    · have : m = 0 := by omega
      subst this
      simp [hc1]
    · rw [if_neg hc1]
      simp only
      refine List.map_congr_left fun k hk => ?_
      simp only [Function.comp]
      rw [show o + (k + 1) = o + 1 + k by omega]
  · refine ⟨by simp only [tailT]; omega, by simp only [tailT]; omega, fun h1 => ?_⟩
    simp only [tailT] at h1 ⊢
    have hc1 : ¬ c = 1 := by omega
    rw [if_neg hc1]
    refine ⟨b, o + 1, by simp [hadd], hb, hbl, fun k hk => ?_⟩
    obtain ⟨a', ha'⟩ := hc (k + 1) (by omega)
    exact ⟨a', by rw [show o + 1 + k = o + (k + 1) by omega]; exact ha'⟩
/-- the teams, sorted or not, and the list so far -/
structure ApW (W1 w : World) (G : Nat) (ss : List SlT) (v : Value) (p : List Nat) : Prop where
  kp : W1.grownBy w (some G)
  lt : G < W1.heap.size
  hold : Sort.Holds encNT w G 0 ss.toArray
  good : ∀ s ∈ ss, GoodS W1 G s
  ord : w.ownsRow W1.heap.size 3 1 v p.length (nats p)
theorem holds_of {w : World} {G : Nat} {ss : List SlT} (h : ∀ i s, ss[i]? = some s → w.cell? ⟨G, i, none⟩ = some (encNT s) ∧ w.frozen? ⟨G, i, none⟩ = false) : Sort.Holds encNT w G 0 ss.toArray := by
  intro j hj
  have hj' : j < ss.length := by simpa using hj
  obtain ⟨h1, h2⟩ := h j ss[j] (List.getElem?_eq_getElem hj')
  rw [Nat.zero_add]
  refine ⟨?_, h2⟩
  rw [getElem!_pos ss.toArray j hj]
  simpa using h1
theorem holds_at {w : World} {G : Nat} {ss : List SlT} (h : Sort.Holds encNT w G 0 ss.toArray) {i : Nat} {s : SlT} (hs : ss[i]? = some s) : w.cell? ⟨G, i, none⟩ = some (encNT s) ∧ w.frozen? ⟨G, i, none⟩ = false := by
  obtain ⟨hi, e⟩ := List.getElem?_eq_some_iff.1 hs
  have := h i (by simpa using hi)
  rw [Nat.zero_add] at this
  refine ⟨?_, this.2⟩
  rw [this.1]
  congr 2
  rw [getElem!_pos ss.toArray i (by simpa using hi)]
  simpa using e
theorem holds_same {w w' : World} {G : Nat} {ss : List SlT} (h : Sort.Holds encNT w G 0 ss.toArray) (k : w'.heap[G]? = w.heap[G]?) : Sort.Holds encNT w' G 0 ss.toArray := fun j hj => by
  rw [World.cell?_of_block (a := ⟨G, 0 + j, none⟩) k, World.frozen?_of_block (a := ⟨G, 0 + j, none⟩) k]
  exact h j hj
theorem ApW.gr {W1 w w' : World} {G : Nat} {ss : List SlT} {v : Value} {p : List Nat} (h : ApW W1 w G ss v p) (k : Gr w w') : ApW W1 w' G ss v p := by
  have hG : G < w.heap.size := Nat.lt_of_lt_of_le h.lt h.kp.size
  refine ⟨⟨k.os.trans h.kp.os, k.tape.trans h.kp.tape, k.output.trans h.kp.output, Nat.le_trans h.kp.size k.size, fun b hb hne => ?_⟩, h.lt, holds_same h.hold (Below.block k G hG), h.good, own_kept h.ord k⟩
  rw [Below.block k b (Nat.lt_of_lt_of_le hb h.kp.size)]
  exact h.kp.block b hb hne
theorem ApW.at_ {W1 w : World} {G : Nat} {ss : List SlT} {v : Value} {p : List Nat} (h : ApW W1 w G ss v p) {i : Nat} {s : SlT} (hs : ss[i]? = some s) : w.cell? ⟨G, i, none⟩ = some (encNT s) := (holds_at h.hold hs).1
theorem ApW.read {W1 w : World} {G : Nat} {ss : List SlT} {v : Value} {p : List Nat} (h : ApW W1 w G ss v p) {b o : Nat} {x : Value} (hb : b ≠ G) (hc : W1.cell? ⟨b, o, none⟩ = some x) : w.cell? ⟨b, o, none⟩ = some x := h.kp.cell hc (by intro e; cases e; exact hb rfl)
theorem ApW.base {w0 W1 w : World} {G : Nat} {ss : List SlT} {v : Value} {p : List Nat} (h : ApW W1 w G ss v p) (g : Gr w0 W1) (hG : w0.heap.size ≤ G) : Gr w0 w :=
  Below.grown g h.kp g.size fun k hk => by cases hk; exact hG
theorem ApW.ne {W1 w : World} {G : Nat} {ss : List SlT} {v : Value} {p : List Nat} (h : ApW W1 w G ss v p) : v.ownBlock ≠ some G := fun e => by
  have := (own_in h.ord e).2
  have := h.lt
  omega
theorem ApW.sort {W1 w w' : World} {G : Nat} {ss r : List SlT} {v : Value} {p : List Nat} (h : ApW W1 w G ss v p) (k : w.grownBy w' (some G)) (hp : r.Perm ss) (hr : Sort.Holds encNT w' G 0 r.toArray) : ApW W1 w' G r v p := by
  refine ⟨⟨k.os.trans h.kp.os, k.tape.trans h.kp.tape, k.output.trans h.kp.output, Nat.le_trans h.kp.size k.size, fun b hb hne => ?_⟩, h.lt, hr, fun s hs => h.good s (hp.mem_iff.1 hs), h.ord.kept k (.inr h.ne)⟩
  rw [k.block b (Nat.lt_of_lt_of_le hb h.kp.size) hne]
  exact h.kp.block b hb hne
/-- one more in the list: the list grows, the team's slice is put back without its first one -/
theorem ApW.pick {W1 w w1 : World} {G : Nat} {ss : List SlT} {v v1 : Value} {p : List Nat} (h : ApW W1 w G ss v p) {j : Nat} {s t9 : SlT} (hs : ss[j]? = some s) (hg : GoodS W1 G t9) {a : Nat} {o : Obj} (hown : w1.ownsRow W1.heap.size 3 1 v1 (p.length + 1) (nats (p ++ [a]))) (hgr : (w.alloc o).grownBy w1 v.ownBlock) (hat : v1.ownBlock = v.ownBlock ∨ v1.ownBlock = some (w.alloc o).heap.size) :
    ApW W1 w1 G ss v1 (p ++ [a]) ∧ w1.cell? ⟨G, j, none⟩ = some (encNT s) ∧ w1.frozen? ⟨G, j, none⟩ = false ∧ ApW W1 (w1.setCell ⟨G, j, none⟩ (encNT t9)) G (ss.set j t9) v1 (p ++ [a]) := by
  have hA := h.gr ((Gr.refl w).alloc o)
  have hGs : G < (w.alloc o).heap.size := Nat.lt_of_lt_of_le hA.lt hA.kp.size
  have hkG : w1.heap[G]? = (w.alloc o).heap[G]? := hgr.block G hGs (fun e => h.ne e.symm)
  have h1 : ApW W1 w1 G ss v1 (p ++ [a]) := by
    refine ⟨⟨hgr.os.trans hA.kp.os, hgr.tape.trans hA.kp.tape, hgr.output.trans hA.kp.output, Nat.le_trans hA.kp.size hgr.size, fun b hb hne => ?_⟩, h.lt, holds_same hA.hold hkG, h.good, by rw [List.length_append]; exact hown⟩
    rw [hgr.block b (Nat.lt_of_lt_of_le hb hA.kp.size) (fun e => by have := (own_in hA.ord e.symm).2; omega)]
    exact hA.kp.block b hb hne
  obtain ⟨c1, c2⟩ := holds_at h1.hold hs
  refine ⟨h1, c1, c2, ⟨h1.kp.os, h1.kp.tape, h1.kp.output, by simpa using h1.kp.size, fun b hb hne => ?_⟩, h.lt, holds_of fun i t ht => ?_, fun t ht => ?_, ?_⟩
  · rw [heap_setCell_other _ _ _ _ (fun e => hne (congrArg some e))]
    exact h1.kp.block b hb hne
  · by_cases e : i = j
    · subst e
      rw [List.getElem?_set_self (List.getElem?_eq_some_iff.1 hs).1] at ht
      cases ht
      exact ⟨World.cell?_setCell_same _ _ _ c1, by rw [World.frozen?_setCell]; exact c2⟩
    · rw [List.getElem?_set_ne (Ne.symm e)] at ht
      obtain ⟨d1, d2⟩ := holds_at h1.hold ht
      exact ⟨(World.cell?_setCell_other _ _ _ _ (by intro e'; simp only [Addr.mk.injEq] at e'; omega)).trans d1, by rw [World.frozen?_setCell]; exact d2⟩
  · rcases List.mem_or_eq_of_mem_set ht with ht | rfl
    · exact h.good t ht
    · exact hg
  · refine own_same h1.ord fun g e => ?_
    exact heap_setCell_other _ _ _ _ (fun r => h1.ne (by rw [e]; exact congrArg some r))
theorem slT_of {w : World} {b n : Nat} {v : Value} {l : List Value} {T : TypeId} (h : w.ownsRow b T 1 v n l) : ∃ s : SlT, v = encNT s ∧ s.2.1 = n := by
  obtain ⟨p, c, rfl, _⟩ := own_shape h
  exact ⟨(p, n, c), rfl, rfl⟩
/-- the teams as they are made -/
theorem Tms.state {W : World} {base mg : Nat} {v : Value} {vs : List Value} {ks : List (ByteArray × Nat)} {L : List (List Nat)} (h : Tms W base mg v vs ks L) (h0 : 0 < vs.length) : ∃ G cap ss, v = .slice (some ⟨G, 0, none⟩) (ss : List SlT).length cap ∧ base ≤ G ∧ ApW W W G ss (.slice none 0 0) [] ∧ ss.map (lstW W) = L := by
  obtain ⟨G, cap, rfl, hbG, hGl, hcap, hc⟩ := own_at h.own h0
  have hfr := fun j => h.own.frozenAt j
  obtain ⟨ss, hss⟩ : ∃ ss : List SlT, vs = ss.map encNT := by
    refine ⟨vs.map fun u => match u with
      | .slice p n c => (p, n, c)
      | _ => (none, 0, 0), ?_⟩
    rw [List.map_map]
    refine (List.map_id vs).symm.trans (List.map_congr_left fun u hu => ?_)
    obtain ⟨i, hi⟩ := List.mem_iff_getElem?.1 hu
    obtain ⟨l, hl⟩ := h.at_ hi
    obtain ⟨s, rfl, _⟩ := slT_of (h.row i u l hi hl)
    rfl
  have hat : ∀ i s, ss[i]? = some s → vs[i]? = some (encNT s) := fun i s hs => by rw [hss, List.getElem?_map, hs]; rfl
  have hlen : vs.length = ss.length := by rw [hss, List.length_map]
  have hgood : ∀ i s l, ss[i]? = some s → L[i]? = some l → GoodS W G s ∧ lstW W s = l := fun i s l hs hl => by
    have ho := h.row i _ l (hat i s hs) hl
    obtain ⟨p, n, c⟩ := s
    obtain ⟨p', c', e, hle, hmx⟩ := own_shape ho
    unfold encNT at e ho
    simp only [Value.slice.injEq] at e
    obtain ⟨rfl, rfl, rfl⟩ := e
    rcases Nat.eq_zero_or_pos l.length with hl0 | hl0
    · refine ⟨⟨hle, hmx, fun hq => absurd hq (by simp only; omega)⟩, ?_⟩
      rw [lstW_nil (by simpa using hl0), List.eq_nil_of_length_eq_zero hl0]
    · obtain ⟨g, c2, e2, hb2, hg2, _, hcc⟩ := own_at ho hl0
      simp only [Value.slice.injEq] at e2
      obtain ⟨rfl, _, rfl⟩ := e2
      have hcell : ∀ (k a : Nat), l[k]? = some a → W.cell? ⟨g, k, none⟩ = some (.int .i64 (a : Int)) := fun k a ha => hcc k _ (by unfold nats; rw [List.getElem?_map, ha]; rfl)
      refine ⟨⟨hle, hmx, fun _ => ⟨g, 0, rfl, fun e => h.ng i _ g (hat i _ hs) rfl (by rw [e]; rfl), hg2, fun k hk => ?_⟩⟩, ?_⟩
      · rw [Nat.zero_add]
        exact ⟨_, hcell k _ (List.getElem?_eq_getElem hk)⟩
      · unfold lstW
        refine List.ext_getElem? fun k => ?_
        simp only [List.getElem?_map, Nat.zero_add]
        by_cases hk : k < l.length
        · rw [List.getElem?_range hk, List.getElem?_eq_getElem hk]
          simp only [Option.map_some]
          rw [valW_at (hcell k _ (List.getElem?_eq_getElem hk))]
        · rw [List.getElem?_eq_none (by simpa using hk), List.getElem?_eq_none (by simpa using hk)]
          rfl
  refine ⟨G, cap, ss, by rw [hlen], hbG, ⟨⟨rfl, rfl, rfl, Nat.le_refl _, fun _ _ _ => rfl⟩, hGl, holds_of fun i s hs => ⟨hc i _ (hat i s hs), hfr i⟩, fun s hs => ?_, World.ownsRow_nil _ _ _ _⟩, ?_⟩
  · obtain ⟨i, hi⟩ := List.mem_iff_getElem?.1 hs
    obtain ⟨l, hl⟩ := h.at_ (hat i s hi)
    exact (hgood i s l hi hl).1
  · refine List.ext_getElem? fun i => ?_
    rw [List.getElem?_map]
    by_cases hi : i < ss.length
    · obtain ⟨l, hl⟩ := h.at_ (hat i _ (List.getElem?_eq_getElem hi))
      rw [hl, List.getElem?_eq_getElem hi]
      exact congrArg some (hgood i _ l (List.getElem?_eq_getElem hi) hl).2
    · rw [List.getElem?_eq_none (by omega), List.getElem?_eq_none (by rw [← h.len, hlen]; omega)]
      rfl
end Go.Proofs.YtcnpmebihdonoaaGreatDoor
