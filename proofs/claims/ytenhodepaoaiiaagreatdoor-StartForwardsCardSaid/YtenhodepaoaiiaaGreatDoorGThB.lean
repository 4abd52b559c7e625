/- Places: the library's stable sort of at most twenty. -/
import Derived.Test.YtenhodepaoaiiaaGreatDoorGCmp
import Derived.Shelf.SlSortCmp.InsertionK
import Derived.Sort.OwnSortedInts
import Derived.Shelf.SlSortCmp.Kit1
namespace Go.Proofs.YtenhodepaoaiiaaGreatDoor
open Go.RowKit Go.Lib
set_option linter.unusedSimpArgs false
set_option linter.unusedVariables false
instance : Inhabited PlR := ⟨⟨⟨#[]⟩, 0⟩⟩
def cmpP (x y : PlR) : Int := cmpZ x.rk y.rk
theorem lt_pl (x y : PlR) : ltOf cmpP x y = decide (x.rk < y.rk) := by
  unfold ltOf
  apply decide_eq_decide.2
  show cmpZ x.rk y.rk < 0 ↔ x.rk < y.rk
  rcases cmpZ_cases' x.rk y.rk with ⟨a, e⟩ | ⟨a, e⟩ | ⟨a, e⟩ <;> rw [e] <;> constructor <;> omega
theorem swo_pl : Go.Sort.SWO (ltOf cmpP) where
  irrefl x := by rw [lt_pl]; simp
  trans x y z h1 h2 := by rw [lt_pl, decide_eq_true_eq] at *; omega
  ntrans x y z h1 h2 := by rw [lt_pl, decide_eq_false_iff_not] at *; omega
open Go.Sort Go.Shelf in
theorem grownBy_sortedK {α : Type} [Inhabited α] (enc : α → List Value) (k : Nat) {w : World} {g n : Nat} {os : Array Obj} (d : Array α) : w.grownBy (sortWorldK enc k w g 0 n d os) (some g) := by
  unfold sortWorldK
  refine ⟨rfl, rfl, rfl, by simp [putRowK], fun j hj hne => ?_⟩
  rw [heap_grow_old _ _ (by simpa [putRowK] using hj)]
  have : g ≠ j := fun e => hne (by rw [e])
  simp [putRowK, putRow, mapBlock, Sort.ahead, Array.getElem?_modify, this]
open Go.Sort Go.Shelf in
theorem heap_sortedK {α : Type} [Inhabited α] (enc : α → List Value) (k : Nat) {w : World} {g n : Nat} {os : Array Obj} {cur : Array Value} {e : TypeId} {fr : Nat × Nat} (d : Array α) (hb : w.heap[g]? = some (.cells cur e fr)) :
    (sortWorldK enc k w g 0 n d os).heap[g]? = some (.cells (putCells id 0 (flatK enc k d) cur) e fr) := by
  have hlt := (Array.getElem?_eq_some_iff.1 hb).1
  unfold sortWorldK
  rw [heap_grow_old _ _ (by simpa [putRowK] using hlt)]
  simp [putRowK, putRow, mapBlock, Sort.ahead, Array.getElem?_modify, hb, onCells]
/-- the cells of places -/
def plCs (ps : List PlR) : List Value := ps.flatMap plC
theorem plCs_at {ps : List PlR} {i : Nat} {x : PlR} (h : ps[i]? = some x) (j : Nat) (hj : j < 2) : (plCs ps)[i * 2 + j]? = (plC x)[j]? := by
  induction ps generalizing i with
  | nil => simp at h
  | cons y ys ih =>
    have e : plCs (y :: ys) = plC y ++ plCs ys := rfl
    rw [e]
    cases i with
    | zero =>
      simp only [List.getElem?_cons_zero, Option.some.injEq] at h
      subst h
      rw [show 0 * 2 + j = j by omega, List.getElem?_append_left (by simp [plC]; omega)]
    | succ i =>
      rw [List.getElem?_append_right (by simp [plC]; omega)]
      have := ih (i := i) (by simpa using h)
      rw [← this]
      congr 1
      simp [plC]; omega
theorem plCs_len (ps : List PlR) : (plCs ps).length = ps.length * 2 := by
  induction ps with
  | nil => rfl
  | cons x xs ih => simp only [plCs, List.flatMap_cons, List.length_append, List.length_cons] at *; rw [ih]; simp [plC]; omega
open Go.Sort Go.Shelf in
theorem flat_pl (d : Array PlR) (t : Nat) (ht : t < d.size * 2) : (flatK plC 2 d)[t]! = ((plCs d.toList)[t]?).getD default := by
  rw [get_flatK plC 2 d t ht]
  have hq : t / 2 < d.size := by omega
  have h := plCs_at (ps := d.toList) (i := t / 2) (x := d[t / 2]!) (by rw [Array.getElem?_toList, getElem!_pos d _ hq]; exact Array.getElem?_eq_getElem hq) (t % 2) (by omega)
  rw [show t / 2 * 2 + t % 2 = t by omega] at h
  rw [h]
  have hm : t % 2 < 2 := by omega
  rcases Nat.mod_two_eq_zero_or_one t with e | e <;> rw [e] <;> rfl
end Go.Proofs.YtenhodepaoaiiaaGreatDoor
namespace Go.Proofs.YtenhodepaoaiiaaGreatDoor
open Go.RowKit Go.Lib
set_option linter.unusedSimpArgs false
set_option linter.unusedVariables false
end Go.Proofs.YtenhodepaoaiiaaGreatDoor
namespace Go.Proofs.YtenhodepaoaiiaaGreatDoor
open Go.RowKit Go.Lib
set_option linter.unusedSimpArgs false
set_option linter.unusedVariables false
theorem cmpZ_cases (a b : Int) : (a < b ∧ cmpZ a b = -1) ∨ (a = b ∧ cmpZ a b = 0) ∨ (b < a ∧ cmpZ a b = 1) := by
  unfold cmpZ
  by_cases h1 : a < b
  · exact .inl ⟨h1, by rw [decide_eq_true h1]; rfl⟩
  · by_cases h2 : b < a
    · exact .inr (.inr ⟨h2, by rw [decide_eq_false h1, decide_eq_true h2]; rfl⟩)
    · exact .inr (.inl ⟨by omega, by rw [decide_eq_false h1, decide_eq_false h2]; rfl⟩)
theorem cmpZ_flip (a b : Int) : cmpZ b a = - cmpZ a b := by
  rcases cmpZ_cases a b with ⟨h, e⟩ | ⟨h, e⟩ | ⟨h, e⟩ <;> rcases cmpZ_cases b a with ⟨h', e'⟩ | ⟨h', e'⟩ | ⟨h', e'⟩ <;> omega
theorem cmpL_flip : ∀ xs ys : List Int, cmpL ys xs = - cmpL xs ys
  | [], [] => rfl
  | [], _ :: _ => rfl
  | _ :: _, [] => rfl
  | x :: xs, y :: ys => by
    have h := cmpZ_flip x y
    have ih := cmpL_flip xs ys
    show (if cmpZ y x = 0 then cmpL ys xs else cmpZ y x) = - (if cmpZ x y = 0 then cmpL xs ys else cmpZ x y)
    by_cases h0 : cmpZ x y = 0
    · rw [if_pos h0, if_pos (by omega), ih]
    · rw [if_neg h0, if_neg (by omega), h]
theorem cmpL_trans : ∀ xs ys zs : List Int, cmpL xs ys ≤ 0 → cmpL ys zs ≤ 0 → cmpL xs zs ≤ 0
  | [], [], [], _, _ => by decide
  | [], [], _ :: _, _, _ => by show (-1 : Int) ≤ 0; decide
  | [], _ :: _, [], _, _ => by show (0 : Int) ≤ 0; decide
  | [], _ :: _, _ :: _, _, _ => by show (-1 : Int) ≤ 0; decide
  | _ :: _, [], _, h, _ => absurd (show (1 : Int) ≤ 0 from h) (by decide)
  | _ :: _, _ :: _, [], _, h => absurd (show (1 : Int) ≤ 0 from h) (by decide)
  | x :: xs, y :: ys, z :: zs, h1, h2 => by
    replace h1 : (if cmpZ x y = 0 then cmpL xs ys else cmpZ x y) ≤ 0 := h1
    replace h2 : (if cmpZ y z = 0 then cmpL ys zs else cmpZ y z) ≤ 0 := h2
    show (if cmpZ x z = 0 then cmpL xs zs else cmpZ x z) ≤ 0
    have ih := cmpL_trans xs ys zs
    rcases cmpZ_cases x y with ⟨a, e⟩ | ⟨a, e⟩ | ⟨a, e⟩ <;> rcases cmpZ_cases y z with ⟨b, f⟩ | ⟨b, f⟩ | ⟨b, f⟩ <;> rcases cmpZ_cases x z with ⟨c, k⟩ | ⟨c, k⟩ | ⟨c, k⟩ <;>
      rw [e] at h1 <;> rw [f] at h2 <;> rw [k] <;> simp at h1 h2 ⊢ <;> first | omega | exact ih h1 h2
theorem firstE_pair (a b : Int) : firstE [a, b] = if a = 0 then b else a := by
  unfold firstE firstE firstE
  by_cases h : a = 0
  · rw [if_pos h, if_pos h]
    by_cases h2 : b = 0
    · rw [if_pos h2, h2]
    · rw [if_neg h2]
  · rw [if_neg h, if_neg h]
theorem cmpR_flip (x y : RowR) : cmpR y x = - cmpR x y := by
  have h1 := cmpZ_flip (gradeZ x.st.toList) (gradeZ y.st.toList)
  have h2 := cmpL_flip y.xs x.xs
  unfold cmpR ordZ
  rw [firstE_pair, firstE_pair]
  by_cases h0 : cmpZ (gradeZ x.st.toList) (gradeZ y.st.toList) = 0
  · rw [if_pos h0, if_pos (by omega), h2]
  · rw [if_neg h0, if_neg (by omega), h1]
theorem cmpR_trans (x y z : RowR) (h1 : cmpR x y ≤ 0) (h2 : cmpR y z ≤ 0) : cmpR x z ≤ 0 := by
  unfold cmpR ordZ at *
  rw [firstE_pair] at *
  generalize gradeZ x.st.toList = a at *
  generalize gradeZ y.st.toList = b at *
  generalize gradeZ z.st.toList = c at *
  have f1 := cmpL_flip y.xs x.xs
  have f2 := cmpL_flip z.xs y.xs
  have f3 := cmpL_flip z.xs x.xs
  have ih := cmpL_trans z.xs y.xs x.xs
  rcases cmpZ_cases a b with ⟨p, e⟩ | ⟨p, e⟩ | ⟨p, e⟩ <;> rcases cmpZ_cases b c with ⟨q, f⟩ | ⟨q, f⟩ | ⟨q, f⟩ <;> rcases cmpZ_cases a c with ⟨s, k⟩ | ⟨s, k⟩ | ⟨s, k⟩ <;>
    rw [e] at h1 <;> rw [f] at h2 <;> rw [k] <;> simp at h1 h2 ⊢ <;> first | omega | exact ih h2 h1
end Go.Proofs.YtenhodepaoaiiaaGreatDoor
namespace Go.Proofs.YtenhodepaoaiiaaGreatDoor
open Go.RowKit Go.Lib
set_option linter.unusedSimpArgs false
set_option linter.unusedVariables false
instance : Inhabited RowR := ⟨⟨⟨#[]⟩, ⟨#[]⟩, undef, []⟩⟩
/-- the row at a place -/
def rowOf (xs : List RowR) (a : Nat) : RowR := (xs[a]?).getD default
theorem rowOf_at {xs : List RowR} {a : Nat} {x : RowR} (h : xs[a]? = some x) : rowOf xs a = x := by unfold rowOf; rw [h]; rfl
/-- the rank of a result: one more than there are results ahead -/
def rankR (xs : List RowR) (x : RowR) : Int := 1 + (xs.countP fun y => decide (cmpR y x < 0) : Nat)
theorem rows_range (xs : List RowR) : (List.range xs.length).map (rowOf xs) = xs := by
  apply List.ext_getElem?
  intro i
  rw [List.getElem?_map]
  by_cases h : i < xs.length
  · rw [List.getElem?_range h, Option.map_some, List.getElem?_eq_getElem h, rowOf_at (List.getElem?_eq_getElem h)]
  · rw [List.getElem?_eq_none (by simp; omega), List.getElem?_eq_none (by omega)]
    rfl
/-- places in the order of comparisons -/
structure InOrder (xs : List RowR) (ps : List Nat) : Prop where
  perm : ps.Perm (List.range xs.length)
  sorted : ∀ (i j a b : Nat), i < j → ps[i]? = some a → ps[j]? = some b → cmpR (rowOf xs a) (rowOf xs b) ≤ 0
theorem InOrder.len {xs : List RowR} {ps : List Nat} (h : InOrder xs ps) : ps.length = xs.length := by
  have := h.perm.length_eq
  simpa using this
theorem InOrder.lt {xs : List RowR} {ps : List Nat} (h : InOrder xs ps) {i a : Nat} (hi : ps[i]? = some a) : a < xs.length := by
  have := h.perm.mem_iff.1 (List.mem_of_getElem? hi)
  simpa using this
theorem InOrder.inj {xs : List RowR} {ps : List Nat} (h : InOrder xs ps) {i j a : Nat} (hi : ps[i]? = some a) (hj : ps[j]? = some a) : i = j := by
  have hn : ps.Nodup := h.perm.nodup_iff.2 List.nodup_range
  obtain ⟨h1, e1⟩ := List.getElem?_eq_some_iff.1 hi
  obtain ⟨h2, e2⟩ := List.getElem?_eq_some_iff.1 hj
  have hp := List.pairwise_iff_getElem.1 hn
  rcases Nat.lt_trichotomy i j with h3 | h3 | h3
  · exact absurd (e1.trans e2.symm) (hp i j h1 h2 h3)
  · exact h3
  · exact absurd (e2.trans e1.symm) (hp j i h2 h1 h3)
theorem InOrder.onto {xs : List RowR} {ps : List Nat} (h : InOrder xs ps) {a : Nat} (ha : a < xs.length) : ∃ i : Nat, ps[i]? = some a :=
  List.mem_iff_getElem?.1 (h.perm.mem_iff.2 (by simpa using ha))
theorem cmpR_self (x : RowR) : cmpR x x = 0 := by have := cmpR_flip x x; omega
theorem countP_take {α : Type} (P : α → Bool) : ∀ (l : List α) (p : Nat), p ≤ l.length → (∀ (i : Nat) (x : α), i < p → l[i]? = some x → P x = true) → (∀ (i : Nat) (x : α), p ≤ i → l[i]? = some x → P x = false) → l.countP P = p
  | [], p, h, _, _ => by simp at h; simp [h]
  | x :: l, 0, _, _, h2 => by
    rw [List.countP_cons, h2 0 x (Nat.le_refl _) rfl, countP_take P l 0 (Nat.zero_le _) (fun i _ hi => by omega) (fun i y hi hy => h2 (i + 1) y (by omega) (by simpa using hy))]
    simp
  | x :: l, p + 1, h, h1, h2 => by
    rw [List.countP_cons, h1 0 x (by omega) rfl, countP_take P l p (by simp at h; omega) (fun i y hi hy => h1 (i + 1) y (by omega) (by simpa using hy)) (fun i y hi hy => h2 (i + 1) y (by omega) (by simpa using hy))]
    simp
theorem rank_count {xs : List RowR} {ps : List Nat} (h : InOrder xs ps) (x : RowR) : (xs.countP fun y => decide (cmpR y x < 0)) = ps.countP fun a => decide (cmpR (rowOf xs a) x < 0) := by
  have h1 : (ps.map (rowOf xs)).Perm xs := by
    have := h.perm.map (rowOf xs)
    rwa [rows_range] at this
  rw [← h1.countP_eq, List.countP_map]
  rfl
/-- the first of its kind in the order -/
theorem rank_first {xs : List RowR} {ps : List Nat} (h : InOrder xs ps) {p a : Nat} (hp : ps[p]? = some a) (hf : ∀ (q c : Nat), q + 1 = p → ps[q]? = some c → cmpR (rowOf xs c) (rowOf xs a) < 0) : rankR xs (rowOf xs a) = p + 1 := by
  have hlt := (List.getElem?_eq_some_iff.1 hp).1
  unfold rankR
  rw [rank_count h, countP_take _ ps p (by omega)]
  · omega
  · intro i c hi hc
    refine decide_eq_true ?_
    obtain ⟨q, rfl⟩ : ∃ q, p = q + 1 := ⟨p - 1, by omega⟩
    obtain ⟨d, hd⟩ : ∃ d, ps[q]? = some d := ⟨ps[q]'(by omega), List.getElem?_eq_getElem _⟩
    have h1 := hf q d rfl hd
    by_cases hiq : i = q
    · subst hiq
      rw [hc] at hd
      cases hd
      exact h1
    · have h2 := h.sorted i q c d (by omega) hc hd
      have h3 := cmpR_flip (rowOf xs c) (rowOf xs a)
      have h4 := cmpR_flip (rowOf xs d) (rowOf xs a)
      refine Int.not_le.1 fun h5 => ?_
      have := cmpR_trans (rowOf xs a) (rowOf xs c) (rowOf xs d) (by omega) h2
      omega
  · intro i c hi hc
    refine decide_eq_false ?_
    by_cases hip : i = p
    · subst hip
      rw [hp] at hc
      cases hc
      rw [cmpR_self]
      omega
    · have h2 := h.sorted p i a c (by omega) hp hc
      have h3 := cmpR_flip (rowOf xs a) (rowOf xs c)
      omega
/-- those that are alike have one rank -/
theorem rank_alike {xs : List RowR} {x y : RowR} (h : cmpR x y = 0) : rankR xs x = rankR xs y := by
  unfold rankR
  congr 2
  apply List.countP_congr
  intro z _
  have f1 := cmpR_flip z x
  have f2 := cmpR_flip z y
  have f3 := cmpR_flip x y
  have t1 := cmpR_trans x y z
  have t2 := cmpR_trans y x z
  rw [decide_eq_true_eq, decide_eq_true_eq]
  constructor
  · intro h1
    refine Int.not_le.1 fun h2 => ?_
    have := t1 (by omega) (by omega)
    omega
  · intro h1
    refine Int.not_le.1 fun h2 => ?_
    have := t2 (by omega) (by omega)
    omega
/-- all ranks -/
def ranksL (xs : List RowR) : List Int := xs.map (rankR xs)
end Go.Proofs.YtenhodepaoaiiaaGreatDoor
namespace Go.Proofs.YtenhodepaoaiiaaGreatDoor
open Go.RowKit Go.Lib
set_option linter.unusedSimpArgs false
set_option linter.unusedVariables false
section
open Go.Sort Go.Shelf
theorem heap_sortedF {α : Type} [Inhabited α] (enc : α → Value) {w : World} {g n : Nat} {os : Array Obj} {cur : Array Value} {e : TypeId} {fr : Nat × Nat} (d : Array α) (hb : w.heap[g]? = some (.cells cur e fr)) :
    (sortWorld enc w g 0 n d os).heap[g]? = some (.cells (putCells enc 0 d cur) e fr) := by
  have hlt := (Array.getElem?_eq_some_iff.1 hb).1
  unfold sortWorld
  rw [heap_grow_old _ _ (by simpa using hlt)]
  simp [putRow, mapBlock, Sort.ahead, Array.getElem?_modify, hb, onCells]
theorem grownBy_sortedF {α : Type} [Inhabited α] (enc : α → Value) {w : World} {g n : Nat} {os : Array Obj} (d : Array α) : w.grownBy (sortWorld enc w g 0 n d os) (some g) := by
  unfold sortWorld
  refine ⟨rfl, rfl, rfl, by simp, fun k hk hne => ?_⟩
  rw [heap_grow_old _ _ (by simpa using hk)]
  have : g ≠ k := fun e => hne (by rw [e])
  simp [putRow, mapBlock, Sort.ahead, Array.getElem?_modify, this]
end
/-- the places as values -/
def encF {n : Nat} (i : Fin n) : Value := .int .i64 ((i.val : Nat) : Int)
def natsV (ps : List Nat) : List Value := ps.map fun (p : Nat) => Value.int .i64 (p : Int)
open Go.Sort in
theorem putCells_all {n : Nat} [Inhabited (Fin n)] (d : Array (Fin n)) (cur : Array Value) (h : cur.size = d.size) : putCells encF 0 d cur = (natsV (d.toList.map Fin.val)).toArray := by
  apply Array.ext_getElem?
  intro i
  by_cases hi : i < cur.size
  · have hd : i < d.size := by omega
    simp [putCells, natsV, encF, hi, hd]
  · simp [putCells, natsV, hi, show ¬ i < d.size by omega]
theorem swo_cmp (xs : List RowR) : Go.Sort.SWO (ltOf fun (i j : Fin xs.length) => cmpR (rowOf xs i) (rowOf xs j)) where
  irrefl x := by
    have := cmpR_self (rowOf xs x)
    simp only [ltOf]
    exact decide_eq_false (by omega)
  trans x y z h1 h2 := by
    simp only [ltOf] at *
    rw [decide_eq_true_eq] at *
    have f1 := cmpR_flip (rowOf xs x) (rowOf xs z)
    have f2 := cmpR_flip (rowOf xs y) (rowOf xs z)
    refine Int.not_le.1 fun h => ?_
    have := cmpR_trans (rowOf xs z) (rowOf xs x) (rowOf xs y) (by omega) (by omega)
    omega
  ntrans x y z h1 h2 := by
    simp only [ltOf] at *
    rw [decide_eq_false_iff_not] at *
    have f1 := cmpR_flip (rowOf xs x) (rowOf xs y)
    have f2 := cmpR_flip (rowOf xs y) (rowOf xs z)
    have f3 := cmpR_flip (rowOf xs x) (rowOf xs z)
    have := cmpR_trans (rowOf xs z) (rowOf xs y) (rowOf xs x) (by omega) (by omega)
    omega
end Go.Proofs.YtenhodepaoaiiaaGreatDoor
namespace Go.Proofs.YtenhodepaoaiiaaGreatDoor
open Go.RowKit Go.Lib
set_option linter.unusedSimpArgs false
set_option linter.unusedVariables false
theorem make_ints (n : Nat) (hN : n ≤ 160) (w : World) : (Instr.makeSlice 40 (.int .i64 (n : Int)) (.int .i64 (n : Int))).run Tryz.prog w = .ok (.slice (some ⟨w.heap.size, 0, none⟩) n n) (w.alloc (.cells (Array.replicate n (.int .i64 0)) 3)) := by
  obtain ⟨i0, hi, hz0, hz1, hz2⟩ := info_parts info3
  have := run_make (P := Tryz.prog) w 40 3 i0 (.int .i64 0) Tryz.underlying40 hi hz0 .i64 .i64 (n : Int) (n : Int) (by omega) (by omega) (by rw [hz2]; omega) (by omega)
  rw [hz1] at this
  have e : madeCells (#[.int .i64 0] : Array Value) n = Array.replicate n (.int .i64 0) := Array.ext' (by rw [toList_madeCells_one]; simp)
  simpa [Value.cells, e] using this
/-- the places that have been filled -/
def fillV (n i : Nat) : Array Value := ((List.range n).map fun j => Value.int .i64 (if j < i then (j : Int) else 0)).toArray
theorem fillV_0 (n : Nat) : fillV n 0 = Array.replicate n (.int .i64 0) := by
  apply Array.ext_getElem?
  intro j
  by_cases h : j < n <;> simp [fillV, h]
theorem fillV_n (n : Nat) : fillV n n = (natsV (List.range n)).toArray := by
  unfold fillV natsV
  congr 1
  apply List.map_congr_left
  intro j hj
  rw [List.mem_range] at hj
  rw [if_pos hj]
theorem fillV_s (n i : Nat) : (fillV n i).setIfInBounds i (.int .i64 (i : Int)) = fillV n (i + 1) := by
  apply Array.ext_getElem?
  intro j
  rw [Array.getElem?_setIfInBounds]
  by_cases hj : j < n
  · by_cases hij : i = j
    · subst hij
      simp [fillV, hj]
    · simp only [fillV, if_neg hij]
      simp only [List.getElem?_toArray, List.getElem?_map, List.getElem?_range hj, Option.map_some]
      by_cases h : j < i
      · rw [if_pos h, if_pos (by omega)]
      · rw [if_neg h, if_neg (by omega)]
  · by_cases hij : i = j
    · subst hij
      simp [fillV, hj]
    · simp [fillV, hj, hij]
/-- the ranks of the first places are there -/
structure Rk (xs : List RowR) (ps : List Nat) (rs : List Int) (p : Nat) : Prop where
  len : rs.length = xs.length
  at' : ∀ (q a : Nat), q < p → ps[q]? = some a → rs[a]? = some (rankR xs (rowOf xs a))
theorem Rk.start {xs : List RowR} (ps : List Nat) (n : Nat) (h : xs.length = n) : Rk xs ps (List.replicate n 0) 0 := ⟨by simp [h], fun q a hq => absurd hq (by omega)⟩
theorem Rk.step {xs : List RowR} {ps : List Nat} {rs : List Int} {p a : Nat} (h : Rk xs ps rs p) (ho : InOrder xs ps) (hp : ps[p]? = some a) : Rk xs ps (rs.set a (rankR xs (rowOf xs a))) (p + 1) := by
  refine ⟨by rw [List.length_set]; exact h.len, fun q c hq hc => ?_⟩
  have hal := ho.lt hp
  rw [List.getElem?_set]
  by_cases hac : a = c
  · subst hac
    rw [if_pos rfl, if_pos (by rw [h.len]; exact hal)]
  · rw [if_neg hac]
    refine h.at' q c ?_ hc
    by_cases hqp : q = p
    · subst hqp
      rw [hp] at hc
      cases hc
      exact absurd rfl hac
    · omega
theorem Rk.end {xs : List RowR} {ps : List Nat} {rs : List Int} (h : Rk xs ps rs xs.length) (ho : InOrder xs ps) : rs = ranksL xs := by
  apply List.ext_getElem?
  intro a
  unfold ranksL
  rw [List.getElem?_map]
  by_cases ha : a < xs.length
  · obtain ⟨i, hi⟩ := ho.onto ha
    have hil := (List.getElem?_eq_some_iff.1 hi).1
    rw [h.at' i a (by have := ho.len; omega) hi, List.getElem?_eq_getElem ha, rowOf_at (List.getElem?_eq_getElem ha)]
    rfl
  · rw [List.getElem?_eq_none (by rw [h.len]; omega), List.getElem?_eq_none (by omega)]
    rfl
theorem ints_set (rs : List Int) (a : Nat) (v : Int) : (ints rs).toArray.setIfInBounds a (.int .i64 v) = (ints (rs.set a v)).toArray := by
  simp [ints, List.map_set]
theorem set_set (rs : List Int) (a : Nat) (v u : Int) : (rs.set a v).set a u = rs.set a u := by simp
theorem cell_ints {w : World} {R a : Nat} {rs : List Int} {v : Int} (h : w.heap[R]? = some (.cells (ints rs).toArray 3 (0, 0))) (ha : rs[a]? = some v) : w.cell? ⟨R, a, none⟩ = some (.int .i64 v) := by
  rw [cell_of_row w R a _ 3 (0, 0) h]
  simp [ints, ha]
theorem cell_nats {w : World} {R a : Nat} {ps : List Nat} {v : Nat} (h : w.heap[R]? = some (.cells (natsV ps).toArray 3 (0, 0))) (ha : ps[a]? = some v) : w.cell? ⟨R, a, none⟩ = some (.int .i64 (v : Int)) := by
  rw [cell_of_row w R a _ 3 (0, 0) h]
  simp [natsV, ha]
end Go.Proofs.YtenhodepaoaiiaaGreatDoor
namespace Go.Proofs.YtenhodepaoaiiaaGreatDoor
open Go.RowKit Go.Lib
set_option linter.unusedSimpArgs false
set_option linter.unusedVariables false
theorem infoTh : (Tryz.prog.info? 9).map (fun i => (i.zero, i.size, i.bytes)) = some (some (.string ⟨#[]⟩), 1, 16) := by kernel_rfl
def nmsV (xs : List RowR) : List Value := xs.map fun x => .string x.nm
theorem nmsV_take {xs : List RowR} {k : Nat} {x : RowR} (h : xs[k]? = some x) : nmsV (xs.take (k + 1)) = nmsV (xs.take k) ++ [.string x.nm] := by
  rw [List.take_add_one, h]
  simp [nmsV]
theorem nmsV_len (xs : List RowR) : (nmsV xs).length = xs.length := by simp [nmsV]
theorem cell_one_two (w : World) (A : Obj) (a : Value) (T : TypeId) : ∀ (j : Nat) (u : Value), [a][j]? = some u → ((w.alloc A).alloc (.cells #[a] T)).cell? ((⟨w.heap.size + 1, 0, none⟩ : Addr).add j) = some u := by
  intro j u h
  have hs : (w.alloc A).heap.size = w.heap.size + 1 := World.size_alloc _ _
  have e : (⟨w.heap.size + 1, 0, none⟩ : Addr).add j = ⟨(w.alloc A).heap.size, j, none⟩ := by unfold Addr.add; split <;> simp_all
  rw [e]
  rcases j with _ | j
  · simp at h; subst h; exact cell_new (w.alloc A) #[a] T 0 (by simp)
  · simp at h
end Go.Proofs.YtenhodepaoaiiaaGreatDoor
namespace Go.Proofs.YtenhodepaoaiiaaGreatDoor
open Go.RowKit Go.Lib
set_option linter.unusedSimpArgs false
set_option linter.unusedVariables false
structure PlAt (w : World) (b off : Nat) (x : PlR) : Prop where
  nm : w.cell? ⟨b, off, none⟩ = some (.string x.nm)
  rk : w.cell? ⟨b, off + 1, none⟩ = some (.int .i64 x.rk)
theorem PlAt.gr {w w' : World} {b off : Nat} {x : PlR} (h : PlAt w b off x) (k : Gr w w') : PlAt w' b off x := ⟨k.cell h.nm, k.cell h.rk⟩
/-- the slice v reads as the places ps -/
structure PlsV (w : World) (v : Value) (ps : List PlR) : Prop where
  mk' ::
  out : ∃ p cap, v = .slice p ps.length cap ∧ (0 < ps.length → ∃ b, p = some ⟨b, 0, none⟩ ∧ ∀ i x, ps[i]? = some x → PlAt w b (i * 2) x)
theorem plCs_take {xs : List PlR} {k : Nat} {x : PlR} (h : xs[k]? = some x) : plCs (xs.take (k + 1)) = plCs (xs.take k) ++ plC x := by
  rw [List.take_add_one, h]
  simp [plCs]
theorem cell_two_new (w : World) (a b : Value) (T : TypeId) : ∀ (j : Nat) (u : Value), [a, b][j]? = some u → (w.alloc (.cells #[a, b] T)).cell? ((⟨w.heap.size, 0, none⟩ : Addr).add j) = some u := by
  intro j u h
  have e : (⟨w.heap.size, 0, none⟩ : Addr).add j = ⟨w.heap.size, j, none⟩ := by unfold Addr.add; split <;> simp_all
  rw [e]
  rcases j with _ | _ | j
  · simp at h; subst h; exact cell_new w #[a, b] T 0 (by simp)
  · simp at h; subst h; exact cell_new w #[a, b] T 1 (by simp)
  · simp at h
def pls (ns : List ByteArray) (rs : List Int) : List PlR := List.zipWith PlR.mk ns rs
theorem pls_at {ns : List ByteArray} {rs : List Int} {i : Nat} {x : PlR} (h : (pls ns rs)[i]? = some x) : ns[i]? = some x.nm ∧ rs[i]? = some x.rk := by
  unfold pls at h
  rw [List.getElem?_zipWith] at h
  cases h1 : ns[i]? <;> cases h2 : rs[i]? <;> simp_all
  subst h
  exact ⟨rfl, rfl⟩
open Go.Sort Go.Shelf in
theorem holdsK_of_owns {w : World} {base : Nat} {v : Value} {ps : List PlR} {T : TypeId} (h : w.ownsRow base T 2 v ps.length (plCs ps)) (h0 : 0 < ps.length) :
    ∃ g cap, v = .slice (some ⟨g, 0, none⟩) ps.length cap ∧ base ≤ g ∧ g < w.heap.size ∧ HoldsK plC 2 w g 0 ps.toArray := by
  have hh := h
  rcases h.2 with ⟨rfl, h0'⟩ | ⟨g, cap, cur, rfl, hb, hcur, hle, hmx, _, _⟩
  · omega
  · have hlt := (Array.getElem?_eq_some_iff.1 hcur).1
    refine ⟨g, cap, rfl, hb, hlt, fun t ht => ⟨?_, by simp [World.frozen?, hcur]⟩⟩
    rw [size_flatK] at ht
    have ht' : t < (plCs ps).length := by rw [plCs_len]; simpa using ht
    rw [flat_pl _ t ht]
    have e : (⟨g, 0, none⟩ : Addr).add t = ⟨g, t, none⟩ := by unfold Addr.add; split <;> simp_all
    have c := hh.cells (g := g) rfl t _ (List.getElem?_eq_getElem ht')
    rw [e] at c
    rw [Nat.zero_add, c]
    simp [List.getElem?_eq_getElem ht']
open Go.Sort Go.Shelf in
/-- places as the stable sort leaves them -/
def srtP (ps : List PlR) : List PlR := (Sort.insertionSort (ltOf cmpP) ps.toArray 0 ps.length).toList
open Go.Sort Go.Shelf in
theorem srtP_spec (ps : List PlR) : (srtP ps).Perm ps ∧ (srtP ps).length = ps.length ∧ ∀ (i j : Nat) (x y : PlR), i < j → (srtP ps)[i]? = some x → (srtP ps)[j]? = some y → x.rk ≤ y.rk := by
  obtain ⟨hp, hso⟩ := insertionSort_holds swo_pl ps.toArray 0 ps.length (Nat.zero_le _) (by simp)
  have hsz : (Sort.insertionSort (ltOf cmpP) ps.toArray 0 ps.length).size = ps.length := by rw [hp.1]; simp
  refine ⟨?_, by unfold srtP; rw [Array.length_toList, hsz], ?_⟩
  · have h3 := hp.2.2
    rw [show (Sort.insertionSort (ltOf cmpP) ps.toArray 0 ps.length).extract 0 ps.length = Sort.insertionSort (ltOf cmpP) ps.toArray 0 ps.length by
      have := hsz; generalize Sort.insertionSort (ltOf cmpP) ps.toArray 0 ps.length = q at *; rw [← this]; simp, show ps.toArray.extract 0 ps.length = ps.toArray by simp] at h3
    simpa [srtP] using h3
  · intro i j x y hij hi hj
    unfold srtP at hi hj
    rw [Array.getElem?_toList] at hi hj
    obtain ⟨hi2, ex⟩ := Array.getElem?_eq_some_iff.1 hi
    obtain ⟨hj2, ey⟩ := Array.getElem?_eq_some_iff.1 hj
    have := hso i j (Nat.zero_le _) hij (by omega)
    rw [getElem!_pos _ i hi2, getElem!_pos _ j hj2, ex, ey, lt_pl, decide_eq_false_iff_not] at this
    omega
theorem gdOfGr {w w' : World} (h : Gd w w') : Gr w w' := h.gr
end Go.Proofs.YtenhodepaoaiiaaGreatDoor
namespace Go.Proofs.YtenhodepaoaiiaaGreatDoor
open Go.RowKit Go.Lib
set_option linter.unusedSimpArgs false
set_option linter.unusedVariables false
theorem pls_len (ns : List ByteArray) (rs : List Int) (n : Nat) (h1 : ns.length = n) (h2 : rs.length = n) : (pls ns rs).length = n := by
  unfold pls; rw [List.length_zipWith, h1, h2]; omega
theorem pls_get {ns : List ByteArray} {rs : List Int} {i : Nat} {s : ByteArray} {r : Int} (h1 : ns[i]? = some s) (h2 : rs[i]? = some r) : (pls ns rs)[i]? = some ⟨s, r⟩ := by
  unfold pls; rw [List.getElem?_zipWith, h1, h2]
end Go.Proofs.YtenhodepaoaiiaaGreatDoor
namespace Go.Proofs.YtenhodepaoaiiaaGreatDoor
open Go.RowKit Go.Lib
set_option linter.unusedSimpArgs false
set_option linter.unusedVariables false
set_option maxHeartbeats 1000000
set_option maxRecDepth 100000
theorem insI_0 (p : Option Addr) (cap : Nat) (f : Value) (w : World) :
    Calls Tryz.prog 151 #[.slice p 0 cap, .int .i64 0, .int .i64 0, f] w fun e w' => e = .returned (.tuple #[]) ∧ w' = w := by
  go_enter Tryz.func151, Tryz.ntmps151
  go_wp2_with fail
  refine wp_loop_rounds 2 ?_
  rw [rounds_succ]
  go_wp2_with fail
  go_end0
  exact ⟨rfl, rfl⟩
theorem len64_0 (w : World) : Calls Tryz.prog 114 #[.int .u64 0] w fun e w' => e = .returned (.int .i64 0) ∧ w' = w := by
  have h0 : wrap64 (wrap64 (len8 0)) = 0 := by kernel_rfl
  go_enter Tryz.func114, Tryz.ntmps114
  go_wp2_with fail
  go_ret
  refine ⟨?_, rfl⟩
  show Ending.returned (.int .i64 (wrap64 (wrap64 (len8 0)))) = _
  rw [h0]
theorem len_0 (w : World) : Calls Tryz.prog 67 #[.int .u64 0] w fun e w' => e = .returned (.int .i64 0) ∧ w' = w := by
  have H := Lib.hid (fun W => len64_0 W)
  go_enter Tryz.func67, Tryz.ntmps67
  go_wp2_with (refine (H.out _).mono ?_; rintro e w4 ⟨rfl, rfl⟩)
  go_ret
  exact ⟨rfl, rfl⟩
theorem make_int0 (w : World) : (Instr.makeSlice 40 (.int .i64 0) (.int .i64 0)).run Tryz.prog w = .ok (.slice (some ⟨w.heap.size, 0, none⟩) 0 0) (w.alloc (.cells #[] 3)) := by
  simpa using make_ints 0 (by omega) w
end Go.Proofs.YtenhodepaoaiiaaGreatDoor
