/- Ranks: what an order by comparisons tells of them. Plain. -/
import Derived.Test.YtimbcjldejifaaaGreatDoorGRkA
import Derived.Sort.OwnSortedInts
import Derived.Shelf.SlSortCmp.Kit1
namespace Go.Proofs.YtimbcjldejifaaaGreatDoor
open Go.RowKit Go.Lib
set_option linter.unusedSimpArgs false
set_option linter.unusedVariables false
instance : Inhabited RowR := ⟨⟨⟨#[]⟩, ⟨#[]⟩, undef, []⟩⟩
/-- the row at a place -/
def rowOf (xs : List RowR) (a : Nat) : RowR := (xs[a]?).getD default
theorem rowOf_at {xs : List RowR} {a : Nat} {x : RowR} (h : xs[a]? = some x) : rowOf xs a = x := by unfold rowOf; rw [h]; rfl
/-- the rank of a result: one more than there are results ahead -/
def rankR (xs : List RowR) (x : RowR) : Int := 1 + (xs.countP fun y => decide (cmpR y x < 0) : Nat)
theorem rows_range (xs : List RowR) : (List.range xs.length).map (rowOf xs) = xs := by
  apply List.ext_getElem?
  intro i
  rw [List.getElem?_map]
  by_cases h : i < xs.length
  · rw [List.getElem?_range h, Option.map_some, List.getElem?_eq_getElem h, rowOf_at (List.getElem?_eq_getElem h)]
  · rw [List.getElem?_eq_none (by simp; omega), List.getElem?_eq_none (by omega)]
    rfl
/-- places in the order of comparisons -/
structure InOrder (xs : List RowR) (ps : List Nat) : Prop where
  perm : ps.Perm (List.range xs.length)
  sorted : ∀ (i j a b : Nat), i < j → ps[i]? = some a → ps[j]? = some b → cmpR (rowOf xs a) (rowOf xs b) ≤ 0
theorem InOrder.len {xs : List RowR} {ps : List Nat} (h : InOrder xs ps) : ps.length = xs.length := by
  have := h.perm.length_eq
  simpa using this
theorem InOrder.lt {xs : List RowR} {ps : List Nat} (h : InOrder xs ps) {i a : Nat} (hi : ps[i]? = some a) : a < xs.length := by
  have := h.perm.mem_iff.1 (List.mem_of_getElem? hi)
  simpa using this
theorem InOrder.inj {xs : List RowR} {ps : List Nat} (h : InOrder xs ps) {i j a : Nat} (hi : ps[i]? = some a) (hj : ps[j]? = some a) : i = j := by
  have hn : ps.Nodup := h.perm.nodup_iff.2 List.nodup_range
  obtain ⟨h1, e1⟩ := List.getElem?_eq_some_iff.1 hi
  obtain ⟨h2, e2⟩ := List.getElem?_eq_some_iff.1 hj
  have hp := List.pairwise_iff_getElem.1 hn
  rcases Nat.lt_trichotomy i j with h3 | h3 | h3
  · exact absurd (e1.trans e2.symm) (hp i j h1 h2 h3)
  · exact h3
  · exact absurd (e2.trans e1.symm) (hp j i h2 h1 h3)
theorem InOrder.onto {xs : List RowR} {ps : List Nat} (h : InOrder xs ps) {a : Nat} (ha : a < xs.length) : ∃ i : Nat, ps[i]? = some a :=
  List.mem_iff_getElem?.1 (h.perm.mem_iff.2 (by simpa using ha))
theorem cmpR_self (x : RowR) : cmpR x x = 0 := by have := cmpR_flip x x; omega
theorem countP_take {α : Type} (P : α → Bool) : ∀ (l : List α) (p : Nat), p ≤ l.length → (∀ (i : Nat) (x : α), i < p → l[i]? = some x → P x = true) → (∀ (i : Nat) (x : α), p ≤ i → l[i]? = some x → P x = false) → l.countP P = p
  | [], p, h, _, _ => by simp at h; simp [h]
  | x :: l, 0, _, _, h2 => by
    rw [List.countP_cons, h2 0 x (Nat.le_refl _) rfl, countP_take P l 0 (Nat.zero_le _) (fun i _ hi => by omega) (fun i y hi hy => h2 (i + 1) y (by omega) (by simpa using hy))]
    simp
  | x :: l, p + 1, h, h1, h2 => by
    rw [List.countP_cons, h1 0 x (by omega) rfl, countP_take P l p (by simp at h; omega) (fun i y hi hy => h1 (i + 1) y (by omega) (by simpa using hy)) (fun i y hi hy => h2 (i + 1) y (by omega) (by simpa using hy))]
    simp
theorem rank_count {xs : List RowR} {ps : List Nat} (h : InOrder xs ps) (x : RowR) : (xs.countP fun y => decide (cmpR y x < 0)) = ps.countP fun a => decide (cmpR (rowOf xs a) x < 0) := by
  have h1 : (ps.map (rowOf xs)).Perm xs := by
    have := h.perm.map (rowOf xs)
    rwa [rows_range] at this
  rw [← h1.countP_eq, List.countP_map]
  rfl
/-- the first of its kind in the order -/
theorem rank_first {xs : List RowR} {ps : List Nat} (h : InOrder xs ps) {p a : Nat} (hp : ps[p]? = some a) (hf : ∀ (q c : Nat), q + 1 = p → ps[q]? = some c → cmpR (rowOf xs c) (rowOf xs a) < 0) : rankR xs (rowOf xs a) = p + 1 := by
  have hlt := (List.getElem?_eq_some_iff.1 hp).1
  unfold rankR
  rw [rank_count h, countP_take _ ps p (by omega)]
  · omega
  · intro i c hi hc
    refine decide_eq_true ?_
    obtain ⟨q, rfl⟩ : ∃ q, p = q + 1 := ⟨p - 1, by omega⟩
    obtain ⟨d, hd⟩ : ∃ d, ps[q]? = some d := ⟨ps[q]'(by omega), List.getElem?_eq_getElem _⟩
    have h1 := hf q d rfl hd
    by_cases hiq : i = q
    · subst hiq
      rw [hc] at hd
      cases hd
      exact h1
    · have h2 := h.sorted i q c d (by omega) hc hd
      have h3 := cmpR_flip (rowOf xs c) (rowOf xs a)
      have h4 := cmpR_flip (rowOf xs d) (rowOf xs a)
      refine Int.not_le.1 fun h5 => ?_
      have := cmpR_trans (rowOf xs a) (rowOf xs c) (rowOf xs d) (by omega) h2
      omega
  · intro i c hi hc
    refine decide_eq_false ?_
    by_cases hip : i = p
    · subst hip
      rw [hp] at hc
      cases hc
      rw [cmpR_self]
      omega
    · have h2 := h.sorted p i a c (by omega) hp hc
      have h3 := cmpR_flip (rowOf xs a) (rowOf xs c)
      omega
/-- those that are alike have one rank -/
theorem rank_alike {xs : List RowR} {x y : RowR} (h : cmpR x y = 0) : rankR xs x = rankR xs y := by
  unfold rankR
  congr 2
  apply List.countP_congr
  intro z _
  have f1 := cmpR_flip z x
  have f2 := cmpR_flip z y
  have f3 := cmpR_flip x y
  have t1 := cmpR_trans x y z
  have t2 := cmpR_trans y x z
  rw [decide_eq_true_eq, decide_eq_true_eq]
  constructor
  · intro h1
    refine Int.not_le.1 fun h2 => ?_
    have := t1 (by omega) (by omega)
    omega
  · intro h1
    refine Int.not_le.1 fun h2 => ?_
    have := t2 (by omega) (by omega)
    omega
/-- all ranks -/
def ranksL (xs : List RowR) : List Int := xs.map (rankR xs)
end Go.Proofs.YtimbcjldejifaaaGreatDoor
namespace Go.Proofs.YtimbcjldejifaaaGreatDoor
open Go.RowKit Go.Lib
set_option linter.unusedSimpArgs false
set_option linter.unusedVariables false
open Go.Sort Go.Shelf in
/-- what the library's sort by a comparison does -/
structure SortFOK : Prop where
  some : ∀ {n : Nat} [Inhabited (Fin n)] (enc : Fin n → Value) (h1 : OneCell enc) (cf : Fin n → Fin n → Int) (hO : SWO (ltOf cf)) (cb : Array Value) (blk off cap : Nat) (d : Array (Fin n)) (w : World),
    CmpLays1 Tryz.prog 47 cb enc cf blk off d.size w → Holds enc w blk off d → blk < w.heap.size → d.size < 4611686018427387904 →
    Calls Tryz.prog 46 #[.slice (some ⟨blk, off, none⟩) d.size cap, .func (.func 47) #[] cb] w fun e w' =>
      e = .returned (.tuple #[]) ∧ ∃ d' n os, PermIn 0 d.size d d' ∧ SortedIn (ltOf cf) 0 d.size d' ∧ w' = sortWorld enc w blk off n d' os
section
open Go.Sort Go.Shelf
theorem heap_sortedF {α : Type} [Inhabited α] (enc : α → Value) {w : World} {g n : Nat} {os : Array Obj} {cur : Array Value} {e : TypeId} {fr : Nat × Nat} (d : Array α) (hb : w.heap[g]? = some (.cells cur e fr)) :
    (sortWorld enc w g 0 n d os).heap[g]? = some (.cells (putCells enc 0 d cur) e fr) := by
  have hlt := (Array.getElem?_eq_some_iff.1 hb).1
  unfold sortWorld
  rw [heap_grow_old _ _ (by simpa using hlt)]
  simp [putRow, mapBlock, Sort.ahead, Array.getElem?_modify, hb, onCells]
theorem grownBy_sortedF {α : Type} [Inhabited α] (enc : α → Value) {w : World} {g n : Nat} {os : Array Obj} (d : Array α) : w.grownBy (sortWorld enc w g 0 n d os) (some g) := by
  unfold sortWorld
  refine ⟨rfl, rfl, rfl, by simp, fun k hk hne => ?_⟩
  rw [heap_grow_old _ _ (by simpa using hk)]
  have : g ≠ k := fun e => hne (by rw [e])
  simp [putRow, mapBlock, Sort.ahead, Array.getElem?_modify, this]
end
/-- the places as values -/
def encF {n : Nat} (i : Fin n) : Value := .int .i64 ((i.val : Nat) : Int)
def natsV (ps : List Nat) : List Value := ps.map fun (p : Nat) => Value.int .i64 (p : Int)
open Go.Sort in
theorem putCells_all {n : Nat} [Inhabited (Fin n)] (d : Array (Fin n)) (cur : Array Value) (h : cur.size = d.size) : putCells encF 0 d cur = (natsV (d.toList.map Fin.val)).toArray := by
  apply Array.ext_getElem?
  intro i
  by_cases hi : i < cur.size
  · have hd : i < d.size := by omega
    simp [putCells, natsV, encF, hi, hd]
  · simp [putCells, natsV, hi, show ¬ i < d.size by omega]
theorem swo_cmp (xs : List RowR) : Go.Sort.SWO (ltOf fun (i j : Fin xs.length) => cmpR (rowOf xs i) (rowOf xs j)) where
  irrefl x := by
    have := cmpR_self (rowOf xs x)
    simp only [ltOf]
    exact decide_eq_false (by omega)
  trans x y z h1 h2 := by
    simp only [ltOf] at *
    rw [decide_eq_true_eq] at *
    have f1 := cmpR_flip (rowOf xs x) (rowOf xs z)
    have f2 := cmpR_flip (rowOf xs y) (rowOf xs z)
    refine Int.not_le.1 fun h => ?_
    have := cmpR_trans (rowOf xs z) (rowOf xs x) (rowOf xs y) (by omega) (by omega)
    omega
  ntrans x y z h1 h2 := by
    simp only [ltOf] at *
    rw [decide_eq_false_iff_not] at *
    have f1 := cmpR_flip (rowOf xs x) (rowOf xs y)
    have f2 := cmpR_flip (rowOf xs y) (rowOf xs z)
    have f3 := cmpR_flip (rowOf xs x) (rowOf xs z)
    have := cmpR_trans (rowOf xs z) (rowOf xs y) (rowOf xs x) (by omega) (by omega)
    omega
open Go.Sort Go.Shelf in
theorem sortRows_c (hS : SortFOK) (xs : List RowR) (n b off cap O F L : Nat) {w0 w : World} (hn : xs.length = n) (h0 : 0 < n) (h1 : n ≤ 160) (hSt : StatesIn w0) (hg : Gr w0 w) (hO : w0.heap.size ≤ O)
    (hc : ∀ i x, xs[i]? = some x → RowAt w0 b (off + i * 3) x) (hF : w0.cell? ⟨F, 0, none⟩ = some (.func (.func 18) #[] #[])) (hL : w0.cell? ⟨L, 0, none⟩ = some (.slice (some ⟨b, off, none⟩) n cap))
    (hcur : w.heap[O]? = some (.cells (natsV (List.range n)).toArray 3 (0, 0))) :
    Calls Tryz.prog 46 #[.slice (some ⟨O, 0, none⟩) n n, .func (.func 47) #[] #[.pointer (some ⟨F, 0, none⟩), .pointer (some ⟨L, 0, none⟩)]] w fun e w' =>
      e = .returned (.tuple #[]) ∧ ∃ ps, InOrder xs ps ∧ w'.heap[O]? = some (.cells (natsV ps).toArray 3 (0, 0)) ∧ Gr w0 w' := by
  subst hn
  haveI : Inhabited (Fin xs.length) := ⟨⟨0, h0⟩⟩
  have hlt := (Array.getElem?_eq_some_iff.1 hcur).1
  obtain ⟨d, hd, hds⟩ : ∃ d : Array (Fin xs.length), d.toList.map Fin.val = List.range xs.length ∧ d.size = xs.length := by
    refine ⟨Array.ofFn id, ?_, by simp⟩
    apply List.ext_getElem?
    intro i
    simp only [List.getElem?_map, Array.getElem?_toList, Array.getElem?_ofFn]
    by_cases h : i < xs.length
    · simp [h]
    · simp [h]
  have hsw : ∀ (m : Nat) (os : Array Obj) (dk : Array (Fin xs.length)), Gr w0 (sortWorld encF w O 0 m dk os) := fun m os dk =>
    Below.grown hg (grownBy_sortedF encF dk) hg.size (fun k hk => by cases hk; exact hO)
  have hH : Holds encF w O 0 d := by
    intro j hj
    refine ⟨?_, by simp [World.frozen?, hcur]⟩
    rw [hds] at hj
    have e1 : (d.toList.map Fin.val)[j]? = some j := by rw [hd]; simp [hj]
    rw [List.getElem?_map, Option.map_eq_some_iff] at e1
    obtain ⟨y, hy, rfl⟩ := e1
    rw [Array.getElem?_toList] at hy
    obtain ⟨hj2, hy⟩ := Array.getElem?_eq_some_iff.1 hy
    simp only [World.cell?, hcur, Nat.zero_add]
    have e2 : d[y.val]! = y := by rw [getElem!_pos d y.val hj2, hy]
    simp [natsV, e2, encF]
  have hcmp : CmpLays1 Tryz.prog 47 #[.pointer (some ⟨F, 0, none⟩), .pointer (some ⟨L, 0, none⟩)] encF (fun (i j : Fin xs.length) => cmpR (rowOf xs i) (rowOf xs j)) O 0 d.size w := by
    intro m os dk _ x y
    have g := hsw m os dk
    have hx : xs[x.val]? = some (rowOf xs x) := by
      have := List.getElem?_eq_getElem x.isLt
      rw [this, rowOf_at this]
    have hy : xs[y.val]? = some (rowOf xs y) := by
      have := List.getElem?_eq_getElem y.isLt
      rw [this, rowOf_at this]
    refine (cmpAt_c xs.length b off cap x.val y.val F L (rowOf xs x) (rowOf xs y) _ x.isLt y.isLt (by omega) (hSt.gr g) ((hc _ _ hx).gr g) ((hc _ _ hy).gr g) (g.cell hF) (g.cell hL)).mono ?_
    rintro e w' ⟨rfl, gd⟩
    exact ⟨rfl, gd.grow⟩
  have hcall := hS.some encF (fun _ => rfl) (fun (i j : Fin xs.length) => cmpR (rowOf xs i) (rowOf xs j)) (swo_cmp xs) #[.pointer (some ⟨F, 0, none⟩), .pointer (some ⟨L, 0, none⟩)] O 0 xs.length d w hcmp hH hlt (by omega)
  rw [hds] at hcall
  refine hcall.mono ?_
  rintro e w' ⟨rfl, d', m, os, hp, hso, rfl⟩
  have hsz : d'.size = xs.length := by rw [hp.1, hds]
  refine ⟨rfl, d'.toList.map Fin.val, ⟨?_, ?_⟩, ?_, hsw m os d'⟩
  · have h3 := hp.2.2
    have ex : ∀ (q : Array (Fin xs.length)) (m : Nat), m = q.size → q.extract 0 m = q := by
      intro q m hm
      subst hm
      simp
    rw [ex d' xs.length hsz.symm, ex d xs.length hds.symm] at h3
    have := h3.map Fin.val
    rwa [hd] at this
  · intro i j a c hij hi hj
    simp only [List.getElem?_map, Option.map_eq_some_iff, Array.getElem?_toList] at hi hj
    obtain ⟨x, hx, rfl⟩ := hi
    obtain ⟨y, hy, rfl⟩ := hj
    obtain ⟨hi2, ex⟩ := Array.getElem?_eq_some_iff.1 hx
    obtain ⟨hj2, ey⟩ := Array.getElem?_eq_some_iff.1 hy
    have := hso i j (Nat.zero_le _) hij (by omega)
    rw [getElem!_pos d' i hi2, getElem!_pos d' j hj2, ex, ey] at this
    simp only [ltOf] at this
    rw [decide_eq_false_iff_not] at this
    have f := cmpR_flip (rowOf xs x) (rowOf xs y)
    omega
  · rw [heap_sortedF encF d' hcur, putCells_all d' _ (by simp [natsV, hsz])]
end Go.Proofs.YtimbcjldejifaaaGreatDoor
namespace Go.Proofs.YtimbcjldejifaaaGreatDoor
open Go.RowKit Go.Lib
set_option linter.unusedSimpArgs false
set_option linter.unusedVariables false
theorem sameR_c (y : RowR) (B : Nat) (nm : ByteArray) (p : Option Addr) (n cap : Nat) (hu : y.u = .slice p n cap) (w : World) (h : w.cell? ⟨B, 0, none⟩ = some (.string nm)) :
    Calls Tryz.prog 42 #[resV y.nm y.st y.u, .pointer (some ⟨B, 0, none⟩)] w fun e w' => e = .returned (.bool (y.nm.toList == nm.toList)) ∧ Gr w w' := by
  rw [hu]
  unfold resV
  obtain ⟨W, hW, g, a0, a1, a2⟩ := box3 w (.string y.nm) (.string y.st) (.slice p n cap) 33
  have hB := g.cell h
  rw [← hW] at hB
  have HG := Lib.hid (show Gr w (w.alloc (.cells #[.string y.nm, .string y.st, .slice p n cap] 33)) from (Gr.refl w).alloc _)
  clear hW h g a0 a1 a2 hu
  go_enter Tryz.func42, Tryz.ntmps42
  go_wp2_with fail
  go_ret
  exact ⟨rfl, HG.out⟩
/-- the first row with a property, from a place on -/
def firstP (Q : RowR → Bool) (xs : List RowR) : Nat → Nat → Int
  | 0, _ => -1
  | k + 1, i => match xs[i]? with
    | some x => if Q x then i else firstP Q xs k (i + 1)
    | none => -1
theorem firstP_step {Q : RowR → Bool} {xs : List RowR} {i n : Nat} {x : RowR} (h : xs[i]? = some x) (hi : i < n) : firstP Q xs (n - i) i = if Q x then (i : Int) else firstP Q xs (n - (i + 1)) (i + 1) := by
  obtain ⟨k, hk⟩ : ∃ k, n - i = k + 1 := ⟨n - i - 1, by omega⟩
  rw [hk, show n - (i + 1) = k by omega]
  simp only [firstP, h]
theorem firstP_end {Q : RowR → Bool} {xs : List RowR} {i n : Nat} (h : n ≤ i) : firstP Q xs (n - i) i = -1 := by
  rw [show n - i = 0 by omega]; rfl
theorem firstP_any (Q : RowR → Bool) (xs : List RowR) : ∀ (k i : Nat), i + k ≤ xs.length → decide (0 ≤ firstP Q xs k i) = ((xs.drop i).take k).any Q
  | 0, i, h => by simp [firstP]
  | k + 1, i, h => by
    have hi : i < xs.length := by omega
    rw [List.drop_eq_getElem_cons hi, List.take_succ_cons, List.any_cons, ← firstP_any Q xs k (i + 1) (by omega)]
    simp only [firstP, List.getElem?_eq_getElem hi]
    cases Q xs[i] <;> simp
/-- whether a name stands before -/
def dupR (xs : List RowR) (i : Nat) (nm : ByteArray) : Bool := (xs.take i).any fun y => y.nm.toList == nm.toList
def hasV (x : RowR) : Bool := x.st.toList.isEmpty
def isNm (nm : ByteArray) (y : RowR) : Bool := y.nm.toList == nm.toList
set_option maxHeartbeats 1000000 in
set_option maxRecDepth 100000 in
theorem indexN_pos (xs : List RowR) (n b off cap B : Nat) (nm : ByteArray) (w : World) (hn : n ≤ xs.length) (h1 : n ≤ 1000) (hc : ∀ i x, xs[i]? = some x → RowAt w b (off + i * 3) x) (hB : w.cell? ⟨B, 0, none⟩ = some (.string nm)) :
    Calls Tryz.prog 38 #[.slice (some ⟨b, off, none⟩) n cap, .func (.func 42) #[] #[.pointer (some ⟨B, 0, none⟩)]] w fun e w' => e = .returned (.int .i64 (firstP (isNm nm) xs n 0)) ∧ Gr w w' := by
  have HC := Lib.hid hc
  have HN := Lib.hid hn
  have HE : Hid (firstP (isNm nm) xs n 0 = firstP (isNm nm) xs (n - 0) 0) := rfl
  clear hc hn
  go_enter Tryz.func38, Tryz.ntmps38
  go_wp2_with fail
  go_loopg [8] n (fun gk s8 wr => ∃ i : Nat, s8 = .int .i64 i ∧ gk + i = n ∧ Gr w wr ∧ Hid (firstP (isNm nm) xs (n - i) i = firstP (isNm nm) xs (n - 0) 0))
  case atStart => exact ⟨0, rfl, by omega, Gr.refl _, rfl⟩
  case round =>
    obtain ⟨i, rfl, hi, hg, HF⟩ := hrel
    by_cases hlt : i < n
    · obtain ⟨x, hx⟩ : ∃ x, xs[i]? = some x := ⟨xs[i]'(by have := HN.out; omega), List.getElem?_eq_getElem _⟩
      obtain ⟨c0, c1, c2, hv, _⟩ := (HC.out i x hx).gr hg
      obtain ⟨⟨p', cap', hu, _⟩⟩ := hv
      have hf := firstP_step (Q := (isNm nm)) hx hlt
      have hi2 : (i : Int) < n := by omega
      have HT := Lib.hid (sameR_c x B nm _ _ _ hu wr (hg.cell hB))
      rw [hu] at c2 HT
      clear hx
      try unfold resV at HT
      have e0 : (x.nm.toList == nm.toList) = (isNm nm) x := rfl
      rw [e0] at HT
      cases e1 : (isNm nm) x
      · rw [e1] at hf HT
        simp only [Bool.false_eq_true, if_false] at hf
        have HF2 := Lib.hid hf
        clear hf e1 e0
        go_wp2_with (refine HT.out.mono ?_; rintro e w4 ⟨rfl, hg2⟩)
        go_roundg (gk - 1)
        case measure => omega
        case rel => exact ⟨i + 1, by go_num, by omega, hg.trans hg2, by unfold Hid; rw [← HF2.out, HF.out]⟩
      · rw [e1] at hf HT
        simp only [if_true] at hf
        have HF2 := Lib.hid hf
        clear hf e1 e0
        go_wp2_with (refine HT.out.mono ?_; rintro e w4 ⟨rfl, hg2⟩)
        go_ret
        exact ⟨by rw [HE.out, ← HF.out, HF2.out]; rfl, hg.trans hg2⟩
    · have HE2 := Lib.hid (firstP_end (Q := (isNm nm)) (xs := xs) (i := i) (n := n) (by omega))
      have hi2 : (n : Int) ≤ i := by omega
      go_wp2_with fail
      go_ret
      exact ⟨by rw [HE.out, ← HF.out, HE2.out]; rfl, hg⟩
set_option maxHeartbeats 1000000 in
set_option maxRecDepth 100000 in
theorem indexV_pos (xs : List RowR) (n b off cap : Nat) (w : World) (hn : n ≤ xs.length) (h1 : n ≤ 1000) (hc : ∀ i x, xs[i]? = some x → RowAt w b (off + i * 3) x) :
    Calls Tryz.prog 38 #[.slice (some ⟨b, off, none⟩) n cap, .func (.func 39) #[] #[]] w fun e w' => e = .returned (.int .i64 (firstP hasV xs n 0)) ∧ Gr w w' := by
  have HC := Lib.hid hc
  have HN := Lib.hid hn
  have HE : Hid (firstP hasV xs n 0 = firstP hasV xs (n - 0) 0) := rfl
  clear hc hn
  go_enter Tryz.func38, Tryz.ntmps38
  go_wp2_with fail
  go_loopg [8] n (fun gk s8 wr => ∃ i : Nat, s8 = .int .i64 i ∧ gk + i = n ∧ Gr w wr ∧ Hid (firstP hasV xs (n - i) i = firstP hasV xs (n - 0) 0))
  case atStart => exact ⟨0, rfl, by omega, Gr.refl _, rfl⟩
  case round =>
    obtain ⟨i, rfl, hi, hg, HF⟩ := hrel
    by_cases hlt : i < n
    · obtain ⟨x, hx⟩ : ∃ x, xs[i]? = some x := ⟨xs[i]'(by have := HN.out; omega), List.getElem?_eq_getElem _⟩
      obtain ⟨c0, c1, c2, hv, _⟩ := (HC.out i x hx).gr hg
      obtain ⟨⟨p', cap', hu, _⟩⟩ := hv
      have hf := firstP_step (Q := hasV) hx hlt
      have hi2 : (i : Int) < n := by omega
      have HT := Lib.hid (hasValues_c x.nm x.st x.u ⟨_, _, _, hu⟩ wr)
      rw [hu] at c2 HT
      clear hx
      try unfold resV at HT
      have e0 : x.st.toList.isEmpty = hasV x := rfl
      rw [e0] at HT
      cases e1 : hasV x
      · rw [e1] at hf HT
        simp only [Bool.false_eq_true, if_false] at hf
        have HF2 := Lib.hid hf
        clear hf e1 e0
        go_wp2_with (refine HT.out.mono ?_; rintro e w4 ⟨rfl, hg2⟩)
        go_roundg (gk - 1)
        case measure => omega
        case rel => exact ⟨i + 1, by go_num, by omega, hg.trans hg2, by unfold Hid; rw [← HF2.out, HF.out]⟩
      · rw [e1] at hf HT
        simp only [if_true] at hf
        have HF2 := Lib.hid hf
        clear hf e1 e0
        go_wp2_with (refine HT.out.mono ?_; rintro e w4 ⟨rfl, hg2⟩)
        go_ret
        exact ⟨by rw [HE.out, ← HF.out, HF2.out]; rfl, hg.trans hg2⟩
    · have HE2 := Lib.hid (firstP_end (Q := hasV) (xs := xs) (i := i) (n := n) (by omega))
      have hi2 : (n : Int) ≤ i := by omega
      go_wp2_with fail
      go_ret
      exact ⟨by rw [HE.out, ← HF.out, HE2.out]; rfl, hg⟩
theorem containsR_pos (xs : List RowR) (n b off cap B : Nat) (nm : ByteArray) (w : World) (hn : n ≤ xs.length) (h1 : n ≤ 1000) (hc : ∀ i x, xs[i]? = some x → RowAt w b (off + i * 3) x) (hB : w.cell? ⟨B, 0, none⟩ = some (.string nm)) :
    Calls Tryz.prog 44 #[.slice (some ⟨b, off, none⟩) n cap, .func (.func 42) #[] #[.pointer (some ⟨B, 0, none⟩)]] w fun e w' => e = .returned (.bool (dupR xs n nm)) ∧ Gr w w' := by
  have HI := Lib.hid (indexN_pos xs n b off cap B nm w hn h1 hc hB)
  have HE : Hid (dupR xs n nm = decide (0 ≤ firstP (isNm nm) xs n 0)) := by
    unfold Hid dupR
    rw [firstP_any (isNm nm) xs n 0 (by omega), List.drop_zero]
    rfl
  clear hc hB
  generalize firstP (isNm nm) xs n 0 = z at *
  go_enter Tryz.func44, Tryz.ntmps44
  go_wp2_with fail
  refine HI.out.mono ?_
  rintro e w4 ⟨rfl, hg⟩
  go_wp2_with fail
  go_ret
  exact ⟨by rw [HE.out]; rfl, hg⟩
end Go.Proofs.YtimbcjldejifaaaGreatDoor
