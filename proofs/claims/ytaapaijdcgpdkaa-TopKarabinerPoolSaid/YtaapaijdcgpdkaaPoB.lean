/- Pools: drawn orders are orders; the sort of a row of names. -/
import Derived.Test.YtaapaijdcgpdkaaGDrC
namespace Go.Proofs.Ytaapaijdcgpdkaa
open Go.RowKit Go.Lib
set_option linter.unusedSimpArgs false
set_option linter.unusedVariables false
theorem swapN_perm {l : Array Nat} {i j : Nat} (hi : i < l.size) (hj : j < l.size) : (swapN l i j).toList.Perm l.toList := by
  have h := Array.swap_perm hi hj
  have e : swapN l i j = l.swap i j := by
    unfold swapN
    rw [Array.swap_def, show l.getD j 0 = l[j] by simp [Array.getD, hj], show l.getD i 0 = l[i] by simp [Array.getD, hi]]
    simp only [Array.setIfInBounds, hi, dif_pos, Array.size_set, hj]
  rw [e]
  exact Array.perm_iff_toList_perm.1 h
theorem drawA_perm (n : Nat) : ∀ (k i x : Nat) (l : Array Nat), l.size = n → (0 < k → i + k < n) → (drawA n k i x l).toList.Perm l.toList
  | 0, _, _, _, _, _ => List.Perm.refl _
  | k + 1, i, x, l, hs, hk => by
    have hlt := hk (by omega)
    have hr := Nat.mod_lt (lcgN x) (show 0 < n - i by omega)
    have h1 := drawA_perm n k (i + 1) (lcgN x) (swapN l i (i + lcgN x % (n - i))) (by rw [swapN_size]; exact hs) (by omega)
    exact h1.trans (swapN_perm (by omega) (by omega))
theorem drawN_perm (key n : Nat) : (drawN key n).toList.Perm (List.range n) := by
  have := drawA_perm n (n - 1) 0 key (Array.range n) (by simp) (by omega)
  simpa [drawN] using this
/-- the climbers in the drawn order -/
def drawnS (key : Nat) (cs : List ByteArray) : List ByteArray := (drawN key cs.length).toList.map fun i => cs.getD i ⟨#[]⟩
theorem range_getD : ∀ (cs : List ByteArray), (List.range cs.length).map (fun i => cs.getD i ⟨#[]⟩) = cs := fun cs => by
  apply List.ext_getElem?
  intro i
  by_cases h : i < cs.length
  · simp [h]
  · simp [h, List.getElem?_eq_none (Nat.le_of_not_lt h)]
theorem drawnS_perm (key : Nat) (cs : List ByteArray) : (drawnS key cs).Perm cs := by
  have := (drawN_perm key cs.length).map fun i => cs.getD i (⟨#[]⟩ : ByteArray)
  rw [range_getD] at this
  exact this
theorem drawnS_len (key : Nat) (cs : List ByteArray) : (drawnS key cs).length = cs.length := (drawnS_perm key cs).length_eq
theorem drawnS_at {key : Nat} {cs : List ByteArray} {i : Nat} (h : i < cs.length) (hs : (drawN key cs.length).size = cs.length) : ∃ s, (drawnS key cs)[i]? = some s ∧ cs[(drawN key cs.length).getD i 0]? = some s ∧ (drawN key cs.length).getD i 0 < cs.length := by
  have hp := drawN_perm key cs.length
  generalize hd : drawN key cs.length = d at *
  have hi : i < d.size := by omega
  have hlt : d.getD i 0 < cs.length := by
    have hm : d[i] ∈ List.range cs.length := hp.mem_iff.1 (by simp)
    have e : d.getD i 0 = d[i] := by simp [Array.getD, hi]
    rw [e]
    exact List.mem_range.1 hm
  refine ⟨cs[d.getD i 0], ?_, List.getElem?_eq_getElem hlt, hlt⟩
  have e : d[i]? = some (d.getD i 0) := by simp [Array.getD, hi]
  unfold drawnS
  rw [hd, List.getElem?_map, Array.getElem?_toList, e, Option.map_some, List.getD_eq_getElem?_getD, List.getElem?_eq_getElem hlt]
  rfl
/-- whom the days spare not -/
def freeS (xs : List TstR) (sp d : Int) (s : ByteArray) : Bool := decide (lastZ (lastD d s) xs (-1) < 0) || decide (lastZ (lastD d s) xs (-1) < d - sp)
def poolU (xs : List TstR) (sp d : Int) (l : List ByteArray) : List ByteArray := l.filter (freeS xs sp d)
theorem poolU_take {xs : List TstR} {sp d : Int} {l : List ByteArray} {k : Nat} {s : ByteArray} (h : l[k]? = some s) : poolU xs sp d (l.take (k + 1)) = poolU xs sp d (l.take k) ++ (if freeS xs sp d s then [s] else []) := by
  unfold poolU
  rw [List.take_add_one, h, List.filter_append]
  congr 1
  cases hq : freeS xs sp d s <;> simp [hq]
theorem poolU_len (xs : List TstR) (sp d : Int) (l : List ByteArray) : (poolU xs sp d l).length ≤ l.length := List.length_filter_le _ _
theorem RowA.gr {w w' : World} {g : Nat} {l : Array Nat} (h : RowA w g l) (k : Gr w w') : RowA w' g l := k.block h
theorem MapAt.lt {w : World} {g : Nat} {m : List (ByteArray × Int)} (h : MapAt w g m) : g < w.heap.size := by
  obtain ⟨⟨es, clock, h1, h2⟩⟩ := h
  exact (Array.getElem?_eq_some_iff.1 h1).1
open Go.Sort Go.Shelf in
/-- as the stable sort leaves them -/
def srtM (m : List (ByteArray × Int)) (l : List ByteArray) : List ByteArray := (Sort.insertionSort (ltOf (cmpM m)) l.toArray 0 l.length).toList
open Go.Sort Go.Shelf in
theorem srtM_spec (m : List (ByteArray × Int)) (l : List ByteArray) : (srtM m l).Perm l ∧ (srtM m l).length = l.length ∧ ∀ (i j : Nat) (x y : ByteArray), i < j → (srtM m l)[i]? = some x → (srtM m l)[j]? = some y → dayM m x ≤ dayM m y := by
  obtain ⟨hp, hso⟩ := insertionSort_holds (swo_cmpM m) l.toArray 0 l.length (Nat.zero_le _) (by simp)
  have hsz : (Sort.insertionSort (ltOf (cmpM m)) l.toArray 0 l.length).size = l.length := by rw [hp.1]; simp
  refine ⟨?_, by unfold srtM; rw [Array.length_toList, hsz], ?_⟩
  · have h3 := hp.2.2
    rw [show (Sort.insertionSort (ltOf (cmpM m)) l.toArray 0 l.length).extract 0 l.length = Sort.insertionSort (ltOf (cmpM m)) l.toArray 0 l.length by
      have := hsz; generalize Sort.insertionSort (ltOf (cmpM m)) l.toArray 0 l.length = q at *; rw [← this]; simp, show l.toArray.extract 0 l.length = l.toArray by simp] at h3
    simpa [srtM] using h3
  · intro i j x y hij hi hj
    unfold srtM at hi hj
    rw [Array.getElem?_toList] at hi hj
    obtain ⟨hi2, ex⟩ := Array.getElem?_eq_some_iff.1 hi
    obtain ⟨hj2, ey⟩ := Array.getElem?_eq_some_iff.1 hj
    have := hso i j (Nat.zero_le _) hij (by omega)
    rw [getElem!_pos _ i hi2, getElem!_pos _ j hj2, ex, ey, lt_cmpM, decide_eq_false_iff_not] at this
    omega
open Go.Sort Go.Shelf in
theorem grownBy_sortedS {w : World} {g n : Nat} {os : Array Obj} (d : Array ByteArray) : w.grownBy (sortWorld encS w g 0 n d os) (some g) := by
  unfold sortWorld
  refine ⟨rfl, rfl, rfl, by simp, fun k hk hne => ?_⟩
  rw [heap_grow_old _ _ (by simpa using hk)]
  have : g ≠ k := fun e => hne (by rw [e])
  simp [putRow, mapBlock, Sort.ahead, Array.getElem?_modify, this]
theorem MapAt.keep {w w' : World} {g G : Nat} {m : List (ByteArray × Int)} (h : MapAt w G m) (k : w.grownBy w' (some g)) (hne : G ≠ g) : MapAt w' G m := by
  obtain ⟨⟨es, clock, h1, h2⟩⟩ := h
  obtain ⟨_, _, _, _, hold⟩ := k
  exact ⟨es, clock, by rw [hold G (Array.getElem?_eq_some_iff.1 h1).1 (by intro e; cases e; exact hne rfl)]; exact h1, h2⟩
theorem cell_lt {w : World} {p : Addr} {v : Value} (h : w.cell? p = some v) : p.block < w.heap.size := by
  rcases Nat.lt_or_ge p.block w.heap.size with h2 | h2
  · exact h2
  · simp [World.cell?, Array.getElem?_eq_none h2] at h
theorem cell_keep {w w' : World} {g : Nat} {p : Addr} {v : Value} (h : w.cell? p = some v) (k : w.grownBy w' (some g)) (hne : p.block ≠ g) : w'.cell? p = some v := by
  obtain ⟨_, _, _, _, hold⟩ := k
  have hFl : p.block < w.heap.size := by
    rcases Nat.lt_or_ge p.block w.heap.size with h2 | h2
    · exact h2
    · simp [World.cell?, Array.getElem?_eq_none h2] at h
  have := hold p.block hFl (by intro e; cases e; exact hne rfl)
  simp only [World.cell?] at h ⊢
  rw [this]
  exact h
open Go.Sort Go.Shelf in
theorem sortPool_c (I : InsSOK) (m : List (ByteArray × Int)) (l : List ByteArray) (g cap T G : Nat) (w : World) (h1 : l.length < 20) (hlt : g < w.heap.size) (hH : Holds encS w g 0 l.toArray)
    (hT : w.cell? ⟨T, 0, none⟩ = some (.map (some G))) (hm : MapAt w G m) (hTg : T ≠ g) (hGg : G ≠ g) :
    Calls Try.prog 28 #[.slice (some ⟨g, 0, none⟩) l.length cap, .func (.func 29) #[] #[.pointer (some ⟨T, 0, none⟩)]] w fun e w' =>
      e = .returned (.tuple #[]) ∧ w.grownBy w' (some g) ∧ ∀ i s, (srtM m l)[i]? = some s → StrAt w' g i s := by
  have hcmp : CmpLays1 Try.prog 29 #[.pointer (some ⟨T, 0, none⟩)] encS (cmpM m) g 0 l.toArray.size w := by
    intro q os dk _ x y
    have hk := grownBy_sortedS (w := w) (g := g) (n := q) (os := os) dk
    refine (poolCmp_c m T G x y _ (cell_keep hT hk hTg) (hm.keep hk hGg)).mono ?_
    rintro e w' ⟨rfl, rfl⟩
    exact ⟨rfl, 0, #[], by rw [grow_empty]; rfl⟩
  have hR : Row1 encS w g 0 l.toArray := ⟨fun _ => rfl, hH, hlt⟩
  have hcall := sortSS_c I m #[.pointer (some ⟨T, 0, none⟩)] g 0 cap l.toArray w w hcmp hR (SW.start hH) (by simpa using h1)
  rw [show l.toArray.size = l.length by simp] at hcall
  refine hcall.mono ?_
  rintro e w' ⟨rfl, hSW⟩
  have hsp := srtM_spec m l
  have hHs := hSW.holds hlt hH (by have := hsp.2.1; unfold srtM at this; simpa using this)
  refine ⟨rfl, ?_, fun i s hs => ?_⟩
  · obtain ⟨q, os, rfl⟩ := hSW
    exact grownBy_sortedS _
  · unfold srtM at hs
    rw [Array.getElem?_toList] at hs
    obtain ⟨hi, ex⟩ := Array.getElem?_eq_some_iff.1 hs
    have c := (hHs i hi).1
    rw [getElem!_pos _ i hi, ex, Nat.zero_add] at c
    exact ⟨c⟩
open Go.Sort Go.Shelf in
theorem holdsS_of_owns {w : World} {base n : Nat} {v : Value} {l : List ByteArray} {T : TypeId} (hn : l.length = n) (h : w.ownsRow base T 1 v n (strC l)) (h0 : 0 < n) :
    ∃ g cap, v = .slice (some ⟨g, 0, none⟩) n cap ∧ base ≤ g ∧ g < w.heap.size ∧ Holds encS w g 0 l.toArray ∧ n ≤ cap ∧ cap ≤ maxLen := by
  have hh := h
  rcases h.2 with ⟨rfl, h0'⟩ | ⟨g, cap, cur, rfl, hb, hcur, hle, hmx, _, _⟩
  · omega
  · have hlt := (Array.getElem?_eq_some_iff.1 hcur).1
    refine ⟨g, cap, rfl, hb, hlt, fun t ht => ⟨?_, by simp [World.frozen?, hcur]⟩, hle, hmx⟩
    have ht' : t < l.length := by simpa using ht
    have e : (⟨g, 0, none⟩ : Addr).add t = ⟨g, t, none⟩ := by unfold Addr.add; split <;> simp_all
    have c := hh.cells (g := g) rfl t (.string l[t]) (by simp [strC, ht'])
    rw [e] at c
    rw [Nat.zero_add, c, getElem!_pos _ t ht]
    simp [encS]
open Go.Sort Go.Shelf in
theorem ownsS_cases {w : World} {base n : Nat} {v : Value} {l : List ByteArray} {T : TypeId} (hn : l.length = n) (h : w.ownsRow base T 1 v n (strC l)) :
    (v = .slice none 0 0 ∧ l = []) ∨ ∃ g cap, v = .slice (some ⟨g, 0, none⟩) n cap ∧ base ≤ g ∧ g < w.heap.size ∧ Holds encS w g 0 l.toArray ∧ n ≤ cap ∧ cap ≤ maxLen := by
  rcases Nat.eq_zero_or_pos n with h0 | h0
  · have hl : l = [] := List.eq_nil_of_length_eq_zero (by omega)
    subst hl
    rcases h.2 with ⟨e, h00⟩ | ⟨g, cap, cur, e, hb, hcur, hle, hmx, _, _⟩
    · exact .inl ⟨by rw [e], rfl⟩
    · exact .inr ⟨g, cap, e, hb, (Array.getElem?_eq_some_iff.1 hcur).1, fun t ht => absurd ht (by simp), hle, hmx⟩
  · exact .inr (holdsS_of_owns hn h h0)
end Go.Proofs.Ytaapaijdcgpdkaa
