/- Members: licences of others deleted. -/
import Derived.Test.YtmlmbgifkmkmgaaGreatMbF
import Derived.Test.YtmlmbgifkmkmgaaGreatGMbK
import Derived.Laws.CopyRow
namespace Go.Proofs.YtmlmbgifkmkmgaaGreat
open Go.RowKit Go.Lib
set_option linter.unusedSimpArgs false
set_option linter.unusedVariables false
/-- of another climber -/
def otherQ (nm : ByteArray) (x : CatR) : Bool := !isN (fun y : CatR => y.nm) nm x
def mineL (nm : ByteArray) (xs : List CatR) : List CatR := xs.filter fun x => !otherQ nm x
theorem other_c (y : CatR) (B : Nat) (nm : ByteArray) (w : World) (h : w.cell? ⟨B, 0, none⟩ = some (.string nm)) :
    Calls Tryz.prog 102 #[catV y, .pointer (some ⟨B, 0, none⟩)] w fun e w' => e = .returned (.bool (otherQ nm y)) ∧ Gr w w' := by
  unfold catV otherQ isN
  obtain ⟨W, hW, g, a0, a1, a2⟩ := box3 w (.string y.nm) (.int .i64 y.lo) (.int .i64 y.hi) 73
  have hB := g.cell h
  rw [← hW] at hB
  have HG := Lib.hid (show Gr w (w.alloc (.cells #[.string y.nm, .int .i64 y.lo, .int .i64 y.hi] 73)) from (Gr.refl w).alloc _)
  clear hW h g a0 a1 a2
  go_enter Tryz.func102, Tryz.ntmps102
  go_wp2_with fail
  go_ret
  exact ⟨by congr 1, HG.out⟩
set_option maxHeartbeats 1000000 in
set_option maxRecDepth 100000 in
theorem indexOther_pos (xs : List CatR) (n b off cap : Nat) (B : Nat) (nm : ByteArray) (w : World) (hn : n ≤ xs.length) (h1 : n ≤ 1000) (hc : ∀ i x, xs[i]? = some x → CatAt w b (off + i * 3) x) (hB : w.cell? ⟨B, 0, none⟩ = some (.string nm)) :
    Calls Tryz.prog 135 #[.slice (some ⟨b, off, none⟩) n cap, .func (.func 102) #[] #[.pointer (some ⟨B, 0, none⟩)]] w fun e w' => e = .returned (.int .i64 (idxQ (otherQ nm) xs n 0)) ∧ Gr w w' := by
  have HC := Lib.hid hc
  have HN := Lib.hid hn
  have HE : Hid (idxQ (otherQ nm) xs n 0 = idxQ (otherQ nm) xs (n - 0) 0) := rfl
  clear hc hn
  go_enter Tryz.func135, Tryz.ntmps135
  go_wp2_with fail
  go_loopg [8] n (fun gk s8 wr => ∃ i : Nat, s8 = .int .i64 i ∧ gk + i = n ∧ Gr w wr ∧ Hid (idxQ (otherQ nm) xs (n - i) i = idxQ (otherQ nm) xs (n - 0) 0))
  case atStart => exact ⟨0, rfl, by omega, Gr.refl _, rfl⟩
  case round =>
    obtain ⟨i, rfl, hi, hg, HF⟩ := hrel
    by_cases hlt : i < n
    · obtain ⟨x, hx⟩ : ∃ x, xs[i]? = some x := ⟨xs[i]'(by have := HN.out; omega), List.getElem?_eq_getElem _⟩
      obtain ⟨c0, c1, c2⟩ := (HC.out i x hx).gr hg
      have hf := idxQ_step (Q := (otherQ nm)) hx hlt
      have hi2 : (i : Int) < n := by omega
      have HT := Lib.hid (other_c x B nm wr (hg.cell hB))
      clear hx
      try unfold catV at HT
      cases e1 : (otherQ nm) x
      · rw [e1] at hf HT
        simp only [Bool.false_eq_true, if_false] at hf
        have HF2 := Lib.hid hf
        clear hf e1
        go_wp2_with (refine HT.out.mono ?_; rintro e w4 ⟨rfl, hg2⟩)
        go_roundg (gk - 1)
        case measure => omega
        case rel => exact ⟨i + 1, by go_num, by omega, hg.trans hg2, by unfold Hid; rw [← HF2.out, HF.out]⟩
      · rw [e1] at hf HT
        simp only [if_true] at hf
        have HF2 := Lib.hid hf
        clear hf e1
        go_wp2_with (refine HT.out.mono ?_; rintro e w4 ⟨rfl, hg2⟩)
        go_ret
        exact ⟨by rw [HE.out, ← HF.out, HF2.out]; rfl, hg.trans hg2⟩
    · have HE2 := Lib.hid (idxQ_end (Q := (otherQ nm)) (xs := xs) (i := i) (n := n) (by omega))
      have hi2 : (n : Int) ≤ i := by omega
      go_wp2_with fail
      go_ret
      exact ⟨by rw [HE.out, ← HF.out, HE2.out]; rfl, hg⟩
/-- the cells of one in a block -/
structure CatC (cur : Array Value) (o : Nat) (x : CatR) : Prop where
  nm : cur[o]? = some (.string x.nm)
  lo : cur[o + 1]? = some (.int .i64 x.lo)
  hi : cur[o + 2]? = some (.int .i64 x.hi)
theorem CatC.at {w : World} {g o : Nat} {cur : Array Value} {T : TypeId} {x : CatR} (h : CatC cur o x) (hg : w.heap[g]? = some (.cells cur T (0, 0))) : CatAt w g o x :=
  ⟨by rw [cell_of_row w g o cur T (0, 0) hg]; exact h.nm, by rw [cell_of_row w g (o + 1) cur T (0, 0) hg]; exact h.lo, by rw [cell_of_row w g (o + 2) cur T (0, 0) hg]; exact h.hi⟩
def put3 (cur : Array Value) (o : Nat) (x : CatR) : Array Value := ((cur.setIfInBounds o (.string x.nm)).setIfInBounds (o + 1) (.int .i64 x.lo)).setIfInBounds (o + 2) (.int .i64 x.hi)
theorem put3_size (cur : Array Value) (o : Nat) (x : CatR) : (put3 cur o x).size = cur.size := by unfold put3; simp
theorem put3_here {cur : Array Value} {o : Nat} {x : CatR} (h : o + 2 < cur.size) : CatC (put3 cur o x) o x := by
  unfold put3
  refine ⟨?_, ?_, ?_⟩
  · rw [Array.getElem?_setIfInBounds, if_neg (by omega), Array.getElem?_setIfInBounds, if_neg (by omega), Array.getElem?_setIfInBounds, if_pos rfl, if_pos (by omega)]
  · rw [Array.getElem?_setIfInBounds, if_neg (by omega), Array.getElem?_setIfInBounds, if_pos rfl, if_pos (by simp; omega)]
  · rw [Array.getElem?_setIfInBounds, if_pos rfl, if_pos (by simp; omega)]
theorem put3_there {cur : Array Value} {o o2 : Nat} {x y : CatR} (h : CatC cur o2 y) (hne : o2 + 2 < o ∨ o + 2 < o2) : CatC (put3 cur o x) o2 y := by
  unfold put3
  refine ⟨?_, ?_, ?_⟩
  all_goals rw [Array.getElem?_setIfInBounds, if_neg (by omega), Array.getElem?_setIfInBounds, if_neg (by omega), Array.getElem?_setIfInBounds, if_neg (by omega)]
  · exact h.nm
  · exact h.lo
  · exact h.hi
/-- the list, gone through up to the j-th, with i of them kept -/
structure DelI (nm : ByteArray) (xs : List CatR) (j i csz : Nat) (cur : Array Value) : Prop where
  lt : i < j
  size : cur.size = csz
  len : (mineL nm (xs.take j)).length = i
  low : ∀ (t : Nat) (x : CatR), (mineL nm (xs.take j))[t]? = some x → CatC cur (t * 3) x
  high : ∀ (t : Nat) (x : CatR), j ≤ t → xs[t]? = some x → CatC cur (t * 3) x
theorem mineL_take {nm : ByteArray} {xs : List CatR} {j : Nat} {x : CatR} (h : xs[j]? = some x) : mineL nm (xs.take (j + 1)) = mineL nm (xs.take j) ++ (if otherQ nm x then [] else [x]) := by
  unfold mineL
  rw [List.take_add_one, h, List.filter_append]
  cases e : otherQ nm x <;> simp [e]
theorem DelI.skip {nm : ByteArray} {xs : List CatR} {j i csz : Nat} {cur : Array Value} {x : CatR} (h : DelI nm xs j i csz cur) (hx : xs[j]? = some x) (ho : otherQ nm x = true) : DelI nm xs (j + 1) i csz cur := by
  have e := mineL_take (nm := nm) hx
  rw [ho] at e
  simp only [if_true, List.append_nil] at e
  exact ⟨by have := h.lt; omega, h.size, by rw [e]; exact h.len, by rw [e]; exact h.low, fun t y ht hy => h.high t y (by omega) hy⟩
theorem DelI.keep {nm : ByteArray} {xs : List CatR} {j i csz : Nat} {cur : Array Value} {x : CatR} (h : DelI nm xs j i csz cur) (hx : xs[j]? = some x) (ho : otherQ nm x = false) (hc : xs.length * 3 ≤ csz) : DelI nm xs (j + 1) (i + 1) csz (put3 cur (i * 3) x) := by
  have e := mineL_take (nm := nm) hx
  rw [ho] at e
  simp only [Bool.false_eq_true, if_false] at e
  have hj := (List.getElem?_eq_some_iff.1 hx).1
  have hl := h.lt
  have hs := h.size
  refine ⟨by omega, by rw [put3_size]; exact hs, by rw [e]; simp [h.len], fun t y hy => ?_, fun t y ht hy => ?_⟩
  · rw [e] at hy
    rcases Nat.lt_or_ge t (mineL nm (xs.take j)).length with h1 | h1
    · rw [List.getElem?_append_left h1] at hy
      rw [h.len] at h1
      exact put3_there (h.low t y hy) (.inl (by omega))
    · have h2 := (List.getElem?_eq_some_iff.1 hy).1
      simp at h2
      have h3 : t = (mineL nm (xs.take j)).length := by omega
      rw [List.getElem?_append_right h1, h3, Nat.sub_self] at hy
      simp at hy
      subst hy
      rw [h3, h.len]
      exact put3_here (by omega)
  · exact put3_there (h.high t y (by omega) hy) (.inr (by omega))
theorem store3c {w : World} {g : Nat} {cur : Array Value} {T : TypeId} (h : w.heap[g]? = some (.cells cur T (0, 0))) (j : Nat) (x : CatR) :
    (((w.setCell ⟨g, j, none⟩ (.string x.nm)).setCell ⟨g, j + 1, none⟩ (.int .i64 x.lo)).setCell ⟨g, j + 2, none⟩ (.int .i64 x.hi)).heap[g]? = some (.cells (put3 cur j x) T (0, 0)) :=
  heap_setCell_same _ g (j + 2) _ T _ (heap_setCell_same _ g (j + 1) _ T _ (heap_setCell_same w g j cur T _ h))
theorem zeroLic_cells (n : Nat) : (Builtin.zeroCells (Value.agg #[.string ⟨#[]⟩, .int .i64 0, .int .i64 0]).cells n).toList.length = n * 3 := by
  simp [Builtin.zeroCells, Value.cells]
theorem zeroLic_one (n : Nat) : ∀ u ∈ (Builtin.zeroCells (Value.agg #[.string ⟨#[]⟩, .int .i64 0, .int .i64 0]).cells n).toList, u.oneCell' = true := by
  intro u hu
  simp [Builtin.zeroCells, Value.cells] at hu
  obtain ⟨a, ha, rfl⟩ := hu
  have h3 : a % 3 = 0 ∨ a % 3 = 1 ∨ a % 3 = 2 := by omega
  rcases h3 with h | h | h <;> simp [h] <;> rfl
theorem clear3 (w : World) (g o n c : Nat) (cur : Array Value) (ty : TypeId) (hg : w.heap[g]? = some (.cells cur 73 (0, 0))) (hn : 0 < n) (hs : o + n * 3 ≤ cur.size) :
    (Builtin.clear_ #[52] ty #[.slice (some ⟨g, o, none⟩) n c]).run Tryz.prog w = .ok (.tuple #[]) (w.setRow g (cur.toList.take o ++ (Builtin.zeroCells (Value.agg #[.string ⟨#[]⟩, .int .i64 0, .int .i64 0]).cells n).toList ++ cur.toList.drop (o + n * 3)).toArray) := by
  have hst := run_storeCells_at (P := Tryz.prog) g o 73 (Builtin.zeroCells (Value.agg #[.string ⟨#[]⟩, .int .i64 0, .int .i64 0]).cells n).toList 0 cur w hg (by rw [zeroLic_cells]; omega) (zeroLic_one n)
  simp only [Nat.add_zero, zeroLic_cells] at hst
  have hv := Tryz.zeroValue73 w
  obtain ⟨m, rfl⟩ : ∃ m, n = m + 1 := ⟨n - 1, by omega⟩
  simp [Builtin.clear_, run_underlying Tryz.underlying52, hv, hst]
end Go.Proofs.YtmlmbgifkmkmgaaGreat
namespace Go.Proofs.YtmlmbgifkmkmgaaGreat
open Go.RowKit Go.Lib
set_option linter.unusedSimpArgs false
set_option linter.unusedVariables false
theorem idxQ_first {α : Type} {Q : α → Bool} {xs : List α} {n : Nat} (hn : xs.length = n) (hex : ∃ (i : Nat) (x : α), xs[i]? = some x ∧ Q x = true) :
    ∃ i0 : Nat, idxQ Q xs n 0 = (i0 : Int) ∧ i0 < n ∧ (∀ (t : Nat) (x : α), t < i0 → xs[t]? = some x → Q x = false) ∧ (∀ x, xs[i0]? = some x → Q x = true) := by
  have key : ∀ (k i : Nat), i + k = n → (∀ (t : Nat) (x : α), t < i → xs[t]? = some x → Q x = false) → ∃ i0 : Nat, idxQ Q xs k i = (i0 : Int) ∧ i0 < n ∧ (∀ (t : Nat) (x : α), t < i0 → xs[t]? = some x → Q x = false) ∧ (∀ x, xs[i0]? = some x → Q x = true) := by
    intro k
    induction k with
    | zero =>
      intro i hi hall
      obtain ⟨j, x, hx, hq⟩ := hex
      have := (List.getElem?_eq_some_iff.1 hx).1
      rw [hall j x (by omega) hx] at hq
      cases hq
    | succ k ih =>
      intro i hi hall
      have hil : i < xs.length := by omega
      simp only [idxQ, List.getElem?_eq_getElem hil]
      cases hq : Q xs[i]
      · simp only [Bool.false_eq_true, if_false]
        refine ih (i + 1) (by omega) fun t x ht hx => ?_
        rcases Nat.lt_or_ge t i with h | h
        · exact hall t x h hx
        · obtain rfl : t = i := by omega
          rw [List.getElem?_eq_getElem hil] at hx
          cases hx
          exact hq
      · simp only [if_true]
        exact ⟨i, rfl, by omega, hall, fun x hx => by rw [List.getElem?_eq_getElem hil] at hx; cases hx; exact hq⟩
  exact key n 0 (by omega) (fun t x ht => absurd ht (by omega))
theorem idxQ_none {α : Type} {Q : α → Bool} {xs : List α} (h : ¬ ∃ (i : Nat) (x : α), xs[i]? = some x ∧ Q x = true) : ∀ (k i : Nat), idxQ Q xs k i = -1
  | 0, i => rfl
  | k + 1, i => by
    simp only [idxQ]
    split
    · rename_i x hx
      cases hq : Q x
      · simp only [Bool.false_eq_true, if_false]; exact idxQ_none h k (i + 1)
      · exact absurd ⟨i, x, hx, hq⟩ h
    · rfl
theorem mineL_all {nm : ByteArray} {xs : List CatR} {k : Nat} (h : ∀ (t : Nat) (x : CatR), t < k → xs[t]? = some x → otherQ nm x = false) : mineL nm (xs.take k) = xs.take k := by
  unfold mineL
  rw [List.filter_eq_self]
  intro x hx
  obtain ⟨t, ht⟩ := List.mem_iff_getElem?.1 hx
  have htl := (List.getElem?_eq_some_iff.1 ht).1
  rw [List.length_take] at htl
  rw [List.getElem?_take, if_pos (by omega)] at ht
  rw [h t x (by omega) ht]
  rfl
theorem DelI.start {nm : ByteArray} {xs : List CatR} {n i0 csz : Nat} {cur : Array Value} (hi : i0 < n) (hn : xs.length = n) (h1 : ∀ (t : Nat) (x : CatR), t < i0 → xs[t]? = some x → otherQ nm x = false) (h2 : ∀ x, xs[i0]? = some x → otherQ nm x = true) (hs : cur.size = csz) (hc : ∀ (i : Nat) (x : CatR), xs[i]? = some x → CatC cur (i * 3) x) : DelI nm xs (i0 + 1) i0 csz cur := by
  obtain ⟨x, hx⟩ : ∃ x, xs[i0]? = some x := ⟨xs[i0]'(by omega), List.getElem?_eq_getElem _⟩
  have e := mineL_take (nm := nm) hx
  rw [h2 x hx, mineL_all h1] at e
  simp only [if_true, List.append_nil] at e
  refine ⟨by omega, hs, by rw [e, List.length_take]; omega, fun t y hy => ?_, fun t y _ hy => hc t y hy⟩
  rw [e, List.getElem?_take] at hy
  split at hy
  · exact hc t y hy
  · cases hy
theorem Below.setRow {B : Nat} {a w : World} (h : Below B a w) {g : Nat} (hg : B ≤ g) (cs : Array Value) : Below B a (w.setRow g cs) :=
  ⟨h.os, h.tape, h.output, by simpa using h.size, fun k hk => by
    have hne : k ≠ g := by omega
    have e : (w.setRow g cs).heap[k]? = w.heap[k]? := by
      simp only [World.setRow, Array.getElem?_modify]
      rw [if_neg (fun e => hne e.symm)]
    rw [e]; exact h.block k hk⟩
set_option maxHeartbeats 1000000 in
set_option maxRecDepth 100000 in
theorem delete_pos (nm : ByteArray) (xs : List CatR) (n g cap B base : Nat) (cur0 : Array Value) (w : World) (hn : xs.length = n) (h1 : n ≤ 1000) (hcap : n ≤ cap) (hmx : cap ≤ maxLen) (hsz : cur0.size = cap * 3) (hbg : base ≤ g) (hB9 : B < base) (hbw : base ≤ w.heap.size)
    (hG : w.heap[g]? = some (.cells cur0 73 (0, 0))) (hc : ∀ (i : Nat) (x : CatR), xs[i]? = some x → CatC cur0 (i * 3) x) (hB : w.cell? ⟨B, 0, none⟩ = some (.string nm)) :
    Calls Tryz.prog 104 #[.slice (some ⟨g, 0, none⟩) n cap, .func (.func 102) #[] #[.pointer (some ⟨B, 0, none⟩)]] w fun e w' => ∃ m, e = .returned (.slice (some ⟨g, 0, none⟩) m cap) ∧ m = (mineL nm xs).length ∧ CatAts w' (.slice (some ⟨g, 0, none⟩) m cap) (mineL nm xs) ∧ Below base w w' := by
  have hidx := indexOther_pos xs n g 0 cap B nm w (by omega) h1 (fun i x hx => by rw [Nat.zero_add]; exact (hc i x hx).at hG) hB
  rcases Classical.em (∃ (i : Nat) (x : CatR), xs[i]? = some x ∧ otherQ nm x = true) with hex | hex
  · -- somebody goes
    obtain ⟨i0, hi0, hi1, hi2, hi3⟩ : ∃ i0 : Nat, idxQ (otherQ nm) xs n 0 = (i0 : Int) ∧ i0 < n ∧ (∀ (t : Nat) (x : CatR), t < i0 → xs[t]? = some x → otherQ nm x = false) ∧ (∀ x, xs[i0]? = some x → otherQ nm x = true) := idxQ_first hn hex
    rw [hi0] at hidx
    have hst : DelI nm xs (i0 + 1) i0 (cap * 3) cur0 := DelI.start hi1 hn hi2 hi3 hsz hc
    have HIX := Lib.hid hidx
    have HN := Lib.hid hn
    have HST := Lib.hid hst
    have hi4 : ((i0 : Int) == -1) = false := beq_eq_false_iff_ne.2 (by omega)
    clear hidx hi0 hi2 hi3 hex hc hst hn
    go_enter Tryz.func104, Tryz.ntmps104
    go_wp2_with fail
    refine HIX.out.mono ?_
    rintro e W1 ⟨rfl, hg1⟩
    have hG1 := hg1.block hG
    have hb1 : Below base w W1 := Below.mono hg1 hbw
    have HB1 := Lib.hid hb1
    clear hb1 hG HIX
    go_wp2_with fail
    go_loopw [5, 6] (fun iv jv wr => ∃ (i j : Nat) (cur : Array Value), j ≤ n ∧ iv = .int .i64 i ∧ jv = .int .i64 j ∧ wr.heap[g]? = some (.cells cur 73 (0, 0)) ∧ DelI nm xs j i (cap * 3) cur ∧ Below base w wr) (fun _ jv _ => n - (intOf jv).toNat)
    case atStart => exact ⟨i0, i0 + 1, cur0, by omega, rfl, by go_num, hG1, HST.out, HB1.out⟩
    case round =>
      obtain ⟨i, j, cur, hjn, rfl, rfl, hG2, hD, hb2⟩ := hrel
      have hij := hD.lt
      by_cases hlt : j < n
      · obtain ⟨x, hx⟩ : ∃ x, xs[j]? = some x := ⟨xs[j]'(by have := HN.out; omega), List.getElem?_eq_getElem _⟩
        obtain ⟨c0, c1, c2⟩ := (hD.high j x (Nat.le_refl _) hx).at hG2
        have hi5 : (j : Int) < n := by omega
        have hB2 := (Below.cell (p := ⟨B, 0, none⟩) hb2 hB9).trans hB
        obtain ⟨W, hW, g3, a0, a1, a2⟩ := box3 wr (.string x.nm) (.int .i64 x.lo) (.int .i64 x.hi) 73
        have HW := Lib.hid hW
        have HO := Lib.hid (fun (V : World) (gg : Gr W V) => other_c x B nm V (gg.cell (g3.cell hB2)))
        unfold catV at HO
        have hsk := fun h => DelI.skip hD hx h
        have hkp := fun h => DelI.keep hD hx h (by have := HN.out; omega)
        have hcs := hD.size
        have hb3 : Below base w W := Below.trans hb2 (Below.mono g3 (Nat.le_trans hbw hb2.size))
        have hG3 := g3.block hG2
        clear hx hD hW hB2
        cases ho : otherQ nm x
        · have HK := Lib.hid (hkp ho)
          rw [ho] at HO
          clear ho hsk hkp hG2 hb2
          go_wp2_with fail
          rw [HW.out]
          refine (HO.out W (Gr.refl W)).mono ?_
          rintro e W4 ⟨rfl, hg4⟩
          have hG4 := hg4.block hG3
          have hb4 : Below base w W4 := Below.trans hb3 (Below.mono hg4 (Nat.le_trans hbw hb3.size))
          replace a0 := hg4.cell a0
          replace a1 := hg4.cell a1
          replace a2 := hg4.cell a2
          have k0 : W4.cell? ⟨g, i * 3, none⟩ = some (cur[i * 3]'(by omega)) := by rw [cell_of_row W4 g (i * 3) cur _ (0, 0) hG4, Array.getElem?_eq_getElem]
          have k1 : W4.cell? ⟨g, i * 3 + 1, none⟩ = some (cur[i * 3 + 1]'(by omega)) := by rw [cell_of_row W4 g (i * 3 + 1) cur _ (0, 0) hG4, Array.getElem?_eq_getElem]
          have k2 : W4.cell? ⟨g, i * 3 + 2, none⟩ = some (cur[i * 3 + 2]'(by omega)) := by rw [cell_of_row W4 g (i * 3 + 2) cur _ (0, 0) hG4, Array.getElem?_eq_getElem]
          have f0 := frozen_of_row W4 g (i * 3) cur _ hG4
          have f1 := frozen_of_row W4 g (i * 3 + 1) cur _ hG4
          have f2 := frozen_of_row W4 g (i * 3 + 2) cur _ hG4
          generalize cur[i * 3]'(by omega) = o0 at k0
          generalize cur[i * 3 + 1]'(by omega) = o1 at k1
          generalize cur[i * 3 + 2]'(by omega) = o2 at k2
          have HS := Lib.hid (store3c hG4 (i * 3) x)
          have HB5 := Lib.hid (show Below base w (((W4.setCell ⟨g, i * 3, none⟩ (.string x.nm)).setCell ⟨g, i * 3 + 1, none⟩ (.int .i64 x.lo)).setCell ⟨g, i * 3 + 2, none⟩ (.int .i64 x.hi)) from ((hb4.setCell hbg _).setCell hbg _).setCell hbg _)
          have hi6 : (i : Int) < n := by omega
          clear hG4 hG3 hb4 hb3 hg4 HO HW hcs
          go_wp2_with fail
          go_roundw
          case rel => exact ⟨i + 1, j + 1, _, by omega, by go_num, by go_num, HS.out, HK.out, HB5.out⟩
          case measure => simp [intOf]; omega
        · have HK := Lib.hid (hsk ho)
          rw [ho] at HO
          clear ho hsk hkp hG2 hb2
          go_wp2_with fail
          rw [HW.out]
          refine (HO.out W (Gr.refl W)).mono ?_
          rintro e W4 ⟨rfl, hg4⟩
          have HG4 := Lib.hid (hg4.block hG3)
          have HB4 := Lib.hid (show Below base w W4 from Below.trans hb3 (Below.mono hg4 (Nat.le_trans hbw hb3.size)))
          clear hG3 hb3 hg4 HO HW
          go_wp2_with fail
          go_roundw
          case rel => exact ⟨i, j + 1, cur, by omega, rfl, by go_num, HG4.out, HK.out, HB4.out⟩
          case measure => simp [intOf]; omega
      · obtain rfl : j = n := by omega
        have hcs := hD.size
        obtain ⟨zs, hzs⟩ : ∃ zs, zs = (Builtin.zeroCells (Value.agg #[.string ⟨#[]⟩, .int .i64 0, .int .i64 0]).cells (j - i)).toList := ⟨_, rfl⟩
        have hzl : zs.length = (j - i) * 3 := by rw [hzs]; exact zeroLic_cells _
        have hcl : ∀ ty c, (Builtin.clear_ #[52] ty #[.slice (some ⟨g, i * 3, none⟩) (j - i) c]).run Tryz.prog wr = .ok (.tuple #[]) (wr.setRow g (cur.toList.take (i * 3) ++ zs ++ cur.toList.drop (i * 3 + (j - i) * 3)).toArray) := fun ty c => by
          rw [hzs]; exact clear3 wr g (i * 3) (j - i) c cur ty hG2 (by omega) (by omega)
        have hG5 := setRow_heap wr g cur (cur.toList.take (i * 3) ++ zs ++ cur.toList.drop (i * 3 + (j - i) * 3)).toArray _ _ hG2
        have hb5 : Below base w (wr.setRow g (cur.toList.take (i * 3) ++ zs ++ cur.toList.drop (i * 3 + (j - i) * 3)).toArray) := Below.setRow hb2 hbg _
        have hrd : ∀ (t : Nat) (x : CatR), (mineL nm xs)[t]? = some x → CatC (cur.toList.take (i * 3) ++ zs ++ cur.toList.drop (i * 3 + (j - i) * 3)).toArray (t * 3) x := fun t x hx => by
          have hxx : (mineL nm (xs.take j))[t]? = some x := by rw [List.take_of_length_le (by have := HN.out; omega)]; exact hx
          have htl := (List.getElem?_eq_some_iff.1 hxx).1
          rw [hD.len] at htl
          obtain ⟨z0, z1, z2⟩ := hD.low t x hxx
          have hq : ∀ o, o < i * 3 → (cur.toList.take (i * 3) ++ zs ++ cur.toList.drop (i * 3 + (j - i) * 3)).toArray[o]? = cur[o]? := fun o ho => by
            rw [List.getElem?_toArray, List.append_assoc, List.getElem?_append_left (by simp; omega), List.getElem?_take, if_pos ho, Array.getElem?_toList]
          exact ⟨by rw [hq _ (by omega)]; exact z0, by rw [hq _ (by omega)]; exact z1, by rw [hq _ (by omega)]; exact z2⟩
        have hlm : i = (mineL nm xs).length := by have := hD.len; rw [List.take_of_length_le (by have := HN.out; omega)] at this; exact this.symm
        generalize (cur.toList.take (i * 3) ++ zs ++ cur.toList.drop (i * 3 + (j - i) * 3)).toArray = cur5 at *
        have HG5 := Lib.hid hG5
        have HB5 := Lib.hid hb5
        have HRD := Lib.hid hrd
        have HLM := Lib.hid hlm
        have hi6 : (i : Int) < cap := by omega
        have hi7 : (i : Int) ≤ j := by omega
        have hi8 : ¬ cap = i := by omega
        have hi9 : (j : Int) - (i : Int) = ((j - i : Nat) : Int) := by omega
        clear hD hG2 hb2 hG5 hb5 hrd hlm hzs hzl hcs
        go_wp2_with fail
        go_ret
        exact ⟨i, rfl, HLM.out, ⟨some ⟨g, 0, none⟩, cap, by rw [← HLM.out], ⟨by rw [← HLM.out]; omega, hmx⟩, fun _ => ⟨g, 0, rfl, fun t x hx => by rw [Nat.zero_add]; exact (HRD.out t x hx).at HG5.out⟩⟩, HB5.out⟩
  · have hall : mineL nm xs = xs := by
      have := mineL_all (nm := nm) (xs := xs) (k := xs.length) (fun t x _ hx => by
        cases hq : otherQ nm x
        · rfl
        · exact absurd ⟨t, x, hx, hq⟩ hex)
      rwa [List.take_length] at this
    rw [idxQ_none hex] at hidx
    have HIX := Lib.hid hidx
    have HALL := Lib.hid hall
    have HRE := Lib.hid (fun (W : World) (gg : Gr w W) => (show CatAts W (.slice (some ⟨g, 0, none⟩) n cap) xs from ⟨some ⟨g, 0, none⟩, cap, by rw [hn], ⟨by omega, hmx⟩, fun _ => ⟨g, 0, rfl, fun t x hx => by rw [Nat.zero_add]; exact ((hc t x hx).at hG).gr gg⟩⟩))
    have HN := Lib.hid hn
    clear hidx hall hex hc hn
    go_enter Tryz.func104, Tryz.ntmps104
    go_wp2_with fail
    refine HIX.out.mono ?_
    rintro e W1 ⟨rfl, hg1⟩
    go_wp2_with fail
    go_ret
    exact ⟨n, rfl, by rw [HALL.out, HN.out], by rw [HALL.out]; exact HRE.out _ hg1, Below.mono hg1 hbw⟩
end Go.Proofs.YtmlmbgifkmkmgaaGreat
