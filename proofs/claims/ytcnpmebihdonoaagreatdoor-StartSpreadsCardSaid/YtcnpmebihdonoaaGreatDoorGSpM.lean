/- StartSpreads (plain): groups are even; a list turned round; which lists are orders. -/
import Derived.Test.YtcnpmebihdonoaaGreatDoorGSpF
import Derived.Test.YtcnpmebihdonoaaGreatDoorLsM
import Derived.Test.YtcnpmebihdonoaaGreatDoorGDrC
import Derived.Test.YtcnpmebihdonoaaGreatDoorGSpD
import Derived.Laws.Rows
import Derived.OwnWalk
namespace Go.Proofs.YtcnpmebihdonoaaGreatDoor
open Go.RowKit Go.Lib
set_option linter.unusedSimpArgs false
set_option linter.unusedVariables false
/-- how many the first k places give a group -/
def lenG (m k i : Nat) : Nat := k / m + if k / m % 2 = 1 then (if m - k % m ≤ i then 1 else 0) else (if i < k % m then 1 else 0)
theorem next_row {m k : Nat} (h : 0 < m) : (k % m + 1 < m ∧ (k + 1) / m = k / m ∧ (k + 1) % m = k % m + 1) ∨ (k % m + 1 = m ∧ (k + 1) / m = k / m + 1 ∧ (k + 1) % m = 0) := by
  have h1 := Nat.mod_lt k h
  have h2 := Nat.div_add_mod k m
  rcases Nat.lt_or_ge (k % m + 1) m with h3 | h3
  · refine .inl ⟨h3, ?_, ?_⟩
    · rw [← h2, show m * (k / m) + k % m + 1 = k % m + 1 + m * (k / m) by omega, Nat.add_mul_div_left _ _ h, Nat.div_eq_of_lt h3]
      rw [h2]; omega
    · rw [← h2, show m * (k / m) + k % m + 1 = k % m + 1 + m * (k / m) by omega, Nat.add_mul_mod_self_left, Nat.mod_eq_of_lt h3]
      rw [h2]
  · have h4 : k % m + 1 = m := by omega
    have h5 : k + 1 = m * (k / m + 1) := by rw [Nat.mul_add]; omega
    refine .inr ⟨h4, ?_, ?_⟩
    · rw [h5, Nat.mul_div_cancel_left _ h]
    · rw [h5, Nat.mul_mod_right]
theorem lenG_next {m k i : Nat} (h : 0 < m) (hi : i < m) : lenG m (k + 1) i = lenG m k i + if i = grpN m k then 1 else 0 := by
  have h1 := Nat.mod_lt k h
  unfold lenG grpN
  rcases next_row (k := k) h with ⟨h2, h3, h4⟩ | ⟨h2, h3, h4⟩
  · rw [h3, h4]
    rcases Nat.mod_two_eq_zero_or_one (k / m) with h5 | h5
    · rw [h5]
      simp only [show ¬ (0 : Nat) = 1 by omega, if_false]
      by_cases e1 : i < k % m
      · rw [if_pos (by omega), if_pos e1, if_neg (by omega)]
      · by_cases e2 : i = k % m
        · rw [if_pos (by omega), if_neg e1, if_pos e2]
        · rw [if_neg (by omega), if_neg e1, if_neg e2]
    · rw [h5]
      simp only [if_true]
      by_cases e1 : m - k % m ≤ i
      · rw [if_pos (by omega), if_pos e1, if_neg (by omega)]
      · by_cases e2 : i = m - 1 - k % m
        · rw [if_pos (by omega), if_neg e1, if_pos e2]
        · rw [if_neg (by omega), if_neg e1, if_neg e2]
  · rw [h3, h4]
    rcases Nat.mod_two_eq_zero_or_one (k / m) with h5 | h5
    · rw [show (k / m + 1) % 2 = 1 by omega, h5]
      simp only [show ¬ (0 : Nat) = 1 by omega, if_false, if_true]
      rw [if_neg (by omega)]
      by_cases e1 : i < k % m
      · rw [if_pos e1, if_neg (by omega)]
      · rw [if_neg e1, if_pos (by omega)]
    · rw [show (k / m + 1) % 2 = 0 by omega, h5]
      simp only [show ¬ (0 : Nat) = 1 by omega, if_false, if_true]
      rw [if_neg (by omega)]
      by_cases e1 : m - k % m ≤ i
      · rw [if_pos e1, if_neg (by omega)]
      · rw [if_neg e1, if_pos (by omega)]
theorem lenG_at {m k : Nat} (h : 0 < m) : lenG m k (grpN m k) = k / m := by
  have h1 := Nat.mod_lt k h
  unfold lenG grpN
  rcases Nat.mod_two_eq_zero_or_one (k / m) with h5 | h5
  · rw [h5]
    simp
  · rw [h5]
    simp only [if_true]
    rw [if_neg (by omega), Nat.add_zero]
theorem lenG_le (m k i : Nat) : k / m ≤ lenG m k i ∧ lenG m k i ≤ k / m + 1 := by
  unfold lenG
  split <;> split <;> omega
theorem grpL_facts {m : Nat} (h : 0 < m) (r : List Nat) : ∀ k, k ≤ r.length → (∀ i l, (grpL m r k)[i]? = some l → l.length = lenG m k i ∧ ∀ j a, l[j]? = some a → ∃ p, r[p]? = some a ∧ p / m = j) ∧ (grpL m r k).flatten.length = k
  | 0, _ => by
    refine ⟨fun i l hl => ?_, ?_⟩
    · unfold grpL at hl
      have : l = [] := (List.mem_replicate.1 (List.mem_of_getElem? hl)).2
      subst this
      refine ⟨?_, fun j a ha => by simp at ha⟩
      have := (List.getElem?_eq_some_iff.1 hl).1
      simp at this
      unfold lenG
      simp
      try omega
    · unfold grpL
      simp
  | k + 1, hk => by
    obtain ⟨ih, ihs⟩ := grpL_facts h r k (by omega)
    obtain ⟨a, ha⟩ : ∃ a, r[k]? = some a := ⟨r[k], List.getElem?_eq_getElem (by omega)⟩
    obtain ⟨l0, hl0⟩ : ∃ l, (grpL m r k)[grpN m k]? = some l := ⟨_, List.getElem?_eq_getElem (by rw [grpL_len]; exact grpN_lt h)⟩
    rw [grpL_put ha hl0]
    refine ⟨fun i l hl => ?_, ?_⟩
    · by_cases e : i = grpN m k
      · subst e
        rw [List.getElem?_set_self (List.getElem?_eq_some_iff.1 hl0).1] at hl
        cases hl
        obtain ⟨h1, h2⟩ := ih _ l0 hl0
        rw [lenG_next h (grpN_lt h), if_pos rfl]
        refine ⟨by simp [h1], fun j b hb => ?_⟩
        rcases Nat.lt_or_ge j l0.length with h3 | h3
        · rw [List.getElem?_append_left h3] at hb
          exact h2 j b hb
        · rw [List.getElem?_append_right h3] at hb
          have h4 := (List.getElem?_eq_some_iff.1 hb).1
          simp at h4
          have h5 : j - l0.length = 0 := by omega
          rw [h5] at hb
          simp at hb
          subst hb
          refine ⟨k, ha, ?_⟩
          rw [← lenG_at (k := k) h, ← h1]
          omega
      · rw [List.getElem?_set_ne (Ne.symm e)] at hl
        have hi : i < m := by have := (List.getElem?_eq_some_iff.1 hl).1; rwa [grpL_len] at this
        obtain ⟨h1, h2⟩ := ih i l hl
        rw [lenG_next h hi, if_neg e]
        exact ⟨h1, h2⟩
    · have := (flatten_set a (grpL m r k) _ l0 hl0).length_eq
      rw [this]
      simp [ihs]
theorem flat_take {L : List (List Nat)} {i : Nat} {l : List Nat} (h : L[i]? = some l) : (L.take (i + 1)).flatten.length = (L.take i).flatten.length + l.length := by
  rw [List.take_add_one, h]
  simp
theorem flat_take_le (L : List (List Nat)) (i : Nat) : (L.take i).flatten.length ≤ L.flatten.length := by
  have : L.flatten = (L.take i).flatten ++ (L.drop i).flatten := by rw [← List.flatten_append, List.take_append_drop]
  rw [this, List.length_append]
  omega
section
variable {α : Type} [DecidableEq α]
theorem pairsF_two (last : Option α) (x : α) (l : List α) : pairsF last (x :: l) = (if last = some x then 1 else 0) + pairsF (some x) l := rfl
theorem pairsF_rev : ∀ (l : List α), pairsF none l.reverse = pairsF none l
  | [] => rfl
  | x :: l => by
    have ih := pairsF_rev l
    rw [List.reverse_cons, pairsF_add, ih]
    have e : l.reverse.getLast?.or none = l.head? := by simp
    rw [e]
    cases l with
    | nil => simp [pairsF]
    | cons y l =>
      simp only [List.head?_cons, pairsF]
      by_cases h : y = x
      · subst h; simp; omega
      · have h2 : ¬ x = y := fun e => h e.symm
        simp [h, h2]
end
theorem eachI_none {E : Nat → Int → Int} : ∀ {xs : List Int} {k : Nat}, (∀ (i : Nat) (x : Int), xs[i]? = some x → E (k + i) x = 0) → eachI E xs k = 0
  | [], _, _ => rfl
  | y :: l, k, h => by
    unfold eachI
    rw [if_pos (by simpa using h 0 y rfl)]
    exact eachI_none fun i x hx => by
      have := h (i + 1) x (by simpa using hx)
      rwa [show k + (i + 1) = k + 1 + i by omega] at this
/-- a permutation is an order without an error -/
theorem perm_ordersE {n : Nat} {p : List Nat} (h : p.Perm (List.range n)) : ordersE n (p.map fun (i : Nat) => (i : Int)) = 0 := by
  have hl : p.length = n := by rw [h.length_eq, List.length_range]
  have hnd : p.Nodup := h.nodup_iff.2 List.nodup_range
  have h1 : eachI (ordE n (p.map fun (i : Nat) => (i : Int))) (p.map fun (i : Nat) => (i : Int)) 0 = 0 := eachI_none fun i x hx => by
    rw [Nat.zero_add, List.getElem?_map] at *
    cases hp : p[i]? with
    | none => rw [hp] at hx; cases hx
    | some a =>
      rw [hp] at hx
      simp at hx
      subst hx
      have ha : a < n := List.mem_range.1 (h.mem_iff.1 (List.mem_of_getElem? hp))
      unfold ordE twE
      have h2 : ((p.map fun (i : Nat) => (i : Int)).take i).any (fun z => (a : Int) == z) = false := by
        rw [List.any_eq_false]
        intro z hz
        rw [← List.map_take] at hz
        obtain ⟨b, hb, rfl⟩ := List.mem_map.1 hz
        simp
        intro e
        have e : a = b := by omega
        subst e
        obtain ⟨j, hj⟩ := List.mem_iff_getElem?.1 hb
        rw [List.getElem?_take] at hj
        split at hj
        · rename_i hji
          have := (List.getElem?_inj (List.getElem?_eq_some_iff.1 hj).1 hnd).1 (hj.trans hp.symm)
          omega
        · cases hj
      rw [h2, decide_eq_false (by omega), decide_eq_false (by omega)]
      rfl
  unfold ordersE
  rw [h1, List.length_map, hl, decide_eq_false (by omega)]
  rfl
theorem getD_set_ne {f : Array Nat} {a i b : Nat} (h : a ≠ b) : (f.setIfInBounds a i).getD b 0 = f.getD b 0 := by
  rw [Array.getD_eq_getD_getElem?, Array.getD_eq_getD_getElem?, Array.getElem?_setIfInBounds_ne h]
theorem rowP_of_own {w : World} {b g n c : Nat} {o : List Nat} (h : w.ownsRow b 3 1 (.slice (some ⟨g, 0, none⟩) n c) n (nats o)) (hn : o.length = n) : RowP w g o.toArray := by
  rcases h.2 with ⟨e, _⟩ | ⟨g', cap, cur, e, _, hcur, hle, _, hsz, htk⟩
  · cases e
  · simp only [Value.slice.injEq, Option.some.injEq, Addr.mk.injEq, and_true, true_and] at e
    obtain ⟨rfl, rfl⟩ := e
    refine ⟨cur, hcur, fun i hi => ?_⟩
    have hi' : i < o.length := by simpa using hi
    have h1 : (cur.toList.take (n * 1))[i]? = (nats o)[i]? := by rw [htk]
    rw [List.getElem?_take, if_pos (by omega), Array.getElem?_toList] at h1
    rw [h1]
    unfold nats
    simp [hi']
theorem natO_rev (xs : List EntR) (p : List Nat) : natO xs p.reverse = (natO xs p).reverse := by simp [natO_eq]
end Go.Proofs.YtcnpmebihdonoaaGreatDoor
namespace Go.Proofs.YtcnpmebihdonoaaGreatDoor
open Go.RowKit Go.Lib
set_option linter.unusedSimpArgs false
set_option linter.unusedVariables false
theorem infoB4 : (Tryz.prog.info? 4).map (fun i => (i.zero, i.size, i.bytes)) = some (some (.bool false), 1, 1) := by kernel_rfl
/-- n truth values -/
def boolsA (n : Nat) (f : Nat → Bool) : Array Value := ((List.range n).map fun j => Value.bool (f j)).toArray
theorem boolsA_size (n : Nat) (f : Nat → Bool) : (boolsA n f).size = n := by simp [boolsA]
theorem boolsA_at {n j : Nat} (f : Nat → Bool) (h : j < n) : (boolsA n f)[j]? = some (.bool (f j)) := by
  simp [boolsA, h]
theorem boolsA_zero (n : Nat) : Array.replicate n (Value.bool false) = boolsA n fun _ => false := by
  apply Array.ext'
  simp only [boolsA, Array.toList_replicate]
  rw [List.map_const', List.length_range]
theorem boolsA_set {n j : Nat} (f : Nat → Bool) : (boolsA n f).setIfInBounds j (.bool true) = boolsA n fun k => f k || decide (k = j) := by
  apply Array.ext'
  apply List.ext_getElem?
  intro k
  simp only [boolsA, List.setIfInBounds_toArray, List.getElem?_set, List.length_map, List.length_range, List.getElem?_map]
  by_cases h : j = k
  · subst h
    by_cases hj : j < n
    · simp [hj, List.getElem?_range]
    · simp [hj, List.getElem?_eq_none (show (List.range n).length ≤ j by simp; omega)]
  · have : ¬ k = j := fun e => h e.symm
    by_cases hk : k < n
    · simp [h, this, List.getElem?_range, hk]
    · simp [h, List.getElem?_eq_none (show (List.range n).length ≤ k by simp; omega)]
theorem make_boolsN (N : Nat) (hN : N ≤ 1000) (w : World) : (Instr.makeSlice 97 (.int .i64 (N : Int)) (.int .i64 (N : Int))).run Tryz.prog w = .ok (.slice (some ⟨w.heap.size, 0, none⟩) N N) (w.alloc (.cells (boolsA N fun _ => false) 4)) := by
  obtain ⟨i0, hi, hz0, hz1, hz2⟩ := info_parts infoB4
  have := run_make (P := Tryz.prog) w 97 4 i0 (.bool false) Tryz.underlying97 hi hz0 .i64 .i64 (N : Int) (N : Int) (by omega) (by omega) (by rw [hz2]; omega) (by omega)
  rw [hz1] at this
  have e : madeCells (#[.bool false] : Array Value) N = Array.replicate N (.bool false) := Array.ext' (by rw [toList_madeCells_one]; simp)
  rw [← boolsA_zero]
  simpa [Value.cells, e] using this
theorem ordE_at (n : Int) (a : List Int) (i : Nat) (x : Int) : ordE n a i x = if (decide (x < 0) || decide (n ≤ x)) = true then 10 else if ((a.take i).any fun z => x == z) = true then 9 else 0 := by
  unfold ordE twE
  cases (decide (x < 0) || decide (n ≤ x)) <;> cases ((a.take i).any fun z => x == z) <;> rfl
set_option maxHeartbeats 4000000 in
set_option maxRecDepth 100000 in
theorem refOrder_c (a : List Int) (m cap : Nat) (p : Option Addr) (n : Nat) (w : World) (hm : a.length = m) (h1 : m ≤ 1000) (hn : n ≤ 1000)
    (hd : 0 < m → ∃ b off, p = some ⟨b, off, none⟩ ∧ ∀ (i : Nat) (z : Int), a[i]? = some z → w.cell? ⟨b, off + i, none⟩ = some (.int .i64 z)) :
    Calls Tryz.prog 19 #[.int .i64 (n : Int), .slice p m cap] w fun e w' => e = .returned (.int .i64 (ordersE n a)) ∧ Gr w w' := by
  have hR : ordersE n a = firstE [eachI (ordE n a) a 0, if decide ((m : Int) < n) then 7 else 0] := by rw [← hm]; rfl
  generalize ordersE n a = err at *
  have HB1 : Hid (∀ c, eachI (ordE n a) a 0 = c → c ≠ 0 → err = c) := fun c h h0 => by rw [hR, h, firstE, if_neg h0]
  have HB2 : Hid (eachI (ordE n a) a 0 = 0 → err = if decide ((m : Int) < n) then 7 else 0) := fun h => by
    rw [hR, h]
    cases decide ((m : Int) < n) <;> rfl
  have hmk := make_boolsN n hn w
  obtain ⟨W1, hW1⟩ : ∃ W, w.alloc (.cells (boolsA n fun _ => false) 4) = W := ⟨_, rfl⟩
  have hb0 : W1.heap[w.heap.size]? = some (.cells (boolsA n fun _ => false) 4 (0, 0)) := by rw [← hW1]; exact heap_alloc_new w _
  have g1 : Gr w W1 := by rw [← hW1]; exact (Gr.refl w).alloc _
  rw [hW1] at hmk
  have HD := Lib.hid hd
  have HM := Lib.hid hm
  obtain ⟨G, hG⟩ : ∃ g, g = w.heap.size := ⟨_, rfl⟩
  have HG : Hid (w.heap.size ≤ G) := by rw [Hid, hG]; exact Nat.le_refl _
  rw [← hG] at hb0 hmk
  clear hd hm hR hW1 hG
  go_enter Tryz.func19, Tryz.ntmps19
  go_wp2_with fail
  clear hmk
  go_loopw [6] (fun s6 wr => ∃ i : Nat, i ≤ m ∧ s6 = .int .i64 i ∧ Gr w wr ∧ wr.heap[G]? = some (.cells (boolsA n fun j => (a.take i).any fun z => (j : Int) == z) 4 (0, 0)) ∧ Hid (eachI (ordE n a) (a.drop i) i = eachI (ordE n a) a 0)) (fun s6 _ => m - (intOf s6).toNat)
  case atStart => exact ⟨0, Nat.zero_le _, rfl, g1, by simpa using hb0, by rw [Hid, List.drop_zero]⟩
  case round =>
    obtain ⟨i, him, rfl, hg, hb, HF⟩ := hrel
    by_cases hlt : i < m
    · obtain ⟨x, hx⟩ : ∃ x, a[i]? = some x := ⟨a[i]'(by have := HM.out; omega), List.getElem?_eq_getElem _⟩
      obtain ⟨b, off, rfl, hd⟩ := HD.out (by omega)
      have c0 := hg.cell (hd i x hx)
      have hi2 : (i : Int) < m := by omega
      have hf := eachI_step (E := ordE n a) hx
      rw [ordE_at] at hf
      by_cases hx0 : x < 0
      · rw [decide_eq_true hx0, Bool.true_or, if_pos rfl, if_neg (by decide)] at hf
        have HF2 := Lib.hid hf
        clear hf hx hd
        go_wp2_with fail
        go_ret
        exact ⟨by rw [HB1.out 10 (by rw [← HF.out, HF2.out]) (by decide)]; rfl, hg⟩
      by_cases hx1 : (n : Int) ≤ x
      · have hx2 : 0 ≤ x := by omega
        rw [decide_eq_true hx1, Bool.or_true, if_pos rfl, if_neg (by decide)] at hf
        have HF2 := Lib.hid hf
        clear hf hx hd
        go_wp2_with fail
        go_ret
        exact ⟨by rw [HB1.out 10 (by rw [← HF.out, HF2.out]) (by decide)]; rfl, hg⟩
      obtain ⟨j, rfl⟩ : ∃ j : Nat, x = (j : Int) := ⟨x.toNat, by omega⟩
      have hjn : j < n := by omega
      have hjn2 : (j : Int) < n := by omega
      rw [decide_eq_false hx0, decide_eq_false hx1, Bool.or_false, if_neg (show ¬ (false = true) by decide)] at hf
      have s0 : wr.cell? ⟨G, j, none⟩ = some (.bool ((a.take i).any fun z => (j : Int) == z)) := by
        rw [cell_of_row wr G _ _ _ (0, 0) hb, boolsA_at _ hjn]
      have f0 := frozen_of_row wr G j _ _ hb
      have hT : (fun k : Nat => (a.take (i + 1)).any fun z => (k : Int) == z) = fun k : Nat => ((a.take i).any fun z => (k : Int) == z) || decide (k = j) := by
        funext k
        rw [List.take_add_one, hx, List.any_append]
        congr 1
        rw [Bool.eq_iff_iff]
        simp
        omega
      have hset := heap_setCell_same wr G j _ _ (.bool true) hb
      rw [boolsA_set, ← hT] at hset
      have hgs : Gr w (wr.setCell ⟨G, j, none⟩ (.bool true)) := Below.setCell hg (p := ⟨G, j, none⟩) HG.out _
      have HS := Lib.hid (And.intro hset hgs)
      cases hb9 : ((a.take i).any fun z => (j : Int) == z)
      · rw [hb9] at s0 hf
        simp only [Bool.false_eq_true, if_false, if_true] at hf
        have HF2 := Lib.hid hf
        clear hf hx hd hb hset hgs hT hx0 hx1 hb9
        go_wp2_with fail
        go_roundw
        case rel => exact ⟨i + 1, by omega, by go_num, HS.out.2, HS.out.1, by unfold Hid; rw [← HF2.out, HF.out]⟩
        case measure => simp [intOf]; omega
      · rw [hb9] at s0 hf
        simp only [if_true, show ¬ (9 : Int) = 0 by decide, if_false] at hf
        have HF2 := Lib.hid hf
        clear hf hx hd hb hset hgs hT hx0 hx1 hb9
        go_wp2_with fail
        go_ret
        exact ⟨by rw [HB1.out 9 (by rw [← HF.out, HF2.out]) (by decide)]; rfl, hg⟩
    · obtain rfl : i = m := by omega
      have hi2 : (i : Int) ≤ i := by omega
      have HZ : Hid (eachI (ordE n a) a 0 = 0) := by rw [Hid, ← HF.out]; exact eachI_end (by have := HM.out; omega)
      have HE := Lib.hid (HB2.out HZ.out)
      clear HF hb
      by_cases hc : (i : Int) < n
      · rw [decide_eq_true hc] at HE
        go_wp2_with fail
        go_ret
        exact ⟨by rw [HE.out]; rfl, hg⟩
      · rw [decide_eq_false hc] at HE
        have hc2 : (n : Int) ≤ i := by omega
        clear hc
        go_wp2_with fail
        go_ret
        exact ⟨by rw [HE.out]; rfl, hg⟩
end Go.Proofs.YtcnpmebihdonoaaGreatDoor
