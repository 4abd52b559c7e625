/- Draws: the reference's. -/
import Derived.Test.YtlcbdgmclhdofaaGreatDoorGSzI
namespace Go.Proofs.YtlcbdgmclhdofaaGreatDoor
open Go.RowKit Go.Lib
set_option linter.unusedSimpArgs false
set_option linter.unusedVariables false
theorem refDrawE_c (key n : Int) (w : World) :
    Calls Tryz.prog 15 #[.int .i64 key, .int .i64 n] w fun e w' => e = .returned (.int .i64 (drawE key n)) ∧ w = w' := by
  have HE : Hid (drawE key n = if decide (key < 1) || decide (2147483646 < key) || decide (n < 0) || decide (256 < n) then 3 else 0) := by
    unfold Hid drawE
    rw [show decide ((2147483647 : Int) ≤ key) = decide ((2147483646 : Int) < key) from decide_eq_decide.2 (by omega)]
  cases h1 : decide (key < 1) <;> cases h2 : decide ((2147483646 : Int) < key) <;> cases h3 : decide (n < 0) <;> cases h4 : decide (256 < n)
  all_goals
    rw [h1, h2, h3, h4] at HE
    go_enter Tryz.func15, Tryz.ntmps15
    go_wp2_with fail
    go_ret
    exact ⟨by rw [HE.out]; rfl, rfl⟩
/-- the first words of block g are these numbers -/
structure RowP (w : World) (g : Nat) (l : Array Nat) : Prop where
  mk' ::
  out : ∃ cur, w.heap[g]? = some (.cells cur 3 (0, 0)) ∧ ∀ i, i < l.size → cur[i]? = some (.int .i64 ((l.getD i 0 : Nat) : Int))
theorem RowP.cell {w : World} {g : Nat} {l : Array Nat} (h : RowP w g l) {i : Nat} (hi : i < l.size) : w.cell? ⟨g, i, none⟩ = some (.int .i64 ((l.getD i 0 : Nat) : Int)) := by
  obtain ⟨cur, h1, h2⟩ := h.out
  rw [cell_of_row w g i _ 3 (0, 0) h1]
  exact h2 i hi
theorem RowP.frozen {w : World} {g : Nat} {l : Array Nat} (h : RowP w g l) (i : Nat) : w.frozen? ⟨g, i, none⟩ = false := by
  obtain ⟨cur, h1, h2⟩ := h.out
  exact frozen_of_row w g i _ 3 h1
theorem RowP.set {w : World} {g : Nat} {l : Array Nat} (h : RowP w g l) (i x : Nat) (hi : i < l.size) : RowP (w.setCell ⟨g, i, none⟩ (.int .i64 (x : Int))) g (l.setIfInBounds i x) := by
  obtain ⟨cur, h1, h2⟩ := h.out
  refine ⟨cur.setIfInBounds i (.int .i64 (x : Int)), heap_setCell_same w g i _ 3 _ h1, fun j hj => ?_⟩
  rw [Array.size_setIfInBounds] at hj
  by_cases e : i = j
  · subst e
    have hc := (Array.getElem?_eq_some_iff.1 (h2 i hi)).1
    rw [Array.getElem?_setIfInBounds_self_of_lt hc]
    simp [Array.getD, hi]
  · rw [Array.getElem?_setIfInBounds_ne e, h2 j hj]
    simp [Array.getD, hj, Array.getElem_setIfInBounds, e]
theorem RowP.drew {w : World} {g : Nat} {l : Array Nat} (h : RowP w g l) : RowP w.drew g l := ⟨h.out⟩
def natC (n : Nat) : List Value := (List.range n).map fun x : Nat => Value.int .i64 (x : Int)
theorem natC_len (n : Nat) : (natC n).length = n := by simp [natC]
theorem natC_add (n : Nat) : natC (n + 1) = natC n ++ [.int .i64 (n : Int)] := by simp [natC, List.range_succ]
theorem cell_int (w : World) (x : Int) (T : TypeId) : ∀ (j : Nat) (u : Value), [Value.int .i64 x][j]? = some u → (w.alloc (.cells #[.int .i64 x] T)).cell? ((⟨w.heap.size, 0, none⟩ : Addr).add j) = some u := cell_one_new w (.int .i64 x) T
set_option maxHeartbeats 4000000 in
set_option maxRecDepth 1000000 in
theorem refDraw_c (key n : Nat) (w : World) (h1 : 1 ≤ key) (h2 : key < 2147483647) (h3 : n ≤ 256) :
    Calls Tryz.prog 54 #[.int .i64 (key : Int), .int .i64 (n : Int)] w fun e w' => ∃ p cap, e = .returned (.slice p n cap) ∧ (0 < n → ∃ g, p = some ⟨g, 0, none⟩ ∧ RowP w' g (drawN key n)) ∧ n ≤ cap ∧ cap ≤ maxLen ∧ (drawN key n).size = n ∧ Gr w w' := by
  obtain ⟨i0, hi, hz0, hz1, hz2⟩ := info_parts infoI
  have HD : Hid (drawA n (n - 1) 0 key (Array.range n) = drawN key n) := rfl
  go_enter Tryz.func54, Tryz.ntmps54
  go_wp2_with fail
  go_loopw [5, 6] (fun v iv wr => ∃ k : Nat, k ≤ n ∧ iv = .int .i64 k ∧ wr.ownsRow w.heap.size 3 1 v k (natC k) ∧ Gr w wr) (fun _ iv _ => n - (intOf iv).toNat)
  case atStart => exact ⟨0, Nat.zero_le _, rfl, World.ownsRow_nil _ _ _ _, Gr.refl _⟩
  case round =>
    obtain ⟨k, hk, rfl, hown, hnx⟩ := hrel
    have hsize := hnx.size
    by_cases hkN : k < n
    · have HLn := Lib.hid (natC_len k)
      have hi2 : (k : Int) < n := by omega
      go_wp2_with (first
        | (at_builtin; refine wpList_append_own _ rfl _ _ 30 rfl w.heap.size 3 i0 (.int .i64 0) 1 8 Tryz.underlying30 hi hz0 hz1 hz2 rfl (by decide) _ _ _ rfl (hown.alloc _) ⟨wr.heap.size, 0, none⟩ 1 1 [.int .i64 (k : Int)] rfl rfl (cell_int _ _ _) (by intro u hu; simp at hu; subst hu; rfl) (by unfold maxLen; omega) (by omega) (by simp; omega) ?_; intro v1 w1 hown1 hgrow1 hnil1))
      go_roundw
      case rel => exact ⟨k + 1, by omega, by go_num, by rw [natC_add]; exact hown1, Below.grown (hnx.alloc _) hgrow1 (by simp; omega) (fun j hj => (hown.lt j hj).1)⟩
      case measure => simp [intOf]; omega
    · obtain rfl : k = n := by omega
      have hrow : ∃ p cap, u5 = .slice p k cap ∧ (0 < k → ∃ g, p = some ⟨g, 0, none⟩ ∧ w.heap.size ≤ g ∧ RowP wr g (Array.range k)) ∧ k ≤ cap ∧ cap ≤ maxLen := by
        rcases hown.2 with ⟨e, h0⟩ | ⟨g, cap, cur, e, hbg, hcur, hle, hmx, hsz, htk⟩
        · exact ⟨none, 0, by rw [h0]; exact e, fun h => by omega, by omega, by unfold maxLen; omega⟩
        · refine ⟨some ⟨g, 0, none⟩, cap, e, fun _ => ⟨g, rfl, hbg, ⟨cur, hcur, fun i hi => ?_⟩⟩, hle, hmx⟩
          simp at hi
          have : (cur.toList.take (k * 1))[i]? = (natC k)[i]? := by rw [htk]
          rw [List.getElem?_take, if_pos (by omega), Array.getElem?_toList] at this
          rw [this]
          simp [natC, hi, Array.getD]
      obtain ⟨p, cap, rfl, hh, hle, hmx⟩ := hrow
      clear hown
      go_wp2_with fail
      go_loopw [0, 7, 8] (fun xv iv jv wr => ∃ (m x : Nat) (l : Array Nat), m ≤ k - 1 ∧ iv = .int .i64 m ∧ xv = .int .i64 x ∧ x ≤ 2147483646 ∧ l.size = k ∧ (0 < k → ∃ g, p = some ⟨g, 0, none⟩ ∧ w.heap.size ≤ g ∧ RowP wr g l) ∧ Gr w wr ∧ Hid (drawA k (k - 1 - m) m x l = drawN key k)) (fun _ iv _ _ => k - (intOf iv).toNat)
      case atStart => exact ⟨0, key, Array.range k, Nat.zero_le _, rfl, rfl, by omega, by simp, hh, hnx, HD⟩
      case round =>
        obtain ⟨m, x, l, hm, rfl, rfl, hx, hl, hrow, hg2, HDR⟩ := hrel
        by_cases hlt : m + 1 < k
        · have hst : drawA k (k - 1 - m) m x l = drawA k (k - 1 - (m + 1)) (m + 1) (lcgN x) (swapN l m (m + lcgN x % (k - m))) := by
            rw [show k - 1 - m = (k - 1 - (m + 1)) + 1 by omega]
            rfl
          obtain ⟨g, rfl, hgb, hrow2⟩ := hrow (by omega)
          have hy := lcg_tmod (x := x)
          have hyl := lcgN_le x
          generalize lcgN x = y at *
          obtain ⟨r, hr⟩ : ∃ r, r = y % (k - m) := ⟨_, rfl⟩
          rw [← hr] at hst
          have hrl : r < k - m := by rw [hr]; exact Nat.mod_lt _ (by omega)
          have hrt : Int.tmod (y : Int) ((k : Int) - (m : Int)) = (r : Int) := by
            rw [Int.tmod_eq_emod_of_nonneg (by omega), hr, show (k : Int) - (m : Int) = ((k - m : Nat) : Int) by omega]
            rfl
          have hlt2 : (m : Int) + 1 < (k : Int) := by omega
          have hj2 : ((m : Int) + (r : Int)).toNat = m + r := by omega
          have hj3 : (0 : Int) ≤ (m : Int) + (r : Int) := by omega
          have hjk : (m : Int) + (r : Int) < k := by omega
          have hmk2 : (m : Int) < k := by omega
          have cm := hrow2.cell (i := m) (by omega)
          have cj := hrow2.cell (i := m + r) (by omega)
          have fm := hrow2.frozen m
          have fj := hrow2.frozen (m + r)
          have HST := Lib.hid hst
          have hS : ∀ X, RowP X g l → RowP ((X.setCell ⟨g, m, none⟩ (.int .i64 ((l.getD (m + r) 0 : Nat) : Int))).setCell ⟨g, m + r, none⟩ (.int .i64 ((l.getD m 0 : Nat) : Int))) g (swapN l m (m + r)) := fun X h => (h.set m (l.getD (m + r) 0) (by omega)).set (m + r) (l.getD m 0) (by rw [Array.size_setIfInBounds]; omega)
          have HS := Lib.hid hS
          have HSG := Lib.hid (fun (vj vm : Value) => Below.setCell (Below.setCell hg2 (p := ⟨g, m, none⟩) hgb vj) (p := ⟨g, m + r, none⟩) hgb vm)
          generalize l.getD (m + r) 0 = vj at *
          generalize l.getD m 0 = vm at *
          clear hst hS hr hh hrow
          go_wp2_with fail
          rcases Nat.eq_zero_or_pos r with h0 | h0
          · subst h0
            simp only [Nat.add_zero] at HS HSG HST cj fj hj2
            have hvv : vj = vm := by
              rw [cm] at cj
              have : (vj : Int) = vm := by simpa using cj.symm
              omega
            subst hvv
            clear hrt hy cj fj
            go_region
            all_goals go_wp2_with fail
            go_roundw
            case rel => exact ⟨m + 1, y, _, by omega, by go_num, rfl, hyl, by rw [swapN_size]; exact hl, fun _ => ⟨g, rfl, hgb, RowP.drew (HS.out _ hrow2)⟩, Gr.drew (HSG.out _ _), by unfold Hid; rw [← HST.out]; exact HDR⟩
            case measure => simp [intOf]; omega
          · have hne : m ≠ m + r := by omega
            clear hrt hy
            go_region
            all_goals go_wp2_with fail
            go_roundw
            case rel => exact ⟨m + 1, y, _, by omega, by go_num, rfl, hyl, by rw [swapN_size]; exact hl, fun _ => ⟨g, rfl, hgb, RowP.drew (HS.out _ hrow2)⟩, Gr.drew (HSG.out _ _), by unfold Hid; rw [← HST.out]; exact HDR⟩
            case measure => simp [intOf]; omega
        · have hmk3 : decide ((m : Int) + 1 < (k : Int)) = false := by simp; omega
          have hz : k - 1 - m = 0 := by omega
          rw [hz] at HDR
          have HDR2 : Hid (l = drawN key k) := HDR
          go_wp2_with fail
          go_ret
          refine ⟨p, cap, rfl, fun h => ?_, hle, hmx, by rw [← HDR2.out]; exact hl, hg2⟩
          obtain ⟨g, e, _, hr⟩ := hrow h
          exact ⟨g, e, by rw [← HDR2.out]; exact hr⟩
end Go.Proofs.YtlcbdgmclhdofaaGreatDoor
