/- Draws: number.Draw. -/
import Derived.Test.YtcnpmebihdonoaaGreatDoorGSzG
namespace Go.Proofs.YtcnpmebihdonoaaGreatDoor
open Go.RowKit Go.Lib
set_option linter.unusedSimpArgs false
set_option linter.unusedVariables false
theorem draw_bad (key n : Int) (w : World) (h : drawE key n ≠ 0) :
    Calls Tryz.prog 86 #[.int .i64 key, .int .i64 n] w fun e w' => e = .returned (.tuple #[.slice none 0 0, .int .i64 (drawE key n)]) ∧ w = w' := by
  have HE : Hid (drawE key n = if decide (key < 1) || decide (2147483647 ≤ key) || decide (n < 0) || decide (256 < n) then 3 else 0) := rfl
  have H0 := Lib.hid h
  clear h
  cases h1 : decide (key < 1) <;> cases h2 : decide ((2147483647 : Int) ≤ key) <;> cases h3 : decide (n < 0) <;> cases h4 : decide (256 < n)
  case false.false.false.false =>
    refine absurd ?_ H0.out
    rw [HE.out, h1, h2, h3, h4]
    rfl
  all_goals
    rw [h1, h2, h3, h4] at HE
    clear H0
    go_enter Tryz.func86, Tryz.ntmps86
    go_wp2_with fail
    exact bodyPost_ret (v := .tuple #[.slice none 0 0, .int .i64 3]) (by simp [results, Tryz.results86, go_sem]) rfl ⟨by rw [HE.out]; rfl, rfl⟩
set_option maxHeartbeats 4000000 in
set_option maxRecDepth 1000000 in
theorem draw_good (key n : Nat) (w : World) (h1 : 1 ≤ key) (h2 : key < 2147483647) (h3 : n ≤ 256) :
    Calls Tryz.prog 86 #[.int .i64 (key : Int), .int .i64 (n : Int)] w fun e w' => e = .returned (.tuple #[.slice (some ⟨w.heap.size, 0, none⟩) n n, .int .i64 0]) ∧ RowA w' w.heap.size (drawN key n) ∧ (drawN key n).size = n ∧ Gr w w' := by
  have q1 : decide ((key : Int) < 1) = false := by simp; omega
  have q2 : decide ((2147483647 : Int) ≤ key) = false := by simp; omega
  have q3 : decide ((n : Int) < 0) = false := by simp
  have q4 : decide ((256 : Int) < n) = false := by simp; omega
  have hmk := make_ints n h3 w
  have hA : RowA (w.alloc (.cells (intsA (fillA n 0)) 3)) w.heap.size (fillA n 0) := heap_alloc_new w _
  have gA : Gr w (w.alloc (.cells (intsA (fillA n 0)) 3)) := (Gr.refl w).alloc _
  have HD : Hid (drawA n (n - 1) 0 key (Array.range n) = drawN key n) := rfl
  go_enter Tryz.func86, Tryz.ntmps86
  go_wp2_with fail
  generalize w.alloc (.cells (intsA (fillA n 0)) 3) = W0 at *
  go_loopw [7, 29] (fun iv jv wr => ∃ k : Nat, k ≤ n ∧ jv = .int .i64 k ∧ RowA wr w.heap.size (fillA n k) ∧ Gr w wr) (fun _ jv _ => n - (intOf jv).toNat)
  case atStart => exact ⟨0, Nat.zero_le _, rfl, hA, gA⟩
  case round =>
    obtain ⟨k, hk, rfl, hrow, hg⟩ := hrel
    by_cases hkn : k < n
    · have hf := hrow.frozen k
      have hc := hrow.cell (i := k) (by rw [fillA_size]; exact hkn)
      have hi2 : (k : Int) < n := by omega
      have HR2 := Lib.hid (show RowA (wr.setCell ⟨w.heap.size, k, none⟩ (.int .i64 (k : Int))) w.heap.size (fillA n (k + 1)) from by rw [← fillA_set hkn]; exact hrow.set k k)
      have HG2 := Lib.hid (show Gr w (wr.setCell ⟨w.heap.size, k, none⟩ (.int .i64 (k : Int))) from Below.setCell hg (p := ⟨w.heap.size, k, none⟩) (Nat.le_refl _) _)
      go_wp2_with fail
      go_roundw
      case rel => exact ⟨k + 1, by omega, by go_num, HR2.out, HG2.out⟩
      case measure => simp [intOf]; omega
    · obtain rfl : k = n := by omega
      rw [fillA_all] at hrow
      clear hA gA hmk
      go_wp2_with fail
      go_loopw [8, 9, 10, 40] (fun xv iv jv kv wr => ∃ (m x : Nat) (l : Array Nat), m ≤ k - 1 ∧ kv = .int .i64 m ∧ xv = .int .i64 x ∧ x ≤ 2147483646 ∧ l.size = k ∧ RowA wr w.heap.size l ∧ Gr w wr ∧ Hid (drawA k (k - 1 - m) m x l = drawN key k)) (fun _ _ _ kv _ => k - (intOf kv).toNat)
      case atStart => exact ⟨0, key, Array.range k, Nat.zero_le _, rfl, rfl, by omega, by simp, hrow, hg, HD⟩
      case round =>
        obtain ⟨m, x, l, hm, rfl, rfl, hx, hl, hrow2, hg2, HDR⟩ := hrel
        by_cases hlt : m < k - 1
        · have hst : drawA k (k - 1 - m) m x l = drawA k (k - 1 - (m + 1)) (m + 1) (lcgN x) (swapN l m (m + lcgN x % (k - m))) := by
            rw [show k - 1 - m = (k - 1 - (m + 1)) + 1 by omega]
            rfl
          have hy := lcg_tmod (x := x)
          have hyl := lcgN_le x
          generalize lcgN x = y at *
          obtain ⟨r, hr⟩ : ∃ r, r = y % (k - m) := ⟨_, rfl⟩
          rw [← hr] at hst
          have hrl : r < k - m := by rw [hr]; exact Nat.mod_lt _ (by omega)
          have hrt : Int.tmod (y : Int) ((k : Int) - (m : Int)) = (r : Int) := by
            rw [Int.tmod_eq_emod_of_nonneg (by omega), hr, show (k : Int) - (m : Int) = ((k - m : Nat) : Int) by omega]
            rfl
          have hlt2 : (m : Int) < (k : Int) - 1 := by omega
          have hj2 : ((m : Int) + (r : Int)).toNat = m + r := by omega
          have hj3 : (0 : Int) ≤ (m : Int) + (r : Int) := by omega
          have hjk : (m : Int) + (r : Int) < k := by omega
          have hmk2 : (m : Int) < k := by omega
          have cm := hrow2.cell (i := m) (by omega)
          have cj := hrow2.cell (i := m + r) (by omega)
          have fm := hrow2.frozen m
          have fj := hrow2.frozen (m + r)
          have HST := Lib.hid hst
          have hS : ∀ X, RowA X w.heap.size l → RowA ((X.setCell ⟨w.heap.size, m, none⟩ (.int .i64 ((l.getD (m + r) 0 : Nat) : Int))).setCell ⟨w.heap.size, m + r, none⟩ (.int .i64 ((l.getD m 0 : Nat) : Int))) w.heap.size (swapN l m (m + r)) := fun X h => (h.set m (l.getD (m + r) 0)).set (m + r) (l.getD m 0)
          have HS := Lib.hid hS
          have HSG := Lib.hid (fun (vj vm : Value) => Below.setCell (Below.setCell hg2 (p := ⟨w.heap.size, m, none⟩) (Nat.le_refl _) vj) (p := ⟨w.heap.size, m + r, none⟩) (Nat.le_refl _) vm)
          generalize l.getD (m + r) 0 = vj at *
          generalize l.getD m 0 = vm at *
          clear hst hS hr
          go_wp2_with fail
          rcases Nat.eq_zero_or_pos r with h0 | h0
          · subst h0
            simp only [Nat.add_zero] at HS HSG HST cj fj hj2
            have hvv : vj = vm := by
              rw [cm] at cj
              have : (vj : Int) = vm := by simpa using cj.symm
              omega
            subst hvv
            clear hrt hy cj fj
            go_region
            all_goals go_wp2_with fail
            go_roundw
            case rel => exact ⟨m + 1, y, _, by omega, by go_num, rfl, hyl, by rw [swapN_size]; exact hl, HS.out _ hrow2, Gr.drew (HSG.out _ _), by unfold Hid; rw [← HST.out]; exact HDR⟩
            case measure => simp [intOf]; omega
          · have hne : m ≠ m + r := by omega
            clear hrt hy
            go_region
            all_goals go_wp2_with fail
            go_roundw
            case rel => exact ⟨m + 1, y, _, by omega, by go_num, rfl, hyl, by rw [swapN_size]; exact hl, HS.out _ hrow2, Gr.drew (HSG.out _ _), by unfold Hid; rw [← HST.out]; exact HDR⟩
            case measure => simp [intOf]; omega
        · have hmk3 : decide ((m : Int) < (k : Int) - 1) = false := by simp; omega
          have hz : k - 1 - m = 0 := by omega
          rw [hz] at HDR
          have HDR2 : Hid (l = drawN key k) := HDR
          go_wp2_with fail
          exact bodyPost_ret (v := .tuple #[.slice (some ⟨w.heap.size, 0, none⟩) k k, .int .i64 0]) (by simp [results, Tryz.results86, go_sem]) rfl ⟨rfl, by rw [← HDR2.out]; exact hrow2, by rw [← HDR2.out]; exact hl, hg2⟩
end Go.Proofs.YtcnpmebihdonoaaGreatDoor
