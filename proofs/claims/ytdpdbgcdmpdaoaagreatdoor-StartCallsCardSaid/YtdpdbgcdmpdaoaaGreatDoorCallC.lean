/- Isolated, the program's and the reference's. -/
import Derived.Test.YtdpdbgcdmpdaoaaGreatDoorCallB
import Derived.BigCall
import Derived.Maps.AppendAt
namespace Go.Proofs.YtdpdbgcdmpdaoaaGreatDoor
open Go.RowKit Go.Lib
theorem info3 : (Tryz.prog.info? 3).map (fun i => (i.zero, i.size, i.bytes)) = some (some (.int .i64 0), 1, 8) := by kernel_rfl
/-- who is in isolation, of the first k -/
def isoK (c t f e : Int) : Nat → List Int
  | 0 => []
  | k + 1 => isoK c t f e k ++ (if decide (c ≤ t) && decide (t < f + k * e) then [(k : Int)] else [])
theorem isoK_len (c t f e : Int) : ∀ k, (isoK c t f e k).length ≤ k
  | 0 => Nat.le_refl _
  | k + 1 => by
    have := isoK_len c t f e k
    simp only [isoK, List.length_append]
    split <;> simp <;> omega
def ints (xs : List Int) : List Value := xs.map (Value.int .i64)
set_option maxHeartbeats 1000000 in
set_option maxRecDepth 100000 in
theorem refIso_c (n f e c t : Int) (N : Nat) (hN : n = N) (h : Times n f e) (hc : 0 ≤ c ∧ c ≤ 86399999) (ht : 0 ≤ t ∧ t ≤ 86399999) (w : World) :
    Calls Tryz.prog 13 #[.int .i64 n, .int .i64 f, .int .i64 e, .int .i64 c, .int .i64 t] w fun x w' => ∃ v, x = .returned v ∧ w'.ownsRow w.heap.size 3 1 v (isoK c t f e N).length (ints (isoK c t f e N)) ∧ Gr w w' := by
  obtain ⟨i0, hi, hz0, hz1, hz2⟩ := info_parts info3
  subst hN
  have hn := h.n
  have hf := h.f
  go_enter Tryz.func13, Tryz.ntmps13
  go_wp2_with fail
  go_loopw [11, 12] (fun v i wr => ∃ k : Nat, k ≤ N ∧ i = .int .i64 k ∧ wr.ownsRow w.heap.size 3 1 v (isoK c t f e k).length (ints (isoK c t f e k)) ∧ Below w.heap.size w wr) (fun _ i _ => N - (intOf i).toNat)
  case atStart => exact ⟨0, Nat.zero_le _, rfl, World.ownsRow_nil _ _ _ _, Below.refl _ _⟩
  case round =>
    obtain ⟨k, hk, rfl, hown, hnx⟩ := hrel
    have hsize := hnx.size
    have hlen := isoK_len c t f e k
    have hm := h.mul (k := (k : Int)) (by omega) (by omega)
    have hw2 : IntKind.i64.wrap ((k : Int) * e) = k * e := by rw [IntKind.wrap_i64]; omega
    have hw3 : IntKind.i64.wrap (f + (k : Int) * e) = f + k * e := by rw [IntKind.wrap_i64]; omega
    have hq : isoK c t f e (k + 1) = isoK c t f e k ++ (if decide (c ≤ t) && decide (t < f + k * e) then [(k : Int)] else []) := rfl
    by_cases hkN : (k : Int) < N
    · have step : decide (c ≤ t) = true → decide (t < f + (k : Int) * e) = true → isoK c t f e (k + 1) = isoK c t f e k ++ [(k : Int)] := fun h1 h2 => by rw [hq, h1, h2]; rfl
      have stay : (decide (c ≤ t) && decide (t < f + (k : Int) * e)) = false → isoK c t f e (k + 1) = isoK c t f e k := fun h1 => by rw [hq, h1]; simp
      have HQ := Lib.hid step
      have HS := Lib.hid stay
      clear step stay hq
      cases hd1 : decide (c ≤ t)
      · have hS := HS.out (by rw [hd1]; rfl)
        have HH := Lib.hid hS
        clear hS HQ HS
        go_wp2_with fail
        go_roundw
        case rel => exact ⟨k + 1, by omega, by go_num, by rw [HH.out]; exact hown, hnx⟩
        case measure => simp [intOf]; omega
      · cases hd2 : decide (t < f + (k : Int) * e)
        · have hS := HS.out (by rw [hd1, hd2]; rfl)
          have HH := Lib.hid hS
          clear hS HQ HS
          go_wp2_with fail
          go_roundw
          case rel => exact ⟨k + 1, by omega, by go_num, by rw [HH.out]; exact hown, hnx⟩
          case measure => simp [intOf]; omega
        · have hS := HQ.out hd1 hd2
          have HH := Lib.hid hS
          clear hS HQ HS
          go_wp2_with (first
            | (at_builtin; refine wpList_append_own _ rfl _ _ 29 rfl w.heap.size 3 i0 (.int .i64 0) 1 8 Tryz.underlying29 hi hz0 hz1 hz2 rfl (by decide) _ _ _ rfl (hown.alloc _) ⟨wr.heap.size, 0, none⟩ 1 1 [.int .i64 k] rfl rfl (cell_one_new _ _ _) (by intro u hu; simp at hu; subst hu; rfl) (by unfold maxLen; omega) (by omega) (by simp; omega) ?_; intro v1 w1 hown1 hgrow1 hnil1))
          go_roundw
          case rel =>
            exact ⟨k + 1, by omega, by go_num, by rw [HH.out]; simpa [ints] using hown1, (hnx.alloc hsize _).grown hgrow1 (by simp; omega) (fun j hj => (hown.lt j hj).1)⟩
          case measure => simp [intOf]; omega
    · have hkk : k = N := by omega
      subst hkk
      go_wp2_with fail
      go_ret
      exact ⟨_, rfl, hown, hnx⟩
/-- the error of Isolated -/
def isoE (n f e c t : Int) : Int := fullE n f e (fst2 (outE c 0 86399999) (outE t 0 86399999))
theorem fullE_ok {n f e ex : Int} (h : fullE n f e ex = 0) : Times n f e ∧ ex = 0 ∧ ¬ 86399999 < f + (n - 1) * e := by
  unfold fullE at h
  split at h
  · rename_i h1
    obtain ⟨h2, h3⟩ := startsE_zero h1
    refine ⟨h2, h3, fun h4 => ?_⟩
    rw [decide_eq_true h4] at h
    cases h
  · rename_i h1
    exact absurd h h1
theorem fst2_zero {x y : Int} (h : fst2 x y = 0) : x = 0 ∧ y = 0 := by
  unfold fst2 at h
  split at h
  · rename_i h1; exact ⟨h1, h⟩
  · rename_i h1; exact absurd h h1
set_option maxHeartbeats 1000000 in
set_option maxRecDepth 100000 in
theorem iso_err (n f e c t : Int) (h : isoE n f e c t ≠ 0) (w : World) :
    Calls Tryz.prog 7 #[.int .i64 n, .int .i64 f, .int .i64 e, .int .i64 c, .int .i64 t] w fun x w' => x = .returned (.tuple #[.slice none 0 0, .int .i64 (isoE n f e c t)]) ∧ Gr w w' := by
  obtain ⟨W, hW, g, a0, a1⟩ := box2 w (.int .i64 c) (.int .i64 t) 3
  have HC : Calls Tryz.prog 35 #[.int .i64 n, .int .i64 f, .int .i64 e, .slice (some ⟨w.heap.size, 0, none⟩) 2 2] W fun x w' => x = .returned (.int .i64 (isoE n f e c t)) ∧ Gr W w' := checkStarts_c n f e _ _ W (each2_c c t _ _ W a0 a1)
  have h1 : (isoE n f e c t == 0) = false := by simpa using h
  have h2 : (isoE n f e c t != 0) = true := by simpa [bne] using h1
  generalize isoE n f e c t = err at *
  have HH := Lib.hid HC
  have HW := Lib.hid hW
  clear HC hW h
  go_enter Tryz.func7, Tryz.ntmps7
  go_wp2_with fail
  rw [HW.out]
  refine HH.out.mono ?_
  rintro x w4 ⟨rfl, hg⟩
  go_wp2_with fail
  exact bodyPost_ret (v := .tuple #[.slice none 0 0, .int .i64 err]) (by simp [results, Tryz.results7, go_sem]) rfl ⟨rfl, g.trans hg⟩
set_option maxHeartbeats 1000000 in
set_option maxRecDepth 100000 in
theorem iso_ok (n f e c t : Int) (N : Nat) (hN : n = N) (h : isoE n f e c t = 0) (w : World) :
    Calls Tryz.prog 7 #[.int .i64 n, .int .i64 f, .int .i64 e, .int .i64 c, .int .i64 t] w fun x w' => ∃ v, x = .returned (.tuple #[v, .int .i64 0]) ∧ w'.ownsRow w.heap.size 3 1 v (isoK c t f e N).length (ints (isoK c t f e N)) ∧ Gr w w' := by
  obtain ⟨i0, hi, hz0, hz1, hz2⟩ := info_parts info3
  obtain ⟨W, hW, g, a0, a1⟩ := box2 w (.int .i64 c) (.int .i64 t) 3
  have HC : Calls Tryz.prog 35 #[.int .i64 n, .int .i64 f, .int .i64 e, .slice (some ⟨w.heap.size, 0, none⟩) 2 2] W fun x w' => x = .returned (.int .i64 (isoE n f e c t)) ∧ Gr W w' := checkStarts_c n f e _ _ W (each2_c c t _ _ W a0 a1)
  obtain ⟨h, hx, _⟩ := (show Times n f e ∧ _ ∧ _ from fullE_ok h)
  obtain ⟨hcc, htt⟩ := fst2_zero hx
  have hc := outE_zero.1 hcc
  have ht := outE_zero.1 htt
  rename isoE n f e c t = 0 => h0
  rw [h0] at HC
  subst hN
  have hn := h.n
  have hf := h.f
  have HH := Lib.hid HC
  have HW := Lib.hid hW
  clear HC hW h0 hx hcc htt
  go_enter Tryz.func7, Tryz.ntmps7
  go_wp2_with fail
  rw [HW.out]
  refine HH.out.mono ?_
  rintro x w4 ⟨rfl, hg⟩
  have hG : Below w.heap.size w w4 := g.trans hg
  clear hg
  go_wp2_with fail
  go_loopw [13, 26] (fun v i wr => ∃ (k : Nat) (u : Value), u = v ∧ k ≤ N ∧ i = .int .i64 k ∧ wr.ownsRow w.heap.size 3 1 v (isoK c t f e k).length (ints (isoK c t f e k)) ∧ Below w.heap.size w wr) (fun _ i _ => N - (intOf i).toNat)
  case atStart => exact ⟨0, _, rfl, Nat.zero_le _, rfl, World.ownsRow_nil _ _ _ _, hG⟩
  case round =>
    obtain ⟨k, u, rfl, hk, rfl, hown, hnx⟩ := hrel
    clear hG
    have hsize := hnx.size
    have hlen := isoK_len c t f e k
    have hm := h.mul (k := (k : Int)) (by omega) (by omega)
    have hw2 : IntKind.i64.wrap ((k : Int) * e) = k * e := by rw [IntKind.wrap_i64]; omega
    have hw3 : IntKind.i64.wrap (f + (k : Int) * e) = f + k * e := by rw [IntKind.wrap_i64]; omega
    have hq : isoK c t f e (k + 1) = isoK c t f e k ++ (if decide (c ≤ t) && decide (t < f + k * e) then [(k : Int)] else []) := rfl
    by_cases hkN : (k : Int) < N
    · have step : decide (c ≤ t) = true → decide (t < f + (k : Int) * e) = true → isoK c t f e (k + 1) = isoK c t f e k ++ [(k : Int)] := fun h1 h2 => by rw [hq, h1, h2]; rfl
      have stay : (decide (c ≤ t) && decide (t < f + (k : Int) * e)) = false → isoK c t f e (k + 1) = isoK c t f e k := fun h1 => by rw [hq, h1]; simp
      have HQ := Lib.hid step
      have HS := Lib.hid stay
      clear step stay hq
      cases hd1 : decide (c ≤ t)
      · have hS := HS.out (by rw [hd1]; rfl)
        have HH := Lib.hid hS
        clear hS HQ HS
        go_wp2_with fail
        go_roundw
        case rel => exact ⟨k + 1, _, rfl, by omega, by go_num, by rw [HH.out]; exact hown, hnx⟩
        case measure => simp [intOf]; omega
      · cases hd2 : decide (t < f + (k : Int) * e)
        · have hS := HS.out (by rw [hd1, hd2]; rfl)
          have HH := Lib.hid hS
          clear hS HQ HS
          go_wp2_with fail
          go_roundw
          case rel => exact ⟨k + 1, _, rfl, by omega, by go_num, by rw [HH.out]; exact hown, hnx⟩
          case measure => simp [intOf]; omega
        · have hS := HQ.out hd1 hd2
          have HH := Lib.hid hS
          clear hS HQ HS
          go_wp2_with (first
            | (at_builtin; refine wpList_append_own _ rfl _ _ 29 rfl w.heap.size 3 i0 (.int .i64 0) 1 8 Tryz.underlying29 hi hz0 hz1 hz2 rfl (by decide) _ _ _ rfl (hown.alloc _) ⟨wr.heap.size, 0, none⟩ 1 1 [.int .i64 k] rfl rfl (cell_one_new _ _ _) (by intro u hu; simp at hu; subst hu; rfl) (by unfold maxLen; omega) (by omega) (by simp; omega) ?_; intro v1 w1 hown1 hgrow1 hnil1))
          go_roundw
          case rel =>
            exact ⟨k + 1, _, rfl, by omega, by go_num, by rw [HH.out]; simpa [ints] using hown1, (hnx.alloc hsize _).grown hgrow1 (by simp; omega) (fun j hj => (hown.lt j hj).1)⟩
          case measure => simp [intOf]; omega
    · have hkk : k = N := by omega
      subst hkk
      go_wp2_with fail
      exact bodyPost_ret (v := .tuple #[u, .int .i64 0]) (by simp [results, Tryz.results7, go_sem]) rfl ⟨_, rfl, hown, hnx⟩
end Go.Proofs.YtdpdbgcdmpdaoaaGreatDoor
