/- Calls, the reference's. -/
import Derived.Test.YtdpdbgcdmpdaoaaGreatDoorCallC
namespace Go.Proofs.YtdpdbgcdmpdaoaaGreatDoor
open Go.RowKit Go.Lib
theorem info37 : (Tryz.prog.info? 37).map (fun i => (i.zero, i.size, i.bytes)) = some (some (.agg #[.int .i64 0, .int .i64 0]), 2, 16) := by kernel_rfl
/-- the time of the call of the k-th climber -/
def callA (f e m : Int) (k : Nat) : Int := max 0 (f + k * e - m)
def callB (f e : Int) (k : Nat) : Int := f + k * e
/-- the cells of the first k pairs -/
def callsK (f e m : Int) : Nat → List Value
  | 0 => []
  | k + 1 => callsK f e m k ++ [.int .i64 (callA f e m k), .int .i64 (callB f e k)]
theorem callsK_len (f e m : Int) : ∀ k, (callsK f e m k).length = k * 2
  | 0 => rfl
  | k + 1 => by simp [callsK, callsK_len f e m k]; omega
theorem cell_two_new (w : World) (a b : Value) (T : TypeId) : ∀ (j : Nat) (u : Value), [a, b][j]? = some u → (w.alloc (.cells #[a, b] T)).cell? ((⟨w.heap.size, 0, none⟩ : Addr).add j) = some u := by
  intro j u h
  have e : (⟨w.heap.size, 0, none⟩ : Addr).add j = ⟨w.heap.size, j, none⟩ := by unfold Addr.add; split <;> simp_all
  rw [e]
  rcases j with _ | _ | j
  · simp at h; subst h; exact cell_new w #[a, b] T 0 (by simp)
  · simp at h; subst h; exact cell_new w #[a, b] T 1 (by simp)
  · simp at h
set_option maxHeartbeats 1000000 in
set_option maxRecDepth 100000 in
theorem refCalls_c (n f e m : Int) (N : Nat) (hN : n = N) (h : Times n f e) (hm0 : 0 ≤ m ∧ m ≤ 86399999) (w : World) :
    Calls Tryz.prog 14 #[.int .i64 n, .int .i64 f, .int .i64 e, .int .i64 m] w fun x w' => ∃ v, x = .returned v ∧ w'.ownsRow w.heap.size 37 2 v N (callsK f e m N) ∧ Gr w w' := by
  obtain ⟨i0, hi, hz0, hz1, hz2⟩ := info_parts info37
  subst hN
  have hn := h.n
  have hf := h.f
  go_enter Tryz.func14, Tryz.ntmps14
  go_wp2_with fail
  go_loopw [9, 10] (fun v i wr => ∃ k : Nat, k ≤ N ∧ i = .int .i64 k ∧ wr.ownsRow w.heap.size 37 2 v k (callsK f e m k) ∧ Below w.heap.size w wr) (fun _ i _ => N - (intOf i).toNat)
  case atStart => exact ⟨0, Nat.zero_le _, rfl, World.ownsRow_nil _ _ _ _, Below.refl _ _⟩
  case round =>
    obtain ⟨k, hk, rfl, hown, hnx⟩ := hrel
    have hsize := hnx.size
    have hm := h.mul (k := (k : Int)) (by omega) (by omega)
    have hw2 : IntKind.i64.wrap ((k : Int) * e) = k * e := by rw [IntKind.wrap_i64]; omega
    have hw3 : IntKind.i64.wrap (f + (k : Int) * e) = f + k * e := by rw [IntKind.wrap_i64]; omega
    have hw4 : IntKind.i64.wrap (f + (k : Int) * e - m) = f + k * e - m := by rw [IntKind.wrap_i64]; omega
    by_cases hkN : (k : Int) < N
    · have hq : callsK f e m (k + 1) = callsK f e m k ++ [.int .i64 (callA f e m k), .int .i64 (callB f e k)] := rfl
      have hB : callB f e k = f + k * e := rfl
      rw [hB] at hq
      by_cases hx : 0 < f + (k : Int) * e - m
      · have hA : callA f e m k = f + k * e - m := by unfold callA; omega
        rw [hA] at hq
        have HQ := Lib.hid hq
        clear hq hA hB
        go_wp2_with (first
          | (at_builtin; refine wpList_append_own _ rfl _ _ 25 rfl w.heap.size 37 i0 (.agg #[.int .i64 0, .int .i64 0]) 2 16 Tryz.underlying25 hi hz0 hz1 hz2 rfl (by decide) _ _ _ rfl (hown.alloc _) ⟨wr.heap.size, 0, none⟩ 1 1 [.int .i64 (f + k * e - m), .int .i64 (f + k * e)] rfl rfl (cell_two_new _ _ _ _) (by intro u hu; simp at hu; rcases hu with rfl | rfl <;> rfl) (by unfold maxLen; omega) (by omega) (by simp; omega) ?_; intro v1 w1 hown1 hgrow1 hnil1))
        go_roundw
        case rel =>
          exact ⟨k + 1, by omega, by go_num, by rw [HQ.out]; exact hown1, (hnx.alloc hsize _).grown hgrow1 (by simp; omega) (fun j hj => (hown.lt j hj).1)⟩
        case measure => simp [intOf]; omega
      · have hA : callA f e m k = 0 := by unfold callA; omega
        rw [hA] at hq
        have HQ := Lib.hid hq
        clear hq hA hB
        go_wp2_with (first
          | (at_builtin; refine wpList_append_own _ rfl _ _ 25 rfl w.heap.size 37 i0 (.agg #[.int .i64 0, .int .i64 0]) 2 16 Tryz.underlying25 hi hz0 hz1 hz2 rfl (by decide) _ _ _ rfl (hown.alloc _) ⟨wr.heap.size, 0, none⟩ 1 1 [.int .i64 0, .int .i64 (f + k * e)] rfl rfl (cell_two_new _ _ _ _) (by intro u hu; simp at hu; rcases hu with rfl | rfl <;> rfl) (by unfold maxLen; omega) (by omega) (by simp; omega) ?_; intro v1 w1 hown1 hgrow1 hnil1))
        go_roundw
        case rel =>
          exact ⟨k + 1, by omega, by go_num, by rw [HQ.out]; exact hown1, (hnx.alloc hsize _).grown hgrow1 (by simp; omega) (fun j hj => (hown.lt j hj).1)⟩
        case measure => simp [intOf]; omega
    · have hkk : k = N := by omega
      subst hkk
      go_wp2_with fail
      go_ret
      exact ⟨_, rfl, hown, hnx⟩
end Go.Proofs.YtdpdbgcdmpdaoaaGreatDoor
