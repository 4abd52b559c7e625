/- start.Calls, Isolated: the checks, and the reference's. -/
import Derived.Test.YtdpdbgcdmpdaoaaGreatDoorDuel
namespace Go.Proofs.YtdpdbgcdmpdaoaaGreatDoor
open Go.RowKit Go.Lib
/-- a start that is too late -/
def lateB (n f e : Int) : Bool := decide (0 < n) && decide (86399999 < f + (n - 1) * e)
def lateE (n f e : Int) : Int := if lateB n f e then 4 else 0
structure Times (n f e : Int) : Prop where
  n : 0 ≤ n ∧ n ≤ 160
  f : 0 ≤ f ∧ f ≤ 86399999
  e : 0 ≤ e ∧ e ≤ 86399999
theorem Times.mul {n f e : Int} (h : Times n f e) {k : Int} (h0 : -1 ≤ k) (h1 : k ≤ 160) : -86399999 ≤ k * e ∧ k * e ≤ 13823999840 := by
  obtain ⟨_, _, he0, he1⟩ := h
  constructor
  · have : -1 * e ≤ k * e := Int.mul_le_mul_of_nonneg_right h0 he0
    omega
  · have h2 : k * e ≤ 160 * e := Int.mul_le_mul_of_nonneg_right h1 he0
    omega
set_option maxRecDepth 100000 in
theorem late_c (n f e : Int) (h : Times n f e) (w : World) :
    Calls Tryz.prog 11 #[.int .i64 n, .int .i64 f, .int .i64 e] w fun x w' => x = .returned (.int .i64 (lateE n f e)) ∧ w = w' := by
  have hm := h.mul (k := n - 1) (by have := h.n; omega) (by have := h.n; omega)
  have hn := h.n
  have hf := h.f
  cases h1 : decide (0 < n)
  · have HE : Hid (lateE n f e = 0) := by unfold Hid lateE lateB; rw [h1]; rfl
    go_enter Tryz.func11, Tryz.ntmps11
    go_wp2_with fail
    go_ret
    exact ⟨by rw [HE.out]; rfl, rfl⟩
  · have hw1 : IntKind.i64.wrap (n - 1) = n - 1 := by rw [IntKind.wrap_i64]; omega
    have hw2 : IntKind.i64.wrap ((n - 1) * e) = (n - 1) * e := by rw [IntKind.wrap_i64]; omega
    have hw3 : IntKind.i64.wrap (f + (n - 1) * e) = f + (n - 1) * e := by rw [IntKind.wrap_i64]; omega
    cases h2 : decide (86399999 < f + (n - 1) * e)
    · have HE : Hid (lateE n f e = 0) := by unfold Hid lateE lateB; rw [h1, h2]; rfl
      go_enter Tryz.func11, Tryz.ntmps11
      go_wp2_with fail
      go_ret
      exact ⟨by rw [HE.out]; rfl, rfl⟩
    · have HE : Hid (lateE n f e = 4) := by unfold Hid lateE lateB; rw [h1, h2]; rfl
      go_enter Tryz.func11, Tryz.ntmps11
      go_wp2_with fail
      go_ret
      exact ⟨by rw [HE.out]; rfl, rfl⟩
/-- the reference's error of numbers and times -/
def callsE (n f e : Int) : Int := if outE n 0 160 + outE f 0 86399999 + outE e 0 86399999 != 0 then 3 else 0
set_option maxHeartbeats 1000000 in
set_option maxRecDepth 100000 in
theorem checkCalls_c (n f e : Int) (w : World) :
    Calls Tryz.prog 9 #[.int .i64 n, .int .i64 f, .int .i64 e] w fun x w' => x = .returned (.int .i64 (callsE n f e)) ∧ w = w' := by
  have H1 : ∀ W, _ := fun W => outside_c n 0 160 W
  have H2 : ∀ W, _ := fun W => outside_c f 0 86399999 W
  have H3 : ∀ W, _ := fun W => outside_c e 0 86399999 W
  have hR : callsE n f e = if outE n 0 160 + outE f 0 86399999 + outE e 0 86399999 != 0 then 3 else 0 := rfl
  rcases outE_or n 0 160 with h1 | h1 <;> rcases outE_or f 0 86399999 with h2 | h2 <;> rcases outE_or e 0 86399999 with h3 | h3
  all_goals
    rw [h1] at H1 hR
    rw [h2] at H2 hR
    rw [h3] at H3 hR
    rw [hR]
    replace H1 := Lib.hid H1
    replace H2 := Lib.hid H2
    replace H3 := Lib.hid H3
    clear hR h1 h2 h3
    go_enter Tryz.func9, Tryz.ntmps9
    go_wp2_with fail
    repeat (first
      | (with_reducible refine (H1.out _).mono ?_; rintro x w4 ⟨rfl, rfl⟩; go_wp2_with fail)
      | (with_reducible refine (H2.out _).mono ?_; rintro x w4 ⟨rfl, rfl⟩; go_wp2_with fail)
      | (with_reducible refine (H3.out _).mono ?_; rintro x w4 ⟨rfl, rfl⟩; go_wp2_with fail))
    go_ret
    exact ⟨rfl, rfl⟩
/-- the closure that checks a time -/
theorem time1_c (i n : Int) (w : World) :
    Calls Tryz.prog 72 #[.int .i64 i, .int .i64 n] w fun e w' => e = .returned (.int .i64 (outE n 0 86399999)) ∧ w = w' := by
  have HR := Lib.hid (fun W => checkTime_c n W)
  go_enter Tryz.func72, Tryz.ntmps72
  go_wp2_with fail
  refine (HR.out _).mono ?_
  rintro e w4 ⟨rfl, rfl⟩
  go_wp2_with fail
  go_ret
  exact ⟨rfl, rfl⟩
/-- the first of two errors -/
def fst2 (x y : Int) : Int := if x = 0 then y else x
set_option maxHeartbeats 1000000 in
set_option maxRecDepth 100000 in
theorem lawFirst_c (x y : Int) (b cap : Nat) (w : World) (hx : w.cell? ⟨b, 0, none⟩ = some (.int .i64 x)) (hy : w.cell? ⟨b, 1, none⟩ = some (.int .i64 y)) :
    Calls Tryz.prog 8 #[.slice (some ⟨b, 0, none⟩) 2 cap] w fun e w' => e = .returned (.int .i64 (fst2 x y)) ∧ w = w' := by
  go_enter Tryz.func8, Tryz.ntmps8
  go_wp2_with fail
  refine wp_loop_rounds 3 ?_
  rw [rounds_succ]
  by_cases h1 : x = 0
  · subst h1
    go_wp2_with fail
    rw [rounds_succ]
    by_cases h2 : y = 0
    · subst h2
      go_wp2_with fail
      rw [rounds_succ]
      go_wp2_with fail
      go_ret
      exact ⟨rfl, rfl⟩
    · have hd : (y == 0) = false := by simpa using h2
      have hd2 : (y != 0) = true := by simpa [bne] using hd
      have HE : Hid (fst2 0 y = y) := if_pos rfl
      go_wp2_with fail
      go_ret
      exact ⟨by rw [HE.out]; rfl, rfl⟩
  · have hd : (x == 0) = false := by simpa using h1
    have hd2 : (x != 0) = true := by simpa [bne] using hd
    have HE : Hid (fst2 x y = x) := if_neg h1
    go_wp2_with fail
    go_ret
    exact ⟨by rw [HE.out]; rfl, rfl⟩
end Go.Proofs.YtdpdbgcdmpdaoaaGreatDoor
