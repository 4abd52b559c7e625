/- Bars: whether a bar continues those before. -/
import Derived.Test.YtimbcjldejifaaaGreatDoorGExA
namespace Go.Proofs.YtimbcjldejifaaaGreatDoor
open Go.RowKit Go.Lib
set_option linter.unusedSimpArgs false
set_option linter.unusedVariables false
theorem fromB_t {lo : Int} {x : BarR} (h : x.fr = lo ∧ x.fr ≤ x.to) : fromB lo x = true := by
  unfold fromB
  rw [Bool.and_eq_true, decide_eq_true_eq, decide_eq_true_eq]
  exact h
theorem fromB_f {lo : Int} {x : BarR} (h : ¬ (x.fr = lo ∧ x.fr ≤ x.to)) : fromB lo x = false := by
  rw [← Bool.not_eq_true]
  unfold fromB
  rw [Bool.and_eq_true, decide_eq_true_eq, decide_eq_true_eq]
  exact h
set_option maxHeartbeats 1000000 in
set_option maxRecDepth 100000 in
theorem continues_0 (lo : Int) (x : BarR) (p : Option Addr) (cap : Nat) (w : World) :
    Calls Tryz.prog 31 #[barV x, .slice p 0 cap, .int .i64 lo] w fun e w' => e = .returned (.bool (fromB lo x)) ∧ Gr w w' := by
  have HT : x.fr = lo ∧ x.fr ≤ x.to → Hid (fromB lo x = true) := fun h => fromB_t h
  have HF : ¬ (x.fr = lo ∧ x.fr ≤ x.to) → Hid (fromB lo x = false) := fun h => fromB_f h
  unfold barV
  go_enter Tryz.func31, Tryz.ntmps31
  go_wp2_with fail
  all_goals
    go_ret
    refine ⟨?_, (Gr.refl w).alloc _⟩
    first
      | (rw [(HT (by omega)).out]; done)
      | (rw [(HT (by omega)).out]; rfl)
      | (rw [(HF (by omega)).out]; done)
      | (rw [(HF (by omega)).out]; rfl)
set_option maxHeartbeats 1000000 in
set_option maxRecDepth 100000 in
theorem continues_s (lo : Int) (x y : BarR) (b off k cap : Nat) (w : World) (hy : BarAt w b (off + k * 3) y) (hx : BarOK x) (hk : k < 1000) :
    Calls Tryz.prog 31 #[barV x, .slice (some ⟨b, off, none⟩) (k + 1) cap, .int .i64 lo] w fun e w' => e = .returned (.bool (behindB y x)) ∧ Gr w w' := by
  obtain ⟨_, c1, _, ⟨_, _, y0, y1⟩⟩ := hy
  obtain ⟨x0, x1, x2, x3⟩ := hx
  have hb := World.block_lt_of_cell? w _ c1
  unfold behindB
  have hi3 : (0 : Int) ≤ k := by omega
  obtain ⟨W2, hW2, g2, b0, b1, b2⟩ := box3 w (.int .i64 x.fr) (.int .i64 x.to) (.string x.why) 74
  have d1 := g2.cell c1
  by_cases hm : y.to = 9223372036854775807
  · have hE : decide (y.to ≠ 9223372036854775807) = false := decide_eq_false (by omega)
    rw [hE, Bool.false_and]
    rw [hm] at c1 d1
    clear hE b0 b1 b2
    have HW2 := Lib.hid hW2
    clear hW2
    unfold barV
    go_enter Tryz.func31, Tryz.ntmps31
    go_wp2_with fail
    all_goals
      go_ret
      exact ⟨rfl, by first | exact g2 | exact (Gr.refl w).alloc _⟩
  · have hE : decide (y.to ≠ 9223372036854775807) = true := decide_eq_true hm
    rw [hE, Bool.true_and]
    obtain ⟨L, hL⟩ : ∃ L, L = y.to + 1 := ⟨_, rfl⟩
    rw [← hL]
    have HT : x.fr = L ∧ x.fr ≤ x.to → Hid (fromB L x = true) := fun h => fromB_t h
    have HF : ¬ (x.fr = L ∧ x.fr ≤ x.to) → Hid (fromB L x = false) := fun h => fromB_f h
    have hw : IntKind.i64.wrap (y.to + 1) = L := by rw [IntKind.wrap_i64]; omega
    clear hL
    have hz : (y.to == 9223372036854775807) = false := beq_eq_false_iff_ne.2 hm
    clear hE
    unfold barV
    go_enter Tryz.func31, Tryz.ntmps31
    go_wp2_with fail
    all_goals
      go_ret
      refine ⟨?_, by first | exact g2 | exact (Gr.refl w).alloc _⟩
      first
        | (rw [(HT (by omega)).out]; done)
        | (rw [(HT (by omega)).out]; rfl)
        | (rw [(HF (by omega)).out]; done)
        | (rw [(HF (by omega)).out]; rfl)
end Go.Proofs.YtimbcjldejifaaaGreatDoor
