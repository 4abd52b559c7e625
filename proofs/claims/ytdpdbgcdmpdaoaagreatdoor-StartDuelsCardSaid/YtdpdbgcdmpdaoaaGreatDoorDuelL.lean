/- the law StartDuels. -/
import Derived.Test.YtdpdbgcdmpdaoaaGreatDoorDuelA
namespace Go.Proofs.YtdpdbgcdmpdaoaaGreatDoor
open Go.RowKit Go.Lib
theorem box222 (w : World) (a0 a1 b0 b1 c0 c1 : Value) (T U V : Nat) : ∃ W, ((w.alloc (.cells #[a0, a1] T)).alloc (.cells #[b0, b1] U)).alloc (.cells #[c0, c1] V) = W ∧ Gr w W ∧ W.cell? ⟨w.heap.size, 0, none⟩ = some a0 ∧ W.cell? ⟨w.heap.size, 1, none⟩ = some a1 ∧
    W.cell? ⟨w.heap.size + 1, 0, none⟩ = some b0 ∧ W.cell? ⟨w.heap.size + 1, 1, none⟩ = some b1 ∧ W.cell? ⟨w.heap.size + 1 + 1, 0, none⟩ = some c0 ∧ W.cell? ⟨w.heap.size + 1 + 1, 1, none⟩ = some c1 := by
  obtain ⟨W, rfl, g, a, a', b, b'⟩ := box22 w a0 a1 b0 b1 T U
  obtain ⟨W2, h2, g2, c, d⟩ := box2 ((w.alloc (.cells #[a0, a1] T)).alloc (.cells #[b0, b1] U)) c0 c1 V
  have e : ((w.alloc (.cells #[a0, a1] T)).alloc (.cells #[b0, b1] U)).heap.size = w.heap.size + 1 + 1 := by simp
  rw [e] at c d
  exact ⟨W2, h2, g.trans g2, g2.cell a, g2.cell a', g2.cell b, g2.cell b', c, d⟩
set_option maxHeartbeats 4000000 in
set_option maxRecDepth 100000 in
theorem law_no (r t r2 t2 : Int) (l0 l1 : Int) (w : World) (hA : ∀ W, Gr w W → Calls Tryz.prog 5 #[] W fun e w' => e = .returned (.bool true) ∧ Gr W w') (hno : runOk r t = false ∨ runOk r2 t2 = false) :
    Calls Tryz.prog 4 #[.agg #[.int .i64 r, .int .i64 t], .agg #[.int .i64 r2, .int .i64 t2], .agg #[.int .u8 l0, .int .u8 l1]] w fun e w' => e = .returned (.bool true) ∧ Gr w w' := by
  obtain ⟨W, hW, g, a0, a1, b0, b1, c0, c1⟩ := box222 w (.int .i64 r) (.int .i64 t) (.int .i64 r2) (.int .i64 t2) (.int .u8 l0) (.int .u8 l1) 40 40 41
  have HW := Lib.hid hW
  have HC1 : ∀ W, _ := fun W => checkRun_c r t W
  have HC2 : ∀ W, _ := fun W => checkRun_c r2 t2 W
  have HA := Lib.hid hA
  clear hA hW
  generalize runOk r t = o1 at *
  generalize runOk r2 t2 = o2 at *
  replace HC1 := Lib.hid HC1
  replace HC2 := Lib.hid HC2
  have fin : o1 = false ∨ (o1 = true ∧ o2 = false) := by cases o1 <;> cases o2 <;> simp at hno ⊢
  clear hno
  rcases fin with rfl | ⟨rfl, rfl⟩
  all_goals
    go_enter Tryz.func4, Tryz.ntmps4
    go_wp2_with fail
    rw [HW.out]
    repeat (first
      | (with_reducible refine (HA.out _ g).mono ?_; rintro e w4 ⟨rfl, hg⟩; replace g := g.trans hg; replace a0 := hg.cell a0; replace a1 := hg.cell a1; replace b0 := hg.cell b0; replace b1 := hg.cell b1; clear hg; go_wp2_with fail)
      | (with_reducible refine (HC1.out _).mono ?_; rintro e w4 ⟨rfl, hg⟩; replace g := g.trans hg; replace a0 := hg.cell a0; replace a1 := hg.cell a1; replace b0 := hg.cell b0; replace b1 := hg.cell b1; clear hg; go_wp2_with fail)
      | (with_reducible refine (HC2.out _).mono ?_; rintro e w4 ⟨rfl, hg⟩; replace g := g.trans hg; replace a0 := hg.cell a0; replace a1 := hg.cell a1; replace b0 := hg.cell b0; replace b1 := hg.cell b1; clear hg; go_wp2_with fail))
    go_ret
    exact ⟨rfl, g⟩
end Go.Proofs.YtdpdbgcdmpdaoaaGreatDoor
