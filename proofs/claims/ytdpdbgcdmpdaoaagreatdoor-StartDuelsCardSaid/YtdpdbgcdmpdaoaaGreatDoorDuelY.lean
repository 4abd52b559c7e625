/- the law StartDuels, of two runs. -/
import Derived.Test.YtdpdbgcdmpdaoaaGreatDoorDuelL
namespace Go.Proofs.YtdpdbgcdmpdaoaaGreatDoor
open Go.RowKit Go.Lib
theorem early0 (W : World) (o : Obj) (a b : Value) (T : Nat) : ((W.alloc o).alloc (.cells #[a, b] T)).cell? ⟨W.heap.size + 1, 0, none⟩ = some a := by
  have := cell_new (W.alloc o) #[a, b] T 0 (by simp)
  rwa [show (W.alloc o).heap.size = W.heap.size + 1 by simp] at this
theorem early1 (W : World) (o : Obj) (a b : Value) (T : Nat) : ((W.alloc o).alloc (.cells #[a, b] T)).cell? ⟨W.heap.size + 1, 1, none⟩ = some b := by
  have := cell_new (W.alloc o) #[a, b] T 1 (by simp)
  rwa [show (W.alloc o).heap.size = W.heap.size + 1 by simp] at this
set_option maxHeartbeats 4000000 in
set_option maxRecDepth 100000 in
theorem law_yes (r t r2 t2 : Int) (l0 l1 : Int) (w : World) (hA : ∀ W, Gr w W → Calls Tryz.prog 5 #[] W fun e w' => e = .returned (.bool true) ∧ Gr W w')
    (h1 : RunOk r t) (h2 : RunOk r2 t2) (hl0 : 0 ≤ l0 ∧ l0 ≤ 255) (hl1 : 0 ≤ l1 ∧ l1 ≤ 255) :
    Calls Tryz.prog 4 #[.agg #[.int .i64 r, .int .i64 t], .agg #[.int .i64 r2, .int .i64 t2], .agg #[.int .u8 l0, .int .u8 l1]] w fun e w' => e = .returned (.bool true) ∧ Gr w w' := by
  obtain ⟨W, hW, g, a0, a1, b0, b1, c0, c1⟩ := box222 w (.int .i64 r) (.int .i64 t) (.int .i64 r2) (.int .i64 t2) (.int .u8 l0) (.int .u8 l1) 40 40 41
  have HW := Lib.hid hW
  have hc1 : ∀ W, _ := fun W => checkRun_c r t W
  have hc2 : ∀ W, _ := fun W => checkRun_c r2 t2 W
  rw [runOk_iff.2 h1] at hc1
  rw [runOk_iff.2 h2] at hc2
  have HC1 := Lib.hid hc1
  have HC2 := Lib.hid hc2
  have HA := Lib.hid hA
  have HD1 : ∀ W, _ := fun W => Duel_c r t r2 t2 h1 h2 W
  have HD2 : ∀ W, _ := fun W => Duel_c r2 t2 r t h2 h1 W
  have hb1 := RunOk.iff.1 h1
  have hb2 := RunOk.iff.1 h2
  have he : RunOk (min r 99) t := RunOk.iff.2 ⟨by omega, hb1.2⟩
  have HD3 : ∀ W, _ := fun W => Duel_c (min r 99) t r2 t2 he h2 W
  have hE := duel_early (min r 99) t r2 t2 (by omega)
  have hF := duel_faster r t r2 t2 (max 100 (r - l0)) (max 1 (t - l1))
  have hf : RunOk (max 100 (r - l0)) (max 1 (t - l1)) := RunOk.iff.2 ⟨by omega, by omega⟩
  have HD4 : ∀ W, _ := fun W => Duel_c (max 100 (r - l0)) (max 1 (t - l1)) r2 t2 hf h2 W
  clear hA hW hc1 hc2
  have hr : (99 < r ∧ min r 99 = 99) ∨ (¬ 99 < r ∧ min r 99 = r) := by omega
  generalize duelE (min r 99) t r2 t2 = k at *
  generalize min r 99 = e at *
  by_cases hlast : duelE r t r2 t2 = 1 ∧ t ≠ 0
  case pos =>
    obtain ⟨hn, ht⟩ := hlast
    have hm : duelE r2 t2 r t = 2 := by
      rcases duel_turned r t r2 t2 with ⟨q1, q2⟩ | ⟨q1, q2⟩ | ⟨q1, q2⟩ | ⟨q1, q2⟩ <;> omega
    rw [hF hn (by omega) (by omega) (by omega) (by omega) (by omega)] at HD4
    rw [hn] at HD1
    rw [hm] at HD2
    have ht0 : (t == 0) = false := by simpa using ht
    have hr0 : decide (r < 0) = false := by simpa using hb1.1.1
    have hx : (100 < r - l0 ∧ max 100 (r - l0) = r - l0) ∨ (¬ 100 < r - l0 ∧ max 100 (r - l0) = 100) := by omega
    have hy : (1 < t - l1 ∧ max 1 (t - l1) = t - l1) ∨ (¬ 1 < t - l1 ∧ max 1 (t - l1) = 1) := by omega
    clear hf hF he h1 h2 hn hm ht
    generalize max 100 (r - l0) = x at *
    generalize max 1 (t - l1) = y at *
    have hw1 : IntKind.i64.wrap (r - l0) = r - l0 := by rw [IntKind.wrap_i64]; omega
    have hw2 : IntKind.i64.wrap (t - l1) = t - l1 := by rw [IntKind.wrap_i64]; omega
    have hk1 : (k == 1) = false := by rcases hE with rfl | rfl <;> rfl
    clear hE
    replace HD1 := Lib.hid HD1
    replace HD2 := Lib.hid HD2
    have hrr : (99 < r ∧ (if 99 < r then (99 : Int) else r) = e) ∨ (¬ 99 < r ∧ (if 99 < r then (99 : Int) else r) = e) := by
      rcases hr with ⟨q1, q2⟩ | ⟨q1, q2⟩
      · exact .inl ⟨q1, by rw [if_pos q1, q2]⟩
      · exact .inr ⟨q1, by rw [if_neg q1, q2]⟩
    clear hrr
    rcases hr with ⟨hr, rfl⟩ | ⟨hr, rfl⟩ <;> rcases hx with ⟨hx, rfl⟩ | ⟨hx, rfl⟩ <;> rcases hy with ⟨hy, rfl⟩ | ⟨hy, rfl⟩
    all_goals first | (exfalso; omega) | skip
    all_goals
      replace HD3 := Lib.hid HD3
      replace HD4 := Lib.hid HD4
      go_enter Tryz.func4, Tryz.ntmps4
      go_wp2_with fail
      rw [HW.out]
      repeat (first
        | (with_reducible refine (HA.out _ g).mono ?_; rintro e w4 ⟨rfl, hg⟩; replace g := g.trans hg; replace a0 := hg.cell a0; replace a1 := hg.cell a1; replace b0 := hg.cell b0; replace b1 := hg.cell b1; replace c0 := hg.cell c0; replace c1 := hg.cell c1; clear hg; go_wp2_with fail)
        | (with_reducible refine (HC1.out _).mono ?_; rintro e w4 ⟨rfl, hg⟩; replace g := g.trans hg; replace a0 := hg.cell a0; replace a1 := hg.cell a1; replace b0 := hg.cell b0; replace b1 := hg.cell b1; replace c0 := hg.cell c0; replace c1 := hg.cell c1; clear hg; go_wp2_with fail)
        | (with_reducible refine (HC2.out _).mono ?_; rintro e w4 ⟨rfl, hg⟩; replace g := g.trans hg; replace a0 := hg.cell a0; replace a1 := hg.cell a1; replace b0 := hg.cell b0; replace b1 := hg.cell b1; replace c0 := hg.cell c0; replace c1 := hg.cell c1; clear hg; go_wp2_with fail)
        | (with_reducible refine (HD1.out _).mono ?_; rintro e w4 ⟨rfl, hg⟩; replace g := g.trans hg; replace a0 := hg.cell a0; replace a1 := hg.cell a1; replace b0 := hg.cell b0; replace b1 := hg.cell b1; replace c0 := hg.cell c0; replace c1 := hg.cell c1; clear hg; go_wp2_with fail)
        | (with_reducible refine (HD2.out _).mono ?_; rintro e w4 ⟨rfl, hg⟩; replace g := g.trans hg; replace a0 := hg.cell a0; replace a1 := hg.cell a1; replace b0 := hg.cell b0; replace b1 := hg.cell b1; replace c0 := hg.cell c0; replace c1 := hg.cell c1; clear hg; have g1 : ∀ o, Gr w4 (w4.alloc o) := fun o => (Gr.refl _).alloc o; have g2 : ∀ o o2, Gr w4 ((w4.alloc o).alloc o2) := fun o o2 => ((Gr.refl _).alloc o).alloc o2; have gm := fun o o2 => g.trans (g2 o o2); have a0k := fun o => (g1 o).cell a0; have a0m := fun o o2 => (g2 o o2).cell a0; have a1k := fun o => (g1 o).cell a1; have a1m := fun o o2 => (g2 o o2).cell a1; have b0k := fun o => (g1 o).cell b0; have b0m := fun o o2 => (g2 o o2).cell b0; have b1k := fun o => (g1 o).cell b1; have b1m := fun o o2 => (g2 o o2).cell b1; have c0k := fun o => (g1 o).cell c0; have c0m := fun o o2 => (g2 o o2).cell c0; have c1k := fun o => (g1 o).cell c1; have c1m := fun o o2 => (g2 o o2).cell c1; clear g1 g2; go_wp2_with fail)
        | (with_reducible refine (HD3.out _).mono ?_; rintro e w5 ⟨rfl, hg⟩; have E0 := hg.cell (early0 _ _ _ _ _); have E1 := hg.cell (early1 _ _ _ _ _); replace g := (gm _ _).trans hg; replace a0 := hg.cell (a0m _ _); replace a1 := hg.cell (a1m _ _); replace b0 := hg.cell (b0m _ _); replace b1 := hg.cell (b1m _ _); replace c0 := hg.cell (c0m _ _); replace c1 := hg.cell (c1m _ _); clear hg gm a0k a0m a1k a1m b0k b0m b1k b1m c0k c0m c1k c1m; have g1 : ∀ o, Gr w5 (w5.alloc o) := fun o => (Gr.refl _).alloc o; have gn := fun o => g.trans (g1 o); have b0k := fun o => (g1 o).cell b0; have b1k := fun o => (g1 o).cell b1; clear g1; go_wp2_with fail)
        | (with_reducible refine (HD4.out _).mono ?_; rintro e w6 ⟨rfl, hg⟩; replace g := (gn _).trans hg; clear hg; go_wp2_with fail))
      go_ret
      exact ⟨rfl, g⟩
  case neg =>
    have hnm := duel_turned r t r2 t2
    generalize duelE r t r2 t2 = n at *
    generalize duelE r2 t2 r t = m at *
    have hlast2 : (n = 1 → (t == 0) = true) := fun h => by
      by_cases ht : t = 0
      · simpa using ht
      · exact absurd ⟨h, ht⟩ hlast
    clear hf HD4 hF he h1 h2 hlast
    have hr0 : decide (r < 0) = false := by simpa using hb1.1.1
    rcases hr with ⟨hr, rfl⟩ | ⟨hr, rfl⟩ <;> rcases hE with rfl | rfl <;> rcases hnm with ⟨rfl, rfl⟩ | ⟨rfl, rfl⟩ | ⟨rfl, rfl⟩ | ⟨rfl, rfl⟩
    all_goals
      replace HD1 := Lib.hid HD1
      replace HD2 := Lib.hid HD2
      replace HD3 := Lib.hid HD3
      try have ht0 := hlast2 rfl
      clear hlast2
      go_enter Tryz.func4, Tryz.ntmps4
      go_wp2_with fail
      rw [HW.out]
      repeat (first
        | (with_reducible refine (HA.out _ g).mono ?_; rintro e w4 ⟨rfl, hg⟩; replace g := g.trans hg; replace a0 := hg.cell a0; replace a1 := hg.cell a1; replace b0 := hg.cell b0; replace b1 := hg.cell b1; replace c0 := hg.cell c0; replace c1 := hg.cell c1; clear hg; go_wp2_with fail)
        | (with_reducible refine (HC1.out _).mono ?_; rintro e w4 ⟨rfl, hg⟩; replace g := g.trans hg; replace a0 := hg.cell a0; replace a1 := hg.cell a1; replace b0 := hg.cell b0; replace b1 := hg.cell b1; replace c0 := hg.cell c0; replace c1 := hg.cell c1; clear hg; go_wp2_with fail)
        | (with_reducible refine (HC2.out _).mono ?_; rintro e w4 ⟨rfl, hg⟩; replace g := g.trans hg; replace a0 := hg.cell a0; replace a1 := hg.cell a1; replace b0 := hg.cell b0; replace b1 := hg.cell b1; replace c0 := hg.cell c0; replace c1 := hg.cell c1; clear hg; go_wp2_with fail)
        | (with_reducible refine (HD1.out _).mono ?_; rintro e w4 ⟨rfl, hg⟩; replace g := g.trans hg; replace a0 := hg.cell a0; replace a1 := hg.cell a1; replace b0 := hg.cell b0; replace b1 := hg.cell b1; replace c0 := hg.cell c0; replace c1 := hg.cell c1; clear hg; go_wp2_with fail)
        | (with_reducible refine (HD2.out _).mono ?_; rintro e w4 ⟨rfl, hg⟩; replace g := g.trans hg; replace a0 := hg.cell a0; replace a1 := hg.cell a1; replace b0 := hg.cell b0; replace b1 := hg.cell b1; replace c0 := hg.cell c0; replace c1 := hg.cell c1; clear hg; have g1 : ∀ o, Gr w4 (w4.alloc o) := fun o => (Gr.refl _).alloc o; have g2 : ∀ o o2, Gr w4 ((w4.alloc o).alloc o2) := fun o o2 => ((Gr.refl _).alloc o).alloc o2; have gm := fun o o2 => g.trans (g2 o o2); have a0k := fun o => (g1 o).cell a0; have a0m := fun o o2 => (g2 o o2).cell a0; have a1k := fun o => (g1 o).cell a1; have a1m := fun o o2 => (g2 o o2).cell a1; have b0k := fun o => (g1 o).cell b0; have b0m := fun o o2 => (g2 o o2).cell b0; have b1k := fun o => (g1 o).cell b1; have b1m := fun o o2 => (g2 o o2).cell b1; have c0k := fun o => (g1 o).cell c0; have c0m := fun o o2 => (g2 o o2).cell c0; have c1k := fun o => (g1 o).cell c1; have c1m := fun o o2 => (g2 o o2).cell c1; clear g1 g2; go_wp2_with fail)
        | (with_reducible refine (HD3.out _).mono ?_; rintro e w5 ⟨rfl, hg⟩; have E0 := hg.cell (early0 _ _ _ _ _); have E1 := hg.cell (early1 _ _ _ _ _); replace g := (gm _ _).trans hg; replace a0 := hg.cell (a0m _ _); replace a1 := hg.cell (a1m _ _); replace b0 := hg.cell (b0m _ _); replace b1 := hg.cell (b1m _ _); replace c0 := hg.cell (c0m _ _); replace c1 := hg.cell (c1m _ _); clear hg gm a0k a0m a1k a1m b0k b0m b1k b1m c0k c0m c1k c1m; go_wp2_with fail))
      go_ret
      exact ⟨rfl, g⟩
end Go.Proofs.YtdpdbgcdmpdaoaaGreatDoor
