/- Open values: slices.Grow and slices.Concat, walked. -/
import Derived.Test.YtjhgjlgoigpgnaaGreatDoorOpJ
namespace Go.Proofs.YtjhgjlgoigpgnaaGreatDoor
open Go.RowKit Go.Lib
set_option linter.unusedSimpArgs false
set_option linter.unusedVariables false
theorem grow_zero (w : World) :
    Calls Tryz.prog 148 #[.slice none 0 0, .int .i64 0] w fun e w' => ∃ v, e = .returned v ∧ w'.ownsRow w.heap.size 75 3 v 0 [] ∧ Gr w w' := by
  go_enter Tryz.func148, Tryz.ntmps148
  go_wp2_with fail
  go_ret
  exact ⟨_, rfl, World.ownsRow_nil _ _ _ _, Gr.refl _⟩
set_option maxHeartbeats 1000000 in
set_option maxRecDepth 100000 in
theorem grow_pos (l : Nat) (w : World) (h0 : 0 < l) (hl : l ≤ 1000) :
    Calls Tryz.prog 148 #[.slice none 0 0, .int .i64 l] w fun e w' => ∃ v, e = .returned v ∧ w'.ownsRow w.heap.size 75 3 v 0 [] ∧ Gr w w' := by
  obtain ⟨i0, hi, hz0, hz1, hz2⟩ := info_parts info75
  have h1 : (0 : Int) < l := by omega
  go_enter Tryz.func148, Tryz.ntmps148
  go_wp2_with (first
    | (at_builtin; refine wpList_append_made rfl _ _ 38 3 rfl 75 .i64 i0 (.agg #[.string ⟨#[]⟩, .int .i64 0, .int .i64 0]) 3 Tryz.underlying38 hi Tryz.underlying3 hz0 hz1 rfl (by rw [hz2]; decide) l h0 (by omega) rfl .i64 rfl ?_; intro N C hN hM hC))
  go_ret
  refine ⟨_, rfl, ⟨rfl, .inr ⟨w.heap.size, N, C, rfl, Nat.le_refl _, heap_alloc_new w _, Nat.zero_le _, hM, hC, by simp⟩⟩, ((Gr.refl w).alloc _).drew⟩
theorem grow_c (z : Int) (l : Nat) (hz : z = l) (w : World) (hl : l ≤ 1000) :
    Calls Tryz.prog 148 #[.slice none 0 0, .int .i64 z] w fun e w' => ∃ v, e = .returned v ∧ w'.ownsRow w.heap.size 75 3 v 0 [] ∧ Gr w w' := by
  subst hz
  rcases Nat.eq_zero_or_pos l with rfl | h0
  · exact grow_zero w
  · exact grow_pos l w h0 hl
theorem opCs_one (xs : List OpR) : ∀ u ∈ opCs xs, u.oneCell' = true := by
  intro u hu
  simp only [opCs, List.mem_flatMap] at hu
  obtain ⟨x, _, hx⟩ := hu
  simp only [opC, List.mem_cons, List.not_mem_nil, or_false] at hx
  rcases hx with rfl | rfl | rfl <;> rfl
theorem opCs_append (xs ys : List OpR) : opCs (xs ++ ys) = opCs xs ++ opCs ys := by simp [opCs]
set_option maxHeartbeats 1000000 in
set_option maxRecDepth 100000 in
theorem concat_c (ys1 ys2 : List OpR) (D m1 m2 c1 c2 cap : Nat) (A1 A2 : Addr) (w : World) (hm1 : ys1.length = m1) (hm2 : ys2.length = m2) (hl1 : m1 ≤ 400) (hl2 : m2 ≤ 400)
    (hD0 : w.cell? ⟨D, 0, none⟩ = some (.slice (some A1) m1 c1)) (hD1 : w.cell? ⟨D, 1, none⟩ = some (.slice (some A2) m2 c2))
    (h1 : ∀ j u, (opCs ys1)[j]? = some u → w.cell? (A1.add j) = some u) (h2 : ∀ j u, (opCs ys2)[j]? = some u → w.cell? (A2.add j) = some u) :
    Calls Tryz.prog 102 #[.slice (some ⟨D, 0, none⟩) 2 cap] w fun e w' => ∃ v, e = .returned v ∧ w'.ownsRow w.heap.size 75 3 v (m1 + m2) (opCs (ys1 ++ ys2)) ∧ Gr w w' := by
  obtain ⟨i0, hi, hz0, hz1, hz2⟩ := info_parts info75
  have hG := fun W => grow_c ((m1 : Int) + m2) (m1 + m2) (by omega) W (by omega)
  have HG := Lib.hid hG
  have H1 := Lib.hid h1
  have H2 := Lib.hid h2
  have HL1 := Lib.hid (show (opCs ys1).length = m1 * 3 by rw [opCs_len, hm1])
  have HL2 := Lib.hid (show (opCs ys2).length = m2 * 3 by rw [opCs_len, hm2])
  have hw1 : IntKind.i64.wrap ((m1 : Int) + m2) = m1 + m2 := by rw [IntKind.wrap_i64]; omega
  have hw0 : IntKind.i64.wrap (m1 : Int) = m1 := by rw [IntKind.wrap_i64]; omega
  have hn1 : ¬ ((m1 : Int) < 0) := by omega
  have hn2 : ¬ ((m1 : Int) + m2 < 0) := by omega
  clear hG h1 h2 hm1 hm2
  go_enter Tryz.func102, Tryz.ntmps102
  go_wp2_with fail
  refine wp_loop_rounds 3 ?_
  rw [rounds_succ]
  go_wp2_with fail
  rw [rounds_succ]
  go_wp2_with fail
  rw [rounds_succ]
  go_wp2_with fail
  have E1 := Lib.hid hD1
  refine (HG.out _).mono ?_
  rintro e W1 ⟨v, rfl, hown, hg⟩
  replace hD0 := hg.cell hD0
  replace hD1 := hg.cell hD1
  have hs1 := hg.size
  go_wp2_with fail
  refine wp_loop_rounds 3 ?_
  rw [rounds_succ]
  go_wp2_with (first
    | (at_builtin; refine wpList_append_own _ rfl _ _ 38 rfl w.heap.size 75 i0 (.agg #[.string ⟨#[]⟩, .int .i64 0, .int .i64 0]) 3 32 Tryz.underlying38 hi hz0 hz1 hz2 rfl (by decide) _ _ _ rfl hown A1 m1 c1 (opCs ys1) rfl HL1.out (fun j u hu => hg.cell (H1.out j u hu)) (opCs_one ys1) (by unfold maxLen; omega) (by omega) hs1 ?_; intro v1 w1 hown1 hgrow1 hnil1))
  have hb : Gr w w1 := Below.grown hg hgrow1 hs1 (fun j hj => (hown.lt j hj).1)
  have hd1 := hb.cell E1.out
  have hs2 := hb.size
  clear hgrow1 hnil1 hD0 hD1
  rw [rounds_succ]
  go_wp2_with (first
    | (at_builtin; refine wpList_append_own _ rfl _ _ 38 rfl w.heap.size 75 i0 (.agg #[.string ⟨#[]⟩, .int .i64 0, .int .i64 0]) 3 32 Tryz.underlying38 hi hz0 hz1 hz2 rfl (by decide) _ _ _ rfl hown1 A2 m2 c2 (opCs ys2) rfl HL2.out (fun j u hu => hb.cell (H2.out j u hu)) (opCs_one ys2) (by unfold maxLen; omega) (by omega) hs2 ?_; intro v2 w2 hown2 hgrow2 hnil2))
  have hb2 : Gr w w2 := Below.grown hb hgrow2 hs2 (fun j hj => (hown1.lt j hj).1)
  clear hgrow2 hnil2
  rw [rounds_succ]
  go_wp2_with fail
  go_ret
  refine ⟨_, rfl, ?_, hb2⟩
  rw [opCs_append]
  simpa using hown2
end Go.Proofs.YtjhgjlgoigpgnaaGreatDoor
