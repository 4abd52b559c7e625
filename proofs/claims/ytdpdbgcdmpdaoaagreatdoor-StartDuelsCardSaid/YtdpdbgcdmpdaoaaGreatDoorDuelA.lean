/- start.Duel. -/
import Derived.Test.YtdpdbgcdmpdaoaaGreatDoorDuel
namespace Go.Proofs.YtdpdbgcdmpdaoaaGreatDoor
open Go.RowKit Go.Lib
structure RunOk (r t : Int) : Prop where
  r : outE r 0 86399999 = 0
  t : outE t 0 86399999 = 0
set_option maxHeartbeats 4000000 in
set_option maxRecDepth 100000 in
theorem Duel_c (r t r2 t2 : Int) (h : RunOk r t) (h2 : RunOk r2 t2) (w : World) :
    Calls Tryz.prog 16 #[.agg #[.int .i64 r, .int .i64 t], .agg #[.int .i64 r2, .int .i64 t2]] w fun e w' => e = .returned (.tuple #[.int .i64 (duelE r t r2 t2), .int .i64 0]) ∧ Gr w w' := by
  obtain ⟨W, hW, g, a0, a1, b0, b1⟩ := box22 w (.int .i64 r) (.int .i64 t) (.int .i64 r2) (.int .i64 t2) 40 40
  have HW := Lib.hid hW
  have HA := Lib.hid (fun W => runCheck_ok r t W h.r h.t)
  have HB := Lib.hid (fun W => runCheck_ok r2 t2 W h2.r h2.t)
  have HD := Lib.hid (fun W => duel_c r t r2 t2 W)
  generalize duelE r t r2 t2 = d at *
  clear hW
  go_enter Tryz.func16, Tryz.ntmps16
  go_wp2_with fail
  rw [HW.out]
  go_region_held3 (fun w' => w'.cell? ⟨w.heap.size, 0, none⟩ = some (.int .i64 r) ∧ w'.cell? ⟨w.heap.size, 1, none⟩ = some (.int .i64 t) ∧ w'.cell? ⟨w.heap.size + 1, 0, none⟩ = some (.int .i64 r2) ∧ w'.cell? ⟨w.heap.size + 1, 1, none⟩ = some (.int .i64 t2))
    ((first | exact ⟨a0, a1, b0, b1⟩ | exact ⟨Gr.cell hgY a0, Gr.cell hgY a1, Gr.cell hgY b0, Gr.cell hgY b1⟩ | exact ⟨Gr.cell hgX a0, Gr.cell hgX a1, Gr.cell hgX b0, Gr.cell hgX b1⟩ | exact ⟨Gr.cell (hgY.drew.alloc _) a0, Gr.cell (hgY.drew.alloc _) a1, Gr.cell (hgY.drew.alloc _) b0, Gr.cell (hgY.drew.alloc _) b1⟩))
    ((first
    | (go_at_call 37; with_reducible refine (HA.out _).mono ?_; rintro e w' ⟨rfl, hgX⟩; replace hgX : Gr W w' := (Gr.refl W).drew.trans hgX)
    | (go_at_call 37; with_reducible refine (HB.out _).mono ?_; rintro e w' ⟨rfl, hgZ⟩; have hgY : Gr W w' := hgX.trans hgZ)
    | (go_at_call 36; refine (first_two 0 0 _ _ _ (by first | exact two_new0 _ _ _ _ | exact two_newD0 _ _ _ _) (by first | exact two_new1 _ _ _ _ | exact two_newD1 _ _ _ _)).mono ?_; rintro e w' ⟨rfl, rfl⟩)))
  obtain ⟨q0, q1, q2, q3⟩ : _ ∧ _ ∧ _ ∧ _ := by assumption
  have HG := Lib.hid (g.trans (hgY.alloc (.cells #[.int .i64 0, .int .i64 0] 26)))
  go_wp2_with fail
  with_reducible refine (HD.out _).mono ?_
  rintro e w4 ⟨rfl, hg4⟩
  go_wp2_with fail
  exact bodyPost_ret (v := .tuple #[.int .i64 d, .int .i64 0]) (by simp [results, Tryz.results16, go_sem]) rfl ⟨rfl, HG.out.trans hg4⟩
/-! ### what the law says of the winner -/
theorem outE_zero {n l h : Int} : outE n l h = 0 ↔ l ≤ n ∧ n ≤ h := by
  unfold outE outB
  by_cases h1 : n < l
  · simp [h1] <;> omega
  · by_cases h2 : h < n
    · simp [h2] <;> omega
    · simp [h1, h2] <;> omega
theorem RunOk.iff {r t : Int} : RunOk r t ↔ (0 ≤ r ∧ r ≤ 86399999) ∧ (0 ≤ t ∧ t ≤ 86399999) :=
  ⟨fun h => ⟨outE_zero.1 h.r, outE_zero.1 h.t⟩, fun h => ⟨outE_zero.2 h.1, outE_zero.2 h.2⟩⟩
theorem runOk_iff {r t : Int} : runOk r t = true ↔ RunOk r t := by
  unfold runOk
  simp only [Bool.and_eq_true, beq_iff_eq]
  exact ⟨fun h => ⟨h.1, h.2⟩, fun h => ⟨h.r, h.t⟩⟩
theorem cmpE_cases (x y : Int) : (x < y ∧ cmpE x y = -1) ∨ (x = y ∧ cmpE x y = 0) ∨ (y < x ∧ cmpE x y = 1) := by
  unfold cmpE
  by_cases h1 : x < y
  · exact .inl ⟨h1, if_pos h1⟩
  · by_cases h2 : y < x
    · exact .inr (.inr ⟨h2, by rw [if_neg h1, if_pos h2]⟩)
    · exact .inr (.inl ⟨by omega, by rw [if_neg h1, if_neg h2]⟩)
theorem duel_turned (r t r2 t2 : Int) : (duelE r t r2 t2 = 0 ∧ duelE r2 t2 r t = 0) ∨ (duelE r t r2 t2 = 1 ∧ duelE r2 t2 r t = 2) ∨ (duelE r t r2 t2 = 2 ∧ duelE r2 t2 r t = 1) ∨ (duelE r t r2 t2 = 3 ∧ duelE r2 t2 r t = 3) := by
  unfold duelE
  generalize decide (r < 100) = fa
  generalize decide (r2 < 100) = fb
  generalize (t == 0) = la
  generalize (t2 == 0) = lb
  cases fa <;> cases fb <;> cases la <;> cases lb <;> simp [duelB]
  rcases cmpE_cases t t2 with ⟨h1, h2⟩ | ⟨h1, h2⟩ | ⟨h1, h2⟩ <;> rcases cmpE_cases t2 t with ⟨h3, h4⟩ | ⟨h3, h4⟩ | ⟨h3, h4⟩ <;> try omega
  all_goals
    rcases cmpE_cases r r2 with ⟨h5, h6⟩ | ⟨h5, h6⟩ | ⟨h5, h6⟩ <;> rcases cmpE_cases r2 r with ⟨h7, h8⟩ | ⟨h7, h8⟩ | ⟨h7, h8⟩ <;> (try omega) <;> simp [firstE, h2, h4, h6, h8]
theorem duel_early (r t r2 t2 : Int) (h : r < 100) : duelE r t r2 t2 = 2 ∨ duelE r t r2 t2 = 3 := by
  unfold duelE
  rw [show decide (r < 100) = true by simpa using h]
  generalize decide (r2 < 100) = fb
  cases fb <;> simp [duelB]
theorem duel_faster (r t r2 t2 r' t' : Int) (h : duelE r t r2 t2 = 1) (ht : 0 < t) (h1 : 100 ≤ r') (h2 : r' ≤ r ∨ r' = 100) (h3 : 0 < t') (h4 : t' ≤ t) : duelE r' t' r2 t2 = 1 := by
  unfold duelE at *
  rw [show decide (r' < 100) = false by simpa using h1, show (t' == 0) = false by simp; omega]
  rw [show (t == 0) = false by simp; omega] at h
  by_cases hr : r < 100
  · rw [show decide (r < 100) = true by simpa using hr] at h
    generalize decide (r2 < 100) = fb at h
    cases fb <;> simp [duelB] at h
  · rw [show decide (r < 100) = false by simpa using hr] at h
    generalize decide (r2 < 100) = fb at *
    generalize (t2 == 0) = lb at *
    cases fb <;> cases lb <;> simp [duelB] at h ⊢
    rcases cmpE_cases t t2 with ⟨k1, k2⟩ | ⟨k1, k2⟩ | ⟨k1, k2⟩ <;> rcases cmpE_cases r r2 with ⟨k3, k4⟩ | ⟨k3, k4⟩ | ⟨k3, k4⟩ <;> simp [firstE, k2, k4] at h
    all_goals
      rcases cmpE_cases t' t2 with ⟨k5, k6⟩ | ⟨k5, k6⟩ | ⟨k5, k6⟩ <;> rcases cmpE_cases r' r2 with ⟨k7, k8⟩ | ⟨k7, k8⟩ | ⟨k7, k8⟩ <;> (try omega) <;> simp [firstE, k6, k8]
end Go.Proofs.YtdpdbgcdmpdaoaaGreatDoor
