/- the law StartCalls. -/
import Derived.Test.YtdpdbgcdmpdaoaaGreatDoorCallF
namespace Go.Proofs.YtdpdbgcdmpdaoaaGreatDoor
open Go.RowKit Go.Lib
set_option maxHeartbeats 2000000 in
set_option maxRecDepth 100000 in
/-- more climbers than are compared -/
theorem lawc_many (n f e m t : Int) (hn : 40 < n ∧ n ≤ 160) (w : World) (hA : ∀ W, Gr w W → Calls Tryz.prog 5 #[] W fun e w' => e = .returned (.bool true) ∧ Gr W w') :
    Calls Tryz.prog 3 #[.int .i64 n, .agg #[.int .i64 f, .int .i64 e, .int .i64 m, .int .i64 t]] w fun x w' => x = .returned (.bool true) ∧ Gr w w' := by
  obtain ⟨W, hW, g, a0, a1, a2, a3⟩ := box4 w (.int .i64 f) (.int .i64 e) (.int .i64 m) (.int .i64 t) 23
  have HA := Lib.hid hA
  have HW := Lib.hid hW
  have h1 : decide (40 < n) = true := by simpa using hn.1
  have h2 : decide (n ≤ 160) = true := by simpa using hn.2
  clear hA hW
  go_enter Tryz.func3, Tryz.ntmps3
  go_wp2_with fail
  rw [HW.out]
  repeat (first
    | (with_reducible refine (HA.out _ g).mono ?_; rintro e w4 ⟨rfl, hg⟩; replace g := g.trans hg; replace a0 := hg.cell a0; replace a1 := hg.cell a1; replace a2 := hg.cell a2; replace a3 := hg.cell a3; clear hg; go_wp2_with fail))
  go_ret
  exact ⟨rfl, g⟩
theorem callsE_or (n f e : Int) : callsE n f e = 0 ∨ callsE n f e = 3 := by
  unfold callsE
  split
  · exact .inr rfl
  · exact .inl rfl
theorem callsE_zero {n f e : Int} : callsE n f e = 0 ↔ Times n f e := by
  unfold callsE
  rcases outE_or n 0 160 with h1 | h1 <;> rcases outE_or f 0 86399999 with h2 | h2 <;> rcases outE_or e 0 86399999 with h3 | h3 <;> simp [h1, h2, h3]
  · exact ⟨outE_zero.1 h1, outE_zero.1 h2, outE_zero.1 h3⟩
  all_goals
    intro h
    have k1 := outE_zero.2 h.n
    have k2 := outE_zero.2 h.f
    have k3 := outE_zero.2 h.e
    omega
theorem firstE3 : ∀ {l : List Int}, (∀ x ∈ l, x = 0 ∨ x = 3) → firstE l = 0 ∨ firstE l = 3
  | [], _ => .inl rfl
  | y :: l, h => by
    unfold firstE
    rcases h y (by simp) with rfl | rfl
    · simpa using firstE3 fun x hx => h x (by simp [hx])
    · exact .inr rfl
theorem startsE_or (n f e : Int) {ex : Int} (h : ex = 0 ∨ ex = 3) : startsE n f e ex = 0 ∨ startsE n f e ex = 3 :=
  firstE3 fun x hx => by
    simp at hx
    rcases hx with rfl | rfl | rfl | rfl
    · exact outE_or _ _ _
    · exact outE_or _ _ _
    · exact outE_or _ _ _
    · exact h
theorem fst2_or {x y : Int} (hx : x = 0 ∨ x = 3) (hy : y = 0 ∨ y = 3) : fst2 x y = 0 ∨ fst2 x y = 3 := by
  rcases hx with rfl | rfl
  · exact hy
  · exact .inr rfl
theorem bad_errs {n f e m : Int} (t : Int) (h : fst2 (callsE n f e) (outE m 0 86399999) ≠ 0) : calE n f e m = 3 ∧ isoE n f e m t = 3 ∧ fst2 (callsE n f e) (outE m 0 86399999) = 3 := by
  have hno : ∀ ex, (ex = 0 → outE m 0 86399999 = 0) → startsE n f e ex ≠ 0 := fun ex hex h0 => by
    obtain ⟨h1, h2⟩ := startsE_zero h0
    exact h (by rw [callsE_zero.2 h1]; exact hex h2)
  have e1 : startsE n f e (outE m 0 86399999) = 3 := (startsE_or n f e (outE_or _ _ _)).resolve_left (hno _ id)
  have e2 : startsE n f e (fst2 (outE m 0 86399999) (outE t 0 86399999)) = 3 := (startsE_or n f e (fst2_or (outE_or _ _ _) (outE_or _ _ _))).resolve_left (hno _ fun h => (fst2_zero h).1)
  refine ⟨?_, ?_, (fst2_or (callsE_or _ _ _) (outE_or _ _ _)).resolve_left h⟩
  · unfold calE fullE
    rw [e1]
    rfl
  · unfold isoE fullE
    rw [e2]
    rfl
set_option maxHeartbeats 2000000 in
set_option maxRecDepth 100000 in
/-- times that are none -/
theorem lawc_bad (n f e m t : Int) (h1 : (decide (40 < n) && decide (n ≤ 160)) = false) (h : fst2 (callsE n f e) (outE m 0 86399999) ≠ 0) (w : World) (hA : ∀ W, Gr w W → Calls Tryz.prog 5 #[] W fun e w' => e = .returned (.bool true) ∧ Gr W w') :
    Calls Tryz.prog 3 #[.int .i64 n, .agg #[.int .i64 f, .int .i64 e, .int .i64 m, .int .i64 t]] w fun x w' => x = .returned (.bool true) ∧ Gr w w' := by
  obtain ⟨W, hW, g, a0, a1, a2, a3⟩ := box4 w (.int .i64 f) (.int .i64 e) (.int .i64 m) (.int .i64 t) 23
  have HA := Lib.hid hA
  have HW := Lib.hid hW
  obtain ⟨e1, e2, e3⟩ := bad_errs t h
  have hC : ∀ W, _ := fun W => cal_err n f e m (by rw [e1]; decide) W
  have hI : ∀ W, _ := fun W => iso_err n f e m t (by rw [e2]; decide) W
  rw [e1] at hC
  rw [e2] at hI
  have HC := Lib.hid hC
  have HI := Lib.hid hI
  have HK := Lib.hid (fun W => checkCalls_c n f e W)
  have HO := Lib.hid (fun W => outside_c m 0 86399999 W)
  have HT := Lib.hid (fun W => outside_c t 0 86399999 W)
  generalize callsE n f e = x1 at *
  generalize outE m 0 86399999 = x2 at *
  generalize outE t 0 86399999 = x3 at *
  have HF1 : ∀ b cap W, _ := fun b cap W => lawFirst_c x1 x2 b cap W
  have HF2 : ∀ b cap W, _ := fun b cap W => lawFirst_c 3 x3 b cap W
  rw [e3] at HF1
  rw [show fst2 3 x3 = 3 from rfl] at HF2
  replace HF1 := Lib.hid HF1
  replace HF2 := Lib.hid HF2
  have HL := Lib.hid (fun W => list_err 3 (by decide) W)
  clear hA hW hC hI h e1 e2 e3
  have h2 : decide (40 < n) = false ∨ (decide (40 < n) = true ∧ decide (n ≤ 160) = false) := by
    cases q1 : decide (40 < n)
    · exact .inl rfl
    · rw [q1] at h1; exact .inr ⟨rfl, by simpa using h1⟩
  clear h1
  rcases h2 with h2 | ⟨h2, h3⟩
  all_goals
    go_enter Tryz.func3, Tryz.ntmps3
    go_wp2_with fail
    rw [HW.out]
    repeat (first
      | (with_reducible refine (HA.out _ g).mono ?_; rintro e w4 ⟨rfl, hg⟩; replace g := g.trans hg; replace a0 := hg.cell a0; replace a1 := hg.cell a1; replace a2 := hg.cell a2; replace a3 := hg.cell a3; clear hg; go_wp2_with fail)
      | (with_reducible refine (HC.out _).mono ?_; rintro e w4 ⟨rfl, hg⟩; replace g := g.trans hg; replace a0 := hg.cell a0; replace a1 := hg.cell a1; replace a2 := hg.cell a2; replace a3 := hg.cell a3; clear hg; go_wp2_with fail)
      | (with_reducible refine (HI.out _).mono ?_; rintro e w4 ⟨rfl, hg⟩; replace g := g.trans hg; replace a0 := hg.cell a0; replace a1 := hg.cell a1; replace a2 := hg.cell a2; replace a3 := hg.cell a3; clear hg; go_wp2_with fail)
      | (with_reducible refine (HK.out _).mono ?_; rintro e w4 ⟨rfl, rfl⟩; go_wp2_with fail)
      | (with_reducible refine (HO.out _).mono ?_; rintro e w4 ⟨rfl, rfl⟩; go_wp2_with fail)
      | (with_reducible refine (HT.out _).mono ?_; rintro e w4 ⟨rfl, rfl⟩; go_wp2_with fail))
    go_region_held3 (fun w' => w'.cell? ⟨w.heap.size, 0, none⟩ = some (.int .i64 f) ∧ w'.cell? ⟨w.heap.size, 1, none⟩ = some (.int .i64 e) ∧ w'.cell? ⟨w.heap.size, 2, none⟩ = some (.int .i64 m) ∧ w'.cell? ⟨w.heap.size, 3, none⟩ = some (.int .i64 t))
      ((first | exact ⟨a0, a1, a2, a3⟩ | exact ⟨Gr.cell ((Gr.refl _).drew.alloc _) a0, Gr.cell ((Gr.refl _).drew.alloc _) a1, Gr.cell ((Gr.refl _).drew.alloc _) a2, Gr.cell ((Gr.refl _).drew.alloc _) a3⟩))
      ((first
      | (go_at_call 9; refine (HK.out _).mono ?_; rintro e w' ⟨rfl, rfl⟩)
      | (go_at_call 10; refine (HO.out _).mono ?_; rintro e w' ⟨rfl, rfl⟩)
      | (go_at_call 8; refine (HF1.out _ _ _ (by first | exact two_new0 _ _ _ _ | exact two_newD0 _ _ _ _) (by first | exact two_new1 _ _ _ _ | exact two_newD1 _ _ _ _)).mono ?_; rintro e w' ⟨rfl, rfl⟩)))
    obtain ⟨q0, q1, q2, q3⟩ := ‹_ ∧ _ ∧ _ ∧ _›
    replace g := (g.alloc (.cells #[.int .i64 x1, .int .i64 x2] 3)).drew
    obtain ⟨w5, hwo⟩ : ∃ q, (w4.alloc (.cells #[.int .i64 x1, .int .i64 x2] 3)).drew = q := ⟨_, rfl⟩
    rw [hwo] at q0 q1 q2 q3 g ⊢
    clear a0 a1 a2 a3 hwo
    have a0 := q0; have a1 := q1; have a2 := q2; have a3 := q3; clear q0 q1 q2 q3
    go_wp2_with fail
    with_reducible refine (HT.out _).mono ?_
    rintro e w9 ⟨rfl, rfl⟩
    go_wp2_with fail
    have a4 := cell_new w5 #[.int .i64 3, .int .i64 x3] 3 0 (by simp)
    have a5 := cell_new w5 #[.int .i64 3, .int .i64 x3] 3 1 (by simp)
    have gg := (Gr.refl w5).alloc (.cells #[.int .i64 3, .int .i64 x3] 3)
    obtain ⟨w6, hwo⟩ : ∃ q, w5.alloc (.cells #[.int .i64 3, .int .i64 x3] 3) = q := ⟨_, rfl⟩
    rw [hwo] at a4 a5 gg ⊢
    replace g := g.trans gg
    replace a0 := gg.cell a0
    replace a1 := gg.cell a1
    replace a2 := gg.cell a2
    replace a3 := gg.cell a3
    clear hwo gg
    refine (HF2.out _ _ _ a4 a5).mono ?_
    rintro e w9 ⟨rfl, rfl⟩
    clear a4 a5
    go_wp2_with fail
    repeat (first
      | (with_reducible refine (HL.out _).mono ?_; rintro e w4 ⟨rfl, rfl⟩; go_wp2_with fail))
    go_ret
    exact ⟨rfl, g⟩
theorem late_errs {n f e m : Int} (t : Int) (hT : Times n f e) (hm : outE m 0 86399999 = 0) : (calE n f e m = if decide (86399999 < f + (n - 1) * e) then 4 else 0) ∧
    (outE t 0 86399999 = 0 → isoE n f e m t = if decide (86399999 < f + (n - 1) * e) then 4 else 0) ∧ (outE t 0 86399999 = 3 → isoE n f e m t = 3) := by
  have hs : ∀ ex, startsE n f e ex = ex := fun ex => by
    have k1 := outE_zero.2 hT.n
    have k2 := outE_zero.2 hT.f
    have k3 := outE_zero.2 hT.e
    unfold startsE
    rw [k1, k2, k3]
    simp only [firstE, if_true]
    split <;> simp_all
  refine ⟨?_, fun h => ?_, fun h => ?_⟩
  · unfold calE fullE
    rw [hs, hm, if_pos rfl]
  · unfold isoE fullE
    rw [hs, hm, h]
    rfl
  · unfold isoE fullE
    rw [hs, hm, h]
    rfl
theorem lateE_eq {n f e : Int} (hT : Times n f e) : lateE n f e = if decide (86399999 < f + (n - 1) * e) then 4 else 0 := by
  unfold lateE lateB
  by_cases h : 0 < n
  · simp [h]
  · have h0 : n = 0 := by have := hT.n; omega
    subst h0
    have := hT.f
    have := hT.e
    have q : decide (86399999 < f + (0 - 1) * e) = false := by simp; omega
    rw [q]
    simp
set_option maxHeartbeats 4000000 in
set_option maxRecDepth 100000 in
/-- a start that is too late -/
theorem lawc_late (n f e m t : Int) (h1 : (decide (40 < n) && decide (n ≤ 160)) = false) (hT : Times n f e) (hm : outE m 0 86399999 = 0) (hl : decide (86399999 < f + (n - 1) * e) = true) (w : World) (hA : ∀ W, Gr w W → Calls Tryz.prog 5 #[] W fun e w' => e = .returned (.bool true) ∧ Gr W w') :
    Calls Tryz.prog 3 #[.int .i64 n, .agg #[.int .i64 f, .int .i64 e, .int .i64 m, .int .i64 t]] w fun x w' => x = .returned (.bool true) ∧ Gr w w' := by
  obtain ⟨W, hW, g, a0, a1, a2, a3⟩ := box4 w (.int .i64 f) (.int .i64 e) (.int .i64 m) (.int .i64 t) 23
  have HA := Lib.hid hA
  have HW := Lib.hid hW
  obtain ⟨e1, e2, e3⟩ := late_errs t hT hm
  have e4 := lateE_eq hT
  have e5 := callsE_zero.2 hT
  rw [hl] at e1 e2 e4
  have hC : ∀ W, _ := fun W => cal_err n f e m (by rw [e1]; decide) W
  rw [e1] at hC
  have HC := Lib.hid hC
  have hK : ∀ W, _ := fun W => checkCalls_c n f e W
  rw [e5] at hK
  have hO : ∀ W, _ := fun W => outside_c m 0 86399999 W
  rw [hm] at hO
  have hLt : ∀ W, _ := fun W => late_c n f e hT W
  rw [e4] at hLt
  have HK := Lib.hid hK
  have HO := Lib.hid hO
  have HLT := Lib.hid hLt
  have hTm : ∀ W, _ := fun W => outside_c t 0 86399999 W
  have HF1 := Lib.hid (fun b cap W => lawFirst_c 0 0 b cap W)
  have hI : isoE n f e m t ≠ 0 → ∀ W, _ := fun h W => iso_err n f e m t h W
  have hcase : (outE t 0 86399999 = 0 ∧ isoE n f e m t = 4) ∨ (outE t 0 86399999 = 3 ∧ isoE n f e m t = 3) := by
    rcases outE_or t 0 86399999 with h | h
    · exact .inl ⟨h, e2 h⟩
    · exact .inr ⟨h, e3 h⟩
  clear hA hW hC hK hO hLt e1 e2 e3 e4 e5 hl hm
  have h2 : decide (40 < n) = false := by
    cases q1 : decide (40 < n)
    · rfl
    · rw [q1] at h1
      have q2 : decide (n ≤ 160) = true := by simpa using hT.n.2
      rw [q2] at h1
      cases h1
  clear h1 hT
  rcases hcase with ⟨h3, h4⟩ | ⟨h3, h4⟩
  · rw [h3] at hTm
    rw [h4] at hI
    have HT := Lib.hid hTm
    have HI := Lib.hid (hI (by decide))
    have HF2 := Lib.hid (fun b cap W => lawFirst_c 0 0 b cap W)
    rw [show fst2 0 0 = 0 from rfl] at HF2
    rw [show fst2 0 0 = 0 from rfl] at HF1
    have HL := Lib.hid (fun W => list_err 4 (by decide) W)
    clear hTm hI h3 h4
    go_enter Tryz.func3, Tryz.ntmps3
    go_wp2_with fail
    rw [HW.out]
    repeat (first
      | (with_reducible refine (HA.out _ g).mono ?_; rintro e w4 ⟨rfl, hg⟩; replace g := g.trans hg; replace a0 := hg.cell a0; replace a1 := hg.cell a1; replace a2 := hg.cell a2; replace a3 := hg.cell a3; clear hg; go_wp2_with fail)
      | (with_reducible refine (HC.out _).mono ?_; rintro e w4 ⟨rfl, hg⟩; replace g := g.trans hg; replace a0 := hg.cell a0; replace a1 := hg.cell a1; replace a2 := hg.cell a2; replace a3 := hg.cell a3; clear hg; go_wp2_with fail)
      | (with_reducible refine (HI.out _).mono ?_; rintro e w4 ⟨rfl, hg⟩; replace g := g.trans hg; replace a0 := hg.cell a0; replace a1 := hg.cell a1; replace a2 := hg.cell a2; replace a3 := hg.cell a3; clear hg; go_wp2_with fail))
    go_region_held3 (fun w' => w'.cell? ⟨w.heap.size, 0, none⟩ = some (.int .i64 f) ∧ w'.cell? ⟨w.heap.size, 1, none⟩ = some (.int .i64 e) ∧ w'.cell? ⟨w.heap.size, 2, none⟩ = some (.int .i64 m) ∧ w'.cell? ⟨w.heap.size, 3, none⟩ = some (.int .i64 t))
      ((first | exact ⟨a0, a1, a2, a3⟩ | exact ⟨Gr.cell ((Gr.refl _).drew.alloc _) a0, Gr.cell ((Gr.refl _).drew.alloc _) a1, Gr.cell ((Gr.refl _).drew.alloc _) a2, Gr.cell ((Gr.refl _).drew.alloc _) a3⟩))
      ((first
      | (go_at_call 9; refine (HK.out _).mono ?_; rintro e w' ⟨rfl, rfl⟩)
      | (go_at_call 10; refine (HO.out _).mono ?_; rintro e w' ⟨rfl, rfl⟩)
      | (go_at_call 8; refine (HF1.out _ _ _ (by first | exact two_new0 _ _ _ _ | exact two_newD0 _ _ _ _) (by first | exact two_new1 _ _ _ _ | exact two_newD1 _ _ _ _)).mono ?_; rintro e w' ⟨rfl, rfl⟩)))
    obtain ⟨q0, q1, q2, q3⟩ := ‹_ ∧ _ ∧ _ ∧ _›
    replace g := (g.alloc (.cells #[.int .i64 0, .int .i64 0] 3)).drew
    obtain ⟨w5, hwo⟩ : ∃ q, (w4.alloc (.cells #[.int .i64 0, .int .i64 0] 3)).drew = q := ⟨_, rfl⟩
    rw [hwo] at q0 q1 q2 q3 g ⊢
    clear a0 a1 a2 a3 hwo
    have a0 := q0; have a1 := q1; have a2 := q2; have a3 := q3; clear q0 q1 q2 q3
    go_wp2_with fail
    with_reducible refine (HT.out _).mono ?_
    rintro e w9 ⟨rfl, rfl⟩
    go_wp2_with fail
    have a4 := cell_new w5 #[.int .i64 0, .int .i64 0] 3 0 (by simp)
    have a5 := cell_new w5 #[.int .i64 0, .int .i64 0] 3 1 (by simp)
    have gg := (Gr.refl w5).alloc (.cells #[.int .i64 0, .int .i64 0] 3)
    obtain ⟨w6, hwo⟩ : ∃ q, w5.alloc (.cells #[.int .i64 0, .int .i64 0] 3) = q := ⟨_, rfl⟩
    rw [hwo] at a4 a5 gg ⊢
    replace g := g.trans gg
    replace a0 := gg.cell a0
    replace a1 := gg.cell a1
    replace a2 := gg.cell a2
    replace a3 := gg.cell a3
    clear hwo gg
    refine (HF2.out _ _ _ a4 a5).mono ?_
    rintro e w9 ⟨rfl, rfl⟩
    clear a4 a5
    go_wp2_with fail
    repeat (first
      | (with_reducible refine (HLT.out _).mono ?_; rintro e w4 ⟨rfl, rfl⟩; go_wp2_with fail)
      | (with_reducible refine (HL.out _).mono ?_; rintro e w4 ⟨rfl, rfl⟩; go_wp2_with fail))
    go_ret
    exact ⟨rfl, g⟩
  · rw [h3] at hTm
    rw [h4] at hI
    have HT := Lib.hid hTm
    have HI := Lib.hid (hI (by decide))
    have HF2 := Lib.hid (fun b cap W => lawFirst_c 0 3 b cap W)
    rw [show fst2 0 3 = 3 from rfl] at HF2
    rw [show fst2 0 0 = 0 from rfl] at HF1
    have HL := Lib.hid (fun W => list_err 3 (by decide) W)
    clear hTm hI h3 h4
    go_enter Tryz.func3, Tryz.ntmps3
    go_wp2_with fail
    rw [HW.out]
    repeat (first
      | (with_reducible refine (HA.out _ g).mono ?_; rintro e w4 ⟨rfl, hg⟩; replace g := g.trans hg; replace a0 := hg.cell a0; replace a1 := hg.cell a1; replace a2 := hg.cell a2; replace a3 := hg.cell a3; clear hg; go_wp2_with fail)
      | (with_reducible refine (HC.out _).mono ?_; rintro e w4 ⟨rfl, hg⟩; replace g := g.trans hg; replace a0 := hg.cell a0; replace a1 := hg.cell a1; replace a2 := hg.cell a2; replace a3 := hg.cell a3; clear hg; go_wp2_with fail)
      | (with_reducible refine (HI.out _).mono ?_; rintro e w4 ⟨rfl, hg⟩; replace g := g.trans hg; replace a0 := hg.cell a0; replace a1 := hg.cell a1; replace a2 := hg.cell a2; replace a3 := hg.cell a3; clear hg; go_wp2_with fail))
    go_region_held3 (fun w' => w'.cell? ⟨w.heap.size, 0, none⟩ = some (.int .i64 f) ∧ w'.cell? ⟨w.heap.size, 1, none⟩ = some (.int .i64 e) ∧ w'.cell? ⟨w.heap.size, 2, none⟩ = some (.int .i64 m) ∧ w'.cell? ⟨w.heap.size, 3, none⟩ = some (.int .i64 t))
      ((first | exact ⟨a0, a1, a2, a3⟩ | exact ⟨Gr.cell ((Gr.refl _).drew.alloc _) a0, Gr.cell ((Gr.refl _).drew.alloc _) a1, Gr.cell ((Gr.refl _).drew.alloc _) a2, Gr.cell ((Gr.refl _).drew.alloc _) a3⟩))
      ((first
      | (go_at_call 9; refine (HK.out _).mono ?_; rintro e w' ⟨rfl, rfl⟩)
      | (go_at_call 10; refine (HO.out _).mono ?_; rintro e w' ⟨rfl, rfl⟩)
      | (go_at_call 8; refine (HF1.out _ _ _ (by first | exact two_new0 _ _ _ _ | exact two_newD0 _ _ _ _) (by first | exact two_new1 _ _ _ _ | exact two_newD1 _ _ _ _)).mono ?_; rintro e w' ⟨rfl, rfl⟩)))
    obtain ⟨q0, q1, q2, q3⟩ := ‹_ ∧ _ ∧ _ ∧ _›
    replace g := (g.alloc (.cells #[.int .i64 0, .int .i64 0] 3)).drew
    obtain ⟨w5, hwo⟩ : ∃ q, (w4.alloc (.cells #[.int .i64 0, .int .i64 0] 3)).drew = q := ⟨_, rfl⟩
    rw [hwo] at q0 q1 q2 q3 g ⊢
    clear a0 a1 a2 a3 hwo
    have a0 := q0; have a1 := q1; have a2 := q2; have a3 := q3; clear q0 q1 q2 q3
    go_wp2_with fail
    with_reducible refine (HT.out _).mono ?_
    rintro e w9 ⟨rfl, rfl⟩
    go_wp2_with fail
    have a4 := cell_new w5 #[.int .i64 0, .int .i64 3] 3 0 (by simp)
    have a5 := cell_new w5 #[.int .i64 0, .int .i64 3] 3 1 (by simp)
    have gg := (Gr.refl w5).alloc (.cells #[.int .i64 0, .int .i64 3] 3)
    obtain ⟨w6, hwo⟩ : ∃ q, w5.alloc (.cells #[.int .i64 0, .int .i64 3] 3) = q := ⟨_, rfl⟩
    rw [hwo] at a4 a5 gg ⊢
    replace g := g.trans gg
    replace a0 := gg.cell a0
    replace a1 := gg.cell a1
    replace a2 := gg.cell a2
    replace a3 := gg.cell a3
    clear hwo gg
    refine (HF2.out _ _ _ a4 a5).mono ?_
    rintro e w9 ⟨rfl, rfl⟩
    clear a4 a5
    go_wp2_with fail
    repeat (first
      | (with_reducible refine (HLT.out _).mono ?_; rintro e w4 ⟨rfl, rfl⟩; go_wp2_with fail)
      | (with_reducible refine (HL.out _).mono ?_; rintro e w4 ⟨rfl, rfl⟩; go_wp2_with fail))
    go_ret
    exact ⟨rfl, g⟩
end Go.Proofs.YtdpdbgcdmpdaoaaGreatDoor
