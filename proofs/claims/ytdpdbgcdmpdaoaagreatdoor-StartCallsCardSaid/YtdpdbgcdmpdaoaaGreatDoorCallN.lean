/- the law StartCalls, where it does not err. -/
import Derived.Test.YtdpdbgcdmpdaoaaGreatDoorCallM
namespace Go.Proofs.YtdpdbgcdmpdaoaaGreatDoor
open Go.RowKit Go.Lib
set_option maxHeartbeats 4000000 in
set_option maxRecDepth 100000 in
/-- a time that is none -/
theorem lawc_time (n f e m t : Int) (N : Nat) (hN : n = N) (h40 : N ≤ 40) (hT : Times n f e) (hm : outE m 0 86399999 = 0) (hl : decide (86399999 < f + (n - 1) * e) = false) (h3 : outE t 0 86399999 = 3) (w : World) (hA : ∀ W, Gr w W → Calls Tryz.prog 5 #[] W fun e w' => e = .returned (.bool true) ∧ Gr W w') :
    Calls Tryz.prog 3 #[.int .i64 n, .agg #[.int .i64 f, .int .i64 e, .int .i64 m, .int .i64 t]] w fun x w' => x = .returned (.bool true) ∧ Gr w w' := by
  subst hN
  obtain ⟨W, hW, g, a0, a1, a2, a3⟩ := box4 w (.int .i64 f) (.int .i64 e) (.int .i64 m) (.int .i64 t) 23
  have HA := Lib.hid hA
  have HW := Lib.hid hW
  obtain ⟨e1, e2, e3⟩ := late_errs t hT hm
  have e4 := lateE_eq hT
  have e5 := callsE_zero.2 hT
  rw [hl] at e1 e2 e4
  have hC : ∀ W, _ := fun W => cal_ok (N : Int) f e m N rfl e1 W
  have HC := Lib.hid hC
  have hK : ∀ W, _ := fun W => checkCalls_c (N : Int) f e W
  rw [e5] at hK
  have hO : ∀ W, _ := fun W => outside_c m 0 86399999 W
  rw [hm] at hO
  have hLt : ∀ W, _ := fun W => late_c (N : Int) f e hT W
  rw [e4] at hLt
  have HK := Lib.hid hK
  have HO := Lib.hid hO
  have HLT := Lib.hid hLt
  have hTm : ∀ W, _ := fun W => outside_c t 0 86399999 W
  have HF1 := Lib.hid (fun b cap W => lawFirst_c 0 0 b cap W)
  rw [show fst2 0 0 = 0 from rfl] at HF1
  have HRC := Lib.hid (fun W => refCalls_c (N : Int) f e m N rfl hT (outE_zero.1 hm) W)
  have HPN := Lib.hid pair_neq
  have HPG := Lib.hid pair_guard
  have h2 : decide (40 < (N : Int)) = false := by simp; omega
  have hI : ∀ W, _ := fun W => iso_err (N : Int) f e m t (by rw [e3 h3]; decide) W
  rw [e3 h3] at hI
  rw [h3] at hTm
  have HT := Lib.hid hTm
  have HI := Lib.hid hI
  have HF2 := Lib.hid (fun b cap W => lawFirst_c 0 3 b cap W)
  rw [show fst2 0 3 = 3 from rfl] at HF2
  have HL := Lib.hid (fun W => list_err 3 (by decide) W)
  clear hTm hI h3 hA hW hC hK hO hLt e1 e2 e3 e4 e5 hl hm hT
  go_enter Tryz.func3, Tryz.ntmps3
  go_wp2_with fail
  rw [HW.out]
  repeat (first
    | (with_reducible refine (HA.out _ g).mono ?_; rintro e w4 ⟨rfl, hg⟩; replace g := g.trans hg; replace a0 := hg.cell a0; replace a1 := hg.cell a1; replace a2 := hg.cell a2; replace a3 := hg.cell a3; clear hg; go_wp2_with fail))
  with_reducible refine (HC.out _).mono ?_
  rintro e w4 ⟨v1, rfl, ho, hg⟩
  have rp := readsP_of_owns ho
  clear ho
  replace g := g.trans hg
  replace a0 := hg.cell a0
  replace a1 := hg.cell a1
  replace a2 := hg.cell a2
  replace a3 := hg.cell a3
  clear hg
  go_wp2_with fail
  with_reducible refine (HI.out _).mono ?_
  rintro e w4 ⟨rfl, hg⟩
  replace rp := rp.gr hg
  replace g := g.trans hg
  replace a0 := hg.cell a0
  replace a1 := hg.cell a1
  replace a2 := hg.cell a2
  replace a3 := hg.cell a3
  clear hg
  go_wp2_with fail
  go_region_held3 (fun w' => w'.cell? ⟨w.heap.size, 0, none⟩ = some (.int .i64 f) ∧ w'.cell? ⟨w.heap.size, 1, none⟩ = some (.int .i64 e) ∧ w'.cell? ⟨w.heap.size, 2, none⟩ = some (.int .i64 m) ∧ w'.cell? ⟨w.heap.size, 3, none⟩ = some (.int .i64 t))
    ((first | exact ⟨a0, a1, a2, a3⟩ | exact ⟨Gr.cell ((Gr.refl _).drew.alloc _) a0, Gr.cell ((Gr.refl _).drew.alloc _) a1, Gr.cell ((Gr.refl _).drew.alloc _) a2, Gr.cell ((Gr.refl _).drew.alloc _) a3⟩))
    ((first
    | (go_at_call 9; refine (HK.out _).mono ?_; rintro e w' ⟨rfl, rfl⟩)
    | (go_at_call 10; refine (HO.out _).mono ?_; rintro e w' ⟨rfl, rfl⟩)
    | (go_at_call 8; refine (HF1.out _ _ _ (by first | exact two_new0 _ _ _ _ | exact two_newD0 _ _ _ _) (by first | exact two_new1 _ _ _ _ | exact two_newD1 _ _ _ _)).mono ?_; rintro e w' ⟨rfl, rfl⟩)))
  obtain ⟨q0, q1, q2, q3⟩ := ‹_ ∧ _ ∧ _ ∧ _›
  have gg := ((Gr.refl w4).alloc (.cells #[.int .i64 0, .int .i64 0] 3)).drew
  replace g := g.trans gg
  replace rp := rp.gr gg
  obtain ⟨w5, hwo⟩ : ∃ q, (w4.alloc (.cells #[.int .i64 0, .int .i64 0] 3)).drew = q := ⟨_, rfl⟩
  clear gg
  rw [hwo] at q0 q1 q2 q3 g rp ⊢
  clear a0 a1 a2 a3 hwo
  have a0 := q0; have a1 := q1; have a2 := q2; have a3 := q3; clear q0 q1 q2 q3
  go_wp2_with fail
  with_reducible refine (HT.out _).mono ?_
  rintro e w9 ⟨rfl, rfl⟩
  go_wp2_with fail
  have a4 := cell_new w5 #[.int .i64 0, .int .i64 3] 3 0 (by simp)
  have a5 := cell_new w5 #[.int .i64 0, .int .i64 3] 3 1 (by simp)
  have gg := (Gr.refl w5).alloc (.cells #[.int .i64 0, .int .i64 3] 3)
  obtain ⟨w6, hwo⟩ : ∃ q, w5.alloc (.cells #[.int .i64 0, .int .i64 3] 3) = q := ⟨_, rfl⟩
  rw [hwo] at a4 a5 gg ⊢
  replace g := g.trans gg
  replace a0 := gg.cell a0
  replace a1 := gg.cell a1
  replace a2 := gg.cell a2
  replace a3 := gg.cell a3
  replace rp := rp.gr gg
  clear hwo gg
  refine (HF2.out _ _ _ a4 a5).mono ?_
  rintro e w9 ⟨rfl, rfl⟩
  clear a4 a5
  go_wp2_with fail
  repeat (first
    | (with_reducible refine (HLT.out _).mono ?_; rintro e w4 ⟨rfl, rfl⟩; go_wp2_with fail)
    | (with_reducible refine (HL.out _).mono ?_; rintro e w4 ⟨rfl, rfl⟩; go_wp2_with fail))
  refine (HRC.out _).mono ?_
  rintro e w7 ⟨v4, rfl, ho, hg⟩
  have rq := readsP_of_owns ho
  replace rp := rp.gr hg
  replace g := g.trans hg
  clear ho hg a0 a1 a2 a3
  obtain ⟨⟨p, cap, rfl, hp⟩⟩ := rp
  obtain ⟨⟨p2, cap2, rfl, hq⟩⟩ := rq
  have HP := Lib.hid hp
  have HQ := Lib.hid hq
  clear hp hq
  go_wp2_with fail
  by_cases h0 : 0 < N
  · obtain ⟨b1, rfl, k1⟩ := HP.out h0
    obtain ⟨b2, rfl, k2⟩ := HQ.out h0
    have K1 := Lib.hid k1
    have K2 := Lib.hid k2
    have HG := Lib.hid g
    clear k1 k2 HP HQ g
    go_loopg [12] N (fun gk s12 wr => ∃ k : Nat, s12 = .int .i64 k ∧ gk + k = N ∧ Gr w7 wr)
    case atStart => exact ⟨0, rfl, by omega, Gr.refl _⟩
    case round =>
      obtain ⟨k, rfl, hk, hg⟩ := hrel
      by_cases hlt : k < N
      · have c0 := hg.cell (K1.out k hlt).1
        have c1 := hg.cell (K1.out k hlt).2
        have d0 := hg.cell (K2.out k hlt).1
        have d1 := hg.cell (K2.out k hlt).2
        have hi : (k : Int) < (N : Int) := by omega
        have hpn := fun W => HPN.out (callA f e m k) (callB f e k) W
        have hpg := fun x y W => HPG.out x y (callA f e m k) (callB f e k) W
        generalize callA f e m k = x at *
        generalize callB f e k = y at *
        go_wp2_with fail
        go_quiet (fail)
        go_wp2_with fail
        go_roundg (gk - 1)
        case measure => omega
        case rel => exact ⟨k + 1, by go_num, by omega, hg.drewN _⟩
      · have hkk : k = N := by omega
        subst hkk
        go_wp2_with fail
        go_ret
        exact ⟨rfl, HG.out.trans hg⟩
  · have hN0 : N = 0 := by omega
    subst hN0
    refine wp_loop_rounds 1 ?_
    rw [rounds_succ]
    go_wp2_with fail
    go_ret
    exact ⟨rfl, g⟩
set_option maxHeartbeats 4000000 in
set_option maxRecDepth 100000 in
/-- all is right -/
theorem lawc_fine (n f e m t : Int) (N : Nat) (hN : n = N) (h40 : N ≤ 40) (hT : Times n f e) (hm : outE m 0 86399999 = 0) (hl : decide (86399999 < f + (n - 1) * e) = false) (h3 : outE t 0 86399999 = 0) (w : World) (hA : ∀ W, Gr w W → Calls Tryz.prog 5 #[] W fun e w' => e = .returned (.bool true) ∧ Gr W w') :
    Calls Tryz.prog 3 #[.int .i64 n, .agg #[.int .i64 f, .int .i64 e, .int .i64 m, .int .i64 t]] w fun x w' => x = .returned (.bool true) ∧ Gr w w' := by
  subst hN
  obtain ⟨W, hW, g, a0, a1, a2, a3⟩ := box4 w (.int .i64 f) (.int .i64 e) (.int .i64 m) (.int .i64 t) 23
  have HA := Lib.hid hA
  have HW := Lib.hid hW
  obtain ⟨e1, e2, e3⟩ := late_errs t hT hm
  have e4 := lateE_eq hT
  have e5 := callsE_zero.2 hT
  rw [hl] at e1 e2 e4
  have hC : ∀ W, _ := fun W => cal_ok (N : Int) f e m N rfl e1 W
  have HC := Lib.hid hC
  have hK : ∀ W, _ := fun W => checkCalls_c (N : Int) f e W
  rw [e5] at hK
  have hO : ∀ W, _ := fun W => outside_c m 0 86399999 W
  rw [hm] at hO
  have hLt : ∀ W, _ := fun W => late_c (N : Int) f e hT W
  rw [e4] at hLt
  have HK := Lib.hid hK
  have HO := Lib.hid hO
  have HLT := Lib.hid hLt
  have hTm : ∀ W, _ := fun W => outside_c t 0 86399999 W
  have HF1 := Lib.hid (fun b cap W => lawFirst_c 0 0 b cap W)
  rw [show fst2 0 0 = 0 from rfl] at HF1
  have HRC := Lib.hid (fun W => refCalls_c (N : Int) f e m N rfl hT (outE_zero.1 hm) W)
  have HPN := Lib.hid pair_neq
  have HPG := Lib.hid pair_guard
  have h2 : decide (40 < (N : Int)) = false := by simp; omega
  have hI : ∀ W, _ := fun W => iso_ok (N : Int) f e m t N rfl (e2 h3) W
  have hJ : ∀ W, _ := fun W => refIso_c (N : Int) f e m t N rfl hT (outE_zero.1 hm) (outE_zero.1 h3) W
  rw [h3] at hTm
  have HT := Lib.hid hTm
  have HI := Lib.hid hI
  have HJ := Lib.hid hJ
  have hs : (isoK m t f e N).length ≤ 1000 := Nat.le_trans (isoK_len m t f e N) (by omega)
  generalize isoK m t f e N = xs at *
  clear hTm hI hJ h3 hA hW hC hK hO hLt e1 e2 e3 e4 e5 hl hm hT
  go_enter Tryz.func3, Tryz.ntmps3
  go_wp2_with fail
  rw [HW.out]
  repeat (first
    | (with_reducible refine (HA.out _ g).mono ?_; rintro e w4 ⟨rfl, hg⟩; replace g := g.trans hg; replace a0 := hg.cell a0; replace a1 := hg.cell a1; replace a2 := hg.cell a2; replace a3 := hg.cell a3; clear hg; go_wp2_with fail))
  with_reducible refine (HC.out _).mono ?_
  rintro e w4 ⟨v1, rfl, ho, hg⟩
  have rp := readsP_of_owns ho
  clear ho
  replace g := g.trans hg
  replace a0 := hg.cell a0
  replace a1 := hg.cell a1
  replace a2 := hg.cell a2
  replace a3 := hg.cell a3
  clear hg
  go_wp2_with fail
  refine (HI.out _).mono ?_
  rintro e w4 ⟨v2, rfl, ho, hg⟩
  have ri := reads_of_owns ho
  clear ho
  replace rp := rp.gr hg
  replace g := g.trans hg
  replace a0 := hg.cell a0
  replace a1 := hg.cell a1
  replace a2 := hg.cell a2
  replace a3 := hg.cell a3
  clear hg
  go_wp2_with fail
  go_region_held3 (fun w' => w'.cell? ⟨w.heap.size, 0, none⟩ = some (.int .i64 f) ∧ w'.cell? ⟨w.heap.size, 1, none⟩ = some (.int .i64 e) ∧ w'.cell? ⟨w.heap.size, 2, none⟩ = some (.int .i64 m) ∧ w'.cell? ⟨w.heap.size, 3, none⟩ = some (.int .i64 t))
    ((first | exact ⟨a0, a1, a2, a3⟩ | exact ⟨Gr.cell ((Gr.refl _).drew.alloc _) a0, Gr.cell ((Gr.refl _).drew.alloc _) a1, Gr.cell ((Gr.refl _).drew.alloc _) a2, Gr.cell ((Gr.refl _).drew.alloc _) a3⟩))
    ((first
    | (go_at_call 9; refine (HK.out _).mono ?_; rintro e w' ⟨rfl, rfl⟩)
    | (go_at_call 10; refine (HO.out _).mono ?_; rintro e w' ⟨rfl, rfl⟩)
    | (go_at_call 8; refine (HF1.out _ _ _ (by first | exact two_new0 _ _ _ _ | exact two_newD0 _ _ _ _) (by first | exact two_new1 _ _ _ _ | exact two_newD1 _ _ _ _)).mono ?_; rintro e w' ⟨rfl, rfl⟩)))
  obtain ⟨q0, q1, q2, q3⟩ := ‹_ ∧ _ ∧ _ ∧ _›
  have gg := ((Gr.refl w4).alloc (.cells #[.int .i64 0, .int .i64 0] 3)).drew
  replace g := g.trans gg
  replace rp := rp.gr gg
  replace ri := ri.gr gg
  obtain ⟨w5, hwo⟩ : ∃ q, (w4.alloc (.cells #[.int .i64 0, .int .i64 0] 3)).drew = q := ⟨_, rfl⟩
  clear gg
  rw [hwo] at q0 q1 q2 q3 g rp ri ⊢
  clear a0 a1 a2 a3 hwo
  have a0 := q0; have a1 := q1; have a2 := q2; have a3 := q3; clear q0 q1 q2 q3
  go_wp2_with fail
  with_reducible refine (HT.out _).mono ?_
  rintro e w9 ⟨rfl, rfl⟩
  go_wp2_with fail
  have a4 := cell_new w5 #[.int .i64 0, .int .i64 0] 3 0 (by simp)
  have a5 := cell_new w5 #[.int .i64 0, .int .i64 0] 3 1 (by simp)
  have gg := (Gr.refl w5).alloc (.cells #[.int .i64 0, .int .i64 0] 3)
  obtain ⟨w6, hwo⟩ : ∃ q, w5.alloc (.cells #[.int .i64 0, .int .i64 0] 3) = q := ⟨_, rfl⟩
  rw [hwo] at a4 a5 gg ⊢
  replace g := g.trans gg
  replace a0 := gg.cell a0
  replace a1 := gg.cell a1
  replace a2 := gg.cell a2
  replace a3 := gg.cell a3
  replace rp := rp.gr gg
  replace ri := ri.gr gg
  clear hwo gg
  refine (HF1.out _ _ _ a4 a5).mono ?_
  rintro e w9 ⟨rfl, rfl⟩
  clear a4 a5
  go_wp2_with fail
  repeat (first
    | (with_reducible refine (HLT.out _).mono ?_; rintro e w4 ⟨rfl, rfl⟩; go_wp2_with fail))
  refine (HJ.out _).mono ?_
  rintro e w8 ⟨v3, rfl, ho, hg⟩
  have rj := reads_of_owns ho
  clear ho
  replace rp := rp.gr hg
  replace ri := ri.gr hg
  replace g := g.trans hg
  replace a0 := hg.cell a0
  replace a1 := hg.cell a1
  replace a2 := hg.cell a2
  replace a3 := hg.cell a3
  clear hg
  go_wp2_with fail
  refine (list_ok ri rj hs).mono ?_
  rintro e w9 ⟨rfl, hg⟩
  replace rp := rp.gr hg
  replace g := g.trans hg
  replace a0 := hg.cell a0
  replace a1 := hg.cell a1
  replace a2 := hg.cell a2
  replace a3 := hg.cell a3
  clear hg
  clear ri rj
  go_wp2_with fail
  refine (HRC.out _).mono ?_
  rintro e w7 ⟨v4, rfl, ho, hg⟩
  have rq := readsP_of_owns ho
  replace rp := rp.gr hg
  replace g := g.trans hg
  clear ho hg a0 a1 a2 a3
  obtain ⟨⟨p, cap, rfl, hp⟩⟩ := rp
  obtain ⟨⟨p2, cap2, rfl, hq⟩⟩ := rq
  have HP := Lib.hid hp
  have HQ := Lib.hid hq
  clear hp hq
  go_wp2_with fail
  by_cases h0 : 0 < N
  · obtain ⟨b1, rfl, k1⟩ := HP.out h0
    obtain ⟨b2, rfl, k2⟩ := HQ.out h0
    have K1 := Lib.hid k1
    have K2 := Lib.hid k2
    have HG := Lib.hid g
    clear k1 k2 HP HQ g
    go_loopg [12] N (fun gk s12 wr => ∃ k : Nat, s12 = .int .i64 k ∧ gk + k = N ∧ Gr w7 wr)
    case atStart => exact ⟨0, rfl, by omega, Gr.refl _⟩
    case round =>
      obtain ⟨k, rfl, hk, hg⟩ := hrel
      by_cases hlt : k < N
      · have c0 := hg.cell (K1.out k hlt).1
        have c1 := hg.cell (K1.out k hlt).2
        have d0 := hg.cell (K2.out k hlt).1
        have d1 := hg.cell (K2.out k hlt).2
        have hi : (k : Int) < (N : Int) := by omega
        have hpn := fun W => HPN.out (callA f e m k) (callB f e k) W
        have hpg := fun x y W => HPG.out x y (callA f e m k) (callB f e k) W
        generalize callA f e m k = x at *
        generalize callB f e k = y at *
        go_wp2_with fail
        go_quiet (fail)
        go_wp2_with fail
        go_roundg (gk - 1)
        case measure => omega
        case rel => exact ⟨k + 1, by go_num, by omega, hg.drewN _⟩
      · have hkk : k = N := by omega
        subst hkk
        go_wp2_with fail
        go_ret
        exact ⟨rfl, HG.out.trans hg⟩
  · have hN0 : N = 0 := by omega
    subst hN0
    refine wp_loop_rounds 1 ?_
    rw [rounds_succ]
    go_wp2_with fail
    go_ret
    exact ⟨rfl, g⟩
end Go.Proofs.YtdpdbgcdmpdaoaaGreatDoor
