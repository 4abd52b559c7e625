/- Archives (chapter 10): the reference: Vector. -/
import Derived.Test.YtbpgifihlppedaaGreatDoorGOvM
namespace Go.Proofs.YtbpgifihlppedaaGreatDoor
open Go.RowKit Go.Lib
set_option linter.unusedSimpArgs false
set_option linter.unusedVariables false
theorem own_setV {w : World} {base n s g cap i : Nat} {T : TypeId} {L : List Value} (u : Value) (h : w.ownsRow base T s (.slice (some ⟨g, 0, none⟩) n cap) n L) (hi : i < L.length) :
    (w.setCell ⟨g, i, none⟩ u).ownsRow base T s (.slice (some ⟨g, 0, none⟩) n cap) n (L.set i u) ∧ base ≤ g ∧ w.frozen? ⟨g, i, none⟩ = false ∧ w.cell? ⟨g, i, none⟩ = L[i]? := by
  rcases h.2 with ⟨e, _⟩ | ⟨g', cap', cur, e, hbg, hcur, hle, hmx, hsz, htk⟩
  · cases e
  simp only [Value.slice.injEq, Option.some.injEq, Addr.mk.injEq, and_true, true_and] at e
  obtain ⟨rfl, rfl⟩ := e
  refine ⟨⟨by rw [List.length_set]; exact h.1, .inr ⟨g, cap, _, rfl, hbg, heap_setCell_same w g i cur T u hcur, hle, hmx, by simpa using hsz, ?_⟩⟩, hbg, frozen_of_row w g i cur T hcur, ?_⟩
  · rw [← htk, Array.toList_setIfInBounds, List.take_set]
  · rw [cell_of_row w g i cur T (0, 0) hcur, ← htk, List.getElem?_take, if_pos (by have := h.1; rw [← htk] at hi; simp at hi; omega), Array.getElem?_toList]
theorem mkCs_len (l : List MkR) : (mkCs l).length = l.length * 2 := by
  induction l with
  | nil => rfl
  | cons x xs ih => simp only [mkCs, List.flatMap_cons, List.length_append, List.length_cons] at *; rw [ih]; simp [mkC]; omega
theorem mkCs_rev (m : MkR) (t : List MkR) : mkCs (m :: t).reverse = mkCs t.reverse ++ [.string m.de, .int .i64 m.nu] := by
  rw [List.reverse_cons, mkCs_add]; rfl
theorem mkCs_get (t : List MkR) (d : ByteArray) (a : Int) : (mkCs t.reverse ++ [Value.string d, Value.int .i64 a])[t.length * 2 + 1]? = some (.int .i64 a) := by
  rw [List.getElem?_append_right (by rw [mkCs_len, List.length_reverse]; omega), mkCs_len, List.length_reverse, Nat.add_sub_cancel_left]; rfl
theorem mkCs_set (t : List MkR) (d : ByteArray) (a b : Int) : (mkCs t.reverse ++ [.string d, .int .i64 a] : List Value).set (t.length * 2 + 1) (.int .i64 b) = mkCs t.reverse ++ [.string d, .int .i64 b] := by
  rw [List.set_append_right _ _ (by rw [mkCs_len, List.length_reverse]; omega), mkCs_len, List.length_reverse, Nat.add_sub_cancel_left]; rfl
theorem vec_bound : ∀ (l : List EnR) (rv : List MkR) (B : Nat), (∀ m ∈ rv, 0 ≤ m.nu ∧ m.nu ≤ (B : Int)) → ∀ m ∈ l.foldl stepV rv, 0 ≤ m.nu ∧ m.nu ≤ ((B + l.length : Nat) : Int)
  | [], rv, B, h, m, hm => by simpa using h m hm
  | e :: l, rv, B, h, m, hm => by
    rw [List.foldl_cons] at hm
    have := vec_bound l (stepV rv e) (B + 1) (fun m hm => by
      unfold stepV at hm
      cases rv with
      | nil =>
        simp only [List.mem_singleton] at hm
        subst hm
        split <;> simp <;> omega
      | cons x t =>
        have hx := h x (by simp)
        simp only at hm
        split at hm
        · rcases List.mem_cons.1 hm with rfl | hm
          · simp only; split <;> omega
          · have := h m (by simp [hm]); omega
        · rcases List.mem_cons.1 hm with rfl | hm
          · simp only; split <;> omega
          · have := h m hm; omega) m hm
    simp only [List.length_cons]
    have e2 : B + (l.length + 1) = B + 1 + l.length := by omega
    rw [e2]; exact this
theorem stepV_head (rv : List MkR) (e : EnR) : ∃ m t, stepV rv e = m :: t ∧ m.de = e.de := by
  unfold stepV
  cases rv with
  | nil => exact ⟨_, _, rfl, rfl⟩
  | cons m t =>
    simp only
    split
    · rename_i h
      exact ⟨_, _, rfl, (baI (beq_iff_eq.1 h)).symm⟩
    · exact ⟨_, _, rfl, rfl⟩
theorem vecRev_len (l : List EnR) : (vecRev l).length ≤ l.length := by
  have : ∀ (l : List EnR) (rv : List MkR), (l.foldl stepV rv).length ≤ rv.length + l.length := by
    intro l
    induction l with
    | nil => intro rv; simp
    | cons e l ih =>
      intro rv
      rw [List.foldl_cons]
      have h1 := ih (stepV rv e)
      have h2 : (stepV rv e).length ≤ rv.length + 1 := by
        unfold stepV
        cases rv with
        | nil => simp
        | cons m t => simp only; split <;> simp
      simp only [List.length_cons]; omega
  have := this l []
  simpa [vecRev] using this
theorem own_block2 {w : World} {b n s : Nat} {T : TypeId} {v : Value} {L : List Value} (h : w.ownsRow b T s v n L) (h0 : 0 < n) : ∃ g c, v = .slice (some ⟨g, 0, none⟩) n c ∧ (n ≤ c ∧ c ≤ maxLen) := by
  rcases h.2 with ⟨rfl, hz⟩ | ⟨g, cap, cur, rfl, _, _, h1, h2, _⟩
  · omega
  · exact ⟨g, cap, rfl, h1, h2⟩
set_option maxHeartbeats 4000000 in
set_option maxRecDepth 100000 in
theorem refVector_c {w : World} {q : Option Addr} {l : List EnR} {n cap : Nat} (hn : n = l.length) (h1 : n ≤ 1000) (hr : EnS w q l) :
    Calls Tryz.prog 36 #[.slice q n cap] w fun e w' => RetMk e w' (vecL l) ∧ Gr w w' := by
  obtain ⟨i0, hi, hz0, hz1, hz2⟩ := info_parts infoMkR
  have HI0 := Lib.hid (And.intro hi (And.intro hz0 (And.intro hz1 hz2)))
  have HN := Lib.hid hn
  have HR := Lib.hid hr.out
  clear hr hn hi hz0 hz1 hz2
  go_enter Tryz.func36, Tryz.ntmps36
  go_wp2_with fail
  go_loopg [3, 4, 5] n (fun gk s3 s4 s5 wr => ∃ i : Nat, s4 = .int .i64 (i : Int) ∧ gk + i = n ∧ Hid (wr.ownsRow w.heap.size 67 2 s3 (vecRev (l.take i)).length (mkCs (vecRev (l.take i)).reverse)) ∧ Hid (Gr w wr))
  case atStart => exact ⟨0, rfl, by omega, World.ownsRow_nil _ _ _ _, Gr.refl _⟩
  case round =>
    obtain ⟨i, rfl, hgk, HOWN, HGR0⟩ := hrel
    by_cases hlt : i < n
    · obtain ⟨x, hx⟩ : ∃ x, l[i]? = some x := ⟨l[i]'(by have := HN.out; omega), List.getElem?_eq_getElem _⟩
      obtain ⟨b, off, rfl, hc⟩ := HR.out (by have := HN.out; omega)
      have HAT := Lib.hid (hc i x hx)
      have hlt2 : (i : Int) < (n : Int) := by omega
      have hTT : vecRev (l.take (i + 1)) = stepV (vecRev (l.take i)) x := by rw [List.take_add_one, hx]; exact vecRev_add _ _
      have HKB : Hid ((vecRev (l.take i)).length ≤ i) := Nat.le_trans (vecRev_len _) (by rw [List.length_take]; omega)
      have HBD : Hid (∀ m ∈ vecRev (l.take i), 0 ≤ m.nu ∧ m.nu ≤ 1000) := fun m hm => by
        have := vec_bound (l.take i) [] 0 (fun m hm => by cases hm) m hm
        rw [List.length_take] at this
        omega
      rcases Nat.eq_zero_or_pos i with hi0 | hi0
      · obtain ⟨rv, hrv⟩ : ∃ rv, rv = vecRev (l.take i) := ⟨_, rfl⟩
        rw [← hrv] at HOWN hTT HKB HBD
        have hrv0 : rv = [] := by rw [hrv, hi0]; rfl
        have HST : Hid (vecRev (l.take (i + 1)) = ⟨x.de, if x.nu = 1 then 1 else 0⟩ :: rv) := by rw [Hid, hTT, hrv0]; rfl
        have d1 : ((i : Int) == 0) = true := by rw [hi0]; rfl
        have x0 := HGR0.out.cell HAT.out.c0
        clear hTT hrv hx hc hi0 hrv0
        go_upto_region 5 with fail
        go_big_quiet (fail)
        have gdq := (Gr.refl wr).drewN nq
        have hownD := own_kept HOWN.out gdq
        have HGV := Lib.hid (HGR0.out.drewN nq)
        have x0' := HGV.out.cell HAT.out.c0
        have hszV := HGV.out.size
        obtain ⟨V, hV⟩ : ∃ V, V = wr.drewN nq := ⟨_, rfl⟩
        rw [← hV] at hownD HGV x0' hszV ⊢
        clear hV gdq x0 HOWN
        obtain ⟨hi, hz0, hz1, hz2⟩ := HI0.out
        have hKi := HKB.out
        go_wp2_with (at_builtin; refine wpList_append_own _ rfl _ _ 58 rfl w.heap.size 67 i0 (.agg #[.string ⟨#[]⟩, .int .i64 0]) 2 24 Tryz.underlying58 hi hz0 hz1 hz2 rfl (by decide) _ _ _ rfl (own_kept hownD ((Gr.refl V).alloc _)) ⟨V.heap.size, 0, none⟩ 1 1 [.string x.de, .int .i64 0] rfl rfl (cell_twoM _ _ _ _) (one_twoM _ _) (by unfold maxLen; omega) (by omega) (by simp; omega) ?_; intro v1 w1 hown1 hgrow1 hnil)
        have HG1 : Hid (Gr w w1) := Below.grown (HGV.out.alloc _) hgrow1 (by simp; omega) (fun q hq => (own_in hownD hq).2)
        obtain ⟨gg, cg, rfl, _, _⟩ := own_block2 hown1 (by omega)
        have HO1 := Lib.hid hown1
        have HTB : Hid (rv.length < 1000) := by have := HKB.out; unfold Hid; omega
        clear hown1 hgrow1 hownD hnil hi hz0 hz1 hz2 x0' HBD
        obtain ⟨TL, hTL⟩ : ∃ T, T = rv.length := ⟨_, rfl⟩
        have HTL := Lib.hid hTL
        have hTn : TL < 1000 := by have := HTB.out; omega
        rw [← hTL] at HO1 ⊢
        obtain ⟨a0, a1, a2, a3, a4, a5, a6, _⟩ := HAT.out.gr HG1.out
        obtain ⟨s1, s2, s3, s4⟩ := own_setV (i := TL * 2 + 1) (.int .i64 (1)) HO1.out (by rw [List.length_append, mkCs_len, List.length_reverse, ← hTL]; simp)
        rw [hTL, mkCs_get] at s4
        rw [hTL, mkCs_set] at s1
        rw [← hTL] at s1 s4
        have hw1 : IntKind.i64.wrap ((TL : Int) + 1 - 1) = (TL : Int) := by rw [IntKind.wrap_i64]; omega
        have hw2 : IntKind.i64.wrap (TL : Int) = (TL : Int) := by rw [IntKind.wrap_i64]; omega
        have hlt9 : (TL : Int) < (TL : Int) + 1 := by omega
        have hlt8 : TL < TL + 1 := by omega
        have HS1 := Lib.hid s1
        have HS2 := Lib.hid s2
        have gd := fun k => (Gr.refl w1).drewN k
        clear hTL s1 s2
        obtain ⟨xde, xnu, xck, xro, xva, xst, xp, xn, xc, xxs⟩ := x
        simp only at a0 a1 a2 a3 a4 a5 a6 HST
        by_cases hq : xnu = 1
        · have hq2 : (xnu == 1) = true := beq_iff_eq.2 hq
          rw [if_pos hq] at HST
          clear hq
          go_upto_region 8 with fail
          go_big_quiet (fail)
          have s4' := (gd nq).cell s4
          have s3' : (w1.drewN nq).frozen? ⟨gg, TL * 2 + 1, none⟩ = false := s3
          go_wp2_with fail
          go_roundg (gk - 1)
          case measure => omega
          case rel => exact ⟨i + 1, by go_num, by omega, by rw [HST.out, mkCs_rev, List.length_cons, ← HTL.out]; exact (own_setV (i := TL * 2 + 1) (.int .i64 (1)) (own_kept HO1.out (gd nq)) (by rw [List.length_append, mkCs_len, List.length_reverse, ← HTL.out]; simp)).1 |> (fun h => by rw [HTL.out, mkCs_set, ← HTL.out] at h; exact h), Below.setCell (HG1.out.drewN _) HS2.out _⟩
        · have hq2 : (xnu == 1) = false := beq_eq_false_iff_ne.2 hq
          rw [if_neg hq] at HST
          clear hq
          go_upto_region 8 with fail
          go_big_quiet (fail)
          go_wp2_with fail
          go_roundg (gk - 1)
          case measure => omega
          case rel => exact ⟨i + 1, by go_num, by omega, by rw [HST.out, mkCs_rev, List.length_cons, ← HTL.out]; exact own_kept HO1.out (gd _), HG1.out.drewN _⟩
      · obtain ⟨j, hij⟩ : ∃ j, i = j + 1 := ⟨i - 1, by omega⟩
        obtain ⟨a, ha⟩ : ∃ a, l[j]? = some a := ⟨l[j]'(by have := HN.out; omega), List.getElem?_eq_getElem _⟩
        obtain ⟨m, tt, hmt, hmd⟩ : ∃ m t, vecRev (l.take i) = m :: t ∧ m.de = a.de := by
          rw [hij, List.take_add_one, ha]
          show ∃ m t, vecRev (l.take j ++ [a]) = m :: t ∧ m.de = a.de
          rw [vecRev_add]
          exact stepV_head _ _
        have y0 := HGR0.out.cell (hc j a ha).c0
        have x0 := HGR0.out.cell HAT.out.c0
        have hw0 : IntKind.i64.wrap ((i : Int) - 1) = (j : Int) := by rw [IntKind.wrap_i64]; omega
        have d1 : ((i : Int) == 0) = false := beq_eq_false_iff_ne.2 (by omega)
        have hjn : j < n := by omega
        have hi1 : 0 < i := hi0
        rw [hmt] at HOWN hTT HKB HBD
        rw [← hmd] at y0
        clear hij hi0 hx hc ha hmt hmd
        cases hdd : (x.de.toList == m.de.toList)
        · have HST : Hid (vecRev (l.take (i + 1)) = ⟨x.de, if x.nu = 1 then 1 else 0⟩ :: m :: tt) := by rw [Hid, hTT]; unfold stepV; simp only [hdd]; rfl
          clear hTT
          go_upto_region 5 with fail
          go_big_quiet (fail)
          obtain ⟨rv, hrv⟩ : ∃ rv, rv = m :: tt := ⟨_, rfl⟩
          rw [← hrv] at HST HOWN HKB HBD
          clear hrv
          have gdq := (Gr.refl wr).drewN nq
          have hownD := own_kept HOWN.out gdq
          have HGV := Lib.hid (HGR0.out.drewN nq)
          have x0' := HGV.out.cell HAT.out.c0
          have hszV := HGV.out.size
          obtain ⟨V, hV⟩ : ∃ V, V = wr.drewN nq := ⟨_, rfl⟩
          rw [← hV] at hownD HGV x0' hszV ⊢
          clear hV gdq x0 HOWN
          obtain ⟨hi, hz0, hz1, hz2⟩ := HI0.out
          have hKi := HKB.out
          go_wp2_with (at_builtin; refine wpList_append_own _ rfl _ _ 58 rfl w.heap.size 67 i0 (.agg #[.string ⟨#[]⟩, .int .i64 0]) 2 24 Tryz.underlying58 hi hz0 hz1 hz2 rfl (by decide) _ _ _ rfl (own_kept hownD ((Gr.refl V).alloc _)) ⟨V.heap.size, 0, none⟩ 1 1 [.string x.de, .int .i64 0] rfl rfl (cell_twoM _ _ _ _) (one_twoM _ _) (by unfold maxLen; omega) (by omega) (by simp; omega) ?_; intro v1 w1 hown1 hgrow1 hnil)
          have HG1 : Hid (Gr w w1) := Below.grown (HGV.out.alloc _) hgrow1 (by simp; omega) (fun q hq => (own_in hownD hq).2)
          obtain ⟨gg, cg, rfl, _, _⟩ := own_block2 hown1 (by omega)
          have HO1 := Lib.hid hown1
          have HTB : Hid (rv.length < 1000) := by have := HKB.out; unfold Hid; omega
          clear hown1 hgrow1 hownD hnil hi hz0 hz1 hz2 x0' HBD
          obtain ⟨TL, hTL⟩ : ∃ T, T = rv.length := ⟨_, rfl⟩
          have HTL := Lib.hid hTL
          have hTn : TL < 1000 := by have := HTB.out; omega
          rw [← hTL] at HO1 ⊢
          obtain ⟨a0, a1, a2, a3, a4, a5, a6, _⟩ := HAT.out.gr HG1.out
          obtain ⟨s1, s2, s3, s4⟩ := own_setV (i := TL * 2 + 1) (.int .i64 (1)) HO1.out (by rw [List.length_append, mkCs_len, List.length_reverse, ← hTL]; simp)
          rw [hTL, mkCs_get] at s4
          rw [hTL, mkCs_set] at s1
          rw [← hTL] at s1 s4
          have hw1 : IntKind.i64.wrap ((TL : Int) + 1 - 1) = (TL : Int) := by rw [IntKind.wrap_i64]; omega
          have hw2 : IntKind.i64.wrap (TL : Int) = (TL : Int) := by rw [IntKind.wrap_i64]; omega
          have hlt9 : (TL : Int) < (TL : Int) + 1 := by omega
          have hlt8 : TL < TL + 1 := by omega
          have HS1 := Lib.hid s1
          have HS2 := Lib.hid s2
          have gd := fun k => (Gr.refl w1).drewN k
          clear hTL s1 s2
          obtain ⟨xde, xnu, xck, xro, xva, xst, xp, xn, xc, xxs⟩ := x
          simp only at a0 a1 a2 a3 a4 a5 a6 HST
          by_cases hq : xnu = 1
          · have hq2 : (xnu == 1) = true := beq_iff_eq.2 hq
            rw [if_pos hq] at HST
            clear hq
            go_upto_region 8 with fail
            go_big_quiet (fail)
            have s4' := (gd nq).cell s4
            have s3' : (w1.drewN nq).frozen? ⟨gg, TL * 2 + 1, none⟩ = false := s3
            go_wp2_with fail
            go_roundg (gk - 1)
            case measure => omega
            case rel => exact ⟨i + 1, by go_num, by omega, by rw [HST.out, mkCs_rev, List.length_cons, ← HTL.out]; exact (own_setV (i := TL * 2 + 1) (.int .i64 (1)) (own_kept HO1.out (gd nq)) (by rw [List.length_append, mkCs_len, List.length_reverse, ← HTL.out]; simp)).1 |> (fun h => by rw [HTL.out, mkCs_set, ← HTL.out] at h; exact h), Below.setCell (HG1.out.drewN _) HS2.out _⟩
          · have hq2 : (xnu == 1) = false := beq_eq_false_iff_ne.2 hq
            rw [if_neg hq] at HST
            clear hq
            go_upto_region 8 with fail
            go_big_quiet (fail)
            go_wp2_with fail
            go_roundg (gk - 1)
            case measure => omega
            case rel => exact ⟨i + 1, by go_num, by omega, by rw [HST.out, mkCs_rev, List.length_cons, ← HTL.out]; exact own_kept HO1.out (gd _), HG1.out.drewN _⟩
        · have HST : Hid (vecRev (l.take (i + 1)) = ⟨m.de, if x.nu = m.nu + 1 then m.nu + 1 else m.nu⟩ :: tt) := by rw [Hid, hTT]; unfold stepV; simp only [hdd, if_true]
          clear hTT
          have hmb := HBD.out m (by simp)
          have hw3 : IntKind.i64.wrap (m.nu + 1) = m.nu + 1 := by rw [IntKind.wrap_i64]; omega
          go_upto_region 5 with fail
          go_big_quiet (fail)
          have gdq := (Gr.refl wr).drewN nq
          have hownD := own_kept HOWN.out gdq
          have HGV := Lib.hid (HGR0.out.drewN nq)
          have x0' := HGV.out.cell HAT.out.c0
          have hszV := HGV.out.size
          obtain ⟨V, hV⟩ : ∃ V, V = wr.drewN nq := ⟨_, rfl⟩
          rw [← hV] at hownD HGV x0' hszV ⊢
          clear hV gdq x0 HOWN
          have hKi := HKB.out
          rw [List.length_cons] at hKi hownD
          rw [mkCs_rev] at hownD
          obtain ⟨gg, cg, rfl, _, _⟩ := own_block2 hownD (by omega)
          have HG1 := HGV
          have HO1 := Lib.hid hownD
          have HTB : Hid (tt.length < 1000) := by unfold Hid; omega
          clear hownD x0' HBD
          obtain ⟨TL, hTL⟩ : ∃ T, T = tt.length := ⟨_, rfl⟩
          have HTL := Lib.hid hTL
          have hTn : TL < 1000 := by have := HTB.out; omega
          rw [← hTL] at HO1 ⊢
          obtain ⟨a0, a1, a2, a3, a4, a5, a6, _⟩ := HAT.out.gr HG1.out
          obtain ⟨s1, s2, s3, s4⟩ := own_setV (i := TL * 2 + 1) (.int .i64 (m.nu + 1)) HO1.out (by rw [List.length_append, mkCs_len, List.length_reverse, ← hTL]; simp)
          rw [hTL, mkCs_get] at s4
          rw [hTL, mkCs_set] at s1
          rw [← hTL] at s1 s4
          have hw1 : IntKind.i64.wrap ((TL : Int) + 1 - 1) = (TL : Int) := by rw [IntKind.wrap_i64]; omega
          have hw2 : IntKind.i64.wrap (TL : Int) = (TL : Int) := by rw [IntKind.wrap_i64]; omega
          have hlt9 : (TL : Int) < (TL : Int) + 1 := by omega
          have hlt8 : TL < TL + 1 := by omega
          have HS1 := Lib.hid s1
          have HS2 := Lib.hid s2
          have gd := fun k => (Gr.refl V).drewN k
          clear hTL s1 s2
          obtain ⟨xde, xnu, xck, xro, xva, xst, xp, xn, xc, xxs⟩ := x
          simp only at a0 a1 a2 a3 a4 a5 a6 HST
          by_cases hq : xnu = m.nu + 1
          · have hq2 : (xnu == m.nu + 1) = true := beq_iff_eq.2 hq
            rw [if_pos hq] at HST
            clear hq
            go_upto_region 8 with fail
            go_big_quiet (fail)
            have s4' := (gd nq).cell s4
            have s3' : (V.drewN nq).frozen? ⟨gg, TL * 2 + 1, none⟩ = false := s3
            go_wp2_with fail
            go_roundg (gk - 1)
            case measure => omega
            case rel => exact ⟨i + 1, by go_num, by omega, by rw [HST.out, mkCs_rev, List.length_cons, ← HTL.out]; exact (own_setV (i := TL * 2 + 1) (.int .i64 (m.nu + 1)) (own_kept HO1.out (gd nq)) (by rw [List.length_append, mkCs_len, List.length_reverse, ← HTL.out]; simp)).1 |> (fun h => by rw [HTL.out, mkCs_set, ← HTL.out] at h; exact h), Below.setCell (HG1.out.drewN _) HS2.out _⟩
          · have hq2 : (xnu == m.nu + 1) = false := beq_eq_false_iff_ne.2 hq
            rw [if_neg hq] at HST
            clear hq
            go_upto_region 8 with fail
            go_big_quiet (fail)
            go_wp2_with fail
            go_roundg (gk - 1)
            case measure => omega
            case rel => exact ⟨i + 1, by go_num, by omega, by rw [HST.out, mkCs_rev, List.length_cons, ← HTL.out]; exact own_kept HO1.out (gd _), HG1.out.drewN _⟩
    · obtain rfl : n = i := by omega
      have hlt2 : ¬ (n : Int) < (n : Int) := by omega
      have hli : l.take n = l := List.take_of_length_le (by have := HN.out; omega)
      have ho := HOWN.out
      rw [hli] at ho
      obtain ⟨qq, cc, hsl, hc1, hc2⟩ := own_shape ho
      have HRET : Hid (RetMk (.returned u3) wr (vecL l)) := by
        rw [hsl] at ho ⊢
        unfold vecL
        exact ⟨qq, cc, by rw [List.length_reverse], ⟨by rw [List.length_reverse]; exact hc1, hc2⟩, MkS.of_own ho (by rw [List.length_reverse])⟩
      clear ho HOWN hsl hc1 hc2
      go_wp2_with fail
      go_ret
      exact ⟨HRET.out, HGR0.out⟩
end Go.Proofs.YtbpgifihlppedaaGreatDoor
