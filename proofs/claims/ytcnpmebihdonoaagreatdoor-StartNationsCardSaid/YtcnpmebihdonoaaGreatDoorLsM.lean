/- Starters: Groups. -/
import Derived.Test.YtcnpmebihdonoaaGreatDoorGLsH
namespace Go.Proofs.YtcnpmebihdonoaaGreatDoor
open Go.RowKit Go.Lib
set_option linter.unusedSimpArgs false
set_option linter.unusedVariables false
theorem grpN_cases (m p : Nat) : ∃ x y z, x = p % m ∧ y = p / m ∧ z = y % 2 ∧ (z = 0 ∨ z = 1) ∧ Int.tmod (p : Int) (m : Int) = (x : Int) ∧ Int.tdiv (p : Int) (m : Int) = (y : Int) ∧ Int.tmod (y : Int) 2 = (z : Int) ∧ grpN m p = if z = 1 then m - 1 - x else x := by
  refine ⟨p % m, p / m, p / m % 2, rfl, rfl, rfl, Nat.mod_two_eq_zero_or_one _, ?_, ?_, ?_, rfl⟩
  · rw [Int.tmod_eq_emod_of_nonneg (Int.natCast_nonneg _)]; rfl
  · rw [Int.tdiv_eq_ediv_of_nonneg (Int.natCast_nonneg _)]; rfl
  · rw [Int.tmod_eq_emod_of_nonneg (Int.natCast_nonneg _)]; rfl
theorem grpL_put {m : Nat} {r : List Nat} {k a : Nat} {l : List Nat} (hr : r[k]? = some a) (hl : (grpL m r k)[grpN m k]? = some l) : grpL m r (k + 1) = (grpL m r k).set (grpN m k) (l ++ [a]) := by
  show (grpL m r k).set (grpN m k) ((grpL m r k).getD (grpN m k) [] ++ [r.getD k 0]) = _
  simp [List.getD_eq_getElem?_getD, hr, hl]
set_option maxHeartbeats 4000000 in
set_option maxRecDepth 100000 in
theorem groups_good (v : Value) (n mn kn : Nat) (P : List Nat → Prop) (w : World) (hm0 : 1 ≤ mn) (hm : mn ≤ 16) (hr : ∀ r, P r → r.length = n) (h1 : n ≤ 160)
    (HCk : ∀ W, Gr w W → Calls Tryz.prog 41 #[v] W fun e w' => e = .returned (.int .i64 0) ∧ Gr W w')
    (HSd : ∀ W, Gr w W → Calls Tryz.prog 51 #[v, .int .i64 (kn : Int)] W fun e w' => ∃ p r, e = .returned (.tuple #[.slice p n n, .int .i64 0]) ∧ P r ∧ (0 < n → ∃ g, p = some ⟨g, 0, none⟩ ∧ OrdAt w' g r) ∧ Gr W w') :
    Calls Tryz.prog 21 #[v, .int .i64 (mn : Int), .int .i64 (kn : Int)] w fun e w' => ∃ G vs r, e = .returned (.tuple #[.slice (some ⟨G, 0, none⟩) mn mn, .int .i64 0]) ∧ P r ∧ GRow w' G G vs (grpL mn r n) ∧ Gr w w' := by
  obtain ⟨e2, h2', H2⟩ := range_e (mn : Int) 1 16
  have he2 : e2 = 0 := by
    rw [h2']
    unfold outE outB
    rw [decide_eq_false (by omega), decide_eq_false (by omega)]
    rfl
  subst he2
  replace HCk := Lib.hid HCk
  replace HSd := Lib.hid HSd
  replace H2 := Lib.hid H2
  have HR0 := Lib.hid hr
  have HF := Lib.hid (fun b c W (s0 : W.cell? ⟨b, 0, none⟩ = some (.int .i64 0)) s1 => first_pair 0 0 b c W s0 s1)
  have HMK := Lib.hid (make_rows mn (by omega))
  obtain ⟨i0, hi, hz0, hz1, hz2⟩ := info_parts info3
  clear h2' hr
  go_enter Tryz.func21, Tryz.ntmps21
  go_wp2_with fail
  refine (HCk.out _ (Gr.refl w)).mono ?_
  rintro e W1 ⟨rfl, g1⟩
  go_wp2_with fail
  refine (H2.out _).mono ?_
  rintro e w' ⟨rfl, rfl⟩
  obtain ⟨W2, hW2, g2, s0, s1⟩ := box2 W1 (.int .i64 0) (.int .i64 0) 28
  go_wp2_with fail
  refine (HF.out _ _ _ s0 s1).mono ?_
  rintro e w' ⟨rfl, rfl⟩
  clear s0 s1 hW2
  go_wp2_with fail
  refine (HSd.out _ (g1.trans g2)).mono ?_
  rintro e W3 ⟨p, r, rfl, hP, hp, g3⟩
  have HR := Lib.hid (HR0.out r hP)
  have HPr := Lib.hid hP
  clear hP
  have HP := Lib.hid hp
  have HG3 := Lib.hid ((g1.trans g2).trans g3)
  have hmk := HMK.out W3
  have HZ := Lib.hid (GRow.zero (base := W3.heap.size) (m := mn) (heap_alloc_new W3 (.cells (Array.replicate mn (Value.slice none 0 0)) 23)))
  have HPG := Lib.hid ((Gr.refl W3).alloc (.cells (Array.replicate mn (Value.slice none 0 0)) 23))
  clear hp g1 g2 g3
  go_wp2_with fail
  generalize W3.alloc (.cells (Array.replicate mn (Value.slice none 0 0)) 23) = W4 at *
  clear hmk
  go_loopg [12, 13, 14, 37] n (fun gk s12 s13 s14 s37 wr => ∃ (k : Nat) (vs : List Value), s37 = .int .i64 k ∧ gk + k = n ∧ GRow wr W3.heap.size W3.heap.size vs (grpL mn r k) ∧ Gr W3 wr)
  case atStart => exact ⟨0, _, rfl, by omega, HZ.out, HPG.out⟩
  case round =>
    obtain ⟨k, vs, rfl, hgk, hrow, hg⟩ := hrel
    by_cases hlt : k < n
    · obtain ⟨a, ha⟩ : ∃ a, r[k]? = some a := ⟨_, List.getElem?_eq_getElem (by have := HR.out; omega)⟩
      obtain ⟨g, rfl, hat⟩ := HP.out (by omega)
      have f0 := hg.cell (hat.at_ k a ha)
      obtain ⟨x, y, z, hx, hy, hz, hz01, t1, t2, t3, hGN⟩ := grpN_cases mn k
      have hyw : IntKind.i64.wrap (y : Int) = y := by rw [IntKind.wrap_i64] <;> (have := Nat.div_le_self k mn; omega)
      have hxl : x < mn := by rw [hx]; exact Nat.mod_lt _ (by omega)
      have hil := grpN_lt (m := mn) (p := k) (by omega)
      have hLl := grpL_len mn r k
      obtain ⟨l, hl⟩ : ∃ l, (grpL mn r k)[grpN mn k]? = some l := ⟨_, List.getElem?_eq_getElem (by rw [hLl]; exact hil)⟩
      obtain ⟨vi, hvi⟩ : ∃ v, vs[grpN mn k]? = some v := ⟨_, List.getElem?_eq_getElem (by rw [hrow.len, hLl]; exact hil)⟩
      have hll := grpL_le mn r k l (List.mem_of_getElem? hl)
      have HPUT := Lib.hid (grpL_put ha hl)
      have hki : (k : Int) < n := by omega
      have hown := hrow.own _ vi l hvi hl
      have fG := hrow.cell hvi
      generalize grpL mn r k = Lk at *
      generalize grpN mn k = i at *
      have HRW := Lib.hid hrow
      have HV := Lib.hid hvi
      have HL := Lib.hid hl
      have HGG := Lib.hid hg
      have HBS : Hid (W3.heap.size ≤ wr.heap.size) := hg.size
      have HLL := Lib.hid hll
      clear hrow hvi hl hg hat ha hx hy hz hll hLl
      have step : ∀ w1 v1, w1.ownsRow W3.heap.size 3 1 v1 (l.length + 1) (nats l ++ [.int .i64 (a : Int)]) → (wr.alloc (.cells #[.int .i64 (a : Int)] 3)).grownBy w1 vi.ownBlock → (v1.ownBlock = vi.ownBlock ∨ v1.ownBlock = some (wr.alloc (.cells #[.int .i64 (a : Int)] 3)).heap.size) →
          w1.cell? ⟨W3.heap.size, i, none⟩ = some vi ∧ w1.frozen? ⟨W3.heap.size, i, none⟩ = false ∧ GRow (w1.setCell ⟨W3.heap.size, i, none⟩ v1) W3.heap.size W3.heap.size (vs.set i v1) (grpL mn r (k + 1)) ∧ Gr W3 (w1.setCell ⟨W3.heap.size, i, none⟩ v1) := fun w1 v1 ho hgr hat => by
        have hA := HRW.out.gr ((Gr.refl wr).alloc (.cells #[.int .i64 (a : Int)] 3))
        have hB : w1.heap[W3.heap.size]? = (wr.alloc (.cells #[.int .i64 (a : Int)] 3)).heap[W3.heap.size]? := hgr.block _ (Array.getElem?_eq_some_iff.1 hA.blk).1 (fun e => hA.ng i vi HV.out e.symm)
        refine ⟨?_, ?_, ?_, ?_⟩
        · rw [World.cell?_of_block (a := ⟨W3.heap.size, i, none⟩) hB]; exact hA.cell HV.out
        · rw [World.frozen?_of_block (a := ⟨W3.heap.size, i, none⟩) hB]; exact hA.frozen i
        · rw [HPUT.out]
          refine hA.put HV.out HL.out hgr (l ++ [a]) ?_ hat
          rw [nats_add, List.length_append]
          exact ho
        · refine Below.setCell (Below.grown (HGG.out.alloc _) hgr ?_ (fun j hj => ?_)) (p := ⟨W3.heap.size, i, none⟩) (Nat.le_refl _) v1
          · simp; have := HBS.out; omega
          · exact (own_in (hA.own i vi l HV.out HL.out) hj).2
      have STEP := Lib.hid step
      clear step
      rcases hz01 with rfl | rfl
      · obtain rfl : i = x := hGN
        have q1 : ((0 : Nat) : Int) = 0 := rfl
        go_wp2_with (first
          | (at_builtin; refine wpList_append_own_at _ rfl _ _ 23 rfl W3.heap.size 3 i0 (.int .i64 0) 1 8 Tryz.underlying23 hi hz0 hz1 hz2 rfl (by decide) _ _ _ rfl ((own_kept hown ((Gr.refl wr).alloc _))) ⟨wr.heap.size, 0, none⟩ 1 1 [.int .i64 (a : Int)] rfl rfl (cell_one_new _ _ _) (by intro u hu; simp at hu; subst hu; rfl) (by unfold maxLen; have := HLL.out; omega) (by have := HLL.out; omega) (by simp; have := HBS.out; omega) ?_; intro v1 w1 hown1 hgrow1 hnil1 hat1; obtain ⟨p1, cc1, rfl, hs1, hs2⟩ := row_shape hown1; obtain ⟨c1, c2, c3, c4⟩ := STEP.out w1 _ hown1 hgrow1 hat1; have C3 := Lib.hid c3; have C4 := Lib.hid c4; clear c3 c4 hown1 hgrow1 hnil1 hat1 hs1 hs2))
        go_roundg (gk - 1)
        case measure => omega
        case rel => exact ⟨k + 1, _, by go_num, by omega, C3.out, C4.out⟩
      · have hii : ((mn : Int) - 1 - (x : Int)) = (i : Int) := by rw [if_pos rfl] at hGN; omega
        have hiw : IntKind.i64.wrap (i : Int) = i := by rw [IntKind.wrap_i64]; omega
        clear hGN
        have q1 : ((1 : Nat) : Int) = 1 := rfl
        go_wp2_with (first
          | (at_builtin; refine wpList_append_own_at _ rfl _ _ 23 rfl W3.heap.size 3 i0 (.int .i64 0) 1 8 Tryz.underlying23 hi hz0 hz1 hz2 rfl (by decide) _ _ _ rfl ((own_kept hown ((Gr.refl wr).alloc _))) ⟨wr.heap.size, 0, none⟩ 1 1 [.int .i64 (a : Int)] rfl rfl (cell_one_new _ _ _) (by intro u hu; simp at hu; subst hu; rfl) (by unfold maxLen; have := HLL.out; omega) (by have := HLL.out; omega) (by simp; have := HBS.out; omega) ?_; intro v1 w1 hown1 hgrow1 hnil1 hat1; obtain ⟨p1, cc1, rfl, hs1, hs2⟩ := row_shape hown1; obtain ⟨c1, c2, c3, c4⟩ := STEP.out w1 _ hown1 hgrow1 hat1; have C3 := Lib.hid c3; have C4 := Lib.hid c4; clear c3 c4 hown1 hgrow1 hnil1 hat1 hs1 hs2))
        go_roundg (gk - 1)
        case measure => omega
        case rel => exact ⟨k + 1, _, by go_num, by omega, C3.out, C4.out⟩
    · obtain rfl : k = n := by omega
      have HRW := Lib.hid hrow
      have HGG := Lib.hid (HG3.out.trans hg)
      clear hrow hg
      go_wp2_with fail
      exact bodyPost_ret (v := .tuple #[.slice (some ⟨W3.heap.size, 0, none⟩) mn mn, .int .i64 0]) (by simp [results, Tryz.results21, go_sem]) rfl ⟨_, _, r, rfl, HPr.out, HRW.out, HGG.out⟩
end Go.Proofs.YtcnpmebihdonoaaGreatDoor
