/- Starters: the reference's Groups. -/
import Derived.Test.YtlcbdgmclhdofaaGreatDoorGLsI
namespace Go.Proofs.YtlcbdgmclhdofaaGreatDoor
open Go.RowKit Go.Lib
set_option linter.unusedSimpArgs false
set_option linter.unusedVariables false
set_option maxHeartbeats 4000000 in
set_option maxRecDepth 100000 in
theorem refGroups_good (v : Value) (n mn kn : Nat) (P : List Nat → Prop) (w : World) (hm0 : 1 ≤ mn) (hm : mn ≤ 16) (hr : ∀ r, P r → r.length = n) (h1 : n ≤ 160)
    (HSd : Calls Tryz.prog 17 #[v, .int .i64 (kn : Int)] w fun e w' => ∃ p r c, e = .returned (.slice p n c) ∧ P r ∧ (0 < n → ∃ g, p = some ⟨g, 0, none⟩ ∧ OrdAt w' g r) ∧ Gr w w') :
    Calls Tryz.prog 18 #[v, .int .i64 (mn : Int), .int .i64 (kn : Int)] w fun e w' => ∃ G vs r, e = .returned (.slice (some ⟨G, 0, none⟩) mn mn) ∧ P r ∧ GRow w' G G vs (grpL mn r n) ∧ Gr w w' := by
  replace HSd := Lib.hid HSd
  have HR0 := Lib.hid hr
  have HMK := Lib.hid (make_rows mn (by omega))
  obtain ⟨i0, hi, hz0, hz1, hz2⟩ := info_parts info3
  clear hr
  go_enter Tryz.func18, Tryz.ntmps18
  go_wp2_with fail
  refine HSd.out.mono ?_
  rintro e W3 ⟨p, r, pc, rfl, hP, hp, g3⟩
  have HR := Lib.hid (HR0.out r hP)
  have HPr := Lib.hid hP
  clear hP
  have HP := Lib.hid hp
  have HG3 := Lib.hid g3
  have hmk := HMK.out W3
  have HZ := Lib.hid (GRow.zero (base := W3.heap.size) (m := mn) (heap_alloc_new W3 (.cells (Array.replicate mn (Value.slice none 0 0)) 30)))
  have HPG := Lib.hid ((Gr.refl W3).alloc (.cells (Array.replicate mn (Value.slice none 0 0)) 30))
  clear hp g3
  go_wp2_with fail
  generalize W3.alloc (.cells (Array.replicate mn (Value.slice none 0 0)) 30) = W4 at *
  clear hmk
  go_loopg [9, 10] n (fun gk s9 s10 wr => ∃ (k : Nat) (vs : List Value), s9 = .int .i64 k ∧ gk + k = n ∧ GRow wr W3.heap.size W3.heap.size vs (grpL mn r k) ∧ Gr W3 wr)
  case atStart => exact ⟨0, _, rfl, by omega, HZ.out, HPG.out⟩
  case round =>
    obtain ⟨k, vs, rfl, hgk, hrow, hg⟩ := hrel
    by_cases hlt : k < n
    · obtain ⟨a, ha⟩ : ∃ a, r[k]? = some a := ⟨_, List.getElem?_eq_getElem (by have := HR.out; omega)⟩
      obtain ⟨g, rfl, hat⟩ := HP.out (by omega)
      have HO := Lib.hid (hat.at_ k a ha)
      obtain ⟨x, y, z, hx, hy, hz, hz01, t1, t2, t3, hGN⟩ := grpN_cases mn k
      have hyw : IntKind.i64.wrap (y : Int) = y := by rw [IntKind.wrap_i64] <;> (have := Nat.div_le_self k mn; omega)
      have hxl : x < mn := by rw [hx]; exact Nat.mod_lt _ (by omega)
      have hil := grpN_lt (m := mn) (p := k) (by omega)
      have hLl := grpL_len mn r k
      obtain ⟨l, hl⟩ : ∃ l, (grpL mn r k)[grpN mn k]? = some l := ⟨_, List.getElem?_eq_getElem (by rw [hLl]; exact hil)⟩
      obtain ⟨vi, hvi⟩ : ∃ v, vs[grpN mn k]? = some v := ⟨_, List.getElem?_eq_getElem (by rw [hrow.len, hLl]; exact hil)⟩
      have hll := grpL_le mn r k l (List.mem_of_getElem? hl)
      have HPUT := Lib.hid (grpL_put ha hl)
      have hki : (k : Int) < n := by omega
      replace hrow := hrow.gr ((Gr.refl wr).drew)
      replace hg := hg.drew
      have hown := hrow.own _ vi l hvi hl
      have fG := hrow.cell hvi
      generalize grpL mn r k = Lk at *

      generalize grpN mn k = i at *
      have HRW := Lib.hid hrow
      have HV := Lib.hid hvi
      have HL := Lib.hid hl
      have HGV := Lib.hid hg
      have HBS : Hid (W3.heap.size ≤ wr.drew.heap.size) := hg.size
      have HLL := Lib.hid hll
      have HOA := Lib.hid (own_kept hown ((Gr.refl wr.drew).alloc (.cells #[.int .i64 (a : Int)] 3)))
      clear hrow hvi hl hg hat ha hx hy hz hll hLl hown
      have step : ∀ w1 v1, w1.ownsRow W3.heap.size 3 1 v1 (l.length + 1) (nats l ++ [.int .i64 (a : Int)]) → (wr.drew.alloc (.cells #[.int .i64 (a : Int)] 3)).grownBy w1 vi.ownBlock → (v1.ownBlock = vi.ownBlock ∨ v1.ownBlock = some (wr.drew.alloc (.cells #[.int .i64 (a : Int)] 3)).heap.size) →
          w1.cell? ⟨W3.heap.size, i, none⟩ = some vi ∧ w1.frozen? ⟨W3.heap.size, i, none⟩ = false ∧ GRow (w1.setCell ⟨W3.heap.size, i, none⟩ v1) W3.heap.size W3.heap.size (vs.set i v1) (grpL mn r (k + 1)) ∧ Gr W3 (w1.setCell ⟨W3.heap.size, i, none⟩ v1) ∧ Gr W3 w1 := fun w1 v1 ho hgr hat => by
        have hA := HRW.out.gr ((Gr.refl wr.drew).alloc (.cells #[.int .i64 (a : Int)] 3))
        have hB : w1.heap[W3.heap.size]? = (wr.drew.alloc (.cells #[.int .i64 (a : Int)] 3)).heap[W3.heap.size]? := hgr.block _ (Array.getElem?_eq_some_iff.1 hA.blk).1 (fun e => hA.ng i vi HV.out e.symm)
        have hC : Gr W3 w1 := by
          refine Below.grown (HGV.out.alloc _) hgr ?_ (fun j hj => ?_)
          · simp; have := HBS.out; simp at this; omega
          · exact (own_in (hA.own i vi l HV.out HL.out) hj).2
        refine ⟨?_, ?_, ?_, ?_, hC⟩
        · rw [World.cell?_of_block (a := ⟨W3.heap.size, i, none⟩) hB]; exact hA.cell HV.out
        · rw [World.frozen?_of_block (a := ⟨W3.heap.size, i, none⟩) hB]; exact hA.frozen i
        · rw [HPUT.out]
          refine hA.put HV.out HL.out hgr (l ++ [a]) ?_ hat
          rw [nats_add, List.length_append]
          exact ho
        · exact Below.setCell hC (p := ⟨W3.heap.size, i, none⟩) (Nat.le_refl _) v1
      have STEP := Lib.hid step
      clear step
      rcases hz01 with rfl | rfl
      · obtain rfl : i = x := hGN
        have q1 : ((0 : Nat) : Int) = 0 := rfl
        go_wp2_with fail
        refine wp_region_held_drew (S := (fun w' => w'.cell? ⟨g, k, none⟩ = some (.int .i64 (a : Int)))) (by kernel_rfl) (HGV.out.cell HO.out) (fun hHeld => ?_)
        generalize wr.drew = V at *
        refine wpAnyH_take (i := 0) (v := (.slice (some ⟨W3.heap.size, 0, none⟩) mn mn)) (op_at rfl) (by kernel_rfl) (by kernel_rfl) (by kernel_rfl) (fun _ _ _ h => h) (Or.inl ⟨rfl, fun w hSw => ?_⟩) (by assumption) ?_
        · (try dsimp only at hSw); go_simp; try with_reducible rfl
        (try simp only [Act.put, List.setIfInBounds_toArray, List.set_cons_zero, List.set_cons_succ])
        refine wpAnyH_take (i := 1) (v := (.int .i64 (i : Int))) (op_at rfl) (by kernel_rfl) (by kernel_rfl) (by kernel_rfl) (fun _ _ _ h => h) (Or.inl ⟨rfl, fun w hSw => ?_⟩) (by assumption) ?_
        · (try dsimp only at hSw); go_simp; try with_reducible rfl
        (try simp only [Act.put, List.setIfInBounds_toArray, List.set_cons_zero, List.set_cons_succ])
        refine wpAnyH_take (i := 2) (v := (.slice (some ⟨W3.heap.size, 0, none⟩) mn mn)) (op_at rfl) (by kernel_rfl) (by kernel_rfl) (by kernel_rfl) (fun _ _ _ h => h) (Or.inl ⟨rfl, fun w hSw => ?_⟩) (by assumption) ?_
        · (try dsimp only at hSw); go_simp; try with_reducible rfl
        (try simp only [Act.put, List.setIfInBounds_toArray, List.set_cons_zero, List.set_cons_succ])
        refine wpAnyH_take (i := 3) (v := (.int .i64 (i : Int))) (op_at rfl) (by kernel_rfl) (by kernel_rfl) (by kernel_rfl) (fun _ _ _ h => h) (Or.inl ⟨rfl, fun w hSw => ?_⟩) (by assumption) ?_
        · (try dsimp only at hSw); go_simp; try with_reducible rfl
        (try simp only [Act.put, List.setIfInBounds_toArray, List.set_cons_zero, List.set_cons_succ])
        refine wpAnyH_take (i := 4) (v := (.pointer (some ⟨W3.heap.size, i, none⟩))) (op_at rfl) (by kernel_rfl) (by kernel_rfl) (by kernel_rfl) (fun _ _ _ h => h) (Or.inl ⟨rfl, fun w hSw => ?_⟩) (by assumption) ?_
        · (try dsimp only at hSw); go_simp; try with_reducible rfl
        (try simp only [Act.put, List.setIfInBounds_toArray, List.set_cons_zero, List.set_cons_succ])
        refine wpAnyH_take (i := 6) (v := (.slice (some ⟨g, 0, none⟩) n pc)) (op_at rfl) (by kernel_rfl) (by kernel_rfl) (by kernel_rfl) (fun _ _ _ h => h) (Or.inl ⟨rfl, fun w hSw => ?_⟩) (by assumption) ?_
        · (try dsimp only at hSw); go_simp; try with_reducible rfl
        (try simp only [Act.put, List.setIfInBounds_toArray, List.set_cons_zero, List.set_cons_succ])
        refine wpAnyH_take (i := 7) (v := (.int .i64 (k : Int))) (op_at rfl) (by kernel_rfl) (by kernel_rfl) (by kernel_rfl) (fun _ _ _ h => h) (Or.inl ⟨rfl, fun w hSw => ?_⟩) (by assumption) ?_
        · (try dsimp only at hSw); go_simp; try with_reducible rfl
        (try simp only [Act.put, List.setIfInBounds_toArray, List.set_cons_zero, List.set_cons_succ])
        refine wpAnyH_take (i := 8) (v := (.pointer (some ⟨g, k, none⟩))) (op_at rfl) (by kernel_rfl) (by kernel_rfl) (by kernel_rfl) (fun _ _ _ h => h) (Or.inl ⟨rfl, fun w hSw => ?_⟩) (by assumption) ?_
        · (try dsimp only at hSw); go_simp; try with_reducible rfl
        (try simp only [Act.put, List.setIfInBounds_toArray, List.set_cons_zero, List.set_cons_succ])
        refine wpAnyH_take (i := 9) (v := (.int .i64 (a : Int))) (op_at rfl) (by kernel_rfl) (by kernel_rfl) (by kernel_rfl) (fun _ _ _ h => h) (Or.inl ⟨rfl, fun w hSw => ?_⟩) (by assumption) ?_
        · (try dsimp only at hSw); go_simp; try with_reducible rfl
        (try simp only [Act.put, List.setIfInBounds_toArray, List.set_cons_zero, List.set_cons_succ])
        refine wpAnyH_ready (rs := [5, 10]) (by kernel_rfl) (by simp) (AllReadyH.cons (op_at rfl) (fun K hK => ?_) (AllReadyH.cons (op_at rfl) (fun K hK => ?_) AllReadyH.nil))
        · go_simp
          refine hK.out _ _ hHeld (fun hHeld => ?_)
          clear hK K
          (try simp only [Act.put, List.setIfInBounds_toArray, List.set_cons_zero, List.set_cons_succ])
          refine wpAnyH_ready (rs := [10]) (by kernel_rfl) (by simp) (AllReadyH.cons (op_at rfl) (fun K hK => ?_) AllReadyH.nil)
          go_simp
          refine hK.out _ _ ((HGV.out.alloc _).cell HO.out) (fun hHeld => ?_)
          clear hK K
          (try simp only [Act.put, List.setIfInBounds_toArray, List.set_cons_zero, List.set_cons_succ])
          refine wpAnyH_ready (rs := [11]) (by kernel_rfl) (by simp) (AllReadyH.cons (op_at rfl) (fun K hK => ?_) AllReadyH.nil)
          rw [if_pos (show Region.wanted _ _ = true from rfl)]
          refine step_nats _ _ rfl W3.heap.size vi l [a] l.length 1 rfl rfl rfl HOA.out ⟨V.heap.size, 0, none⟩ 1 rfl (cell_one_new _ _ _) (by have := HLL.out; omega) (by simp; have := HBS.out; omega) ?_
          intro v1 w1 hown1 hgrow1 hat1
          obtain ⟨p1, cc1, rfl, hs1, hs2⟩ := row_shape hown1
          obtain ⟨c1, c2, c3, c4, c5⟩ := STEP.out w1 _ (by simpa [nats] using hown1) hgrow1 hat1
          have C3 := Lib.hid c3
          have C4 := Lib.hid c4
          have C5 := Lib.hid c5
          clear c3 c4 c5 hown1 hgrow1 hat1 hs1 hs2
          refine hK.out _ _ (C5.out.cell HO.out) (fun hHeld => ?_)
          clear hK K
          (try simp only [Act.put, List.setIfInBounds_toArray, List.set_cons_zero, List.set_cons_succ])
          refine wpAnyH_take (i := 12) (v := (.pointer (some ⟨W3.heap.size, i, none⟩))) (op_at rfl) (by kernel_rfl) (by kernel_rfl) (by kernel_rfl) (fun _ _ _ h => h) (Or.inl ⟨rfl, fun w hSw => ?_⟩) (by assumption) ?_
          · (try dsimp only at hSw); go_simp; try with_reducible rfl
          (try simp only [Act.put, List.setIfInBounds_toArray, List.set_cons_zero, List.set_cons_succ])
          refine wpAnyH_ready (rs := [13]) (by kernel_rfl) (by simp) (AllReadyH.cons (op_at rfl) (fun K hK => ?_) AllReadyH.nil)
          go_simp
          refine hK.out _ _ (C4.out.cell HO.out) (fun hHeld => ?_)
          clear hK K
          (try simp only [Act.put, List.setIfInBounds_toArray, List.set_cons_zero, List.set_cons_succ])
          refine wpAnyH_done (by kernel_rfl) ?_ _
          go_wp2_with fail
          go_roundg (gk - 1)
          case measure => omega
          case rel => exact ⟨k + 1, _, by go_num, by omega, C3.out, C4.out⟩
        · go_simp
          refine hK.out _ _ ((HGV.out.alloc _).cell HO.out) (fun hHeld => ?_)
          clear hK K
          (try simp only [Act.put, List.setIfInBounds_toArray, List.set_cons_zero, List.set_cons_succ])
          have fG2 := ((Gr.refl V).alloc (.cells #[.int .i64 (a : Int)] 3)).cell fG
          refine wpAnyH_ready (rs := [5]) (by kernel_rfl) (by simp) (AllReadyH.cons (op_at rfl) (fun K hK => ?_) AllReadyH.nil)
          go_simp
          refine hK.out _ _ hHeld (fun hHeld => ?_)
          clear hK K
          (try simp only [Act.put, List.setIfInBounds_toArray, List.set_cons_zero, List.set_cons_succ])
          refine wpAnyH_ready (rs := [11]) (by kernel_rfl) (by simp) (AllReadyH.cons (op_at rfl) (fun K hK => ?_) AllReadyH.nil)
          rw [if_pos (show Region.wanted _ _ = true from rfl)]
          refine step_nats _ _ rfl W3.heap.size vi l [a] l.length 1 rfl rfl rfl HOA.out ⟨V.heap.size, 0, none⟩ 1 rfl (cell_one_new _ _ _) (by have := HLL.out; omega) (by simp; have := HBS.out; omega) ?_
          intro v1 w1 hown1 hgrow1 hat1
          obtain ⟨p1, cc1, rfl, hs1, hs2⟩ := row_shape hown1
          obtain ⟨c1, c2, c3, c4, c5⟩ := STEP.out w1 _ (by simpa [nats] using hown1) hgrow1 hat1
          have C3 := Lib.hid c3
          have C4 := Lib.hid c4
          have C5 := Lib.hid c5
          clear c3 c4 c5 hown1 hgrow1 hat1 hs1 hs2
          refine hK.out _ _ (C5.out.cell HO.out) (fun hHeld => ?_)
          clear hK K
          (try simp only [Act.put, List.setIfInBounds_toArray, List.set_cons_zero, List.set_cons_succ])
          refine wpAnyH_take (i := 12) (v := (.pointer (some ⟨W3.heap.size, i, none⟩))) (op_at rfl) (by kernel_rfl) (by kernel_rfl) (by kernel_rfl) (fun _ _ _ h => h) (Or.inl ⟨rfl, fun w hSw => ?_⟩) (by assumption) ?_
          · (try dsimp only at hSw); go_simp; try with_reducible rfl
          (try simp only [Act.put, List.setIfInBounds_toArray, List.set_cons_zero, List.set_cons_succ])
          refine wpAnyH_ready (rs := [13]) (by kernel_rfl) (by simp) (AllReadyH.cons (op_at rfl) (fun K hK => ?_) AllReadyH.nil)
          go_simp
          refine hK.out _ _ (C4.out.cell HO.out) (fun hHeld => ?_)
          clear hK K
          (try simp only [Act.put, List.setIfInBounds_toArray, List.set_cons_zero, List.set_cons_succ])
          refine wpAnyH_done (by kernel_rfl) ?_ _
          go_wp2_with fail
          go_roundg (gk - 1)
          case measure => omega
          case rel => exact ⟨k + 1, _, by go_num, by omega, C3.out, C4.out⟩
      · have hii : ((mn : Int) - 1 - (x : Int)) = (i : Int) := by rw [if_pos rfl] at hGN; omega
        have hiw : IntKind.i64.wrap (i : Int) = i := by rw [IntKind.wrap_i64]; omega
        clear hGN
        have q1 : ((1 : Nat) : Int) = 1 := rfl
        go_wp2_with fail
        refine wp_region_held_drew (S := (fun w' => w'.cell? ⟨g, k, none⟩ = some (.int .i64 (a : Int)))) (by kernel_rfl) (HGV.out.cell HO.out) (fun hHeld => ?_)
        generalize wr.drew = V at *
        refine wpAnyH_take (i := 0) (v := (.slice (some ⟨W3.heap.size, 0, none⟩) mn mn)) (op_at rfl) (by kernel_rfl) (by kernel_rfl) (by kernel_rfl) (fun _ _ _ h => h) (Or.inl ⟨rfl, fun w hSw => ?_⟩) (by assumption) ?_
        · (try dsimp only at hSw); go_simp; try with_reducible rfl
        (try simp only [Act.put, List.setIfInBounds_toArray, List.set_cons_zero, List.set_cons_succ])
        refine wpAnyH_take (i := 1) (v := (.int .i64 (i : Int))) (op_at rfl) (by kernel_rfl) (by kernel_rfl) (by kernel_rfl) (fun _ _ _ h => h) (Or.inl ⟨rfl, fun w hSw => ?_⟩) (by assumption) ?_
        · (try dsimp only at hSw); go_simp; try with_reducible rfl
        (try simp only [Act.put, List.setIfInBounds_toArray, List.set_cons_zero, List.set_cons_succ])
        refine wpAnyH_take (i := 2) (v := (.slice (some ⟨W3.heap.size, 0, none⟩) mn mn)) (op_at rfl) (by kernel_rfl) (by kernel_rfl) (by kernel_rfl) (fun _ _ _ h => h) (Or.inl ⟨rfl, fun w hSw => ?_⟩) (by assumption) ?_
        · (try dsimp only at hSw); go_simp; try with_reducible rfl
        (try simp only [Act.put, List.setIfInBounds_toArray, List.set_cons_zero, List.set_cons_succ])
        refine wpAnyH_take (i := 3) (v := (.int .i64 (i : Int))) (op_at rfl) (by kernel_rfl) (by kernel_rfl) (by kernel_rfl) (fun _ _ _ h => h) (Or.inl ⟨rfl, fun w hSw => ?_⟩) (by assumption) ?_
        · (try dsimp only at hSw); go_simp; try with_reducible rfl
        (try simp only [Act.put, List.setIfInBounds_toArray, List.set_cons_zero, List.set_cons_succ])
        refine wpAnyH_take (i := 4) (v := (.pointer (some ⟨W3.heap.size, i, none⟩))) (op_at rfl) (by kernel_rfl) (by kernel_rfl) (by kernel_rfl) (fun _ _ _ h => h) (Or.inl ⟨rfl, fun w hSw => ?_⟩) (by assumption) ?_
        · (try dsimp only at hSw); go_simp; try with_reducible rfl
        (try simp only [Act.put, List.setIfInBounds_toArray, List.set_cons_zero, List.set_cons_succ])
        refine wpAnyH_take (i := 6) (v := (.slice (some ⟨g, 0, none⟩) n pc)) (op_at rfl) (by kernel_rfl) (by kernel_rfl) (by kernel_rfl) (fun _ _ _ h => h) (Or.inl ⟨rfl, fun w hSw => ?_⟩) (by assumption) ?_
        · (try dsimp only at hSw); go_simp; try with_reducible rfl
        (try simp only [Act.put, List.setIfInBounds_toArray, List.set_cons_zero, List.set_cons_succ])
        refine wpAnyH_take (i := 7) (v := (.int .i64 (k : Int))) (op_at rfl) (by kernel_rfl) (by kernel_rfl) (by kernel_rfl) (fun _ _ _ h => h) (Or.inl ⟨rfl, fun w hSw => ?_⟩) (by assumption) ?_
        · (try dsimp only at hSw); go_simp; try with_reducible rfl
        (try simp only [Act.put, List.setIfInBounds_toArray, List.set_cons_zero, List.set_cons_succ])
        refine wpAnyH_take (i := 8) (v := (.pointer (some ⟨g, k, none⟩))) (op_at rfl) (by kernel_rfl) (by kernel_rfl) (by kernel_rfl) (fun _ _ _ h => h) (Or.inl ⟨rfl, fun w hSw => ?_⟩) (by assumption) ?_
        · (try dsimp only at hSw); go_simp; try with_reducible rfl
        (try simp only [Act.put, List.setIfInBounds_toArray, List.set_cons_zero, List.set_cons_succ])
        refine wpAnyH_take (i := 9) (v := (.int .i64 (a : Int))) (op_at rfl) (by kernel_rfl) (by kernel_rfl) (by kernel_rfl) (fun _ _ _ h => h) (Or.inl ⟨rfl, fun w hSw => ?_⟩) (by assumption) ?_
        · (try dsimp only at hSw); go_simp; try with_reducible rfl
        (try simp only [Act.put, List.setIfInBounds_toArray, List.set_cons_zero, List.set_cons_succ])
        refine wpAnyH_ready (rs := [5, 10]) (by kernel_rfl) (by simp) (AllReadyH.cons (op_at rfl) (fun K hK => ?_) (AllReadyH.cons (op_at rfl) (fun K hK => ?_) AllReadyH.nil))
        · go_simp
          refine hK.out _ _ hHeld (fun hHeld => ?_)
          clear hK K
          (try simp only [Act.put, List.setIfInBounds_toArray, List.set_cons_zero, List.set_cons_succ])
          refine wpAnyH_ready (rs := [10]) (by kernel_rfl) (by simp) (AllReadyH.cons (op_at rfl) (fun K hK => ?_) AllReadyH.nil)
          go_simp
          refine hK.out _ _ ((HGV.out.alloc _).cell HO.out) (fun hHeld => ?_)
          clear hK K
          (try simp only [Act.put, List.setIfInBounds_toArray, List.set_cons_zero, List.set_cons_succ])
          refine wpAnyH_ready (rs := [11]) (by kernel_rfl) (by simp) (AllReadyH.cons (op_at rfl) (fun K hK => ?_) AllReadyH.nil)
          rw [if_pos (show Region.wanted _ _ = true from rfl)]
          refine step_nats _ _ rfl W3.heap.size vi l [a] l.length 1 rfl rfl rfl HOA.out ⟨V.heap.size, 0, none⟩ 1 rfl (cell_one_new _ _ _) (by have := HLL.out; omega) (by simp; have := HBS.out; omega) ?_
          intro v1 w1 hown1 hgrow1 hat1
          obtain ⟨p1, cc1, rfl, hs1, hs2⟩ := row_shape hown1
          obtain ⟨c1, c2, c3, c4, c5⟩ := STEP.out w1 _ (by simpa [nats] using hown1) hgrow1 hat1
          have C3 := Lib.hid c3
          have C4 := Lib.hid c4
          have C5 := Lib.hid c5
          clear c3 c4 c5 hown1 hgrow1 hat1 hs1 hs2
          refine hK.out _ _ (C5.out.cell HO.out) (fun hHeld => ?_)
          clear hK K
          (try simp only [Act.put, List.setIfInBounds_toArray, List.set_cons_zero, List.set_cons_succ])
          refine wpAnyH_take (i := 12) (v := (.pointer (some ⟨W3.heap.size, i, none⟩))) (op_at rfl) (by kernel_rfl) (by kernel_rfl) (by kernel_rfl) (fun _ _ _ h => h) (Or.inl ⟨rfl, fun w hSw => ?_⟩) (by assumption) ?_
          · (try dsimp only at hSw); go_simp; try with_reducible rfl
          (try simp only [Act.put, List.setIfInBounds_toArray, List.set_cons_zero, List.set_cons_succ])
          refine wpAnyH_ready (rs := [13]) (by kernel_rfl) (by simp) (AllReadyH.cons (op_at rfl) (fun K hK => ?_) AllReadyH.nil)
          go_simp
          refine hK.out _ _ (C4.out.cell HO.out) (fun hHeld => ?_)
          clear hK K
          (try simp only [Act.put, List.setIfInBounds_toArray, List.set_cons_zero, List.set_cons_succ])
          refine wpAnyH_done (by kernel_rfl) ?_ _
          go_wp2_with fail
          go_roundg (gk - 1)
          case measure => omega
          case rel => exact ⟨k + 1, _, by go_num, by omega, C3.out, C4.out⟩
        · go_simp
          refine hK.out _ _ ((HGV.out.alloc _).cell HO.out) (fun hHeld => ?_)
          clear hK K
          (try simp only [Act.put, List.setIfInBounds_toArray, List.set_cons_zero, List.set_cons_succ])
          have fG2 := ((Gr.refl V).alloc (.cells #[.int .i64 (a : Int)] 3)).cell fG
          refine wpAnyH_ready (rs := [5]) (by kernel_rfl) (by simp) (AllReadyH.cons (op_at rfl) (fun K hK => ?_) AllReadyH.nil)
          go_simp
          refine hK.out _ _ hHeld (fun hHeld => ?_)
          clear hK K
          (try simp only [Act.put, List.setIfInBounds_toArray, List.set_cons_zero, List.set_cons_succ])
          refine wpAnyH_ready (rs := [11]) (by kernel_rfl) (by simp) (AllReadyH.cons (op_at rfl) (fun K hK => ?_) AllReadyH.nil)
          rw [if_pos (show Region.wanted _ _ = true from rfl)]
          refine step_nats _ _ rfl W3.heap.size vi l [a] l.length 1 rfl rfl rfl HOA.out ⟨V.heap.size, 0, none⟩ 1 rfl (cell_one_new _ _ _) (by have := HLL.out; omega) (by simp; have := HBS.out; omega) ?_
          intro v1 w1 hown1 hgrow1 hat1
          obtain ⟨p1, cc1, rfl, hs1, hs2⟩ := row_shape hown1
          obtain ⟨c1, c2, c3, c4, c5⟩ := STEP.out w1 _ (by simpa [nats] using hown1) hgrow1 hat1
          have C3 := Lib.hid c3
          have C4 := Lib.hid c4
          have C5 := Lib.hid c5
          clear c3 c4 c5 hown1 hgrow1 hat1 hs1 hs2
          refine hK.out _ _ (C5.out.cell HO.out) (fun hHeld => ?_)
          clear hK K
          (try simp only [Act.put, List.setIfInBounds_toArray, List.set_cons_zero, List.set_cons_succ])
          refine wpAnyH_take (i := 12) (v := (.pointer (some ⟨W3.heap.size, i, none⟩))) (op_at rfl) (by kernel_rfl) (by kernel_rfl) (by kernel_rfl) (fun _ _ _ h => h) (Or.inl ⟨rfl, fun w hSw => ?_⟩) (by assumption) ?_
          · (try dsimp only at hSw); go_simp; try with_reducible rfl
          (try simp only [Act.put, List.setIfInBounds_toArray, List.set_cons_zero, List.set_cons_succ])
          refine wpAnyH_ready (rs := [13]) (by kernel_rfl) (by simp) (AllReadyH.cons (op_at rfl) (fun K hK => ?_) AllReadyH.nil)
          go_simp
          refine hK.out _ _ (C4.out.cell HO.out) (fun hHeld => ?_)
          clear hK K
          (try simp only [Act.put, List.setIfInBounds_toArray, List.set_cons_zero, List.set_cons_succ])
          refine wpAnyH_done (by kernel_rfl) ?_ _
          go_wp2_with fail
          go_roundg (gk - 1)
          case measure => omega
          case rel => exact ⟨k + 1, _, by go_num, by omega, C3.out, C4.out⟩
    · obtain rfl : k = n := by omega
      have HRW := Lib.hid hrow
      have HGG := Lib.hid (HG3.out.trans hg)
      clear hrow hg
      go_wp2_with fail
      go_ret
      exact ⟨_, _, r, rfl, HPr.out, HRW.out, HGG.out⟩
end Go.Proofs.YtlcbdgmclhdofaaGreatDoor
