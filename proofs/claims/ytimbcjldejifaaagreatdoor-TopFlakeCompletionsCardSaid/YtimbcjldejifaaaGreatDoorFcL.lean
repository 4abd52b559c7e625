/- TopFlakeCompletions: the law's walk. -/
import Derived.Test.YtimbcjldejifaaaGreatDoorGRkR
import Derived.Test.YtimbcjldejifaaaGreatDoorGWitC
import Derived.Test.YtimbcjldejifaaaGreatDoorGExA
import Derived.Test.YtimbcjldejifaaaGreatDoorGExD
import Derived.Test.YtimbcjldejifaaaGreatDoorGNaF
namespace Go.Proofs.YtimbcjldejifaaaGreatDoor
open Go.RowKit Go.Lib
set_option linter.unusedSimpArgs false
set_option linter.unusedVariables false
set_option maxHeartbeats 8000000
set_option maxRecDepth 100000
/-- the law's own test passes -/
def FlakeOK (w : World) : Prop := ∀ W, Gr w W → Calls Tryz.prog 5 #[] W fun e w' => e = .returned (.bool true) ∧ Gr W w'
theorem fc_bad {v : Value} {xs : List OpR} {w : World} (cl : Int) (h : OpsV w v xs) (hA : FlakeOK w) (hb : 4 < xs.length ∨ openE xs ≠ 0 ∨ cl < 0 ∨ (xs.length : Int) ≤ cl) :
    Calls Tryz.prog 3 #[v, .int .i64 cl] w fun e w' => e = .returned (.bool true) ∧ Gr w w' := by
  have HC := Lib.hid (refOpen_c h)
  have HA : Hid (FlakeOK w) := hA
  obtain ⟨p, cap, rfl⟩ := opsV_slice h
  clear h hA
  generalize openE xs = E at *
  generalize xs.length = n at *
  by_cases h4 : 4 < n
  · have h5 : decide ((4 : Int) < n) = true := decide_eq_true (by omega)
    go_enter Tryz.func3, Tryz.ntmps3
    go_wp2_with (refine (HA.out _ (Gr.refl _)).mono ?_; rintro e w2 ⟨rfl, g2⟩)
    go_ret
    exact ⟨rfl, g2⟩
  have h5 : decide ((4 : Int) < n) = false := decide_eq_false (by omega)
  by_cases hE : E = 0
  case neg =>
    have hE2 : (E != 0) = true := bne_iff_ne.2 hE
    go_enter Tryz.func3, Tryz.ntmps3
    go_wp2_with fail
    refine HC.out.mono ?_
    rintro e w1 ⟨rfl, g1⟩
    go_wp2_with (refine (HA.out _ g1).mono ?_; rintro e w2 ⟨rfl, g2⟩)
    go_ret
    exact ⟨rfl, g1.trans g2⟩
  subst hE
  by_cases h0 : cl < 0
  · have h6 : decide (cl < 0) = true := decide_eq_true h0
    go_enter Tryz.func3, Tryz.ntmps3
    go_wp2_with fail
    refine HC.out.mono ?_
    rintro e w1 ⟨rfl, g1⟩
    go_wp2_with (refine (HA.out _ g1).mono ?_; rintro e w2 ⟨rfl, g2⟩)
    go_ret
    exact ⟨rfl, g1.trans g2⟩
  · have h6 : decide (cl < 0) = false := decide_eq_false h0
    have h7 : decide ((n : Int) ≤ cl) = true := decide_eq_true (by omega)
    go_enter Tryz.func3, Tryz.ntmps3
    go_wp2_with fail
    refine HC.out.mono ?_
    rintro e w1 ⟨rfl, g1⟩
    go_wp2_with (refine (HA.out _ g1).mono ?_; rintro e w2 ⟨rfl, g2⟩)
    go_ret
    exact ⟨rfl, g1.trans g2⟩
theorem opCs_more (xs : List OpR) (x : OpR) : opCs (xs ++ [x]) = opCs xs ++ opC x := by simp [opCs]
theorem infoRO2 : (Tryz.prog.info? 28).map (fun i => (i.zero, i.size, i.bytes)) = some (some (.agg #[.string ⟨#[]⟩, .int .i64 0, .int .i64 0]), 3, 32) := by kernel_rfl
/-- append of one element of three cells, as an operation of a drawn region -/
theorem step_row {w : World} {o : Oper} {a : Act} {K : Act → World → Prop} {Q : Exit → Act → World → Prop} (s x : Operand) (ho : o.op = .call { callee := .builtin .append, args := #[s, x], argTypes := #[30, 30] })
    (base : Nat) (v : Value) (n : Nat) (zs : List Value) (hs : a.eval s = v) (hown : w.ownsRow base 33 3 v n zs) (g : Nat) (u0 u1 u2 : Value) (hx : a.eval x = .slice (some ⟨g, 0, none⟩) 1 1)
    (hq : ∀ j u, [u0, u1, u2][j]? = some u → w.cell? ((⟨g, 0, none⟩ : Addr).add j) = some u) (h1 : ∀ u ∈ [u0, u1, u2], u.oneCell' = true) (h100 : n ≤ 1000) (hbase : base ≤ w.heap.size)
    (h : ∀ v' w', w'.ownsRow base 33 3 v' (n + 1) (zs ++ [u0, u1, u2]) → w.grownBy w' v.ownBlock → K (a.put o.dst v') w') : Oper.wp Tryz.prog o a w K Q := by
  obtain ⟨i0, hi, hz0, hz1, hz2⟩ := info_parts infoRes
  obtain ⟨v', w', hr, h2, h3, h4⟩ := run_append_own (P := Tryz.prog) w base 30 o.type 33 i0 (.agg #[.string ⟨#[]⟩, .string ⟨#[]⟩, .slice none 0 0]) 3 56 Tryz.underlying30 hi hz0 hz1 hz2 rfl (by decide) v n zs hown ⟨g, 0, none⟩ 1 1 [u0, u1, u2] rfl hq h1 (by unfold maxLen; omega) (by omega) hbase
  unfold Oper.wp
  simp [execOp, ho, resolve, invoke, builtin, hs, hx, hr, Result.andThen]
  exact h v' w' h2 h3
theorem size_pos {x : OpR} (h : x.lo ≤ x.hi) : x.hi - x.lo = ((sizeO x - 1 : Nat) : Int) ∧ ((sizeO x - 1 : Nat) : Int) + 1 = (sizeO x : Int) ∧ 1 ≤ sizeO x := by
  unfold sizeO
  omega
theorem fc_good (hS : SortOK) (hF : SortFOK) {v : Value} {xs : List OpR} {w : World} (cl : Nat) (x0 : OpR) (h : OpsV w v xs) (hx0 : xs[cl]? = some x0) (hE : openE xs = 0) (h4 : xs.length ≤ 4) (hSt : StatesIn w) (hA : FlakeOK w) :
    Calls Tryz.prog 3 #[v, .int .i64 cl] w fun e w' => e = .returned (.bool true) ∧ Gr w w' := by
  have hok := ok_of hE
  have hclt := (List.getElem?_eq_some_iff.1 hx0).1
  have HC := Lib.hid (refOpen_c h)
  rw [hE] at HC
  have HA : Hid (FlakeOK w) := hA
  have h' := h
  obtain ⟨⟨p, cap, rfl, hcap, hh⟩⟩ := h
  obtain ⟨b, off, rfl, hc⟩ := hh hok.len0
  have HOpen := Lib.hid hc
  have HX := Lib.hid (fun k (h : k < xs.length) => (show ∃ x, xs[k]? = some x from ⟨xs[k]'(by omega), List.getElem?_eq_getElem _⟩))
  have HEnds := Lib.hid hok.ends
  have HStt : Hid (StatesIn w) := hSt
  have HTot := Lib.hid (fun k x (h : xs[k]? = some x) => total_take h)
  obtain ⟨i0, hi, hz0, hz1, hz2⟩ := info_parts infoRO2
  have hmm := @run_makeMap Tryz.prog
  have hn5 : decide ((4 : Int) < xs.length) = false := decide_eq_false (by omega)
  have hc0 : decide ((cl : Int) < 0) = false := decide_eq_false (by omega)
  have hc1 : decide ((xs.length : Int) ≤ cl) = false := decide_eq_false (by omega)
  have hc2 : decide (xs.length ≤ cl) = false := decide_eq_false (by omega)
  have hc3 : decide (4 < xs.length) = false := decide_eq_false (by omega)
  have HOpCs := Lib.hid (fun k => opCs_len (xs.take k))
  clear hh hcap hc hA hSt
  generalize hn : xs.length = n at *
  go_enter Tryz.func3, Tryz.ntmps3
  go_wp2_with fail
  refine HC.out.mono ?_
  rintro e w1 ⟨rfl, g1⟩
  clear HC
  go_wp2_with fail
  go_loopw [5, 6, 48] (fun v5 t6 i wr => ∃ k : Nat, k ≤ n ∧ i = .int .i64 k ∧ t6 = .int .i64 (totalO (xs.take k) : Nat) ∧ totalO (xs.take k) ≤ 4 ^ k ∧ Hid (∀ z ∈ xs.take k, z.hi - z.lo ≤ 3) ∧ wr.ownsRow w1.heap.size 28 3 v5 k (opCs (xs.take k)) ∧ Gr w1 wr) (fun _ _ i _ => n - (intOf i).toNat)
  case atStart => exact ⟨0, Nat.zero_le _, rfl, rfl, by simp [totalO], by intro z hz; simp at hz, World.ownsRow_nil _ _ _ _, Gr.refl _⟩
  case round =>
    obtain ⟨k, hk, rfl, rfl, hT4, HZ, hown, hnx⟩ := hrel
    have hsize := hnx.size
    by_cases hkN : k < n
    · obtain ⟨z, hz⟩ := HX.out k hkN
      obtain ⟨c0, c1, c2⟩ := (HOpen.out k z hz).gr (g1.trans hnx)
      obtain ⟨z0, z1, z2⟩ := HEnds.out k z hz
      obtain ⟨q1, q2, q3⟩ := size_pos z1
      have hi2 : (k : Int) < n := by omega
      have HT := Lib.hid (HTot.out k z hz)
      have HQ := Lib.hid (show xs.take (k + 1) = xs.take k ++ [z] from by rw [List.take_add_one, hz]; rfl)
      have HQ3 := Lib.hid (opCs_more (xs.take k) z)
      have gz := ((Gr.refl wr).alloc (.cells #[.string z.nm, .int .i64 z.lo, .int .i64 z.hi] 27))
      have HOW := Lib.hid (own_gr hown gz)
      have HGZ := Lib.hid gz
      have hk4 : k ≤ 3 := by omega
      have hTb : totalO (xs.take k) ≤ 64 := Nat.le_trans hT4 (by
        have : 4 ^ k ≤ 4 ^ 3 := Nat.pow_le_pow_right (by omega) hk4
        omega)
      by_cases h3 : 3 < sizeO z - 1
      · have h3d : decide ((3 : Int) < ((sizeO z - 1 : Nat) : Int)) = true := decide_eq_true (by omega)
        clear hown hz
        go_wp2_with (refine (HA.out _ ((g1.trans hnx).trans HGZ.out)).mono ?_; rintro e w2 ⟨rfl, g2⟩)
        go_ret
        exact ⟨rfl, ((g1.trans hnx).trans HGZ.out).trans g2⟩
      · have h3d : decide ((3 : Int) < ((sizeO z - 1 : Nat) : Int)) = false := decide_eq_false (by omega)
        by_cases h40 : 40 < z.nm.size
        · have h40d : decide ((40 : Int) < z.nm.size) = true := decide_eq_true (by omega)
          clear hown hz
          go_wp2_with (refine (HA.out _ ((g1.trans hnx).trans HGZ.out)).mono ?_; rintro e w2 ⟨rfl, g2⟩)
          go_ret
          exact ⟨rfl, ((g1.trans hnx).trans HGZ.out).trans g2⟩
        · have h40d : decide ((40 : Int) < z.nm.size) = false := decide_eq_false (by omega)
          have hs4 : sizeO z ≤ 4 := by omega
          have HT4 : Hid (totalO (xs.take (k + 1)) ≤ 4 ^ (k + 1)) := by
            unfold Hid
            rw [HT.out, Nat.pow_succ]
            exact Nat.mul_le_mul hT4 hs4
          have HZ2 : Hid (∀ y ∈ xs.take (k + 1), y.hi - y.lo ≤ 3) := fun y hy => by
            rw [HQ.out, List.mem_append, List.mem_singleton] at hy
            rcases hy with hy | rfl
            · exact HZ.out y hy
            · omega
          have hm1 : ((totalO (xs.take k) : Nat) : Int) * (sizeO z : Int) = ((totalO (xs.take k) * sizeO z : Nat) : Int) := by push_cast; rfl
          have hm2 : totalO (xs.take k) * sizeO z ≤ 1024 := Nat.le_trans (Nat.mul_le_mul hTb hs4) (by omega)
          have hm3 : IntKind.i64.wrap (((totalO (xs.take k) * sizeO z : Nat) : Int)) = ((totalO (xs.take k) * sizeO z : Nat) : Int) := by rw [IntKind.wrap_i64]; omega
          have HTe := Lib.hid HT.out
          clear hown hz HT hT4
          generalize totalO (xs.take k) = T at *
          generalize hTs : T * sizeO z = Ts at *
          generalize hsz : sizeO z = sz at *
          go_wp2_with (at_builtin; refine wpList_append_own _ rfl _ _ 25 rfl w1.heap.size 28 i0 (.agg #[.string ⟨#[]⟩, .int .i64 0, .int .i64 0]) 3 32 Tryz.underlying25 hi hz0 hz1 hz2 rfl (by decide) _ _ _ rfl (HOW.out.alloc _) ⟨wr.heap.size + 1, 0, none⟩ 1 1 [.string z.nm, .int .i64 z.lo, .int .i64 z.hi] rfl rfl (cell_three_sz _ _ (by simp) _ _ _ _) (by intro u hu; simp at hu; rcases hu with rfl | rfl | rfl <;> rfl) (by unfold maxLen; omega) (by omega) (by simp; omega) ?_; intro v1 w3 hown1 hgrow1 hnil1)
          go_roundw
          case rel => exact ⟨k + 1, by omega, by go_num, by rw [HTe.out], HT4.out, HZ2, by rw [HQ.out, HQ3.out]; exact hown1, Below.grown ((hnx.trans HGZ.out).alloc _) hgrow1 (by simp; omega) (fun j hj => (HOW.out.lt j hj).1)⟩
          case measure => simp [intOf]; omega
    · obtain rfl : k = n := by omega
      have hi2 : ¬ (k : Int) < k := by omega
      rw [List.take_of_length_le (by omega)] at hown hT4 HZ
      rw [List.take_of_length_le (show xs.length ≤ k by omega)]
      have hOwn := opsV_cells hn hown
      obtain ⟨po, co, rfl⟩ := opsV_slice hOwn
      rw [hn] at hOwn
      have hT256 : totalO xs ≤ 256 := Nat.le_trans hT4 (by
        have : 4 ^ k ≤ 4 ^ 4 := Nat.pow_le_pow_right (by omega) h4
        omega)
      have gW := g1.trans hnx
      clear hown hT4 HTot HOpCs
      have hZ3 := HZ.out
      have HZz := Lib.hid hZ3
      clear hZ3 HZ
      generalize wr = wO at *
      have HSet0 := Lib.hid (set_new wO)
      have gO1 : Gr wO (wO.alloc (.map #[] 0)) := (Gr.refl wO).alloc _
      go_wp2_with fail
      go_loopw [80] (fun i wr => ∃ j : Nat, j ≤ totalO xs ∧ i = .int .i64 j ∧ SetAt wr wO.heap.size (seenK xs cl j) ∧ Gr wO wr) (fun i _ => totalO xs - (intOf i).toNat)
      case atStart => exact ⟨0, Nat.zero_le _, rfl, HSet0.out, gO1⟩
      case round =>
        obtain ⟨j, hj, rfl, hset, gj⟩ := hrel
        by_cases hjt : j < totalO xs
        · have hj2 : (j : Int) < (totalO xs : Nat) := by omega
          have hSet := Lib.hid hset
          clear hset HSet0 gO1
          generalize wr = wQ at *
          go_wp2_with fail
          go_loopw [11, 12, 86] (fun t11 v0 i wr => ∃ (q : Nat) (v : Value) (rs : List RowR), v = v0 ∧ q ≤ k ∧ i = .int .i64 q ∧ t11 = .int .i64 (restN xs j q : Nat) ∧ rs.length = q ∧ ValsAt wr 0 (decL xs (digs xs j)) rs ∧ wr.ownsRow wQ.heap.size 33 3 v q (rowCs rs) ∧ Gr wQ wr) (fun _ _ i _ => k - (intOf i).toNat)
          case atStart => exact ⟨0, _, [], rfl, Nat.zero_le _, rfl, by rw [restN_zero], rfl, fun a y r _ hr => by simp at hr, World.ownsRow_nil _ _ _ _, Gr.refl _⟩
          case round =>
            obtain ⟨q, v, rs, rfl, hq, rfl, rfl, hrs, hvals, hown, gq⟩ := hrel
            by_cases hqk : q < k
            · obtain ⟨z, hz⟩ := HX.out q hqk
              obtain ⟨c0, c1, c2⟩ := (HOpen.out q z hz).gr ((g1.trans hnx).trans (gj.trans gq))
              obtain ⟨z0, z1, z2⟩ := HEnds.out q z hz
              obtain ⟨q1, q2, q3⟩ := size_pos z1
              have hz3 := HZz.out z (List.mem_of_getElem? hz)
              have hs4 : sizeO z ≤ 4 := by unfold sizeO; omega
              have hi3 : (q : Int) < k := by omega
              have hR := restN_le xs j q
              have HRs := Lib.hid (restN_step (n := j) hz)
              have hdig := digs_at (n := j) hz
              have hdec := decL_at hz hdig
              have HQd := Lib.hid hdec
              have e7 : Int.tmod ((restN xs j q : Nat) : Int) ((sizeO z : Nat) : Int) = ((restN xs j q % sizeO z : Nat) : Int) := by rw [Int.tmod_eq_emod_of_nonneg (by omega)]; push_cast; rfl
              have e8 : Int.tdiv ((restN xs j q : Nat) : Int) ((sizeO z : Nat) : Int) = ((restN xs j q / sizeO z : Nat) : Int) := by rw [Int.tdiv_eq_ediv_of_nonneg (by omega)]; push_cast; rfl
              have hmod := Nat.mod_lt (restN xs j q) (show 0 < sizeO z by omega)
              have hs0 : (((sizeO z : Nat) : Int) == 0) = false := beq_eq_false_iff_ne.2 (by omega)
              obtain ⟨WB, hWB, gB, a0, a1, a2⟩ := box3 wr (.string z.nm) (.int .i64 z.lo) (.int .i64 z.hi) 27
              have hbx : WB.heap[wr.heap.size]? = some (.cells #[.string z.nm, .int .i64 z.lo, .int .i64 z.hi] 27 (0, 0)) := by rw [← hWB]; exact heap_alloc_new _ _
              have hownB := own_gr hown gB
              have hvalB := hvals.gr gB
              have gqB := gq.trans gB
              have hWB2 := Lib.hid hWB
              clear hWB hown hvals hz hdig hdec gB gq
              generalize hRr : restN xs j q = R at *
              generalize hSz : sizeO z = sz at *
              generalize hMd : R % sz = md at *
              have hdvb : R / sz ≤ R := Nat.div_le_self _ _
              generalize hDv : R / sz = dv at *
              have hs00 : ¬ sz = 0 := by omega
              go_wp2_with fail
              rw [hWB2.out]
              generalize wr.heap.size = bx at *
              clear hWB2
              go_wp2_with fail
              have gD : Gr WB WB.drew := (Gr.refl WB).drew
              replace a0 := gD.cell a0
              replace a1 := gD.cell a1
              replace a2 := gD.cell a2
              replace hbx := gD.block hbx
              replace hownB := own_gr hownB gD
              replace hvalB := hvalB.gr gD
              replace gqB := gqB.trans gD
              clear gD
              have hw8 : IntKind.i64.wrap (z.lo + (md : Int)) = z.lo + (md : Int) := by rw [IntKind.wrap_i64]; omega
              refine wp_region_held_drew (S := fun w' => Gr wQ w' ∧ w'.cell? ⟨bx, 0, none⟩ = some (.string z.nm) ∧ w'.cell? ⟨bx, 1, none⟩ = some (.int .i64 z.lo)) (by kernel_rfl) ⟨gqB, a0, a1⟩ (fun hHeld => ?_)
              generalize WB.drew = V at *
              refine wpAnyH_take (i := 0) (v := v) (op_at rfl) (by kernel_rfl) (by kernel_rfl) (by kernel_rfl) (fun _ _ _ h => h) (Or.inl ⟨rfl, fun w hSw => ?_⟩) (by assumption) ?_
              · (try dsimp only at hSw); go_simp; try with_reducible rfl
              (try simp only [Act.put, List.setIfInBounds_toArray, List.set_cons_zero, List.set_cons_succ])
              refine wpAnyH_take (i := 1) (v := (.pointer (some ⟨bx, 0, none⟩))) (op_at rfl) (by kernel_rfl) (by kernel_rfl) (by kernel_rfl) (fun _ _ _ h => h) (Or.inl ⟨rfl, fun w hSw => ?_⟩) (by assumption) ?_
              · (try dsimp only at hSw); go_simp; try with_reducible rfl
              (try simp only [Act.put, List.setIfInBounds_toArray, List.set_cons_zero, List.set_cons_succ])
              refine wpAnyH_take (i := 2) (v := (.string z.nm)) (op_at rfl) (by kernel_rfl) (by kernel_rfl) (by kernel_rfl) (fun _ _ _ h => h) (Or.inl ⟨rfl, fun w hSw => ?_⟩) (by assumption) ?_
              · (try dsimp only at hSw); go_simp; try with_reducible rfl
              (try simp only [Act.put, List.setIfInBounds_toArray, List.set_cons_zero, List.set_cons_succ])
              refine wpAnyH_take (i := 3) (v := (.pointer (some ⟨bx, 1, none⟩))) (op_at rfl) (by kernel_rfl) (by kernel_rfl) (by kernel_rfl) (fun _ _ _ h => h) (Or.inl ⟨rfl, fun w hSw => ?_⟩) (by assumption) ?_
              · (try dsimp only at hSw); go_simp; try with_reducible rfl
              (try simp only [Act.put, List.setIfInBounds_toArray, List.set_cons_zero, List.set_cons_succ])
              refine wpAnyH_take (i := 4) (v := (.int .i64 z.lo)) (op_at rfl) (by kernel_rfl) (by kernel_rfl) (by kernel_rfl) (fun _ _ _ h => h) (Or.inl ⟨rfl, fun w hSw => ?_⟩) (by assumption) ?_
              · (try dsimp only at hSw); go_simp; try with_reducible rfl
              (try simp only [Act.put, List.setIfInBounds_toArray, List.set_cons_zero, List.set_cons_succ])
              refine wpAnyH_take (i := 5) (v := (.int .i64 (R : Nat))) (op_at rfl) (by kernel_rfl) (by kernel_rfl) (by kernel_rfl) (fun _ _ _ h => h) (Or.inl ⟨rfl, fun w hSw => ?_⟩) (by assumption) ?_
              · (try dsimp only at hSw); go_simp; try with_reducible rfl
              (try simp only [Act.put, List.setIfInBounds_toArray, List.set_cons_zero, List.set_cons_succ])
              refine wpAnyH_take (i := 6) (v := (.int .i64 (sz : Nat))) (op_at rfl) (by kernel_rfl) (by kernel_rfl) (by kernel_rfl) (fun _ _ _ h => h) (Or.inl ⟨rfl, fun w hSw => ?_⟩) (by assumption) ?_
              · (try dsimp only at hSw); go_simp; try with_reducible rfl
              (try simp only [Act.put, List.setIfInBounds_toArray, List.set_cons_zero, List.set_cons_succ])
              refine wpAnyH_take (i := 7) (v := (.int .i64 (md : Int))) (op_at rfl) (by kernel_rfl) (by kernel_rfl) (by kernel_rfl) (fun _ _ _ h => h) (Or.inl ⟨rfl, fun w hSw => ?_⟩) (by assumption) ?_
              · (try dsimp only at hSw); go_simp; try with_reducible rfl
              (try simp only [Act.put, List.setIfInBounds_toArray, List.set_cons_zero, List.set_cons_succ])
              refine wpAnyH_take (i := 8) (v := (.int .i64 (z.lo + (md : Int)))) (op_at rfl) (by kernel_rfl) (by kernel_rfl) (by kernel_rfl) (fun _ _ _ h => h) (Or.inl ⟨rfl, fun w hSw => ?_⟩) (by assumption) ?_
              · (try dsimp only at hSw); go_simp; try with_reducible rfl
              (try simp only [Act.put, List.setIfInBounds_toArray, List.set_cons_zero, List.set_cons_succ])
              refine wpAnyH_ready (rs := [9]) (by kernel_rfl) (by simp) (AllReadyH.cons (op_at rfl) (fun K hK => ?_) AllReadyH.nil)
              go_simp
              refine hK.out _ _ ⟨gqB.alloc _, ((Gr.refl V).alloc _).cell a0, ((Gr.refl V).alloc _).cell a1⟩ (fun hHeld => ?_)
              clear hK K
              (try simp only [Act.put, List.setIfInBounds_toArray, List.set_cons_zero, List.set_cons_succ])
              obtain ⟨V1, hV1⟩ : ∃ q, q = V.alloc (.cells #[.int .i64 (z.lo + (md : Int))] 3) := ⟨_, rfl⟩
              have g1V : Gr V V1 := by rw [hV1]; exact (Gr.refl V).alloc _
              have hgv : V1.heap[V.heap.size]? = some (.cells #[.int .i64 (z.lo + (md : Int))] 3 (0, 0)) := by rw [hV1]; exact heap_alloc_new _ _
              rw [← hV1] at hHeld ⊢
              replace hbx := g1V.block hbx
              replace hownB := own_gr hownB g1V
              replace hvalB := hvalB.gr g1V
              replace gqB := gqB.trans g1V
              clear hV1 a0 a1 a2
              generalize V.heap.size = gv at *
              refine wpAnyH_take (i := 10) (v := (.agg #[.string z.nm, .string ⟨#[]⟩, .slice (some ⟨gv, 0, none⟩) 1 1])) (op_at rfl) (by kernel_rfl) (by kernel_rfl) (by kernel_rfl) (fun _ _ _ h => h) (Or.inl ⟨rfl, fun w hSw => ?_⟩) (by assumption) ?_
              · (try dsimp only at hSw); go_simp; try with_reducible rfl
              (try simp only [Act.put, List.setIfInBounds_toArray, List.set_cons_zero, List.set_cons_succ])
              refine wpAnyH_ready (rs := [11]) (by kernel_rfl) (by simp) (AllReadyH.cons (op_at rfl) (fun K hK => ?_) AllReadyH.nil)
              go_simp
              refine hK.out _ _ ⟨gqB.alloc _, ((Gr.refl V1).alloc _).cell hHeld.2.1, ((Gr.refl V1).alloc _).cell hHeld.2.2⟩ (fun hHeld => ?_)
              clear hK K
              (try simp only [Act.put, List.setIfInBounds_toArray, List.set_cons_zero, List.set_cons_succ])
              have hcs := cell_three_sz V1 _ rfl (.string z.nm) (.string ⟨#[]⟩) (.slice (some ⟨gv, 0, none⟩) 1 1) 33
              have g2V : Gr V1 (V1.alloc (.cells #[.string z.nm, .string ⟨#[]⟩, .slice (some ⟨gv, 0, none⟩) 1 1] 33)) := (Gr.refl V1).alloc _
              have hs2 : V1.heap.size < (V1.alloc (.cells #[.string z.nm, .string ⟨#[]⟩, .slice (some ⟨gv, 0, none⟩) 1 1] 33)).heap.size := by simp
              replace hgv := g2V.block hgv
              replace hbx := g2V.block hbx
              replace hownB := own_gr hownB g2V
              replace hvalB := hvalB.gr g2V
              replace gqB := gqB.trans g2V
              clear g2V
              generalize V1.alloc (.cells #[.string z.nm, .string ⟨#[]⟩, .slice (some ⟨gv, 0, none⟩) 1 1] 33) = V2 at *
              refine wpAnyH_ready (rs := [12]) (by kernel_rfl) (by simp) (AllReadyH.cons (op_at rfl) (fun K hK => ?_) AllReadyH.nil)
              rw [if_pos (show Region.wanted _ _ = true from rfl)]
              refine step_row _ _ rfl wQ.heap.size v q (rowCs rs) rfl hownB V1.heap.size (.string z.nm) (.string ⟨#[]⟩) (.slice (some ⟨gv, 0, none⟩) 1 1) rfl hcs (by intro u hu; simp at hu; rcases hu with rfl | rfl | rfl <;> rfl) (by omega) gqB.size (fun v3 V3 hown3 hgr3 => ?_)
              have hG3 : Gr wQ V3 := Below.grown gqB hgr3 gqB.size (fun j hj => (hownB.lt j hj).1)
              have hval3 := hvalB.kept hownB (by decide) hgr3
              have hgv3 : V3.heap[gv]? = some (.cells #[.int .i64 (z.lo + (md : Int))] 3 (0, 0)) := by rw [hgr3.block gv (Array.getElem?_eq_some_iff.1 hgv).1 (cell_apart hgv hownB (by decide))]; exact hgv
              have hbx3 : V3.heap[bx]? = some (.cells #[.string z.nm, .int .i64 z.lo, .int .i64 z.hi] 27 (0, 0)) := by rw [hgr3.block bx (Array.getElem?_eq_some_iff.1 hbx).1 (cell_apart hbx hownB (by decide))]; exact hbx
              refine hK.out _ _ ⟨hG3, by simp [World.cell?, hbx3], by simp [World.cell?, hbx3]⟩ (fun hHeld => ?_)
              clear hK K
              (try simp only [Act.put, List.setIfInBounds_toArray, List.set_cons_zero, List.set_cons_succ])
              refine wpAnyH_take (i := 13) (v := v3) (op_at rfl) (by kernel_rfl) (by kernel_rfl) (by kernel_rfl) (fun _ _ _ h => h) (Or.inl ⟨rfl, fun w hSw => ?_⟩) (by assumption) ?_
              · (try dsimp only at hSw); go_simp; try with_reducible rfl
              (try simp only [Act.put, List.setIfInBounds_toArray, List.set_cons_zero, List.set_cons_succ])
              refine wpAnyH_done (by kernel_rfl) ?_ _
              clear hHeld hownB hgv hbx hvalB hcs
              go_wp2_with fail
              have hwd : wrap64 (dv : Int) = dv := by unfold wrap64; omega
              refine ⟨⟨q + 1, v3, rs ++ [⟨z.nm, ⟨#[]⟩, .slice (some ⟨gv, 0, none⟩) 1 1, [z.lo + (md : Int)]⟩], rfl, by omega, by go_num, by rw [HRs.out], by simp [hrs], hval3.add hrs HQd.out ⟨rfl, rfl, by rw [vOf_dec]⟩ rfl (by rw [vOf_dec]; exact hgv3), by rw [rowCs_add]; exact hown3, hG3⟩, by simp [intOf]; omega⟩
            · obtain rfl : q = k := by omega
              have hi3 : ¬ (q : Int) < q := by omega
              have hdl := digs_len xs j
              have hzl : (decL xs (digs xs j)).length = q := by rw [decL_len hdl]; exact hn
              have hrows := rowsV_of_owns hrs (by rw [hrs, hzl]) hown hvals
              obtain ⟨pr, cr, rfl⟩ : ∃ pr cr, v = .slice pr q cr := by
                obtain ⟨⟨pr, cr, e, _⟩⟩ := hrows
                exact ⟨pr, cr, by rw [e, hrs]⟩
              have hro := rowsOf_vals hvals (by rw [hrs, hzl])
              obtain ⟨y0, hyl⟩ : ∃ y0, (digs xs j)[cl]? = some y0 := ⟨(digs xs j)[cl]'(by rw [hdl]; omega), List.getElem?_eq_getElem _⟩
              obtain ⟨rc, hrl⟩ : ∃ rc, rs[cl]? = some rc := ⟨rs[cl]'(by omega), List.getElem?_eq_getElem _⟩
              have hrk := rank_dec hdl hro hyl hrl
              have hgd : (digs xs j).getD cl 0 = y0 := by rw [List.getD_eq_getElem?_getD, hyl]; rfl
              have HSk : Hid (seenK xs cl (j + 1) = addK (seenK xs cl j) (rankR rs rc)) := by
                unfold Hid addK
                rw [hrk, ← hgd]
                rfl
              have hrat : (ranksL rs)[cl]? = some (rankR rs rc) := by unfold ranksL; rw [List.getElem?_map, hrl]; rfl
              have gA : Gr w wr := (g1.trans hnx).trans (gj.trans gq)
              have hRank := Lib.hid (rank_ok hF rs hrows (by omega) (by omega) (HStt.out.gr gA) (rows_ok (by omega) hro (dec_open hE j) _))
              have HRat := Lib.hid hrat
              have hset2 := hSet.out.gr gq
              rw [hrs] at hRank
              clear hown hvals hrows hro hyl hrl hrk hgd hrat hzl hdl
              generalize rankR rs rc = rr at *
              generalize ranksL rs = RL at *
              go_wp2_with fail
              refine hRank.out.mono ?_
              rintro e w5 ⟨Rb, rfl, hRb, hRc, g5⟩
              have hcell := cell_ints hRc HRat.out
              obtain ⟨ob, hput, hset3⟩ := set_put (hset2.gr g5) rr
              have gF : Gr wO (putO w5 wO.heap.size ob) := gr_putObj (gj.trans (gq.trans g5)) (Nat.le_refl _)
              have HS3 := Lib.hid hset3
              have hcli : (cl : Int) < q := by omega
              clear hRank hRc hset2 hset3 hRb
              go_wp2_with fail
              exact ⟨⟨j + 1, by omega, by go_num, by rw [HSk.out]; exact HS3.out, gF⟩, by simp [intOf]; omega⟩
        · obtain rfl : j = totalO xs := by omega
          have hj2 : ¬ ((totalO xs : Nat) : Int) < (totalO xs : Nat) := by omega
          obtain ⟨x0a, x0b, x0c⟩ := HEnds.out cl x0 hx0
          have hle : ∀ x ∈ xs, x.lo ≤ x.hi := fun x hx => by
            obtain ⟨a, ha⟩ := List.mem_iff_getElem?.1 hx
            exact (HEnds.out a x ha).2.1
          have hrE : ranksE xs cl = 0 := by
            unfold ranksE climbE
            rw [hE, if_neg (by rw [hn]; omega)]
            rfl
          have HRk := Lib.hid (ranks_ok hS cl x0 (hOwn.gr gj) hx0 hrE (by omega) x0b)
          have HLen := Lib.hid (seen_len hx0 hle)
          have HMemK := Lib.hid (fun r => @ranksK_mem xs (cl : Int) x0 r xs.length)
          have HSP := Lib.hid (fun r (hr : 1 ≤ r) => seen_poss hx0 hle hr)
          have hsz0 := hset.gr (Gr.refl wr)
          have hSet := Lib.hid hset
          have gA : Gr w wr := (g1.trans hnx).trans gj
          have hOwnW := Lib.hid (hOwn.gr gj)
          clear hset hsz0 HSet0 gO1
          generalize wr = wQ at *
          rw [hn] at HRk HLen HMemK
          generalize hKL : ranksK xs cl x0 k = KL at *
          generalize hSN : seenK xs cl (totalO xs) = SN at *
          go_wp2_with fail
          refine HRk.out.mono ?_
          rintro e w5 ⟨u, rfl, hown5, g5⟩
          have hs5 := Lib.hid (hSet.out.gr g5)
          obtain ⟨pu, cu, rfl⟩ : ∃ pu cu, u = .slice pu KL.length cu := by
            rcases hown5.2 with ⟨e, h0⟩ | ⟨gg, cg, cur, e, _⟩
            · exact ⟨none, 0, by rw [e, h0]⟩
            · exact ⟨_, _, e⟩
          have hml := set_len hs5.out 3
          have HKc := Lib.hid (show ∀ i r, KL[i]? = some r → ∃ gg, pu = some ⟨gg, 0, none⟩ ∧ w5.cell? ⟨gg, i, none⟩ = some (.int .i64 r) from fun i r hr => by
            have hl := (List.getElem?_eq_some_iff.1 hr).1
            rcases hown5.2 with ⟨e, h0⟩ | ⟨gg, cg, cur, e, _⟩
            · omega
            · cases e
              refine ⟨gg, rfl, ?_⟩
              have := hown5.cells (g := gg) rfl i (.int .i64 r) (by unfold ints; rw [List.getElem?_map, hr]; rfl)
              rwa [show (⟨gg, 0, none⟩ : Addr).add i = ⟨gg, i, none⟩ by unfold Addr.add; split <;> simp_all] at this)
          have HKX := Lib.hid (fun i (h : i < KL.length) => (show ∃ x, KL[i]? = some x from ⟨KL[i]'(by omega), List.getElem?_eq_getElem _⟩))
          rw [← HLen.out] at hml
          have hlk : KL.length ≤ k := by rw [← hKL]; exact ranksK_len xs (cl : Int) x0 k
          have hgi : goInt ((KL.length : Nat) : Int) = .int .i64 ((KL.length : Nat) : Int) := rfl
          rw [hgi] at hml
          clear hown5 hgi
          generalize KL.length = kl at *
          go_wp2_with fail
          go_loopg [150] kl (fun gk s wr => ∃ i : Nat, s = .int .i64 i ∧ gk + i = kl ∧ Gr w5 wr)
          case atStart => exact ⟨0, rfl, by omega, Gr.refl _⟩
          case round =>
            obtain ⟨i, rfl, hik, gi⟩ := hrel
            by_cases hil : i < kl
            · obtain ⟨r, hr⟩ := HKX.out i hil
              obtain ⟨gg, rfl, hcr⟩ := HKc.out i r hr
              have hm := (HMemK.out r).1 (List.mem_of_getElem? hr)
              have hin : r ∈ SN := (HSP.out r hm.1).2 hm.2.2
              have hlk := set_look (hs5.out.gr gi) r
              rw [decide_eq_true hin] at hlk
              replace hcr := gi.cell hcr
              have hi5 : (i : Int) < kl := by omega
              clear hr hm hin
              go_wp2_with fail
              go_roundg (gk - 1)
              case measure => omega
              case rel => exact ⟨i + 1, by go_num, by omega, gi⟩
            · obtain rfl : i = kl := by omega
              have hi5 : ¬ (i : Int) < i := by omega
              have hq0 : ∀ r : Nat, 1 ≤ r → r ≤ k → questE xs cl r = 0 := fun r h1 h2 => by
                unfold questE climbE
                rw [hE, if_neg (by rw [hn]; omega), outE_zero.2 ⟨by omega, by rw [hn]; omega⟩]
                rfl
              have HQ0 := Lib.hid hq0
              have g5A : Gr w w5 := gA.trans g5
              have HOwn5 := Lib.hid (fun W (g : Gr w5 W) => hOwnW.out.gr (g5.trans g))
              have HPs := Lib.hid (fun (r : Nat) (h1 : 1 ≤ r) => (show ((r : Int) ∈ SN) ↔ isPoss x0.lo x0.hi (others xs cl) r = true from by
                rw [HSP.out r (by omega), poss_same xs cl x0 (by omega) x0b]))
              have HOk := Lib.hid hok
              clear hq0 HKX HKc HMemK HSP HRk hok hml
              go_wp2_with fail
              go_loopg [22] (k + 1) (fun gk s wr => ∃ r : Nat, s = .int .i64 r ∧ 1 ≤ r ∧ gk + r = k + 1 + 1 ∧ Gr w5 wr)
              case atStart => exact ⟨1, rfl, Nat.le_refl _, by omega, gi⟩
              case round =>
                clear gi
                obtain ⟨r, rfl, hr1, hgr, gi⟩ := hrel
                by_cases hrk : r ≤ k
                · have hq := HQ0.out r hr1 hrk
                  have hri : (r : Int) ≤ k := by omega
                  have hlook := fun W (g : Gr w5 W) => set_look (hs5.out.gr g) (r : Int)
                  have hps := HPs.out r hr1
                  cases hP : isPoss x0.lo x0.hi (others xs cl) r
                  · rw [hP] at hps
                    have hnot : ¬ (r : Int) ∈ SN := fun hm => by have := hps.1 hm; cases this
                    rw [decide_eq_false hnot] at hlook
                    have HW := Lib.hid (fun W (g : Gr w5 W) => witness_none hS cl r x0 (HOwn5.out W g) hq hx0 (by omega) (by omega) (by omega) hP)
                    have HX2 := Lib.hid (fun W (g : Gr w5 W) => excl_I hS cl r x0 (HOwn5.out W g) HOk.out hq hx0 (by omega) (by omega) hP)
                    have HLk := Lib.hid hlook
                    clear hlook hps hnot hP hq
                    go_wp2_with fail
                    refine (HW.out _ gi).mono ?_
                    rintro e v1 ⟨rfl, ga⟩
                    replace ga := gi.trans ga
                    go_wp2_with fail
                    refine (HX2.out _ ga).mono ?_
                    rintro e v2 ⟨sx, rfl, hck, gb⟩
                    replace gb := ga.trans gb
                    have hl1 := HLk.out _ gb
                    have HCk := Lib.hid (hck v2 (Gr.refl _))
                    clear hck
                    go_wp2_with fail
                    refine HCk.out.mono ?_
                    rintro e v3 ⟨rfl, gc⟩
                    go_wp2_with fail
                    go_roundg (gk - 1)
                    case measure => omega
                    case rel => exact ⟨r + 1, by go_num, by omega, by omega, gb.trans gc⟩
                  · rw [hP] at hps
                    have hin : (r : Int) ∈ SN := hps.2 rfl
                    rw [decide_eq_true hin] at hlook
                    have HW := Lib.hid (fun W (g : Gr w5 W) => witness_I hS (HOwn5.out W g) hq hx0 (by omega) (by omega) (by omega) hP)
                    have HX2 := Lib.hid (fun W (g : Gr w5 W) => excluded_none hS cl r x0 (HOwn5.out W g) hq hx0 (by omega) (by omega) (by omega) hP)
                    have HLk := Lib.hid hlook
                    clear hlook hps hin hP hq
                    go_wp2_with fail
                    refine (HW.out _ gi).mono ?_
                    rintro e v1 ⟨sw, rfl, hI, ga⟩
                    clear hI
                    replace ga := gi.trans ga
                    go_wp2_with fail
                    refine (HX2.out _ ga).mono ?_
                    rintro e v2 ⟨rfl, gb⟩
                    replace gb := ga.trans gb
                    have hl1 := HLk.out _ gb
                    go_wp2_with fail
                    go_roundg (gk - 1)
                    case measure => omega
                    case rel => exact ⟨r + 1, by go_num, by omega, by omega, gb⟩
                · have hri : ¬ (r : Int) ≤ k := by omega
                  go_wp2_with (refine (HA.out _ (g5A.trans gi)).mono ?_; rintro e w9 ⟨rfl, g9⟩)
                  go_ret
                  exact ⟨rfl, (g5A.trans gi).trans g9⟩
theorem lawFc_c (hS : SortOK) (hF : SortFOK) {v : Value} {xs : List OpR} {w : World} (cl : Int) (h : OpsV w v xs) (hSt : StatesIn w) (hA : FlakeOK w) :
    Calls Tryz.prog 3 #[v, .int .i64 cl] w fun e w' => e = .returned (.bool true) ∧ Gr w w' := by
  by_cases h4 : 4 < xs.length
  · exact fc_bad cl h hA (.inl h4)
  by_cases hE : openE xs = 0
  case neg => exact fc_bad cl h hA (.inr (.inl hE))
  by_cases h0 : cl < 0
  · exact fc_bad cl h hA (.inr (.inr (.inl h0)))
  by_cases h1 : (xs.length : Int) ≤ cl
  · exact fc_bad cl h hA (.inr (.inr (.inr h1)))
  obtain ⟨c, rfl⟩ := Int.eq_ofNat_of_zero_le (show 0 ≤ cl by omega)
  have hx : xs[c]? = some (xs[c]'(by omega)) := List.getElem?_eq_getElem _
  exact fc_good hS hF c _ h hx hE (by omega) hSt hA
end Go.Proofs.YtimbcjldejifaaaGreatDoor
