/- Ranks: the program's ranks of results. -/
import Derived.Test.YtebnbjaaogfikaaGreatDoorGRkE
namespace Go.Proofs.YtebnbjaaogfikaaGreatDoor
open Go.RowKit Go.Lib
set_option linter.unusedSimpArgs false
set_option linter.unusedVariables false
theorem make_ints (n : Nat) (hN : n ≤ 160) (w : World) : (Instr.makeSlice 27 (.int .i64 (n : Int)) (.int .i64 (n : Int))).run Tryz.prog w = .ok (.slice (some ⟨w.heap.size, 0, none⟩) n n) (w.alloc (.cells (Array.replicate n (.int .i64 0)) 3)) := by
  obtain ⟨i0, hi, hz0, hz1, hz2⟩ := info_parts info3
  have := run_make (P := Tryz.prog) w 27 3 i0 (.int .i64 0) Tryz.underlying27 hi hz0 .i64 .i64 (n : Int) (n : Int) (by omega) (by omega) (by rw [hz2]; omega) (by omega)
  rw [hz1] at this
  have e : madeCells (#[.int .i64 0] : Array Value) n = Array.replicate n (.int .i64 0) := Array.ext' (by rw [toList_madeCells_one]; simp)
  simpa [Value.cells, e] using this
/-- the places that have been filled -/
def fillV (n i : Nat) : Array Value := ((List.range n).map fun j => Value.int .i64 (if j < i then (j : Int) else 0)).toArray
theorem fillV_0 (n : Nat) : fillV n 0 = Array.replicate n (.int .i64 0) := by
  apply Array.ext_getElem?
  intro j
  by_cases h : j < n <;> simp [fillV, h]
theorem fillV_n (n : Nat) : fillV n n = (natsV (List.range n)).toArray := by
  unfold fillV natsV
  congr 1
  apply List.map_congr_left
  intro j hj
  rw [List.mem_range] at hj
  rw [if_pos hj]
theorem fillV_s (n i : Nat) : (fillV n i).setIfInBounds i (.int .i64 (i : Int)) = fillV n (i + 1) := by
  apply Array.ext_getElem?
  intro j
  rw [Array.getElem?_setIfInBounds]
  by_cases hj : j < n
  · by_cases hij : i = j
    · subst hij
      simp [fillV, hj]
    · simp only [fillV, if_neg hij]
      simp only [List.getElem?_toArray, List.getElem?_map, List.getElem?_range hj, Option.map_some]
      by_cases h : j < i
      · rw [if_pos h, if_pos (by omega)]
      · rw [if_neg h, if_neg (by omega)]
  · by_cases hij : i = j
    · subst hij
      simp [fillV, hj]
    · simp [fillV, hj, hij]
/-- the ranks of the first places are there -/
structure Rk (xs : List RowR) (ps : List Nat) (rs : List Int) (p : Nat) : Prop where
  len : rs.length = xs.length
  at' : ∀ (q a : Nat), q < p → ps[q]? = some a → rs[a]? = some (rankR xs (rowOf xs a))
theorem Rk.start {xs : List RowR} (ps : List Nat) (n : Nat) (h : xs.length = n) : Rk xs ps (List.replicate n 0) 0 := ⟨by simp [h], fun q a hq => absurd hq (by omega)⟩
theorem Rk.step {xs : List RowR} {ps : List Nat} {rs : List Int} {p a : Nat} (h : Rk xs ps rs p) (ho : InOrder xs ps) (hp : ps[p]? = some a) : Rk xs ps (rs.set a (rankR xs (rowOf xs a))) (p + 1) := by
  refine ⟨by rw [List.length_set]; exact h.len, fun q c hq hc => ?_⟩
  have hal := ho.lt hp
  rw [List.getElem?_set]
  by_cases hac : a = c
  · subst hac
    rw [if_pos rfl, if_pos (by rw [h.len]; exact hal)]
  · rw [if_neg hac]
    refine h.at' q c ?_ hc
    by_cases hqp : q = p
    · subst hqp
      rw [hp] at hc
      cases hc
      exact absurd rfl hac
    · omega
theorem Rk.end {xs : List RowR} {ps : List Nat} {rs : List Int} (h : Rk xs ps rs xs.length) (ho : InOrder xs ps) : rs = ranksL xs := by
  apply List.ext_getElem?
  intro a
  unfold ranksL
  rw [List.getElem?_map]
  by_cases ha : a < xs.length
  · obtain ⟨i, hi⟩ := ho.onto ha
    have hil := (List.getElem?_eq_some_iff.1 hi).1
    rw [h.at' i a (by have := ho.len; omega) hi, List.getElem?_eq_getElem ha, rowOf_at (List.getElem?_eq_getElem ha)]
    rfl
  · rw [List.getElem?_eq_none (by rw [h.len]; omega), List.getElem?_eq_none (by omega)]
    rfl
theorem ints_set (rs : List Int) (a : Nat) (v : Int) : (ints rs).toArray.setIfInBounds a (.int .i64 v) = (ints (rs.set a v)).toArray := by
  simp [ints, List.map_set]
theorem set_set (rs : List Int) (a : Nat) (v u : Int) : (rs.set a v).set a u = rs.set a u := by simp
theorem cell_ints {w : World} {R a : Nat} {rs : List Int} {v : Int} (h : w.heap[R]? = some (.cells (ints rs).toArray 3 (0, 0))) (ha : rs[a]? = some v) : w.cell? ⟨R, a, none⟩ = some (.int .i64 v) := by
  rw [cell_of_row w R a _ 3 (0, 0) h]
  simp [ints, ha]
theorem cell_nats {w : World} {R a : Nat} {ps : List Nat} {v : Nat} (h : w.heap[R]? = some (.cells (natsV ps).toArray 3 (0, 0))) (ha : ps[a]? = some v) : w.cell? ⟨R, a, none⟩ = some (.int .i64 (v : Int)) := by
  rw [cell_of_row w R a _ 3 (0, 0) h]
  simp [natsV, ha]
set_option maxHeartbeats 1000000 in
set_option maxRecDepth 100000 in
theorem ranks_pos (hS : SortFOK) (xs : List RowR) (n b off cap : Nat) (w : World) (hn : xs.length = n) (h0 : 0 < n) (h1 : n ≤ 160) (hSt : StatesIn w)
    (hc : ∀ i x, xs[i]? = some x → RowAt w b (off + i * 3) x) :
    Calls Tryz.prog 19 #[.slice (some ⟨b, off, none⟩) n cap, .func (.func 20) #[] #[]] w fun e w' => ∃ R, e = .returned (.slice (some ⟨R, 0, none⟩) n n) ∧ w.heap.size ≤ R ∧ w'.heap[R]? = some (.cells (ints (ranksL xs)).toArray 3 (0, 0)) ∧ Gr w w' := by
  obtain ⟨W1, hW1, g1, l0⟩ := box1 w (.slice (some ⟨b, off, none⟩) n cap) 22
  obtain ⟨W, hW, g2, f0⟩ := box1 W1 (.func (.func 20) #[] #[]) 56
  have hmk := make_ints n h1 ((w.alloc (.cells #[.slice (some ⟨b, off, none⟩) n cap] 22)).alloc (.cells #[.func (.func 20) #[] #[]] 56))
  have HW1 := Lib.hid hW1
  have HW := Lib.hid hW
  have hs1 : W1.heap.size = w.heap.size + 1 := by rw [← hW1, World.size_alloc]
  have hs2 : W.heap.size = w.heap.size + 2 := by rw [← hW, World.size_alloc, hs1]
  rw [hs1] at f0
  clear hW1 hW
  go_enter Tryz.func19, Tryz.ntmps19
  go_wp2_with fail
  rw [HW1.out, HW.out]
  clear hmk
  have g0 : Gr w W := g1.trans g2
  replace l0 := g2.cell l0
  clear HW1 HW g1 g2 hs1
  go_loopw [15] (fun ix wr => ∃ i : Nat, i ≤ n ∧ ix = .int .i64 i ∧ wr.heap[w.heap.size + 2]? = some (.cells (fillV n i) 3 (0, 0)) ∧ Gr W wr) (fun ix _ => n - (intOf ix).toNat)
  case atStart => exact ⟨0, Nat.zero_le _, rfl, by rw [fillV_0, ← hs2]; exact heap_alloc_new W _, (Gr.refl W).alloc _⟩
  case round =>
    obtain ⟨i, hi, rfl, hgc, hnx⟩ := hrel
    by_cases hlt : (i : Int) < n
    · have hi3 : (0 : Int) ≤ i := by omega
      have hfz := frozen_of_row wr (w.heap.size + 2) i _ 3 hgc
      have hset := heap_setCell_same wr (w.heap.size + 2) i _ 3 (.int .i64 (i : Int)) hgc
      rw [fillV_s] at hset
      have hcell : wr.cell? ⟨w.heap.size + 2, i, none⟩ = some (.int .i64 0) := by
        rw [cell_of_row wr (w.heap.size + 2) i _ 3 (0, 0) hgc]
        have h9 : i < n := by omega
        simp [fillV, h9]
      have hnx3 : Gr W (wr.setCell ⟨w.heap.size + 2, i, none⟩ (.int .i64 (i : Int))) := Below.setCell hnx (show W.heap.size ≤ w.heap.size + 2 by omega) _
      have HSE := Lib.hid hset
      clear hset hgc
      go_wp2_with fail
      go_roundw
      case rel => exact ⟨i + 1, by omega, by go_num, HSE.out, hnx3⟩
      case measure => simp [intOf]; omega
    · obtain rfl : i = n := by omega
      rw [fillV_n] at hgc
      go_wp2_with fail
      refine (sortRows_c hS xs i b off cap (w.heap.size + 2) (w.heap.size + 1) w.heap.size hn h0 h1 (hSt.gr g0) hnx (by omega) (fun i x hx => (hc i x hx).gr g0) f0 l0 hgc).mono ?_
      rintro e w2 ⟨rfl, ps, hps, hO, hg2⟩
      have l2 := hg2.cell l0
      have f2 := hg2.cell f0
      have hmk2 := make_ints i h1 w2
      have g3 : Gr w w2 := g0.trans hg2
      have hsz := hg2.size
      have HS2 : Hid (StatesIn w2) := hSt.gr g3
      have HC := Lib.hid (fun i x hx => (hc i x hx).gr g3)
      clear hc hgc hnx hg2 l0 f0 hSt hS g0
      go_wp2_with fail
      clear hmk2
      obtain ⟨n, rfl⟩ : ∃ n, n = i := ⟨_, rfl⟩
      go_loopw [31] (fun ix wr => ∃ (p : Nat) (rs : List Int), p ≤ n ∧ ix = .int .i64 p ∧ wr.heap[w2.heap.size]? = some (.cells (ints rs).toArray 3 (0, 0)) ∧ Rk xs ps rs p ∧ Gr w2 wr) (fun ix _ => n - (intOf ix).toNat)
      case atStart => exact ⟨0, _, Nat.zero_le _, rfl, by simpa [ints] using heap_alloc_new w2 (.cells (Array.replicate n (.int .i64 0)) 3), Rk.start ps n hn, (Gr.refl w2).alloc _⟩
      case round =>
        obtain ⟨p, rs, hp, rfl, hgc, hrk, hnx⟩ := hrel
        by_cases hlt : (p : Int) < n
        · have hpl : p < ps.length := by rw [hps.len, hn]; omega
          obtain ⟨a, ha⟩ : ∃ a, ps[p]? = some a := ⟨ps[p]'hpl, List.getElem?_eq_getElem _⟩
          have hal := hps.lt ha
          have hpc := hnx.cell (cell_nats hO ha)
          obtain ⟨v0, hv0⟩ : ∃ v, rs[a]? = some v := ⟨rs[a]'(by rw [hrk.len]; exact hal), List.getElem?_eq_getElem _⟩
          have hcell := cell_ints hgc hv0
          have hfz := frozen_of_row wr w2.heap.size a _ 3 hgc
          obtain ⟨P1, hP1⟩ : ∃ P1 : Int, P1 = (p : Int) + 1 := ⟨_, rfl⟩
          have hset := heap_setCell_same wr w2.heap.size a _ 3 (.int .i64 P1) hgc
          rw [ints_set] at hset
          have hnx3 : Gr w2 (wr.setCell ⟨w2.heap.size, a, none⟩ (.int .i64 P1)) := Below.setCell hnx (Nat.le_refl _) _
          have hla : a < rs.length := by rw [hrk.len]; exact hal
          have hsa : (rs.set a P1)[a]? = some P1 := by rw [List.getElem?_set, if_pos rfl, if_pos hla]
          have ha3 : (0 : Int) ≤ a := by omega
          have ha4 : (a : Int) < n := by omega
          obtain ⟨x, hx⟩ : ∃ x, xs[a]? = some x := ⟨xs[a]'hal, List.getElem?_eq_getElem _⟩
          have hxr := rowOf_at hx
          obtain ⟨V4, hV4⟩ : ∃ V4, wr.setCell ⟨w2.heap.size, a, none⟩ (.int .i64 P1) = V4 := ⟨_, rfl⟩
          rw [hV4] at hset hnx3
          have HSE := Lib.hid hset
          have HRK := Lib.hid hrk
          have HO := Lib.hid hO
          have HV4 := Lib.hid hV4
          have hps' := Lib.hid hps
          clear hset hgc hrk hV4 hO
          have hw1 : IntKind.i64.wrap ((p : Int) + 1) = P1 := by rw [IntKind.wrap_i64]; omega
          have HX := Lib.hid (And.intro hsa (And.intro hx (And.intro hxr ha)))
          have gx := hnx3
          have hp3 : (0 : Int) ≤ p := by omega
          clear hsa hv0 hx hxr ha hps
          go_wp2_with fail
          rw [← hP1, HV4.out]
          clear hcell hfz hpc hw1
          obtain rfl | ⟨q, rfl⟩ : p = 0 ∨ ∃ q, p = q + 1 := by
            rcases p with _ | q
            · exact .inl rfl
            · exact .inr ⟨q, rfl⟩
          · obtain rfl : P1 = 1 := by omega
            clear hP1
            have hR : Hid (rankR xs (rowOf xs a) = 1) := rank_first hps'.out HX.out.2.2.2 (fun q c hq => by omega)
            have hR5 := ((Gr.refl V4).drew).block HSE.out
            replace gx := gx.drew
            refine wp_region_held_drew (S := (fun _ => True)) (by kernel_rfl) trivial (fun hHeld => ?_)
            generalize V4.drew = V5 at *
            refine wpAnyH_take (i := 0) (v := (.int .i64 0)) (op_at rfl) (by kernel_rfl) (by kernel_rfl) (by kernel_rfl) (fun _ _ _ h => h) (Or.inl ⟨rfl, fun w hSw => ?_⟩) (by assumption) ?_
            · (try dsimp only at hSw); go_simp; try with_reducible rfl
            (try simp only [Act.put, List.setIfInBounds_toArray, List.set_cons_zero, List.set_cons_succ])
            refine wpAnyH_take (i := 1) (v := (.bool false)) (op_at rfl) (by kernel_rfl) (by kernel_rfl) (by kernel_rfl) (fun _ _ _ h => h) (Or.inl ⟨rfl, fun w hSw => ?_⟩) (by assumption) ?_
            · (try dsimp only at hSw); go_simp; try with_reducible rfl
            (try simp only [Act.put, List.setIfInBounds_toArray, List.set_cons_zero, List.set_cons_succ])
            refine wpAnyH_take (i := 2) (v := (.bool false)) (op_at rfl) (by kernel_rfl) (by kernel_rfl) (by kernel_rfl) (fun _ _ _ h => h) (Or.inl ⟨rfl, fun w hSw => ?_⟩) (by assumption) ?_
            · (try dsimp only at hSw); go_simp; try with_reducible rfl
            (try simp only [Act.put, List.setIfInBounds_toArray, List.set_cons_zero, List.set_cons_succ])
            refine wpAnyH_take (i := 3) (v := undef) (op_at rfl) (by kernel_rfl) (by kernel_rfl) (by kernel_rfl) (fun _ _ _ h => h) (Or.inr ⟨rfl, rfl⟩) (by assumption) ?_
            (try simp only [Act.put, List.setIfInBounds_toArray, List.set_cons_zero, List.set_cons_succ])
            refine wpAnyH_take (i := 4) (v := undef) (op_at rfl) (by kernel_rfl) (by kernel_rfl) (by kernel_rfl) (fun _ _ _ h => h) (Or.inr ⟨rfl, rfl⟩) (by assumption) ?_
            (try simp only [Act.put, List.setIfInBounds_toArray, List.set_cons_zero, List.set_cons_succ])
            refine wpAnyH_take (i := 5) (v := undef) (op_at rfl) (by kernel_rfl) (by kernel_rfl) (by kernel_rfl) (fun _ _ _ h => h) (Or.inr ⟨rfl, rfl⟩) (by assumption) ?_
            (try simp only [Act.put, List.setIfInBounds_toArray, List.set_cons_zero, List.set_cons_succ])
            refine wpAnyH_take (i := 6) (v := undef) (op_at rfl) (by kernel_rfl) (by kernel_rfl) (by kernel_rfl) (fun _ _ _ h => h) (Or.inr ⟨rfl, rfl⟩) (by assumption) ?_
            (try simp only [Act.put, List.setIfInBounds_toArray, List.set_cons_zero, List.set_cons_succ])
            refine wpAnyH_take (i := 7) (v := undef) (op_at rfl) (by kernel_rfl) (by kernel_rfl) (by kernel_rfl) (fun _ _ _ h => h) (Or.inr ⟨rfl, rfl⟩) (by assumption) ?_
            (try simp only [Act.put, List.setIfInBounds_toArray, List.set_cons_zero, List.set_cons_succ])
            refine wpAnyH_take (i := 8) (v := undef) (op_at rfl) (by kernel_rfl) (by kernel_rfl) (by kernel_rfl) (fun _ _ _ h => h) (Or.inr ⟨rfl, rfl⟩) (by assumption) ?_
            (try simp only [Act.put, List.setIfInBounds_toArray, List.set_cons_zero, List.set_cons_succ])
            refine wpAnyH_take (i := 9) (v := undef) (op_at rfl) (by kernel_rfl) (by kernel_rfl) (by kernel_rfl) (fun _ _ _ h => h) (Or.inr ⟨rfl, rfl⟩) (by assumption) ?_
            (try simp only [Act.put, List.setIfInBounds_toArray, List.set_cons_zero, List.set_cons_succ])
            refine wpAnyH_take (i := 10) (v := undef) (op_at rfl) (by kernel_rfl) (by kernel_rfl) (by kernel_rfl) (fun _ _ _ h => h) (Or.inr ⟨rfl, rfl⟩) (by assumption) ?_
            (try simp only [Act.put, List.setIfInBounds_toArray, List.set_cons_zero, List.set_cons_succ])
            refine wpAnyH_take (i := 11) (v := undef) (op_at rfl) (by kernel_rfl) (by kernel_rfl) (by kernel_rfl) (fun _ _ _ h => h) (Or.inr ⟨rfl, rfl⟩) (by assumption) ?_
            (try simp only [Act.put, List.setIfInBounds_toArray, List.set_cons_zero, List.set_cons_succ])
            refine wpAnyH_take (i := 12) (v := undef) (op_at rfl) (by kernel_rfl) (by kernel_rfl) (by kernel_rfl) (fun _ _ _ h => h) (Or.inr ⟨rfl, rfl⟩) (by assumption) ?_
            (try simp only [Act.put, List.setIfInBounds_toArray, List.set_cons_zero, List.set_cons_succ])
            refine wpAnyH_take (i := 13) (v := undef) (op_at rfl) (by kernel_rfl) (by kernel_rfl) (by kernel_rfl) (fun _ _ _ h => h) (Or.inr ⟨rfl, rfl⟩) (by assumption) ?_
            (try simp only [Act.put, List.setIfInBounds_toArray, List.set_cons_zero, List.set_cons_succ])
            refine wpAnyH_take (i := 14) (v := undef) (op_at rfl) (by kernel_rfl) (by kernel_rfl) (by kernel_rfl) (fun _ _ _ h => h) (Or.inr ⟨rfl, rfl⟩) (by assumption) ?_
            (try simp only [Act.put, List.setIfInBounds_toArray, List.set_cons_zero, List.set_cons_succ])
            refine wpAnyH_take (i := 15) (v := undef) (op_at rfl) (by kernel_rfl) (by kernel_rfl) (by kernel_rfl) (fun _ _ _ h => h) (Or.inr ⟨rfl, rfl⟩) (by assumption) ?_
            (try simp only [Act.put, List.setIfInBounds_toArray, List.set_cons_zero, List.set_cons_succ])
            refine wpAnyH_take (i := 16) (v := undef) (op_at rfl) (by kernel_rfl) (by kernel_rfl) (by kernel_rfl) (fun _ _ _ h => h) (Or.inr ⟨rfl, rfl⟩) (by assumption) ?_
            (try simp only [Act.put, List.setIfInBounds_toArray, List.set_cons_zero, List.set_cons_succ])
            refine wpAnyH_take (i := 17) (v := undef) (op_at rfl) (by kernel_rfl) (by kernel_rfl) (by kernel_rfl) (fun _ _ _ h => h) (Or.inr ⟨rfl, rfl⟩) (by assumption) ?_
            (try simp only [Act.put, List.setIfInBounds_toArray, List.set_cons_zero, List.set_cons_succ])
            refine wpAnyH_take (i := 18) (v := (.bool false)) (op_at rfl) (by kernel_rfl) (by kernel_rfl) (by kernel_rfl) (fun _ _ _ h => h) (Or.inl ⟨rfl, fun w hSw => ?_⟩) (by assumption) ?_
            · (try dsimp only at hSw); go_simp; try with_reducible rfl
            (try simp only [Act.put, List.setIfInBounds_toArray, List.set_cons_zero, List.set_cons_succ])
            refine wpAnyH_done (by kernel_rfl) ?_ _
            go_wp2_with fail
            go_roundw
            case rel => exact ⟨1, rs.set a 1, by omega, by go_num, hR5, by have := HRK.out.step hps'.out HX.out.2.2.2; rwa [hR.out] at this, gx⟩
            case measure => simp [intOf]; omega
          · obtain ⟨d, hd⟩ : ∃ d, ps[q]? = some d := ⟨ps[q]'(by omega), List.getElem?_eq_getElem _⟩
            have hdl := hps'.out.lt hd
            obtain ⟨y, hy⟩ : ∃ y, xs[d]? = some y := ⟨xs[d]'hdl, List.getElem?_eq_getElem _⟩
            have hyr := rowOf_at hy
            have hpc2 := gx.cell (cell_nats HO.out hd)
            have HCm := Lib.hid (fun (W : World) (g : Gr w2 W) => compare_c y.nm y.st x.nm x.st y.u x.u y.xs x.xs W (HS2.out.gr g) ((HC.out d y hy).val.gr g) ((HC.out a x HX.out.2.1).val.gr g) (HC.out d y hy).len (HC.out a x HX.out.2.1).len)
            have hz : Hid (cmpR (rowOf xs d) (rowOf xs a) = ordZ y.st x.st y.xs x.xs) := by unfold Hid; rw [hyr, HX.out.2.2.1]; rfl
            unfold resV at HCm
            generalize ordZ y.st x.st y.xs x.xs = z at *
            obtain ⟨b0, b1, b2, _, _⟩ := (HC.out d y hy).gr gx
            obtain ⟨a0, a1, a2, _, _⟩ := (HC.out a x HX.out.2.1).gr gx
            have l3 := gx.cell l2
            have f3 := gx.cell f2
            have o0 := hpc2
            have HP1 := Lib.hid hP1
            have HY := Lib.hid (And.intro hd hy)
            have hq3 : (0 : Int) ≤ q := by omega
            have hq4 : ¬ (q : Int) + 1 ≤ 0 := by omega
            have hq5 : (q : Int) < n := by omega
            have hq6 : decide ((0 : Int) < (q : Int) + 1) = true := decide_eq_true (by omega)
            have hw2 : IntKind.i64.wrap (q : Int) = q := by rw [IntKind.wrap_i64]; omega
            have hd3 : (0 : Int) ≤ d := by omega
            have hd4 : (d : Int) < n := by omega
            clear hP1 hd hy hyr hpc2
            have gv := Gr.refl V4
            have gd := (Gr.refl V4).drew
            replace l3 := gd.cell l3
            replace f3 := gd.cell f3
            replace o0 := gd.cell o0
            replace a0 := gd.cell a0
            replace a1 := gd.cell a1
            replace a2 := gd.cell a2
            replace b0 := gd.cell b0
            replace b1 := gd.cell b1
            replace b2 := gd.cell b2
            replace gx := gx.trans gd
            replace gv := gv.trans gd
            clear gd
            refine wp_region_held_drew (S := (fun w' => (w'.cell? ⟨w.heap.size, 0, none⟩ = some (.slice (some ⟨b, off, none⟩) n cap) ∧ w'.cell? ⟨w.heap.size + 1, 0, none⟩ = some (.func (.func 20) #[] #[]) ∧ w'.cell? ⟨w.heap.size + 2, q, none⟩ = some (.int .i64 (d : Int))) ∧ (w'.cell? ⟨b, off + d * 3, none⟩ = some (.string y.nm) ∧ w'.cell? ⟨b, off + d * 3 + 1, none⟩ = some (.string y.st) ∧ w'.cell? ⟨b, off + d * 3 + 2, none⟩ = some y.u) ∧ w'.cell? ⟨b, off + a * 3, none⟩ = some (.string x.nm) ∧ w'.cell? ⟨b, off + a * 3 + 1, none⟩ = some (.string x.st) ∧ w'.cell? ⟨b, off + a * 3 + 2, none⟩ = some x.u)) (by kernel_rfl) ⟨⟨l3, f3, o0⟩, ⟨b0, b1, b2⟩, a0, a1, a2⟩ (fun hHeld => ?_)
            generalize V4.drew = V5 at *
            refine wpAnyH_take (i := 0) (v := (.int .i64 ((q : Int) + 1))) (op_at rfl) (by kernel_rfl) (by kernel_rfl) (by kernel_rfl) (fun _ _ _ h => h) (Or.inl ⟨rfl, fun w hSw => ?_⟩) (by assumption) ?_
            · (try dsimp only at hSw); go_simp; try with_reducible rfl
            (try simp only [Act.put, List.setIfInBounds_toArray, List.set_cons_zero, List.set_cons_succ])
            refine wpAnyH_take (i := 1) (v := (.bool true)) (op_at rfl) (by kernel_rfl) (by kernel_rfl) (by kernel_rfl) (fun _ _ _ h => h) (Or.inl ⟨rfl, fun w hSw => ?_⟩) (by assumption) ?_
            · (try dsimp only at hSw); go_simp; try with_reducible rfl
            (try simp only [Act.put, List.setIfInBounds_toArray, List.set_cons_zero, List.set_cons_succ])
            refine wpAnyH_take (i := 2) (v := (.bool true)) (op_at rfl) (by kernel_rfl) (by kernel_rfl) (by kernel_rfl) (fun _ _ _ h => h) (Or.inl ⟨rfl, fun w hSw => ?_⟩) (by assumption) ?_
            · (try dsimp only at hSw); go_simp; try with_reducible rfl
            (try simp only [Act.put, List.setIfInBounds_toArray, List.set_cons_zero, List.set_cons_succ])
            refine wpAnyH_take (i := 3) (v := (.func (.func 20) #[] #[])) (op_at rfl) (by kernel_rfl) (by kernel_rfl) (by kernel_rfl) (fun _ _ _ h => h) (Or.inl ⟨rfl, fun w hSw => ?_⟩) (by assumption) ?_
            · (try dsimp only at hSw); go_simp; try with_reducible rfl
            (try simp only [Act.put, List.setIfInBounds_toArray, List.set_cons_zero, List.set_cons_succ])
            refine wpAnyH_take (i := 4) (v := (.slice (some ⟨b, off, none⟩) n cap)) (op_at rfl) (by kernel_rfl) (by kernel_rfl) (by kernel_rfl) (fun _ _ _ h => h) (Or.inl ⟨rfl, fun w hSw => ?_⟩) (by assumption) ?_
            · (try dsimp only at hSw); go_simp; try with_reducible rfl
            (try simp only [Act.put, List.setIfInBounds_toArray, List.set_cons_zero, List.set_cons_succ])
            refine wpAnyH_take (i := 5) (v := (.slice (some ⟨w.heap.size + 1 + 1, 0, none⟩) n n)) (op_at rfl) (by kernel_rfl) (by kernel_rfl) (by kernel_rfl) (fun _ _ _ h => h) (Or.inl ⟨rfl, fun w hSw => ?_⟩) (by assumption) ?_
            · (try dsimp only at hSw); go_simp; try with_reducible rfl
            (try simp only [Act.put, List.setIfInBounds_toArray, List.set_cons_zero, List.set_cons_succ])
            refine wpAnyH_take (i := 6) (v := (.int .i64 ((q : Int) + 1))) (op_at rfl) (by kernel_rfl) (by kernel_rfl) (by kernel_rfl) (fun _ _ _ h => h) (Or.inl ⟨rfl, fun w hSw => ?_⟩) (by assumption) ?_
            · (try dsimp only at hSw); go_simp; try with_reducible rfl
            (try simp only [Act.put, List.setIfInBounds_toArray, List.set_cons_zero, List.set_cons_succ])
            refine wpAnyH_take (i := 7) (v := (.int .i64 (q : Int))) (op_at rfl) (by kernel_rfl) (by kernel_rfl) (by kernel_rfl) (fun _ _ _ h => h) (Or.inl ⟨rfl, fun w hSw => ?_⟩) (by assumption) ?_
            · (try dsimp only at hSw); go_simp; try with_reducible rfl
            (try simp only [Act.put, List.setIfInBounds_toArray, List.set_cons_zero, List.set_cons_succ])
            refine wpAnyH_take (i := 8) (v := (.pointer (some ⟨w.heap.size + 1 + 1, q, none⟩))) (op_at rfl) (by kernel_rfl) (by kernel_rfl) (by kernel_rfl) (fun _ _ _ h => h) (Or.inl ⟨rfl, fun w hSw => ?_⟩) (by assumption) ?_
            · (try dsimp only at hSw); go_simp; try with_reducible rfl
            (try simp only [Act.put, List.setIfInBounds_toArray, List.set_cons_zero, List.set_cons_succ])
            refine wpAnyH_take (i := 9) (v := (.int .i64 (d : Int))) (op_at rfl) (by kernel_rfl) (by kernel_rfl) (by kernel_rfl) (fun _ _ _ h => h) (Or.inl ⟨rfl, fun w hSw => ?_⟩) (by assumption) ?_
            · (try dsimp only at hSw); go_simp; try with_reducible rfl
            (try simp only [Act.put, List.setIfInBounds_toArray, List.set_cons_zero, List.set_cons_succ])
            refine wpAnyH_take (i := 10) (v := (.pointer (some ⟨b, off + d * 3, none⟩))) (op_at rfl) (by kernel_rfl) (by kernel_rfl) (by kernel_rfl) (fun _ _ _ h => h) (Or.inl ⟨rfl, fun w hSw => ?_⟩) (by assumption) ?_
            · (try dsimp only at hSw); go_simp; try with_reducible rfl
            (try simp only [Act.put, List.setIfInBounds_toArray, List.set_cons_zero, List.set_cons_succ])
            refine wpAnyH_take (i := 11) (v := (.agg #[.string y.nm, .string y.st, y.u])) (op_at rfl) (by kernel_rfl) (by kernel_rfl) (by kernel_rfl) (fun _ _ _ h => h) (Or.inl ⟨rfl, fun w hSw => ?_⟩) (by assumption) ?_
            · (try dsimp only at hSw); go_simp; try with_reducible rfl
            (try simp only [Act.put, List.setIfInBounds_toArray, List.set_cons_zero, List.set_cons_succ])
            refine wpAnyH_take (i := 12) (v := (.slice (some ⟨b, off, none⟩) n cap)) (op_at rfl) (by kernel_rfl) (by kernel_rfl) (by kernel_rfl) (fun _ _ _ h => h) (Or.inl ⟨rfl, fun w hSw => ?_⟩) (by assumption) ?_
            · (try dsimp only at hSw); go_simp; try with_reducible rfl
            (try simp only [Act.put, List.setIfInBounds_toArray, List.set_cons_zero, List.set_cons_succ])
            refine wpAnyH_take (i := 13) (v := (.int .i64 (a : Int))) (op_at rfl) (by kernel_rfl) (by kernel_rfl) (by kernel_rfl) (fun _ _ _ h => h) (Or.inl ⟨rfl, fun w hSw => ?_⟩) (by assumption) ?_
            · (try dsimp only at hSw); go_simp; try with_reducible rfl
            (try simp only [Act.put, List.setIfInBounds_toArray, List.set_cons_zero, List.set_cons_succ])
            refine wpAnyH_take (i := 14) (v := (.pointer (some ⟨b, off + a * 3, none⟩))) (op_at rfl) (by kernel_rfl) (by kernel_rfl) (by kernel_rfl) (fun _ _ _ h => h) (Or.inl ⟨rfl, fun w hSw => ?_⟩) (by assumption) ?_
            · (try dsimp only at hSw); go_simp; try with_reducible rfl
            (try simp only [Act.put, List.setIfInBounds_toArray, List.set_cons_zero, List.set_cons_succ])
            refine wpAnyH_take (i := 15) (v := (.agg #[.string x.nm, .string x.st, x.u])) (op_at rfl) (by kernel_rfl) (by kernel_rfl) (by kernel_rfl) (fun _ _ _ h => h) (Or.inl ⟨rfl, fun w hSw => ?_⟩) (by assumption) ?_
            · (try dsimp only at hSw); go_simp; try with_reducible rfl
            (try simp only [Act.put, List.setIfInBounds_toArray, List.set_cons_zero, List.set_cons_succ])
            refine wpAnyH_ready (rs := [16]) (by kernel_rfl) (by simp) (AllReadyH.cons (op_at rfl) (fun K hK => ?_) AllReadyH.nil)
            go_simp
            (refine (HCm.out _ gx).mono ?_; rintro e W6 ⟨rfl, hg⟩; replace l3 := hg.cell l3; replace f3 := hg.cell f3; replace o0 := hg.cell o0; replace a0 := hg.cell a0; replace a1 := hg.cell a1; replace a2 := hg.cell a2; replace b0 := hg.cell b0; replace b1 := hg.cell b1; replace b2 := hg.cell b2; replace gx := gx.trans hg; replace gv := gv.trans hg; clear hg)
            go_wp2_with fail
            refine hK.out _ _ ⟨⟨l3, f3, o0⟩, ⟨b0, b1, b2⟩, a0, a1, a2⟩ (fun hHeld => ?_)
            clear hK K
            (try simp only [Act.put, List.setIfInBounds_toArray, List.set_cons_zero, List.set_cons_succ])
            refine wpAnyH_take (i := 17) (v := (.bool (z == 0))) (op_at rfl) (by kernel_rfl) (by kernel_rfl) (by kernel_rfl) (fun _ _ _ h => h) (Or.inl ⟨rfl, fun w hSw => ?_⟩) (by assumption) ?_
            · (try dsimp only at hSw); go_simp; try with_reducible rfl
            (try simp only [Act.put, List.setIfInBounds_toArray, List.set_cons_zero, List.set_cons_succ])
            refine wpAnyH_take (i := 18) (v := (.bool (z == 0))) (op_at rfl) (by kernel_rfl) (by kernel_rfl) (by kernel_rfl) (fun _ _ _ h => h) (Or.inl ⟨rfl, fun w hSw => ?_⟩) (by assumption) ?_
            · (try dsimp only at hSw); go_simp; try with_reducible rfl
            (try simp only [Act.put, List.setIfInBounds_toArray, List.set_cons_zero, List.set_cons_succ])
            refine wpAnyH_done (by kernel_rfl) ?_ _
            have hR6 := gv.block HSE.out
            obtain ⟨hsa, hx, hxr, ha⟩ := HX.out
            obtain ⟨hd, hy⟩ := HY.out
            have hda : ¬ a = d := fun e => by
              subst e
              have := hps'.out.inj ha hd
              omega
            have hrd : (rs.set a P1)[d]? = some (rankR xs (rowOf xs d)) := by
              rw [List.getElem?_set, if_neg hda]
              exact HRK.out.at' q d (by omega) hd
            have hstep := HRK.out.step hps'.out ha
            by_cases hz0 : z = 0
            · have hrk2 : rankR xs (rowOf xs d) = rankR xs (rowOf xs a) := rank_alike (by rw [hz.out]; exact hz0)
              rw [hrk2] at hrd
              generalize rankR xs (rowOf xs a) = ra at *
              have m0 := cell_ints hR6 hsa
              have m1 := cell_ints hR6 hrd
              have hfz := frozen_of_row W6 w2.heap.size a _ 3 hR6
              have hset2 := heap_setCell_same W6 w2.heap.size a _ 3 (.int .i64 ra) hR6
              rw [ints_set, set_set] at hset2
              have hnx5 : Gr w2 (W6.setCell ⟨w2.heap.size, a, none⟩ (.int .i64 ra)) := Below.setCell gx (Nat.le_refl _) _
              have HSE2 := Lib.hid hset2
              have HST := Lib.hid hstep
              subst hz0
              clear hset2 hstep hR6 hrk2 hz hx hxr ha hd hy hsa hrd hda HP1 hps'
              go_wp2_with fail
              go_roundw
              case rel => exact ⟨q + 1 + 1, _, by omega, by go_num, HSE2.out, HST.out, hnx5⟩
              case measure => simp [intOf]; omega
            · have hlt2 : cmpR (rowOf xs d) (rowOf xs a) < 0 := by
                have := hps'.out.sorted q (q + 1) d a (by omega) hd ha
                have := hz.out
                omega
              have hrk2 : rankR xs (rowOf xs a) = ((q + 1 : Nat) : Int) + 1 := rank_first hps'.out ha (fun q' c hq hc => by
                obtain rfl : q' = q := by omega
                rw [hd] at hc
                cases hc
                exact hlt2)
              rw [hrk2, ← HP1.out] at hstep
              have hzf : (z == 0) = false := beq_eq_false_iff_ne.2 hz0
              have HST := Lib.hid hstep
              have HR6 := Lib.hid hR6
              clear hstep hR6 hrk2 hz hx hxr ha hd hy hsa hrd hda HP1 hps' hlt2 hz0
              go_wp2_with fail
              go_roundw
              case rel => exact ⟨q + 1 + 1, _, by omega, by go_num, HR6.out, HST.out, gx⟩
              case measure => simp [intOf]; omega
        · obtain rfl : p = n := by omega
          go_wp2_with fail
          go_ret
          have hrs := Rk.end (by rw [hn]; exact hrk) hps
          subst hrs
          exact ⟨w2.heap.size, rfl, g3.size, hgc, g3.trans hnx⟩
end Go.Proofs.YtebnbjaaogfikaaGreatDoor
namespace Go.Proofs.YtebnbjaaogfikaaGreatDoor
open Go.RowKit Go.Lib
set_option linter.unusedSimpArgs false
set_option linter.unusedVariables false
theorem infoTh : (Tryz.prog.info? 9).map (fun i => (i.zero, i.size, i.bytes)) = some (some (.string ⟨#[]⟩), 1, 16) := by kernel_rfl
theorem infoP : (Tryz.prog.info? 64).map (fun i => (i.zero, i.size, i.bytes)) = some (some (.agg #[.string ⟨#[]⟩, .int .i64 0]), 2, 24) := by kernel_rfl
def nmsV (xs : List RowR) : List Value := xs.map fun x => .string x.nm
theorem nmsV_take {xs : List RowR} {k : Nat} {x : RowR} (h : xs[k]? = some x) : nmsV (xs.take (k + 1)) = nmsV (xs.take k) ++ [.string x.nm] := by
  rw [List.take_add_one, h]
  simp [nmsV]
theorem nmsV_len (xs : List RowR) : (nmsV xs).length = xs.length := by simp [nmsV]
theorem cell_one_two (w : World) (A : Obj) (a : Value) (T : TypeId) : ∀ (j : Nat) (u : Value), [a][j]? = some u → ((w.alloc A).alloc (.cells #[a] T)).cell? ((⟨w.heap.size + 1, 0, none⟩ : Addr).add j) = some u := by
  intro j u h
  have hs : (w.alloc A).heap.size = w.heap.size + 1 := World.size_alloc _ _
  have e : (⟨w.heap.size + 1, 0, none⟩ : Addr).add j = ⟨(w.alloc A).heap.size, j, none⟩ := by unfold Addr.add; split <;> simp_all
  rw [e]
  rcases j with _ | j
  · simp at h; subst h; exact cell_new (w.alloc A) #[a] T 0 (by simp)
  · simp at h
set_option maxHeartbeats 1000000 in
set_option maxRecDepth 100000 in
theorem climbers_pos (xs : List RowR) (n b off cap : Nat) (w : World) (hn : xs.length = n) (h1 : n ≤ 1000) (hc : ∀ i x, xs[i]? = some x → RowAt w b (off + i * 3) x) :
    Calls Tryz.prog 25 #[.slice (some ⟨b, off, none⟩) n cap] w fun e w' => ∃ v, e = .returned v ∧ w'.ownsRow w.heap.size 9 1 v n (nmsV xs) ∧ Gr w w' := by
  obtain ⟨i0, hi, hz0, hz1, hz2⟩ := info_parts infoTh
  have HC := Lib.hid hc
  have HN := Lib.hid hn
  clear hc hn
  go_enter Tryz.func25, Tryz.ntmps25
  go_wp2_with fail
  go_loopw [3, 8] (fun v i wr => ∃ k : Nat, k ≤ n ∧ i = .int .i64 k ∧ wr.ownsRow w.heap.size 9 1 v k (nmsV (xs.take k)) ∧ Below w.heap.size w wr) (fun _ i _ => n - (intOf i).toNat)
  case atStart => exact ⟨0, Nat.zero_le _, rfl, World.ownsRow_nil _ _ _ _, Below.refl _ _⟩
  case round =>
    obtain ⟨k, hk, rfl, hown, hnx⟩ := hrel
    have hsize := hnx.size
    by_cases hkN : k < n
    · obtain ⟨x, hx⟩ : ∃ x, xs[k]? = some x := ⟨xs[k]'(by have := HN.out; omega), List.getElem?_eq_getElem _⟩
      obtain ⟨c0, c1, c2, hv, _⟩ := (HC.out k x hx).gr hnx
      obtain ⟨⟨p', cap', hu, _⟩⟩ := hv
      rw [hu] at c2
      have HQ := Lib.hid (nmsV_take hx)
      have HLn := Lib.hid (nmsV_len (xs.take k))
      have HT := Lib.hid (show (xs.take k).length = k by rw [List.length_take]; have := HN.out; omega)
      have hi2 : (k : Int) < n := by omega
      clear hx
      go_wp2_with (first
        | (at_builtin; refine wpList_append_own _ rfl _ _ 23 rfl w.heap.size 9 i0 (.string ⟨#[]⟩) 1 16 Tryz.underlying23 hi hz0 hz1 hz2 rfl (by decide) _ _ _ rfl ((hown.alloc _).alloc _) ⟨wr.heap.size + 1, 0, none⟩ 1 1 [.string x.nm] rfl rfl (cell_one_two _ _ _ _) (by intro u hu; simp at hu; subst hu; rfl) (by unfold maxLen; omega) (by omega) (by simp; omega) ?_; intro v1 w1 hown1 hgrow1 hnil1))
      go_roundw
      case rel =>
        exact ⟨k + 1, by omega, by go_num, by rw [HQ.out]; exact hown1, ((hnx.alloc hsize _).alloc (by simp; omega) _).grown hgrow1 (by simp; omega) (fun j hj => (hown.lt j hj).1)⟩
      case measure => simp [intOf]; omega
    · have hkk : k = n := by omega
      subst hkk
      rw [List.take_of_length_le (by have := HN.out; omega)] at hown
      go_wp2_with fail
      go_ret
      exact ⟨_, rfl, hown, hnx⟩
end Go.Proofs.YtebnbjaaogfikaaGreatDoor
namespace Go.Proofs.YtebnbjaaogfikaaGreatDoor
open Go.RowKit Go.Lib
set_option linter.unusedSimpArgs false
set_option linter.unusedVariables false
structure PlAt (w : World) (b off : Nat) (x : PlR) : Prop where
  nm : w.cell? ⟨b, off, none⟩ = some (.string x.nm)
  rk : w.cell? ⟨b, off + 1, none⟩ = some (.int .i64 x.rk)
theorem PlAt.gr {w w' : World} {b off : Nat} {x : PlR} (h : PlAt w b off x) (k : Gr w w') : PlAt w' b off x := ⟨k.cell h.nm, k.cell h.rk⟩
/-- the slice v reads as the places ps -/
structure PlsV (w : World) (v : Value) (ps : List PlR) : Prop where
  mk' ::
  out : ∃ p cap, v = .slice p ps.length cap ∧ (0 < ps.length → ∃ b, p = some ⟨b, 0, none⟩ ∧ ∀ i x, ps[i]? = some x → PlAt w b (i * 2) x)
theorem plCs_take {xs : List PlR} {k : Nat} {x : PlR} (h : xs[k]? = some x) : plCs (xs.take (k + 1)) = plCs (xs.take k) ++ plC x := by
  rw [List.take_add_one, h]
  simp [plCs]
theorem cell_two_new (w : World) (a b : Value) (T : TypeId) : ∀ (j : Nat) (u : Value), [a, b][j]? = some u → (w.alloc (.cells #[a, b] T)).cell? ((⟨w.heap.size, 0, none⟩ : Addr).add j) = some u := by
  intro j u h
  have e : (⟨w.heap.size, 0, none⟩ : Addr).add j = ⟨w.heap.size, j, none⟩ := by unfold Addr.add; split <;> simp_all
  rw [e]
  rcases j with _ | _ | j
  · simp at h; subst h; exact cell_new w #[a, b] T 0 (by simp)
  · simp at h; subst h; exact cell_new w #[a, b] T 1 (by simp)
  · simp at h
def pls (ns : List ByteArray) (rs : List Int) : List PlR := List.zipWith PlR.mk ns rs
theorem pls_at {ns : List ByteArray} {rs : List Int} {i : Nat} {x : PlR} (h : (pls ns rs)[i]? = some x) : ns[i]? = some x.nm ∧ rs[i]? = some x.rk := by
  unfold pls at h
  rw [List.getElem?_zipWith] at h
  cases h1 : ns[i]? <;> cases h2 : rs[i]? <;> simp_all
  subst h
  exact ⟨rfl, rfl⟩
open Go.Sort Go.Shelf in
theorem holdsK_of_owns {w : World} {base : Nat} {v : Value} {ps : List PlR} {T : TypeId} (h : w.ownsRow base T 2 v ps.length (plCs ps)) (h0 : 0 < ps.length) :
    ∃ g cap, v = .slice (some ⟨g, 0, none⟩) ps.length cap ∧ base ≤ g ∧ g < w.heap.size ∧ HoldsK plC 2 w g 0 ps.toArray := by
  have hh := h
  rcases h.2 with ⟨rfl, h0'⟩ | ⟨g, cap, cur, rfl, hb, hcur, hle, hmx, _, _⟩
  · omega
  · have hlt := (Array.getElem?_eq_some_iff.1 hcur).1
    refine ⟨g, cap, rfl, hb, hlt, fun t ht => ⟨?_, by simp [World.frozen?, hcur]⟩⟩
    rw [size_flatK] at ht
    have ht' : t < (plCs ps).length := by rw [plCs_len]; simpa using ht
    rw [flat_pl _ t ht]
    have e : (⟨g, 0, none⟩ : Addr).add t = ⟨g, t, none⟩ := by unfold Addr.add; split <;> simp_all
    have c := hh.cells (g := g) rfl t _ (List.getElem?_eq_getElem ht')
    rw [e] at c
    rw [Nat.zero_add, c]
    simp [List.getElem?_eq_getElem ht']
open Go.Sort Go.Shelf in
/-- places as the stable sort leaves them -/
def srtP (ps : List PlR) : List PlR := (Sort.insertionSort (ltOf cmpP) ps.toArray 0 ps.length).toList
open Go.Sort Go.Shelf in
theorem srtP_spec (ps : List PlR) : (srtP ps).Perm ps ∧ (srtP ps).length = ps.length ∧ ∀ (i j : Nat) (x y : PlR), i < j → (srtP ps)[i]? = some x → (srtP ps)[j]? = some y → x.rk ≤ y.rk := by
  obtain ⟨hp, hso⟩ := insertionSort_holds swo_pl ps.toArray 0 ps.length (Nat.zero_le _) (by simp)
  have hsz : (Sort.insertionSort (ltOf cmpP) ps.toArray 0 ps.length).size = ps.length := by rw [hp.1]; simp
  refine ⟨?_, by unfold srtP; rw [Array.length_toList, hsz], ?_⟩
  · have h3 := hp.2.2
    rw [show (Sort.insertionSort (ltOf cmpP) ps.toArray 0 ps.length).extract 0 ps.length = Sort.insertionSort (ltOf cmpP) ps.toArray 0 ps.length by
      have := hsz; generalize Sort.insertionSort (ltOf cmpP) ps.toArray 0 ps.length = q at *; rw [← this]; simp, show ps.toArray.extract 0 ps.length = ps.toArray by simp] at h3
    simpa [srtP] using h3
  · intro i j x y hij hi hj
    unfold srtP at hi hj
    rw [Array.getElem?_toList] at hi hj
    obtain ⟨hi2, ex⟩ := Array.getElem?_eq_some_iff.1 hi
    obtain ⟨hj2, ey⟩ := Array.getElem?_eq_some_iff.1 hj
    have := hso i j (Nat.zero_le _) hij (by omega)
    rw [getElem!_pos _ i hi2, getElem!_pos _ j hj2, ex, ey, lt_pl, decide_eq_false_iff_not] at this
    omega
theorem gdOfGr {w w' : World} (h : Gd w w') : Gr w w' := h.gr
open Go.Sort Go.Shelf in
theorem sortP_c (I : InsOK) (ps : List PlR) (g cap F : Nat) {w0 w : World} (h0 : 0 < ps.length) (h1 : ps.length < 20) (hg : Gr w0 w) (hb : w0.heap.size ≤ g) (hlt : g < w.heap.size) (hH : HoldsK plC 2 w g 0 ps.toArray)
    (hF : w.cell? ⟨F, 0, none⟩ = some (.func (.func 53) #[] #[])) (hgF : F ≠ g) :
    Calls Tryz.prog 51 #[.slice (some ⟨g, 0, none⟩) ps.length cap, .func (.func 80) #[] #[.pointer (some ⟨F, 0, none⟩)]] w fun e w' =>
      e = .returned (.tuple #[]) ∧ PlsV w' (.slice (some ⟨g, 0, none⟩) ps.length cap) (srtP ps) ∧ Gr w0 w' := by
  have hsw : ∀ (m : Nat) (os : Array Obj) (dk : Array PlR), w.grownBy (sortWorldK plC 2 w g 0 m dk os) (some g) := fun m os dk => grownBy_sortedK plC 2 dk
  have hcmp : CmpLays Tryz.prog 80 #[.pointer (some ⟨F, 0, none⟩)] plC 2 cmpP g 0 ps.toArray.size w := by
    intro m os dk _ x y
    have hF2 : (sortWorldK plC 2 w g 0 m dk os).cell? ⟨F, 0, none⟩ = some (.func (.func 53) #[] #[]) := by
      obtain ⟨_, _, _, _, hold⟩ := hsw m os dk
      have hFl : F < w.heap.size := by
        rcases Nat.lt_or_ge F w.heap.size with h | h
        · exact h
        · simp [World.cell?, Array.getElem?_eq_none h] at hF
      have := hold F hFl (by intro e; cases e; exact hgF rfl)
      simp only [World.cell?] at hF ⊢
      rw [this]
      exact hF
    refine (plCmp_c x y F _ hF2).mono ?_
    rintro e w' ⟨rfl, gd⟩
    exact ⟨rfl, gd.grow⟩
  have hcall := sortS_c I #[.pointer (some ⟨F, 0, none⟩)] g 0 cap ps.toArray w hcmp hH hlt (by simpa using h1)
  rw [show ps.toArray.size = ps.length by simp] at hcall
  refine hcall.mono ?_
  rintro e w' ⟨rfl, m, os, rfl⟩
  have hsp := srtP_spec ps
  have hHs := holdsK_sortWorldK_c plC 2 w g 0 ps.toArray (Sort.insertionSort (ltOf cmpP) ps.toArray 0 ps.length) m os hH hlt (by have := hsp.2.1; unfold srtP at this; simpa using this)
  refine ⟨rfl, ⟨some ⟨g, 0, none⟩, cap, by rw [hsp.2.1], fun _ => ⟨g, rfl, fun i x hx => ?_⟩⟩, Below.grown hg (hsw m os _) hg.size (fun k hk => by cases hk; exact hb)⟩
  unfold srtP at hx
  rw [Array.getElem?_toList] at hx
  obtain ⟨hi, ex⟩ := Array.getElem?_eq_some_iff.1 hx
  have c0 := (hHs.cell hi (show 0 < 2 by omega)).1
  have c1 := (hHs.cell hi (show 1 < 2 by omega)).1
  rw [getElem!_pos _ i hi, ex] at c0 c1
  rw [Nat.zero_add] at c0 c1
  exact ⟨c0, c1⟩
end Go.Proofs.YtebnbjaaogfikaaGreatDoor
