/- Races: start.next. -/
import Derived.Test.YthfmgficbnmmnaaGreatDoorGRdA
namespace Go.Proofs.YthfmgficbnmmnaaGreatDoor
open Go.RowKit Go.Shelf
set_option linter.unusedSimpArgs false
set_option linter.unusedVariables false
attribute [local go_sem] Oper.semAt_some
theorem chunkR_c (p : Option Addr) (M c : Nat) (w : World) :
    Calls Tryz.prog 103 #[.slice p M c, .int .i64 2] w fun e w' => e = .returned (.func (.func 137) #[] #[.pointer (some ⟨w.heap.size, 0, none⟩), .pointer (some ⟨w.heap.size + 1, 0, none⟩)]) ∧ w' = (w.alloc (.cells #[.slice p M c] 30)).alloc (.cells #[.int .i64 2] 3) := by
  go_enter Tryz.func103, Tryz.ntmps103
  go_wp2_with fail
  go_ret
  exact ⟨rfl, rfl⟩
theorem chunkR_stops (Bs Bn n₀ x b o c M N : Nat) (hMN : M = 2 * N) (hN : N ≤ 100) (hc : M ≤ c) (hmx : c ≤ maxLen) (w : World) (hBs : Bs < n₀ ∧ Bs ≠ x) (hBn : Bn < n₀ ∧ Bn ≠ x)
    (hs : w.cell? ⟨Bs, 0, none⟩ = some (.slice (some ⟨b, o, none⟩) M c)) (hn : w.cell? ⟨Bn, 0, none⟩ = some (.int .i64 2)) :
    SeqStopsK Fence.wide 3 Tryz.prog 137 #[.pointer (some ⟨Bs, 0, none⟩), .pointer (some ⟨Bn, 0, none⟩)] (fun y : { y : Nat // y < N } => #[.slice (some ⟨b, o + 2 * y.1 * 3, none⟩) 2 2]) (KpX n₀ x) (fun zs => zs.map (fun y => y.1) = List.range N) (fun _ => True) N w := fun l J Jx W hW hJ hJx hY h0 =>
  chunkR_in l Bs Bn n₀ x b o c M N hMN hN hc hmx J Jx W (fun s A B h g => hJ s A B none h (gr_grown6 g) (fun r e => by cases e)) hY hBs hBn (Gr.cell hW hs) (Gr.cell hW hn) h0
/-- the race of the next round at j -/
def nextAt (l : List RaR) (j : Nat) : RaR := raB ((l.map winR).getD (2 * j) ⟨#[]⟩) ((l.map winR).getD (2 * j + 1) ⟨#[]⟩)
theorem next_races (l : List RaR) (n : Nat) (hl : l.length = 2 * n) : pairR (l.map winR) = (List.range n).map (nextAt l) := by
  have := pairR_range (l.map winR) n (by rw [List.length_map]; exact hl) n (Nat.le_refl _)
  rw [List.take_of_length_le (by rw [List.length_map]; omega)] at this
  exact this
set_option maxHeartbeats 2000000 in
set_option maxRecDepth 100000 in
theorem next_c {v : Value} {l : List RaR} {w : World} (N : Nat) (h : RaV w v l) (hN : l.length = 2 * N) (hN1 : 1 ≤ N) (hN5 : N ≤ 100) :
    Calls Tryz.prog 63 #[v] w fun e w' => ∃ q c, e = .returned (.slice q N c) ∧ RaS w' q (pairR (l.map winR)) ∧ (pairR (l.map winR)).length = N ∧ Gr w w' := by
  obtain ⟨⟨p, cap, rfl, ⟨hcap, hmx⟩, hr⟩⟩ := h
  obtain ⟨M, hM⟩ : ∃ M, M = l.length := ⟨_, rfl⟩
  rw [← hM] at hN hcap ⊢
  obtain ⟨b, o, rfl, hcl⟩ := hr.out (by omega)
  have HLM := Lib.hid hM
  have HMN := Lib.hid hN
  have HCL := Lib.hid hcl
  have hbw : b < w.heap.size := by
    obtain ⟨x0, hx0⟩ : ∃ x, l[0]? = some x := ⟨l[0]'(by omega), List.getElem?_eq_getElem _⟩
    exact World.block_lt_of_cell? w ⟨b, o + 0 * 3, none⟩ (hcl 0 x0 hx0).1
  clear hr hM hN hcl
  refine (callsIn_wide (n := 4)).1 ?_
  refine callsIn_of_wp_marks Tryz.func63 rfl trivial ?_ rfl
  simp only [Tryz.ntmps63, List.size_toArray, List.length_cons, List.length_nil, Nat.reduceAdd, Nat.reduceSub, Array.replicate_succ, Array.replicate_zero, List.push_toArray, List.append_toArray, List.nil_append, List.cons_append]
  obtain ⟨W3, hW3, g3, x3⟩ := box1 w (.slice none 0 0) 30
  have hx3 : W3.frozen? ⟨w.heap.size, 0, none⟩ = false := by rw [← hW3]; exact frozen_of_row _ _ 0 #[.slice none 0 0] 30 (heap_alloc_new w _)
  have HS3 : Hid (W3.heap.size = w.heap.size + 1) := by rw [Hid, ← hW3]; simp
  gi_wp2_with fail
  clear hW3
  refine ⟨trivial, ?_⟩
  gi_at_call 103
  refine (callsIn_wide.2 (chunkR_c (some ⟨b, o, none⟩) M cap W3)).mono ?_
  rintro e W5 ⟨rfl, hW5⟩
  obtain ⟨W0, hW0, g5, s5, n5⟩ := boxes_two W3 (.slice (some ⟨b, o, none⟩) M cap) (.int .i64 2) 30 3
  obtain rfl : W0 = W5 := hW0.symm.trans hW5.symm
  have HSZ5 : Hid (W0.heap.size = W3.heap.size + 2) := by rw [Hid, ← hW0]; simp
  have HX5 := Lib.hid (Gr.cell g5 x3)
  have HF5 : Hid (W0.frozen? ⟨w.heap.size, 0, none⟩ = false) := (Below.frozen g5 (p := ⟨w.heap.size, 0, none⟩) (by show w.heap.size < _; have := HS3.out; omega)).trans hx3
  have hB5 : Below w.heap.size w W0 := g3.trans g5
  have HB5 := Lib.hid hB5
  have HN5 := Lib.hid n5
  have HS5 := Lib.hid s5
  clear hW5 hW0 x3 hx3 n5 s5
  gi_wp2_with fail
  have hs3 := HS3.out
  have hs5 := HSZ5.out
  have hxn : w.heap.size < W0.heap.size := by omega
  have hbx : b ≠ w.heap.size := by omega
  have hbn : b < W0.heap.size := by omega
  refine wpIn_rangeFunc_ownF rfl (by decide) (gf := 137) (lb := #[.pointer (some ⟨W3.heap.size, 0, none⟩), .pointer (some ⟨W3.heap.size + 1, 0, none⟩)]) rfl trivial (enters_of Tryz.func137 (by kernel_rfl) rfl)
    (chunkR_stops W3.heap.size (W3.heap.size + 1) W0.heap.size w.heap.size b o cap M N HMN.out hN5 hcap hmx W0 ⟨by omega, by omega⟩ ⟨by omega, by omega⟩ HS5.out HN5.out)
    kpX_t (fun W l o o' h _ _ _ => kpX_putObj W o' (by omega)) (Below.refl _ _) (fun _ => rfl)
    (fun pre W => RacI W0.heap.size w.heap.size (pre.map fun y => nextAt l y.1) W ∧ KpX W0.heap.size w.heap.size W0 W ∧ Below w.heap.size w W)
    (fun _ _ _ => False)
    (OwnFrom.and (Own.from (fun s A B row hs hg hr => by
        obtain ⟨v, h1, h2, h3⟩ := hs.out
        exact ⟨v, cell_kept h1 hg hr, (frozen_kept h1 hg hr).trans h2, own_turn h3 hg hr⟩) _)
      (OwnFrom.and (fun s A B row hs hg hr => kpX_t hs (fun k hk hne => hg.block k (kpX_lt hs hk hne) (fun e => by have := (hr k e.symm).1; omega))) (ownFrom_below (Nat.le_refl _) (Below.size hB5))))
    (fun _ _ _ _ _ hs _ _ => hs)
    ⟨⟨_, HX5.out, HF5.out, World.ownsRow_nil _ _ _ _⟩, fun _ _ _ => rfl, hB5⟩
    (fun y => { tmps := #[.slice (some ⟨b, o, none⟩) M cap, undef, .slice none 0 0, .pointer (some ⟨w.heap.size, 0, none⟩), .slice (some ⟨b, o + 2 * y.1 * 3, none⟩) 2 2, .slice (some ⟨b, o, none⟩) M cap, .func (.func 137) #[] #[.pointer (some ⟨W3.heap.size, 0, none⟩), .pointer (some ⟨W3.heap.size + 1, 0, none⟩)], .slice (some ⟨b, o + 2 * y.1 * 3, none⟩) 2 2, undef, undef, undef, undef, undef, undef, undef, undef, undef, undef, undef, undef, undef, undef, undef, undef, undef, undef, undef, undef, undef], defers := [] })
    ?assign ?body ?done ?stop
  case assign =>
    intro l y W K hK
    clear hs3 hs5
    gi_wp2
    exact hK
  case body =>
    rintro lp pre ⟨j, hj⟩ Wb ⟨hR, hK, hB⟩ hpl
    obtain ⟨v, hxv, hfx, hown⟩ := hR.out
    have hsz : W0.heap.size ≤ Wb.heap.size := by
      rcases Nat.lt_or_ge Wb.heap.size W0.heap.size with hh | hh
      · have hl1 : W0.heap.size - 1 < W0.heap.size := by omega
        have := kpX_lt hK hl1 (by omega)
        omega
      · exact hh
    have hLM := HLM.out
    have hMM := HMN.out
    obtain ⟨m0, hm0⟩ : ∃ m0, 2 * j = m0 := ⟨_, rfl⟩
    obtain ⟨r1, hr1⟩ : ∃ r, l[m0]? = some r := ⟨l[m0]'(by omega), List.getElem?_eq_getElem _⟩
    obtain ⟨r2, hr2⟩ : ∃ r, l[m0 + 1]? = some r := ⟨l[m0 + 1]'(by omega), List.getElem?_eq_getElem _⟩
    obtain ⟨q0, q1, q2⟩ := HCL.out m0 r1 hr1
    obtain ⟨q3, q4, q5⟩ := HCL.out (m0 + 1) r2 hr2
    have HRA0 : nextAt l j = raB (winR r1) (winR r2) := by
      rw [nextAt, List.getD_eq_getElem?_getD, List.getD_eq_getElem?_getD, hm0, List.getElem?_map, List.getElem?_map, hr1, hr2]
      rfl
    simp only [hm0]
    obtain ⟨A, hA⟩ : ∃ A, o + m0 * 3 = A := ⟨_, rfl⟩
    obtain ⟨B, hAB⟩ : ∃ B, A + 3 = B := ⟨_, rfl⟩
    rw [show o + (m0 + 1) * 3 = B by omega] at q3 q4 q5
    rw [hA] at q0 q1 q2 ⊢
    obtain ⟨xa, xb, xw⟩ := r1
    obtain ⟨ya, yb, yw⟩ := r2
    simp only at q0 q1 q2 q3 q4 q5
    have kk : ∀ (k : Nat) (u : Value), w.cell? ⟨b, k, none⟩ = some u → Wb.drew.cell? ⟨b, k, none⟩ = some u := fun k u hu => hK.cell hbn hbx (Gr.cell HB5.out hu)
    have c0v := kk _ _ q0
    have c1v := kk _ _ q1
    have c2v := kk _ _ q2
    have c3v := kk _ _ q3
    have c4v := kk _ _ q4
    have c5v := kk _ _ q5
    have cxv : Wb.drew.cell? ⟨w.heap.size, 0, none⟩ = some v := hxv
    have fxv : Wb.drew.frozen? ⟨w.heap.size, 0, none⟩ = false := hfx
    have HS1 : Hid (∀ W, Calls Tryz.prog 46 #[.agg #[.string xa, .string xb, .int .i64 xw], .int .i64 xw] W fun e w' => e = .returned (.string (winR ⟨xa, xb, xw⟩)) ∧ Gr W w') := fun W => inR_c ⟨xa, xb, xw⟩ xw W
    have HS2 : Hid (∀ W, Calls Tryz.prog 46 #[.agg #[.string ya, .string yb, .int .i64 yw], .int .i64 yw] W fun e w' => e = .returned (.string (winR ⟨ya, yb, yw⟩)) ∧ Gr W w') := fun W => inR_c ⟨ya, yb, yw⟩ yw W
    generalize winR ⟨xa, xb, xw⟩ = na at *
    generalize winR ⟨ya, yb, yw⟩ = nb at *
    have HRO : Hid (∀ W, Calls Tryz.prog 55 #[.string na, .string nb] W fun e w' => e = .returned (.agg #[.string na, .string nb, .int .i64 (walkW na nb)]) ∧ Gr W w') := fun W => raceOf_c na nb W
    have HRA : Hid (nextAt l j = ⟨na, nb, walkW na nb⟩) := HRA0
    generalize walkW na nb = ww at *
    have HOW := Lib.hid hown
    have HSZ := Lib.hid hsz
    have HKP := Lib.hid hK
    have HBW := Lib.hid hB
    clear hxv hfx hown hsz hK hB hR hLM hMM hr1 hr2 q0 q1 q2 q3 q4 q5 HRA0 kk hm0 hA
    gi_wp2
    refine wpIn_region_round (S := (fun w' => w'.cell? ⟨b, A, none⟩ = some (.string xa) ∧ w'.cell? ⟨b, A + 1, none⟩ = some (.string xb) ∧ w'.cell? ⟨b, A + 2, none⟩ = some (.int .i64 xw) ∧ w'.cell? ⟨b, B, none⟩ = some (.string ya) ∧ w'.cell? ⟨b, B + 1, none⟩ = some (.string yb) ∧ w'.cell? ⟨b, B + 2, none⟩ = some (.int .i64 yw))) (fun h9 => by obtain ⟨a9, w9, h9⟩ := h9; exact h9) (noDefer (by kernel_rfl)) (by kernel_rfl) ⟨c0v, c1v, c2v, c3v, c4v, c5v⟩ (fun hHeld => ?_)
    have HOV0 : Hid (Wb.drew.ownsRow W0.heap.size 55 3 v (pre.map fun y => nextAt l y.1).length (raCs (pre.map fun y => nextAt l y.1))) := HOW.out
    have HSV : Hid (W0.heap.size ≤ Wb.drew.heap.size) := HSZ.out
    have HBV : Hid (Below w.heap.size w Wb.drew) := Gr.drew HBW.out
    have HKPV : Hid (KpX W0.heap.size w.heap.size W0 Wb.drew) := HKP.out
    have HKD : Hid (KeepsOthers Wb Wb.drew) := KeepsOthers.drew Wb
    have HKX : Hid (KpX W0.heap.size w.heap.size Wb Wb.drew) := fun _ _ _ => rfl
    have HLE : Hid ((pre.map fun y => nextAt l y.1).length ≤ 1000) := by rw [Hid, List.length_map]; omega
    clear HOW HSZ HBW HKP
    generalize hVV : Wb.drew = V at *
    clear hVV
    refine wpAnyH_take (i := 1) (v := (.slice (some ⟨b, A, none⟩) 2 2)) (op_at rfl) (by kernel_rfl) (by kernel_rfl) (by kernel_rfl) (fun _ _ _ h => h) (Or.inl ⟨rfl, fun w hSw => ?_⟩) (by assumption) ?_
    · (try dsimp only at hSw); go_simp; try with_reducible rfl
    (try simp only [Act.put, List.setIfInBounds_toArray, List.set_cons_zero, List.set_cons_succ])
    refine wpAnyH_take (i := 2) (v := (.pointer (some ⟨b, A, none⟩))) (op_at rfl) (by kernel_rfl) (by kernel_rfl) (by kernel_rfl) (fun _ _ _ h => h) (Or.inl ⟨rfl, fun w hSw => ?_⟩) (by assumption) ?_
    · (try dsimp only at hSw); go_simp; try with_reducible rfl
    (try simp only [Act.put, List.setIfInBounds_toArray, List.set_cons_zero, List.set_cons_succ])
    refine wpAnyH_take (i := 3) (v := (.agg #[.string xa, .string xb, .int .i64 xw])) (op_at rfl) (by kernel_rfl) (by kernel_rfl) (by kernel_rfl) (fun _ _ _ h => h) (Or.inl ⟨rfl, fun w hSw => ?_⟩) (by assumption) ?_
    · (try dsimp only at hSw); go_simp; try with_reducible rfl
    (try simp only [Act.put, List.setIfInBounds_toArray, List.set_cons_zero, List.set_cons_succ])
    refine wpAnyH_take (i := 4) (v := (.slice (some ⟨b, A, none⟩) 2 2)) (op_at rfl) (by kernel_rfl) (by kernel_rfl) (by kernel_rfl) (fun _ _ _ h => h) (Or.inl ⟨rfl, fun w hSw => ?_⟩) (by assumption) ?_
    · (try dsimp only at hSw); go_simp; try with_reducible rfl
    (try simp only [Act.put, List.setIfInBounds_toArray, List.set_cons_zero, List.set_cons_succ])
    refine wpAnyH_take (i := 5) (v := (.pointer (some ⟨b, A, none⟩))) (op_at rfl) (by kernel_rfl) (by kernel_rfl) (by kernel_rfl) (fun _ _ _ h => h) (Or.inl ⟨rfl, fun w hSw => ?_⟩) (by assumption) ?_
    · (try dsimp only at hSw); go_simp; try with_reducible rfl
    (try simp only [Act.put, List.setIfInBounds_toArray, List.set_cons_zero, List.set_cons_succ])
    refine wpAnyH_take (i := 6) (v := (.pointer (some ⟨b, A + 2, none⟩))) (op_at rfl) (by kernel_rfl) (by kernel_rfl) (by kernel_rfl) (fun _ _ _ h => h) (Or.inl ⟨rfl, fun w hSw => ?_⟩) (by assumption) ?_
    · (try dsimp only at hSw); go_simp; try with_reducible rfl
    (try simp only [Act.put, List.setIfInBounds_toArray, List.set_cons_zero, List.set_cons_succ])
    refine wpAnyH_take (i := 7) (v := (.int .i64 xw)) (op_at rfl) (by kernel_rfl) (by kernel_rfl) (by kernel_rfl) (fun _ _ _ h => h) (Or.inl ⟨rfl, fun w hSw => ?_⟩) (by assumption) ?_
    · (try dsimp only at hSw); go_simp; try with_reducible rfl
    (try simp only [Act.put, List.setIfInBounds_toArray, List.set_cons_zero, List.set_cons_succ])
    refine wpAnyH_take (i := 9) (v := (.slice (some ⟨b, A, none⟩) 2 2)) (op_at rfl) (by kernel_rfl) (by kernel_rfl) (by kernel_rfl) (fun _ _ _ h => h) (Or.inl ⟨rfl, fun w hSw => ?_⟩) (by assumption) ?_
    · (try dsimp only at hSw); go_simp; try with_reducible rfl
    (try simp only [Act.put, List.setIfInBounds_toArray, List.set_cons_zero, List.set_cons_succ])
    refine wpAnyH_take (i := 10) (v := (.pointer (some ⟨b, B, none⟩))) (op_at rfl) (by kernel_rfl) (by kernel_rfl) (by kernel_rfl) (fun _ _ _ h => h) (Or.inl ⟨rfl, fun w hSw => ?_⟩) (by assumption) ?_
    · (try dsimp only at hSw); go_simp; try with_reducible rfl
    (try simp only [Act.put, List.setIfInBounds_toArray, List.set_cons_zero, List.set_cons_succ])
    refine wpAnyH_take (i := 11) (v := (.agg #[.string ya, .string yb, .int .i64 yw])) (op_at rfl) (by kernel_rfl) (by kernel_rfl) (by kernel_rfl) (fun _ _ _ h => h) (Or.inl ⟨rfl, fun w hSw => ?_⟩) (by assumption) ?_
    · (try dsimp only at hSw); go_simp; try with_reducible rfl
    (try simp only [Act.put, List.setIfInBounds_toArray, List.set_cons_zero, List.set_cons_succ])
    refine wpAnyH_take (i := 12) (v := (.slice (some ⟨b, A, none⟩) 2 2)) (op_at rfl) (by kernel_rfl) (by kernel_rfl) (by kernel_rfl) (fun _ _ _ h => h) (Or.inl ⟨rfl, fun w hSw => ?_⟩) (by assumption) ?_
    · (try dsimp only at hSw); go_simp; try with_reducible rfl
    (try simp only [Act.put, List.setIfInBounds_toArray, List.set_cons_zero, List.set_cons_succ])
    refine wpAnyH_take (i := 13) (v := (.pointer (some ⟨b, B, none⟩))) (op_at rfl) (by kernel_rfl) (by kernel_rfl) (by kernel_rfl) (fun _ _ _ h => h) (Or.inl ⟨rfl, fun w hSw => ?_⟩) (by assumption) ?_
    · (try dsimp only at hSw); go_simp; try with_reducible rfl
    (try simp only [Act.put, List.setIfInBounds_toArray, List.set_cons_zero, List.set_cons_succ])
    refine wpAnyH_take (i := 14) (v := (.pointer (some ⟨b, B + 2, none⟩))) (op_at rfl) (by kernel_rfl) (by kernel_rfl) (by kernel_rfl) (fun _ _ _ h => h) (Or.inl ⟨rfl, fun w hSw => ?_⟩) (by assumption) ?_
    · (try dsimp only at hSw); go_simp; try with_reducible rfl
    (try simp only [Act.put, List.setIfInBounds_toArray, List.set_cons_zero, List.set_cons_succ])
    refine wpAnyH_take (i := 15) (v := (.int .i64 yw)) (op_at rfl) (by kernel_rfl) (by kernel_rfl) (by kernel_rfl) (fun _ _ _ h => h) (Or.inl ⟨rfl, fun w hSw => ?_⟩) (by assumption) ?_
    · (try dsimp only at hSw); go_simp; try with_reducible rfl
    (try simp only [Act.put, List.setIfInBounds_toArray, List.set_cons_zero, List.set_cons_succ])
    refine wpAnyH_ready (rs := [0, 8]) (by kernel_rfl) (by simp) (AllReadyH.cons (op_at rfl) (fun K hK => ?_) (AllReadyH.cons (op_at rfl) (fun K hK => ?_) AllReadyH.nil))
    · go_simp
      refine hK.out _ _ ⟨c0v, c1v, c2v, c3v, c4v, c5v⟩ (fun hHeld => ?_)
      clear hK K
      (try simp only [Act.put, List.setIfInBounds_toArray, List.set_cons_zero, List.set_cons_succ])
      refine wpAnyH_ready (rs := [8]) (by kernel_rfl) (by simp) (AllReadyH.cons (op_at rfl) (fun K hK => ?_) AllReadyH.nil)
      go_simp
      refine (HS1.out V).mono ?_
      rintro e Vp ⟨rfl, gp⟩
      have c0p := Gr.cell gp c0v
      have c1p := Gr.cell gp c1v
      have c2p := Gr.cell gp c2v
      have c3p := Gr.cell gp c3v
      have c4p := Gr.cell gp c4v
      have c5p := Gr.cell gp c5v
      have cxp := Gr.cell gp cxv
      have gvp := gp
      go_wp2_with fail
      refine hK.out _ _ ⟨c0p, c1p, c2p, c3p, c4p, c5p⟩ (fun hHeld => ?_)
      clear hK K
      (try simp only [Act.put, List.setIfInBounds_toArray, List.set_cons_zero, List.set_cons_succ])
      refine wpAnyH_ready (rs := [16]) (by kernel_rfl) (by simp) (AllReadyH.cons (op_at rfl) (fun K hK => ?_) AllReadyH.nil)
      go_simp
      refine (HS2.out Vp).mono ?_
      rintro e Vq ⟨rfl, gq⟩
      have c0q := Gr.cell gq c0p
      have c1q := Gr.cell gq c1p
      have c2q := Gr.cell gq c2p
      have c3q := Gr.cell gq c3p
      have c4q := Gr.cell gq c4p
      have c5q := Gr.cell gq c5p
      have cxq := Gr.cell gq cxp
      have gvq := Gr.trans gvp gq
      go_wp2_with fail
      refine hK.out _ _ ⟨c0q, c1q, c2q, c3q, c4q, c5q⟩ (fun hHeld => ?_)
      clear hK K
      (try simp only [Act.put, List.setIfInBounds_toArray, List.set_cons_zero, List.set_cons_succ])
      refine wpAnyH_ready (rs := [17]) (by kernel_rfl) (by simp) (AllReadyH.cons (op_at rfl) (fun K hK => ?_) AllReadyH.nil)
      go_simp
      refine (HRO.out Vq).mono ?_
      rintro e Vr ⟨rfl, gr⟩
      have c0r := Gr.cell gr c0q
      have c1r := Gr.cell gr c1q
      have c2r := Gr.cell gr c2q
      have c3r := Gr.cell gr c3q
      have c4r := Gr.cell gr c4q
      have c5r := Gr.cell gr c5q
      have cxr := Gr.cell gr cxq
      have gvr := Gr.trans gvq gr
      have gs : Gr Vr (Vr.alloc (.cells #[.string na, .string nb, .int .i64 ww] 55)) := (Gr.refl Vr).alloc _
      have c0s := Gr.cell gs c0r
      have c1s := Gr.cell gs c1r
      have c2s := Gr.cell gs c2r
      have c3s := Gr.cell gs c3r
      have c4s := Gr.cell gs c4r
      have c5s := Gr.cell gs c5r
      have cxs := Gr.cell gs cxr
      go_wp2_with fail
      refine hK.out _ _ ⟨c0r, c1r, c2r, c3r, c4r, c5r⟩ (fun hHeld => ?_)
      clear hK K
      (try simp only [Act.put, List.setIfInBounds_toArray, List.set_cons_zero, List.set_cons_succ])
      refine wpAnyH_ready (rs := [18]) (by kernel_rfl) (by simp) (AllReadyH.cons (op_at rfl) (fun K hK => ?_) AllReadyH.nil)
      go_simp
      refine hK.out _ _ ⟨c0s, c1s, c2s, c3s, c4s, c5s⟩ (fun hHeld => ?_)
      clear hK K
      (try simp only [Act.put, List.setIfInBounds_toArray, List.set_cons_zero, List.set_cons_succ])
      have HOV : Hid ((Vr.alloc (.cells #[.string na, .string nb, .int .i64 ww] 55)).ownsRow W0.heap.size 55 3 v (pre.map fun y => nextAt l y.1).length (raCs (pre.map fun y => nextAt l y.1))) := World.ownsRow.alloc (own_kept HOV0.out gvr) _
      have g67 : Gr V (Vr.alloc (.cells #[.string na, .string nb, .int .i64 ww] 55)) := gvr.trans gs
      have hs7 : W0.heap.size ≤ (Vr.alloc (.cells #[.string na, .string nb, .int .i64 ww] 55)).heap.size := Nat.le_trans HSV.out (Below.size g67)
      have fxs : (Vr.alloc (.cells #[.string na, .string nb, .int .i64 ww] 55)).frozen? ⟨w.heap.size, 0, none⟩ = false := (Below.frozen g67 (p := ⟨w.heap.size, 0, none⟩) (World.block_lt_of_cell? V ⟨w.heap.size, 0, none⟩ cxv)).trans fxv
      refine wpAnyH_ready (rs := [19]) (by kernel_rfl) (by simp) (AllReadyH.cons (op_at rfl) (fun K hK => ?_) AllReadyH.nil)
      rw [if_pos (show Region.wanted _ _ = true from rfl)]
      refine step_ra 30 55 Tryz.underlying30 infoRaP _ _ rfl W0.heap.size v _ _ rfl HOV.out ⟨na, nb, ww⟩ Vr.heap.size 1 rfl (cell_new Vr #[.string na, .string nb, .int .i64 ww] 55 0 (by simp)) (cell_new Vr #[.string na, .string nb, .int .i64 ww] 55 1 (by simp)) (cell_new Vr #[.string na, .string nb, .int .i64 ww] 55 2 (by simp)) HLE.out hs7 ?_
      intro u1 w1 hown1 hgrow1
      obtain ⟨p1, c1, hu1, _, _⟩ := own_shape hown1
      obtain ⟨m9, hm9⟩ : ∃ m9, (pre.map fun y => nextAt l y.1).length + 1 = m9 := ⟨_, rfl⟩
      rw [hm9] at hu1
      subst hu1
      clear hm9
      have hob : ∀ g, v.ownBlock = some g → W0.heap.size ≤ g := fun g hg => (own_in HOV.out hg).2
      have kp1 : KpX W0.heap.size w.heap.size (Vr.alloc (.cells #[.string na, .string nb, .int .i64 ww] 55)) w1 := KpX.grown hgrow1 hs7 hob
      have cx1 : w1.cell? ⟨w.heap.size, 0, none⟩ = some v := (World.cell?_of_block (a := ⟨w.heap.size, 0, none⟩) (hgrow1.block w.heap.size (World.block_lt_of_cell? _ ⟨w.heap.size, 0, none⟩ cxs) (fun e => by have := hob w.heap.size e.symm; omega))).trans cxs
      have fx1 : w1.frozen? ⟨w.heap.size, 0, none⟩ = false := (World.frozen?_of_block (a := ⟨w.heap.size, 0, none⟩) (hgrow1.block w.heap.size (World.block_lt_of_cell? _ ⟨w.heap.size, 0, none⟩ cxs) (fun e => by have := hob w.heap.size e.symm; omega))).trans fxs
      have c01 := kp1.cell hbn hbx c0s
      have c11 := kp1.cell hbn hbx c1s
      have c21 := kp1.cell hbn hbx c2s
      have c31 := kp1.cell hbn hbx c3s
      have c41 := kp1.cell hbn hbx c4s
      have c51 := kp1.cell hbn hbx c5s
      have HO1 := Lib.hid hown1
      have HKO : Hid (KeepsOthers V w1) := (gr_others g67).trans (own_others HOV.out hgrow1)
      have HKP1 : Hid (KpX W0.heap.size w.heap.size V w1) := kpX_t (KpX.gr g67 HSV.out) kp1
      have HB1 : Hid (Below w.heap.size w w1) := Below.grown (Gr.trans HBV.out g67) hgrow1 (by omega) (fun q hq => by have := hob q hq; omega)
      clear hown1 hgrow1 hob kp1
      refine hK.out _ _ ⟨c01, c11, c21, c31, c41, c51⟩ (fun hHeld => ?_)
      clear hK K
      (try simp only [Act.put, List.setIfInBounds_toArray, List.set_cons_zero, List.set_cons_succ])
      have c02 : (w1.setCell ⟨w.heap.size, 0, none⟩ (.slice p1 m9 c1)).cell? _ = _ := (World.cell?_setCell_far w1 _ _ _ (Ne.symm hbx)).trans c01
      have c12 : (w1.setCell ⟨w.heap.size, 0, none⟩ (.slice p1 m9 c1)).cell? _ = _ := (World.cell?_setCell_far w1 _ _ _ (Ne.symm hbx)).trans c11
      have c22 : (w1.setCell ⟨w.heap.size, 0, none⟩ (.slice p1 m9 c1)).cell? _ = _ := (World.cell?_setCell_far w1 _ _ _ (Ne.symm hbx)).trans c21
      have c32 : (w1.setCell ⟨w.heap.size, 0, none⟩ (.slice p1 m9 c1)).cell? _ = _ := (World.cell?_setCell_far w1 _ _ _ (Ne.symm hbx)).trans c31
      have c42 : (w1.setCell ⟨w.heap.size, 0, none⟩ (.slice p1 m9 c1)).cell? _ = _ := (World.cell?_setCell_far w1 _ _ _ (Ne.symm hbx)).trans c41
      have c52 : (w1.setCell ⟨w.heap.size, 0, none⟩ (.slice p1 m9 c1)).cell? _ = _ := (World.cell?_setCell_far w1 _ _ _ (Ne.symm hbx)).trans c51
      refine wpAnyH_ready (rs := [20]) (by kernel_rfl) (by simp) (AllReadyH.cons (op_at rfl) (fun K hK => ?_) AllReadyH.nil)
      go_simp
      refine hK.out _ _ ⟨c02, c12, c22, c32, c42, c52⟩ (fun hHeld => ?_)
      clear hK K
      (try simp only [Act.put, List.setIfInBounds_toArray, List.set_cons_zero, List.set_cons_succ])
      refine wpAnyH_done (by kernel_rfl) ?_ _
      refine ⟨HKD.out.trans (HKO.out.trans (KeepsOthers.setCell _ _ _)), kpX_t HKX.out (kpX_t HKP1.out (KpX.setCell _ _ _ _)), ⟨.slice p1 m9 c1, World.cell?_setCell_same' _ _ _ (by rw [cx1]; rfl), by rw [World.frozen?_setCell]; exact fx1, ?_⟩, kpX_t HKPV.out (kpX_t HKP1.out (KpX.setCell _ _ _ _)), HB1.out.setCell (p := ⟨w.heap.size, 0, none⟩) (by show w.heap.size ≤ w.heap.size; omega) _⟩
      have ho := own_same (w' := w1.setCell ⟨w.heap.size, 0, none⟩ (.slice p1 m9 c1)) HO1.out (fun g hg => Below.heap_setCell w1 ⟨w.heap.size, 0, none⟩ (.slice p1 m9 c1) g (by have := (own_in HO1.out hg).2; show g ≠ w.heap.size; omega))
      have hra := HRA.out
      rw [List.map_append, List.length_append, show List.map (fun y : { y : Nat // y < N } => nextAt l y.1) [⟨j, hj⟩] = [nextAt l j] from rfl, raCs_add]
      show (w1.setCell ⟨w.heap.size, 0, none⟩ (.slice p1 m9 c1)).ownsRow _ _ _ _ ((pre.map fun y => nextAt l y.1).length + 1) (raCs (pre.map fun y => nextAt l y.1) ++ raC (nextAt l j))
      rw [hra]
      exact ho
    · go_simp
      refine (HS1.out V).mono ?_
      rintro e Vp ⟨rfl, gp⟩
      have c0p := Gr.cell gp c0v
      have c1p := Gr.cell gp c1v
      have c2p := Gr.cell gp c2v
      have c3p := Gr.cell gp c3v
      have c4p := Gr.cell gp c4v
      have c5p := Gr.cell gp c5v
      have cxp := Gr.cell gp cxv
      have gvp := gp
      go_wp2_with fail
      refine hK.out _ _ ⟨c0p, c1p, c2p, c3p, c4p, c5p⟩ (fun hHeld => ?_)
      clear hK K
      (try simp only [Act.put, List.setIfInBounds_toArray, List.set_cons_zero, List.set_cons_succ])
      refine wpAnyH_ready (rs := [0, 16]) (by kernel_rfl) (by simp) (AllReadyH.cons (op_at rfl) (fun K hK => ?_) (AllReadyH.cons (op_at rfl) (fun K hK => ?_) AllReadyH.nil))
      · go_simp
        refine hK.out _ _ ⟨c0p, c1p, c2p, c3p, c4p, c5p⟩ (fun hHeld => ?_)
        clear hK K
        (try simp only [Act.put, List.setIfInBounds_toArray, List.set_cons_zero, List.set_cons_succ])
        refine wpAnyH_ready (rs := [16]) (by kernel_rfl) (by simp) (AllReadyH.cons (op_at rfl) (fun K hK => ?_) AllReadyH.nil)
        go_simp
        refine (HS2.out Vp).mono ?_
        rintro e Vq ⟨rfl, gq⟩
        have c0q := Gr.cell gq c0p
        have c1q := Gr.cell gq c1p
        have c2q := Gr.cell gq c2p
        have c3q := Gr.cell gq c3p
        have c4q := Gr.cell gq c4p
        have c5q := Gr.cell gq c5p
        have cxq := Gr.cell gq cxp
        have gvq := Gr.trans gvp gq
        go_wp2_with fail
        refine hK.out _ _ ⟨c0q, c1q, c2q, c3q, c4q, c5q⟩ (fun hHeld => ?_)
        clear hK K
        (try simp only [Act.put, List.setIfInBounds_toArray, List.set_cons_zero, List.set_cons_succ])
        refine wpAnyH_ready (rs := [17]) (by kernel_rfl) (by simp) (AllReadyH.cons (op_at rfl) (fun K hK => ?_) AllReadyH.nil)
        go_simp
        refine (HRO.out Vq).mono ?_
        rintro e Vr ⟨rfl, gr⟩
        have c0r := Gr.cell gr c0q
        have c1r := Gr.cell gr c1q
        have c2r := Gr.cell gr c2q
        have c3r := Gr.cell gr c3q
        have c4r := Gr.cell gr c4q
        have c5r := Gr.cell gr c5q
        have cxr := Gr.cell gr cxq
        have gvr := Gr.trans gvq gr
        have gs : Gr Vr (Vr.alloc (.cells #[.string na, .string nb, .int .i64 ww] 55)) := (Gr.refl Vr).alloc _
        have c0s := Gr.cell gs c0r
        have c1s := Gr.cell gs c1r
        have c2s := Gr.cell gs c2r
        have c3s := Gr.cell gs c3r
        have c4s := Gr.cell gs c4r
        have c5s := Gr.cell gs c5r
        have cxs := Gr.cell gs cxr
        go_wp2_with fail
        refine hK.out _ _ ⟨c0r, c1r, c2r, c3r, c4r, c5r⟩ (fun hHeld => ?_)
        clear hK K
        (try simp only [Act.put, List.setIfInBounds_toArray, List.set_cons_zero, List.set_cons_succ])
        refine wpAnyH_ready (rs := [18]) (by kernel_rfl) (by simp) (AllReadyH.cons (op_at rfl) (fun K hK => ?_) AllReadyH.nil)
        go_simp
        refine hK.out _ _ ⟨c0s, c1s, c2s, c3s, c4s, c5s⟩ (fun hHeld => ?_)
        clear hK K
        (try simp only [Act.put, List.setIfInBounds_toArray, List.set_cons_zero, List.set_cons_succ])
        have HOV : Hid ((Vr.alloc (.cells #[.string na, .string nb, .int .i64 ww] 55)).ownsRow W0.heap.size 55 3 v (pre.map fun y => nextAt l y.1).length (raCs (pre.map fun y => nextAt l y.1))) := World.ownsRow.alloc (own_kept HOV0.out gvr) _
        have g67 : Gr V (Vr.alloc (.cells #[.string na, .string nb, .int .i64 ww] 55)) := gvr.trans gs
        have hs7 : W0.heap.size ≤ (Vr.alloc (.cells #[.string na, .string nb, .int .i64 ww] 55)).heap.size := Nat.le_trans HSV.out (Below.size g67)
        have fxs : (Vr.alloc (.cells #[.string na, .string nb, .int .i64 ww] 55)).frozen? ⟨w.heap.size, 0, none⟩ = false := (Below.frozen g67 (p := ⟨w.heap.size, 0, none⟩) (World.block_lt_of_cell? V ⟨w.heap.size, 0, none⟩ cxv)).trans fxv
        refine wpAnyH_ready (rs := [19]) (by kernel_rfl) (by simp) (AllReadyH.cons (op_at rfl) (fun K hK => ?_) AllReadyH.nil)
        rw [if_pos (show Region.wanted _ _ = true from rfl)]
        refine step_ra 30 55 Tryz.underlying30 infoRaP _ _ rfl W0.heap.size v _ _ rfl HOV.out ⟨na, nb, ww⟩ Vr.heap.size 1 rfl (cell_new Vr #[.string na, .string nb, .int .i64 ww] 55 0 (by simp)) (cell_new Vr #[.string na, .string nb, .int .i64 ww] 55 1 (by simp)) (cell_new Vr #[.string na, .string nb, .int .i64 ww] 55 2 (by simp)) HLE.out hs7 ?_
        intro u1 w1 hown1 hgrow1
        obtain ⟨p1, c1, hu1, _, _⟩ := own_shape hown1
        obtain ⟨m9, hm9⟩ : ∃ m9, (pre.map fun y => nextAt l y.1).length + 1 = m9 := ⟨_, rfl⟩
        rw [hm9] at hu1
        subst hu1
        clear hm9
        have hob : ∀ g, v.ownBlock = some g → W0.heap.size ≤ g := fun g hg => (own_in HOV.out hg).2
        have kp1 : KpX W0.heap.size w.heap.size (Vr.alloc (.cells #[.string na, .string nb, .int .i64 ww] 55)) w1 := KpX.grown hgrow1 hs7 hob
        have cx1 : w1.cell? ⟨w.heap.size, 0, none⟩ = some v := (World.cell?_of_block (a := ⟨w.heap.size, 0, none⟩) (hgrow1.block w.heap.size (World.block_lt_of_cell? _ ⟨w.heap.size, 0, none⟩ cxs) (fun e => by have := hob w.heap.size e.symm; omega))).trans cxs
        have fx1 : w1.frozen? ⟨w.heap.size, 0, none⟩ = false := (World.frozen?_of_block (a := ⟨w.heap.size, 0, none⟩) (hgrow1.block w.heap.size (World.block_lt_of_cell? _ ⟨w.heap.size, 0, none⟩ cxs) (fun e => by have := hob w.heap.size e.symm; omega))).trans fxs
        have c01 := kp1.cell hbn hbx c0s
        have c11 := kp1.cell hbn hbx c1s
        have c21 := kp1.cell hbn hbx c2s
        have c31 := kp1.cell hbn hbx c3s
        have c41 := kp1.cell hbn hbx c4s
        have c51 := kp1.cell hbn hbx c5s
        have HO1 := Lib.hid hown1
        have HKO : Hid (KeepsOthers V w1) := (gr_others g67).trans (own_others HOV.out hgrow1)
        have HKP1 : Hid (KpX W0.heap.size w.heap.size V w1) := kpX_t (KpX.gr g67 HSV.out) kp1
        have HB1 : Hid (Below w.heap.size w w1) := Below.grown (Gr.trans HBV.out g67) hgrow1 (by omega) (fun q hq => by have := hob q hq; omega)
        clear hown1 hgrow1 hob kp1
        refine hK.out _ _ ⟨c01, c11, c21, c31, c41, c51⟩ (fun hHeld => ?_)
        clear hK K
        (try simp only [Act.put, List.setIfInBounds_toArray, List.set_cons_zero, List.set_cons_succ])
        have c02 : (w1.setCell ⟨w.heap.size, 0, none⟩ (.slice p1 m9 c1)).cell? _ = _ := (World.cell?_setCell_far w1 _ _ _ (Ne.symm hbx)).trans c01
        have c12 : (w1.setCell ⟨w.heap.size, 0, none⟩ (.slice p1 m9 c1)).cell? _ = _ := (World.cell?_setCell_far w1 _ _ _ (Ne.symm hbx)).trans c11
        have c22 : (w1.setCell ⟨w.heap.size, 0, none⟩ (.slice p1 m9 c1)).cell? _ = _ := (World.cell?_setCell_far w1 _ _ _ (Ne.symm hbx)).trans c21
        have c32 : (w1.setCell ⟨w.heap.size, 0, none⟩ (.slice p1 m9 c1)).cell? _ = _ := (World.cell?_setCell_far w1 _ _ _ (Ne.symm hbx)).trans c31
        have c42 : (w1.setCell ⟨w.heap.size, 0, none⟩ (.slice p1 m9 c1)).cell? _ = _ := (World.cell?_setCell_far w1 _ _ _ (Ne.symm hbx)).trans c41
        have c52 : (w1.setCell ⟨w.heap.size, 0, none⟩ (.slice p1 m9 c1)).cell? _ = _ := (World.cell?_setCell_far w1 _ _ _ (Ne.symm hbx)).trans c51
        refine wpAnyH_ready (rs := [20]) (by kernel_rfl) (by simp) (AllReadyH.cons (op_at rfl) (fun K hK => ?_) AllReadyH.nil)
        go_simp
        refine hK.out _ _ ⟨c02, c12, c22, c32, c42, c52⟩ (fun hHeld => ?_)
        clear hK K
        (try simp only [Act.put, List.setIfInBounds_toArray, List.set_cons_zero, List.set_cons_succ])
        refine wpAnyH_done (by kernel_rfl) ?_ _
        refine ⟨HKD.out.trans (HKO.out.trans (KeepsOthers.setCell _ _ _)), kpX_t HKX.out (kpX_t HKP1.out (KpX.setCell _ _ _ _)), ⟨.slice p1 m9 c1, World.cell?_setCell_same' _ _ _ (by rw [cx1]; rfl), by rw [World.frozen?_setCell]; exact fx1, ?_⟩, kpX_t HKPV.out (kpX_t HKP1.out (KpX.setCell _ _ _ _)), HB1.out.setCell (p := ⟨w.heap.size, 0, none⟩) (by show w.heap.size ≤ w.heap.size; omega) _⟩
        have ho := own_same (w' := w1.setCell ⟨w.heap.size, 0, none⟩ (.slice p1 m9 c1)) HO1.out (fun g hg => Below.heap_setCell w1 ⟨w.heap.size, 0, none⟩ (.slice p1 m9 c1) g (by have := (own_in HO1.out hg).2; show g ≠ w.heap.size; omega))
        have hra := HRA.out
        rw [List.map_append, List.length_append, show List.map (fun y : { y : Nat // y < N } => nextAt l y.1) [⟨j, hj⟩] = [nextAt l j] from rfl, raCs_add]
        show (w1.setCell ⟨w.heap.size, 0, none⟩ (.slice p1 m9 c1)).ownsRow _ _ _ _ ((pre.map fun y => nextAt l y.1).length + 1) (raCs (pre.map fun y => nextAt l y.1) ++ raC (nextAt l j))
        rw [hra]
        exact ho
      · go_simp
        refine (HS2.out Vp).mono ?_
        rintro e Vq ⟨rfl, gq⟩
        have c0q := Gr.cell gq c0p
        have c1q := Gr.cell gq c1p
        have c2q := Gr.cell gq c2p
        have c3q := Gr.cell gq c3p
        have c4q := Gr.cell gq c4p
        have c5q := Gr.cell gq c5p
        have cxq := Gr.cell gq cxp
        have gvq := Gr.trans gvp gq
        go_wp2_with fail
        refine hK.out _ _ ⟨c0q, c1q, c2q, c3q, c4q, c5q⟩ (fun hHeld => ?_)
        clear hK K
        (try simp only [Act.put, List.setIfInBounds_toArray, List.set_cons_zero, List.set_cons_succ])
        refine wpAnyH_ready (rs := [0, 17]) (by kernel_rfl) (by simp) (AllReadyH.cons (op_at rfl) (fun K hK => ?_) (AllReadyH.cons (op_at rfl) (fun K hK => ?_) AllReadyH.nil))
        · go_simp
          refine hK.out _ _ ⟨c0q, c1q, c2q, c3q, c4q, c5q⟩ (fun hHeld => ?_)
          clear hK K
          (try simp only [Act.put, List.setIfInBounds_toArray, List.set_cons_zero, List.set_cons_succ])
          refine wpAnyH_ready (rs := [17]) (by kernel_rfl) (by simp) (AllReadyH.cons (op_at rfl) (fun K hK => ?_) AllReadyH.nil)
          go_simp
          refine (HRO.out Vq).mono ?_
          rintro e Vr ⟨rfl, gr⟩
          have c0r := Gr.cell gr c0q
          have c1r := Gr.cell gr c1q
          have c2r := Gr.cell gr c2q
          have c3r := Gr.cell gr c3q
          have c4r := Gr.cell gr c4q
          have c5r := Gr.cell gr c5q
          have cxr := Gr.cell gr cxq
          have gvr := Gr.trans gvq gr
          have gs : Gr Vr (Vr.alloc (.cells #[.string na, .string nb, .int .i64 ww] 55)) := (Gr.refl Vr).alloc _
          have c0s := Gr.cell gs c0r
          have c1s := Gr.cell gs c1r
          have c2s := Gr.cell gs c2r
          have c3s := Gr.cell gs c3r
          have c4s := Gr.cell gs c4r
          have c5s := Gr.cell gs c5r
          have cxs := Gr.cell gs cxr
          go_wp2_with fail
          refine hK.out _ _ ⟨c0r, c1r, c2r, c3r, c4r, c5r⟩ (fun hHeld => ?_)
          clear hK K
          (try simp only [Act.put, List.setIfInBounds_toArray, List.set_cons_zero, List.set_cons_succ])
          refine wpAnyH_ready (rs := [18]) (by kernel_rfl) (by simp) (AllReadyH.cons (op_at rfl) (fun K hK => ?_) AllReadyH.nil)
          go_simp
          refine hK.out _ _ ⟨c0s, c1s, c2s, c3s, c4s, c5s⟩ (fun hHeld => ?_)
          clear hK K
          (try simp only [Act.put, List.setIfInBounds_toArray, List.set_cons_zero, List.set_cons_succ])
          have HOV : Hid ((Vr.alloc (.cells #[.string na, .string nb, .int .i64 ww] 55)).ownsRow W0.heap.size 55 3 v (pre.map fun y => nextAt l y.1).length (raCs (pre.map fun y => nextAt l y.1))) := World.ownsRow.alloc (own_kept HOV0.out gvr) _
          have g67 : Gr V (Vr.alloc (.cells #[.string na, .string nb, .int .i64 ww] 55)) := gvr.trans gs
          have hs7 : W0.heap.size ≤ (Vr.alloc (.cells #[.string na, .string nb, .int .i64 ww] 55)).heap.size := Nat.le_trans HSV.out (Below.size g67)
          have fxs : (Vr.alloc (.cells #[.string na, .string nb, .int .i64 ww] 55)).frozen? ⟨w.heap.size, 0, none⟩ = false := (Below.frozen g67 (p := ⟨w.heap.size, 0, none⟩) (World.block_lt_of_cell? V ⟨w.heap.size, 0, none⟩ cxv)).trans fxv
          refine wpAnyH_ready (rs := [19]) (by kernel_rfl) (by simp) (AllReadyH.cons (op_at rfl) (fun K hK => ?_) AllReadyH.nil)
          rw [if_pos (show Region.wanted _ _ = true from rfl)]
          refine step_ra 30 55 Tryz.underlying30 infoRaP _ _ rfl W0.heap.size v _ _ rfl HOV.out ⟨na, nb, ww⟩ Vr.heap.size 1 rfl (cell_new Vr #[.string na, .string nb, .int .i64 ww] 55 0 (by simp)) (cell_new Vr #[.string na, .string nb, .int .i64 ww] 55 1 (by simp)) (cell_new Vr #[.string na, .string nb, .int .i64 ww] 55 2 (by simp)) HLE.out hs7 ?_
          intro u1 w1 hown1 hgrow1
          obtain ⟨p1, c1, hu1, _, _⟩ := own_shape hown1
          obtain ⟨m9, hm9⟩ : ∃ m9, (pre.map fun y => nextAt l y.1).length + 1 = m9 := ⟨_, rfl⟩
          rw [hm9] at hu1
          subst hu1
          clear hm9
          have hob : ∀ g, v.ownBlock = some g → W0.heap.size ≤ g := fun g hg => (own_in HOV.out hg).2
          have kp1 : KpX W0.heap.size w.heap.size (Vr.alloc (.cells #[.string na, .string nb, .int .i64 ww] 55)) w1 := KpX.grown hgrow1 hs7 hob
          have cx1 : w1.cell? ⟨w.heap.size, 0, none⟩ = some v := (World.cell?_of_block (a := ⟨w.heap.size, 0, none⟩) (hgrow1.block w.heap.size (World.block_lt_of_cell? _ ⟨w.heap.size, 0, none⟩ cxs) (fun e => by have := hob w.heap.size e.symm; omega))).trans cxs
          have fx1 : w1.frozen? ⟨w.heap.size, 0, none⟩ = false := (World.frozen?_of_block (a := ⟨w.heap.size, 0, none⟩) (hgrow1.block w.heap.size (World.block_lt_of_cell? _ ⟨w.heap.size, 0, none⟩ cxs) (fun e => by have := hob w.heap.size e.symm; omega))).trans fxs
          have c01 := kp1.cell hbn hbx c0s
          have c11 := kp1.cell hbn hbx c1s
          have c21 := kp1.cell hbn hbx c2s
          have c31 := kp1.cell hbn hbx c3s
          have c41 := kp1.cell hbn hbx c4s
          have c51 := kp1.cell hbn hbx c5s
          have HO1 := Lib.hid hown1
          have HKO : Hid (KeepsOthers V w1) := (gr_others g67).trans (own_others HOV.out hgrow1)
          have HKP1 : Hid (KpX W0.heap.size w.heap.size V w1) := kpX_t (KpX.gr g67 HSV.out) kp1
          have HB1 : Hid (Below w.heap.size w w1) := Below.grown (Gr.trans HBV.out g67) hgrow1 (by omega) (fun q hq => by have := hob q hq; omega)
          clear hown1 hgrow1 hob kp1
          refine hK.out _ _ ⟨c01, c11, c21, c31, c41, c51⟩ (fun hHeld => ?_)
          clear hK K
          (try simp only [Act.put, List.setIfInBounds_toArray, List.set_cons_zero, List.set_cons_succ])
          have c02 : (w1.setCell ⟨w.heap.size, 0, none⟩ (.slice p1 m9 c1)).cell? _ = _ := (World.cell?_setCell_far w1 _ _ _ (Ne.symm hbx)).trans c01
          have c12 : (w1.setCell ⟨w.heap.size, 0, none⟩ (.slice p1 m9 c1)).cell? _ = _ := (World.cell?_setCell_far w1 _ _ _ (Ne.symm hbx)).trans c11
          have c22 : (w1.setCell ⟨w.heap.size, 0, none⟩ (.slice p1 m9 c1)).cell? _ = _ := (World.cell?_setCell_far w1 _ _ _ (Ne.symm hbx)).trans c21
          have c32 : (w1.setCell ⟨w.heap.size, 0, none⟩ (.slice p1 m9 c1)).cell? _ = _ := (World.cell?_setCell_far w1 _ _ _ (Ne.symm hbx)).trans c31
          have c42 : (w1.setCell ⟨w.heap.size, 0, none⟩ (.slice p1 m9 c1)).cell? _ = _ := (World.cell?_setCell_far w1 _ _ _ (Ne.symm hbx)).trans c41
          have c52 : (w1.setCell ⟨w.heap.size, 0, none⟩ (.slice p1 m9 c1)).cell? _ = _ := (World.cell?_setCell_far w1 _ _ _ (Ne.symm hbx)).trans c51
          refine wpAnyH_ready (rs := [20]) (by kernel_rfl) (by simp) (AllReadyH.cons (op_at rfl) (fun K hK => ?_) AllReadyH.nil)
          go_simp
          refine hK.out _ _ ⟨c02, c12, c22, c32, c42, c52⟩ (fun hHeld => ?_)
          clear hK K
          (try simp only [Act.put, List.setIfInBounds_toArray, List.set_cons_zero, List.set_cons_succ])
          refine wpAnyH_done (by kernel_rfl) ?_ _
          refine ⟨HKD.out.trans (HKO.out.trans (KeepsOthers.setCell _ _ _)), kpX_t HKX.out (kpX_t HKP1.out (KpX.setCell _ _ _ _)), ⟨.slice p1 m9 c1, World.cell?_setCell_same' _ _ _ (by rw [cx1]; rfl), by rw [World.frozen?_setCell]; exact fx1, ?_⟩, kpX_t HKPV.out (kpX_t HKP1.out (KpX.setCell _ _ _ _)), HB1.out.setCell (p := ⟨w.heap.size, 0, none⟩) (by show w.heap.size ≤ w.heap.size; omega) _⟩
          have ho := own_same (w' := w1.setCell ⟨w.heap.size, 0, none⟩ (.slice p1 m9 c1)) HO1.out (fun g hg => Below.heap_setCell w1 ⟨w.heap.size, 0, none⟩ (.slice p1 m9 c1) g (by have := (own_in HO1.out hg).2; show g ≠ w.heap.size; omega))
          have hra := HRA.out
          rw [List.map_append, List.length_append, show List.map (fun y : { y : Nat // y < N } => nextAt l y.1) [⟨j, hj⟩] = [nextAt l j] from rfl, raCs_add]
          show (w1.setCell ⟨w.heap.size, 0, none⟩ (.slice p1 m9 c1)).ownsRow _ _ _ _ ((pre.map fun y => nextAt l y.1).length + 1) (raCs (pre.map fun y => nextAt l y.1) ++ raC (nextAt l j))
          rw [hra]
          exact ho
        · go_simp
          refine (HRO.out Vq).mono ?_
          rintro e Vr ⟨rfl, gr⟩
          have c0r := Gr.cell gr c0q
          have c1r := Gr.cell gr c1q
          have c2r := Gr.cell gr c2q
          have c3r := Gr.cell gr c3q
          have c4r := Gr.cell gr c4q
          have c5r := Gr.cell gr c5q
          have cxr := Gr.cell gr cxq
          have gvr := Gr.trans gvq gr
          have gs : Gr Vr (Vr.alloc (.cells #[.string na, .string nb, .int .i64 ww] 55)) := (Gr.refl Vr).alloc _
          have c0s := Gr.cell gs c0r
          have c1s := Gr.cell gs c1r
          have c2s := Gr.cell gs c2r
          have c3s := Gr.cell gs c3r
          have c4s := Gr.cell gs c4r
          have c5s := Gr.cell gs c5r
          have cxs := Gr.cell gs cxr
          go_wp2_with fail
          refine hK.out _ _ ⟨c0r, c1r, c2r, c3r, c4r, c5r⟩ (fun hHeld => ?_)
          clear hK K
          (try simp only [Act.put, List.setIfInBounds_toArray, List.set_cons_zero, List.set_cons_succ])
          refine wpAnyH_ready (rs := [0, 18]) (by kernel_rfl) (by simp) (AllReadyH.cons (op_at rfl) (fun K hK => ?_) (AllReadyH.cons (op_at rfl) (fun K hK => ?_) AllReadyH.nil))
          · go_simp
            refine hK.out _ _ ⟨c0r, c1r, c2r, c3r, c4r, c5r⟩ (fun hHeld => ?_)
            clear hK K
            (try simp only [Act.put, List.setIfInBounds_toArray, List.set_cons_zero, List.set_cons_succ])
            refine wpAnyH_ready (rs := [18]) (by kernel_rfl) (by simp) (AllReadyH.cons (op_at rfl) (fun K hK => ?_) AllReadyH.nil)
            go_simp
            refine hK.out _ _ ⟨c0s, c1s, c2s, c3s, c4s, c5s⟩ (fun hHeld => ?_)
            clear hK K
            (try simp only [Act.put, List.setIfInBounds_toArray, List.set_cons_zero, List.set_cons_succ])
            have HOV : Hid ((Vr.alloc (.cells #[.string na, .string nb, .int .i64 ww] 55)).ownsRow W0.heap.size 55 3 v (pre.map fun y => nextAt l y.1).length (raCs (pre.map fun y => nextAt l y.1))) := World.ownsRow.alloc (own_kept HOV0.out gvr) _
            have g67 : Gr V (Vr.alloc (.cells #[.string na, .string nb, .int .i64 ww] 55)) := gvr.trans gs
            have hs7 : W0.heap.size ≤ (Vr.alloc (.cells #[.string na, .string nb, .int .i64 ww] 55)).heap.size := Nat.le_trans HSV.out (Below.size g67)
            have fxs : (Vr.alloc (.cells #[.string na, .string nb, .int .i64 ww] 55)).frozen? ⟨w.heap.size, 0, none⟩ = false := (Below.frozen g67 (p := ⟨w.heap.size, 0, none⟩) (World.block_lt_of_cell? V ⟨w.heap.size, 0, none⟩ cxv)).trans fxv
            refine wpAnyH_ready (rs := [19]) (by kernel_rfl) (by simp) (AllReadyH.cons (op_at rfl) (fun K hK => ?_) AllReadyH.nil)
            rw [if_pos (show Region.wanted _ _ = true from rfl)]
            refine step_ra 30 55 Tryz.underlying30 infoRaP _ _ rfl W0.heap.size v _ _ rfl HOV.out ⟨na, nb, ww⟩ Vr.heap.size 1 rfl (cell_new Vr #[.string na, .string nb, .int .i64 ww] 55 0 (by simp)) (cell_new Vr #[.string na, .string nb, .int .i64 ww] 55 1 (by simp)) (cell_new Vr #[.string na, .string nb, .int .i64 ww] 55 2 (by simp)) HLE.out hs7 ?_
            intro u1 w1 hown1 hgrow1
            obtain ⟨p1, c1, hu1, _, _⟩ := own_shape hown1
            obtain ⟨m9, hm9⟩ : ∃ m9, (pre.map fun y => nextAt l y.1).length + 1 = m9 := ⟨_, rfl⟩
            rw [hm9] at hu1
            subst hu1
            clear hm9
            have hob : ∀ g, v.ownBlock = some g → W0.heap.size ≤ g := fun g hg => (own_in HOV.out hg).2
            have kp1 : KpX W0.heap.size w.heap.size (Vr.alloc (.cells #[.string na, .string nb, .int .i64 ww] 55)) w1 := KpX.grown hgrow1 hs7 hob
            have cx1 : w1.cell? ⟨w.heap.size, 0, none⟩ = some v := (World.cell?_of_block (a := ⟨w.heap.size, 0, none⟩) (hgrow1.block w.heap.size (World.block_lt_of_cell? _ ⟨w.heap.size, 0, none⟩ cxs) (fun e => by have := hob w.heap.size e.symm; omega))).trans cxs
            have fx1 : w1.frozen? ⟨w.heap.size, 0, none⟩ = false := (World.frozen?_of_block (a := ⟨w.heap.size, 0, none⟩) (hgrow1.block w.heap.size (World.block_lt_of_cell? _ ⟨w.heap.size, 0, none⟩ cxs) (fun e => by have := hob w.heap.size e.symm; omega))).trans fxs
            have c01 := kp1.cell hbn hbx c0s
            have c11 := kp1.cell hbn hbx c1s
            have c21 := kp1.cell hbn hbx c2s
            have c31 := kp1.cell hbn hbx c3s
            have c41 := kp1.cell hbn hbx c4s
            have c51 := kp1.cell hbn hbx c5s
            have HO1 := Lib.hid hown1
            have HKO : Hid (KeepsOthers V w1) := (gr_others g67).trans (own_others HOV.out hgrow1)
            have HKP1 : Hid (KpX W0.heap.size w.heap.size V w1) := kpX_t (KpX.gr g67 HSV.out) kp1
            have HB1 : Hid (Below w.heap.size w w1) := Below.grown (Gr.trans HBV.out g67) hgrow1 (by omega) (fun q hq => by have := hob q hq; omega)
            clear hown1 hgrow1 hob kp1
            refine hK.out _ _ ⟨c01, c11, c21, c31, c41, c51⟩ (fun hHeld => ?_)
            clear hK K
            (try simp only [Act.put, List.setIfInBounds_toArray, List.set_cons_zero, List.set_cons_succ])
            have c02 : (w1.setCell ⟨w.heap.size, 0, none⟩ (.slice p1 m9 c1)).cell? _ = _ := (World.cell?_setCell_far w1 _ _ _ (Ne.symm hbx)).trans c01
            have c12 : (w1.setCell ⟨w.heap.size, 0, none⟩ (.slice p1 m9 c1)).cell? _ = _ := (World.cell?_setCell_far w1 _ _ _ (Ne.symm hbx)).trans c11
            have c22 : (w1.setCell ⟨w.heap.size, 0, none⟩ (.slice p1 m9 c1)).cell? _ = _ := (World.cell?_setCell_far w1 _ _ _ (Ne.symm hbx)).trans c21
            have c32 : (w1.setCell ⟨w.heap.size, 0, none⟩ (.slice p1 m9 c1)).cell? _ = _ := (World.cell?_setCell_far w1 _ _ _ (Ne.symm hbx)).trans c31
            have c42 : (w1.setCell ⟨w.heap.size, 0, none⟩ (.slice p1 m9 c1)).cell? _ = _ := (World.cell?_setCell_far w1 _ _ _ (Ne.symm hbx)).trans c41
            have c52 : (w1.setCell ⟨w.heap.size, 0, none⟩ (.slice p1 m9 c1)).cell? _ = _ := (World.cell?_setCell_far w1 _ _ _ (Ne.symm hbx)).trans c51
            refine wpAnyH_ready (rs := [20]) (by kernel_rfl) (by simp) (AllReadyH.cons (op_at rfl) (fun K hK => ?_) AllReadyH.nil)
            go_simp
            refine hK.out _ _ ⟨c02, c12, c22, c32, c42, c52⟩ (fun hHeld => ?_)
            clear hK K
            (try simp only [Act.put, List.setIfInBounds_toArray, List.set_cons_zero, List.set_cons_succ])
            refine wpAnyH_done (by kernel_rfl) ?_ _
            refine ⟨HKD.out.trans (HKO.out.trans (KeepsOthers.setCell _ _ _)), kpX_t HKX.out (kpX_t HKP1.out (KpX.setCell _ _ _ _)), ⟨.slice p1 m9 c1, World.cell?_setCell_same' _ _ _ (by rw [cx1]; rfl), by rw [World.frozen?_setCell]; exact fx1, ?_⟩, kpX_t HKPV.out (kpX_t HKP1.out (KpX.setCell _ _ _ _)), HB1.out.setCell (p := ⟨w.heap.size, 0, none⟩) (by show w.heap.size ≤ w.heap.size; omega) _⟩
            have ho := own_same (w' := w1.setCell ⟨w.heap.size, 0, none⟩ (.slice p1 m9 c1)) HO1.out (fun g hg => Below.heap_setCell w1 ⟨w.heap.size, 0, none⟩ (.slice p1 m9 c1) g (by have := (own_in HO1.out hg).2; show g ≠ w.heap.size; omega))
            have hra := HRA.out
            rw [List.map_append, List.length_append, show List.map (fun y : { y : Nat // y < N } => nextAt l y.1) [⟨j, hj⟩] = [nextAt l j] from rfl, raCs_add]
            show (w1.setCell ⟨w.heap.size, 0, none⟩ (.slice p1 m9 c1)).ownsRow _ _ _ _ ((pre.map fun y => nextAt l y.1).length + 1) (raCs (pre.map fun y => nextAt l y.1) ++ raC (nextAt l j))
            rw [hra]
            exact ho
          · go_simp
            refine hK.out _ _ ⟨c0s, c1s, c2s, c3s, c4s, c5s⟩ (fun hHeld => ?_)
            clear hK K
            (try simp only [Act.put, List.setIfInBounds_toArray, List.set_cons_zero, List.set_cons_succ])
            refine wpAnyH_ready (rs := [0]) (by kernel_rfl) (by simp) (AllReadyH.cons (op_at rfl) (fun K hK => ?_) AllReadyH.nil)
            go_simp
            refine hK.out _ _ ⟨c0s, c1s, c2s, c3s, c4s, c5s⟩ (fun hHeld => ?_)
            clear hK K
            (try simp only [Act.put, List.setIfInBounds_toArray, List.set_cons_zero, List.set_cons_succ])
            have HOV : Hid ((Vr.alloc (.cells #[.string na, .string nb, .int .i64 ww] 55)).ownsRow W0.heap.size 55 3 v (pre.map fun y => nextAt l y.1).length (raCs (pre.map fun y => nextAt l y.1))) := World.ownsRow.alloc (own_kept HOV0.out gvr) _
            have g67 : Gr V (Vr.alloc (.cells #[.string na, .string nb, .int .i64 ww] 55)) := gvr.trans gs
            have hs7 : W0.heap.size ≤ (Vr.alloc (.cells #[.string na, .string nb, .int .i64 ww] 55)).heap.size := Nat.le_trans HSV.out (Below.size g67)
            have fxs : (Vr.alloc (.cells #[.string na, .string nb, .int .i64 ww] 55)).frozen? ⟨w.heap.size, 0, none⟩ = false := (Below.frozen g67 (p := ⟨w.heap.size, 0, none⟩) (World.block_lt_of_cell? V ⟨w.heap.size, 0, none⟩ cxv)).trans fxv
            refine wpAnyH_ready (rs := [19]) (by kernel_rfl) (by simp) (AllReadyH.cons (op_at rfl) (fun K hK => ?_) AllReadyH.nil)
            rw [if_pos (show Region.wanted _ _ = true from rfl)]
            refine step_ra 30 55 Tryz.underlying30 infoRaP _ _ rfl W0.heap.size v _ _ rfl HOV.out ⟨na, nb, ww⟩ Vr.heap.size 1 rfl (cell_new Vr #[.string na, .string nb, .int .i64 ww] 55 0 (by simp)) (cell_new Vr #[.string na, .string nb, .int .i64 ww] 55 1 (by simp)) (cell_new Vr #[.string na, .string nb, .int .i64 ww] 55 2 (by simp)) HLE.out hs7 ?_
            intro u1 w1 hown1 hgrow1
            obtain ⟨p1, c1, hu1, _, _⟩ := own_shape hown1
            obtain ⟨m9, hm9⟩ : ∃ m9, (pre.map fun y => nextAt l y.1).length + 1 = m9 := ⟨_, rfl⟩
            rw [hm9] at hu1
            subst hu1
            clear hm9
            have hob : ∀ g, v.ownBlock = some g → W0.heap.size ≤ g := fun g hg => (own_in HOV.out hg).2
            have kp1 : KpX W0.heap.size w.heap.size (Vr.alloc (.cells #[.string na, .string nb, .int .i64 ww] 55)) w1 := KpX.grown hgrow1 hs7 hob
            have cx1 : w1.cell? ⟨w.heap.size, 0, none⟩ = some v := (World.cell?_of_block (a := ⟨w.heap.size, 0, none⟩) (hgrow1.block w.heap.size (World.block_lt_of_cell? _ ⟨w.heap.size, 0, none⟩ cxs) (fun e => by have := hob w.heap.size e.symm; omega))).trans cxs
            have fx1 : w1.frozen? ⟨w.heap.size, 0, none⟩ = false := (World.frozen?_of_block (a := ⟨w.heap.size, 0, none⟩) (hgrow1.block w.heap.size (World.block_lt_of_cell? _ ⟨w.heap.size, 0, none⟩ cxs) (fun e => by have := hob w.heap.size e.symm; omega))).trans fxs
            have c01 := kp1.cell hbn hbx c0s
            have c11 := kp1.cell hbn hbx c1s
            have c21 := kp1.cell hbn hbx c2s
            have c31 := kp1.cell hbn hbx c3s
            have c41 := kp1.cell hbn hbx c4s
            have c51 := kp1.cell hbn hbx c5s
            have HO1 := Lib.hid hown1
            have HKO : Hid (KeepsOthers V w1) := (gr_others g67).trans (own_others HOV.out hgrow1)
            have HKP1 : Hid (KpX W0.heap.size w.heap.size V w1) := kpX_t (KpX.gr g67 HSV.out) kp1
            have HB1 : Hid (Below w.heap.size w w1) := Below.grown (Gr.trans HBV.out g67) hgrow1 (by omega) (fun q hq => by have := hob q hq; omega)
            clear hown1 hgrow1 hob kp1
            refine hK.out _ _ ⟨c01, c11, c21, c31, c41, c51⟩ (fun hHeld => ?_)
            clear hK K
            (try simp only [Act.put, List.setIfInBounds_toArray, List.set_cons_zero, List.set_cons_succ])
            have c02 : (w1.setCell ⟨w.heap.size, 0, none⟩ (.slice p1 m9 c1)).cell? _ = _ := (World.cell?_setCell_far w1 _ _ _ (Ne.symm hbx)).trans c01
            have c12 : (w1.setCell ⟨w.heap.size, 0, none⟩ (.slice p1 m9 c1)).cell? _ = _ := (World.cell?_setCell_far w1 _ _ _ (Ne.symm hbx)).trans c11
            have c22 : (w1.setCell ⟨w.heap.size, 0, none⟩ (.slice p1 m9 c1)).cell? _ = _ := (World.cell?_setCell_far w1 _ _ _ (Ne.symm hbx)).trans c21
            have c32 : (w1.setCell ⟨w.heap.size, 0, none⟩ (.slice p1 m9 c1)).cell? _ = _ := (World.cell?_setCell_far w1 _ _ _ (Ne.symm hbx)).trans c31
            have c42 : (w1.setCell ⟨w.heap.size, 0, none⟩ (.slice p1 m9 c1)).cell? _ = _ := (World.cell?_setCell_far w1 _ _ _ (Ne.symm hbx)).trans c41
            have c52 : (w1.setCell ⟨w.heap.size, 0, none⟩ (.slice p1 m9 c1)).cell? _ = _ := (World.cell?_setCell_far w1 _ _ _ (Ne.symm hbx)).trans c51
            refine wpAnyH_ready (rs := [20]) (by kernel_rfl) (by simp) (AllReadyH.cons (op_at rfl) (fun K hK => ?_) AllReadyH.nil)
            go_simp
            refine hK.out _ _ ⟨c02, c12, c22, c32, c42, c52⟩ (fun hHeld => ?_)
            clear hK K
            (try simp only [Act.put, List.setIfInBounds_toArray, List.set_cons_zero, List.set_cons_succ])
            refine wpAnyH_done (by kernel_rfl) ?_ _
            refine ⟨HKD.out.trans (HKO.out.trans (KeepsOthers.setCell _ _ _)), kpX_t HKX.out (kpX_t HKP1.out (KpX.setCell _ _ _ _)), ⟨.slice p1 m9 c1, World.cell?_setCell_same' _ _ _ (by rw [cx1]; rfl), by rw [World.frozen?_setCell]; exact fx1, ?_⟩, kpX_t HKPV.out (kpX_t HKP1.out (KpX.setCell _ _ _ _)), HB1.out.setCell (p := ⟨w.heap.size, 0, none⟩) (by show w.heap.size ≤ w.heap.size; omega) _⟩
            have ho := own_same (w' := w1.setCell ⟨w.heap.size, 0, none⟩ (.slice p1 m9 c1)) HO1.out (fun g hg => Below.heap_setCell w1 ⟨w.heap.size, 0, none⟩ (.slice p1 m9 c1) g (by have := (own_in HO1.out hg).2; show g ≠ w.heap.size; omega))
            have hra := HRA.out
            rw [List.map_append, List.length_append, show List.map (fun y : { y : Nat // y < N } => nextAt l y.1) [⟨j, hj⟩] = [nextAt l j] from rfl, raCs_add]
            show (w1.setCell ⟨w.heap.size, 0, none⟩ (.slice p1 m9 c1)).ownsRow _ _ _ _ ((pre.map fun y => nextAt l y.1).length + 1) (raCs (pre.map fun y => nextAt l y.1) ++ raC (nextAt l j))
            rw [hra]
            exact ho
  case done =>
    rintro D ys W hD hys ⟨hR, hK, hB⟩ hKD
    obtain ⟨v, hxv, hfx, hown⟩ := hR.out
    have hmp : ys.map (fun y => nextAt l y.1) = pairR (l.map winR) := by
      rw [next_races l N (by rw [← HLM.out]; exact HMN.out), ← hys, List.map_map]
      rfl
    rw [hmp] at hown
    have hln : (pairR (l.map winR)).length = N := by rw [next_races l N (by rw [← HLM.out]; exact HMN.out)]; simp
    rw [hln] at hown
    obtain ⟨p9, c9, rfl, _, _⟩ := own_shape hown
    gi_wp2
    refine ⟨by simp, .inl ⟨_, _, rfl, run_takeDeferred hKD, ?_⟩⟩
    exact ⟨_, results_tmp rfl _ _ _, p9, c9, rfl, RaS.of_own (own_turn hown (grownBy_putObj' W D _) (fun r e => by cases e; exact ⟨_, hKD, rfl⟩)) hln, hln, hB.trans (belowK_b (w := w) (Nat.le_refl _) W D _ _ (Nat.le_trans (Below.size hB5) hD) hKD rfl rfl)⟩
  case stop =>
    rintro D c pre W _ _ h _
    exact h.elim
end Go.Proofs.YthfmgficbnmmnaaGreatDoor
