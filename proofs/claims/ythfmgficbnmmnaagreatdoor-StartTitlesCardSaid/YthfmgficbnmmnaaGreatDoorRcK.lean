/- Brackets: the program's Races. -/
import Derived.Test.YthfmgficbnmmnaaGreatDoorGRcF
namespace Go.Proofs.YthfmgficbnmmnaaGreatDoor
open Go.RowKit Go.Shelf
set_option linter.unusedSimpArgs false
set_option linter.unusedVariables false
attribute [local go_sem] Oper.semAt_some
theorem noDefer {ops : Array Oper} (h : ops.toList.all (fun o => match o.op with | .defer _ => false | _ => true) = true) : ∀ (i : Nat) o, ops[i]? = some o → ∀ c, o.op ≠ .defer c := by
  intro i o ho c hc
  rw [List.all_eq_true] at h
  have := h o (by rw [← Array.getElem?_toList] at ho; exact List.mem_of_getElem? ho)
  rw [hc] at this
  cases this
theorem kpX_putObj {n₀ x l : Nat} (W : World) (o : Obj) (h : n₀ ≤ l) : KpX n₀ x W (W.putObj l o) := fun k hk _ => World.putObj_heap_other (by omega)
theorem kpX_lt {x : Nat} {A B : World} (h : KpX A.heap.size x A B) {k : Nat} (hk : k < A.heap.size) (hne : k ≠ x) : k < B.heap.size := by
  have := h k hk hne
  rw [Array.getElem?_eq_getElem hk] at this
  exact (Array.getElem?_eq_some_iff.1 this).1
theorem KpX.gr {n₀ x : Nat} {W W' : World} (h : Gr W W') (hn : n₀ ≤ W.heap.size) : KpX n₀ x W W' := fun k hk _ => Below.block h k (by omega)
theorem KpX.grown {n₀ x : Nat} {W W' : World} {row : Option Nat} (h : W.grownBy W' row) (hn : n₀ ≤ W.heap.size) (hr : ∀ g, row = some g → n₀ ≤ g) : KpX n₀ x W W' := fun k hk _ => h.block k (by omega) (fun e => by have := hr k e.symm; omega)
theorem KpX.setCell (n₀ x : Nat) (W : World) (v : Value) : KpX n₀ x W (W.setCell ⟨x, 0, none⟩ v) := fun k _ hk => Below.heap_setCell _ _ _ _ hk
theorem gr_others {W W' : World} (h : Gr W W') : KeepsOthers W W' := ⟨Below.size h, fun k o hk _ => (Below.block h k (Array.getElem?_eq_some_iff.1 hk).1).trans hk⟩
theorem own_others {w w' : World} {b s n : Nat} {T : TypeId} {v : Value} {l : List Value} (h : w.ownsRow b T s v n l) (hg : w.grownBy w' v.ownBlock) : KeepsOthers w w' := KeepsOthers.of_grownBy hg fun j o e ho => by
  rcases h.2 with ⟨rfl, _⟩ | ⟨g, cap, cur, rfl, _, hgg, _⟩
  · cases e
  · cases e
    rw [hgg] at ho
    cases ho
    rfl
set_option maxHeartbeats 1000000 in
set_option maxRecDepth 100000 in
theorem races_good (ns : List ByteArray) (v : Value) (w : World) (hv : StrAts w v ns) (h : namesE ns = 0) (h2 : 2 ≤ ns.length) :
    Calls Tryz.prog 19 #[v] w fun e w' => ∃ q k N c, e = .returned (.tuple #[.slice q N c, .int .i64 0]) ∧ ((ns.length : Int) ≤ ((2 ^ k : Nat) : Int)) ∧ (((2 ^ k : Nat) : Int) < 2 * (ns.length : Int)) ∧ (firstR ns k).length = N ∧ N ≤ 100 ∧ RaS w' q (firstR ns k) ∧ Gr w w' := by
  have hlen := namesE_zero h
  have HV := Lib.hid hv
  obtain ⟨⟨p, cap, rfl, _, _⟩⟩ := hv
  obtain ⟨n, hn⟩ : ∃ n, n = ns.length := ⟨_, rfl⟩
  rw [← hn] at HV hlen h2 ⊢
  have HN := Lib.hid hn
  have HE := Lib.hid h
  clear hn h
  have hn1 : ((n : Int) == 1) = false := beq_eq_false_iff_ne.2 (by omega)
  refine (callsIn_wide (n := 4)).1 ?_
  refine callsIn_of_wp_marks Tryz.func19 rfl trivial ?_ rfl
  simp only [Tryz.ntmps19, List.size_toArray, List.length_cons, List.length_nil, Nat.reduceAdd, Nat.reduceSub, Array.replicate_succ, Array.replicate_zero, List.push_toArray, List.append_toArray, List.nil_append, List.cons_append]
  obtain ⟨W1, hW1, g1, a0⟩ := box1 w (.slice p n cap) 48
  have HW1 := Lib.hid hW1
  clear hW1
  gi_wp2_with fail
  rw [HW1.out]
  gi_wp2_with fail
  refine ⟨trivial, ?_⟩
  gi_at_call 54
  refine (callsIn_wide.2 (checkNm6_c ns _ W1 (HV.out.gr g1))).mono ?_
  rintro e W2 ⟨rfl, g2⟩
  rw [HE.out]
  have a2 := Gr.cell g2 a0
  obtain ⟨W3, hW3, g3, x3⟩ := box1 W2 (.slice none 0 0) 30
  have hx3 : W3.frozen? ⟨W2.heap.size, 0, none⟩ = false := by rw [← hW3]; exact frozen_of_row _ _ 0 #[.slice none 0 0] 30 (heap_alloc_new W2 _)
  have hs3 : W3.heap.size = W2.heap.size + 1 := by rw [← hW3]; simp
  have a3 := Gr.cell g3 a2
  gi_wp2_with fail
  clear hW3
  refine ⟨trivial, ?_⟩
  gi_at_call 57
  refine (callsIn_wide.2 (bracket_c (n : Int) ⟨by omega, by omega⟩ W3)).mono ?_
  rintro e W4 ⟨u4, k, rfl, hk1, hk2, hown, g4⟩
  have HK1 := Lib.hid hk1
  have HK2 := Lib.hid hk2
  obtain ⟨k', rfl⟩ : ∃ k', k = k' + 1 := ⟨k - 1, by
    rcases Nat.eq_zero_or_pos k with h0 | h0
    · subst h0; simp at hk1 hk2; omega
    · omega⟩
  obtain ⟨M, hM⟩ : ∃ M : Nat, M = 2 ^ (k' + 1) := ⟨_, rfl⟩
  obtain ⟨N, hNN⟩ : ∃ N : Nat, N = 2 ^ k' := ⟨_, rfl⟩
  have hMN : M = 2 * N := by rw [hM, hNN, Nat.pow_succ]; omega
  have hgr := growB_range (k' + 1)
  have HZ : Hid (∀ (j : Nat) z, (zK (n : Int) (growB (k' + 1)))[j]? = some z → 0 ≤ z ∧ z ≤ (n : Int)) := fun j z hz => zK_range (n : Int) (by omega) _ (fun x hx => (hgr x hx).1) z (List.mem_of_getElem? hz)
  have HLM : Hid ((zK (n : Int) (growB (k' + 1))).length = M) := by rw [Hid, zK_len, growB_len, hM]
  have HF : Hid (firstR ns (k' + 1) = (List.range N).map (raceAt (zK (n : Int) (growB (k' + 1))) ns)) := by
    have e : lR (n : Int) (k' + 1) = zK (n : Int) (growB (k' + 1)) := by rw [lR, if_neg (by omega)]
    rw [Hid, firstR, ← HN.out, e]
    exact pairR_races _ _ _ (by rw [HLM.out, hMN])
  clear hgr
  rw [← hM] at hown hk1 hk2
  have hMp : 0 < M := by omega
  have hM5 : M ≤ 128 := by omega
  have hN5 : N ≤ 100 := by omega
  obtain ⟨p4, c4, rfl, hpc, hmx⟩ := own_shape hown
  obtain ⟨b4, cc4, e4, hb4, hb4w, hcell⟩ := reads_pos hown hMp
  simp only [Value.slice.injEq] at e4
  obtain ⟨rfl, _, rfl⟩ := e4
  have HCL := Lib.hid hcell
  have a4 := Gr.cell g4 a3
  have x4 := Gr.cell g4 x3
  have f4 : W4.frozen? ⟨W2.heap.size, 0, none⟩ = false := (Below.frozen g4 (p := ⟨W2.heap.size, 0, none⟩) (by show W2.heap.size < _; omega)).trans hx3
  have HM := Lib.hid hM
  have HMN := Lib.hid hMN
  clear hown hcell hk1 hk2 hM hMN hNN
  gi_wp2_with fail
  refine ⟨trivial, ?_⟩
  gi_at_call 56
  refine (callsIn_wide.2 (chunk2_c (some ⟨b4, 0, none⟩) M c4 W4)).mono ?_
  rintro e W5 ⟨rfl, hW5⟩
  obtain ⟨W5', hW5', g5, s5, n5⟩ := boxes_two W4 (.slice (some ⟨b4, 0, none⟩) M c4) (.int .i64 2) 62 3
  obtain rfl : W5' = W5 := hW5'.symm.trans hW5.symm
  have hs5 : W5'.heap.size = W4.heap.size + 2 := by rw [← hW5']; simp
  have a5 := Gr.cell g5 a4
  have x5 := Gr.cell g5 x4
  have f5 : W5'.frozen? ⟨W2.heap.size, 0, none⟩ = false := (Below.frozen g5 (p := ⟨W2.heap.size, 0, none⟩) (by show W2.heap.size < _; have := g4.size; omega)).trans f4
  have gw2 : Gr w W2 := g1.trans g2
  have hB5 : Below w.heap.size w W5' := gw2.trans (g3.trans (g4.trans g5))
  have gz2 := gw2.size
  have gz4 := g4.size
  have HC5 : Hid (∀ i x, (zK (n : Int) (growB (k' + 1)))[i]? = some x → W5'.cell? ⟨b4, i, none⟩ = some (.int .i64 x)) := fun i x hx => Gr.cell g5 (HCL.out i x hx)
  have HV5 := Lib.hid (HV.out.gr hB5)
  clear hW5 hW5' HCL
  generalize zK (n : Int) (growB (k' + 1)) = L at *
  gi_wp2_with fail
  have hlx : w.heap.size < W2.heap.size := World.block_lt_of_cell? W2 ⟨w.heap.size, 0, none⟩ a2
  have hlb : b4 < W4.heap.size := hb4w
  have hnx : b4 ≠ W2.heap.size := by omega
  have HA5 := Lib.hid a5
  have HX5 := Lib.hid x5
  have HF5 := Lib.hid f5
  have HN5 := Lib.hid n5
  have HS5 := Lib.hid s5
  clear a2 a3 a4 a5 x3 x4 x5 f4 f5 hx3 a0 s5 n5
  refine wpIn_rangeFunc_ownF rfl (by decide) (gf := 97) (lb := #[.pointer (some ⟨W4.heap.size, 0, none⟩), .pointer (some ⟨W4.heap.size + 1, 0, none⟩)]) rfl trivial (enters_of Tryz.func97 (by kernel_rfl) rfl)
    (chunk_stops W4.heap.size (W4.heap.size + 1) W5'.heap.size W2.heap.size b4 c4 M N HMN.out hN5 hpc hmx W5' ⟨by omega, by omega⟩ ⟨by omega, by omega⟩ HS5.out HN5.out)
    kpX_t (fun W l o o' h _ _ _ => kpX_putObj W o' (by omega)) (Below.refl _ _) (fun _ => rfl)
    (fun pre W => RacI W5'.heap.size W2.heap.size (pre.map fun y => raceAt L ns y.1) W ∧ KpX W5'.heap.size W2.heap.size W5' W ∧ Below w.heap.size w W)
    (fun _ _ _ => False)
    (OwnFrom.and (Own.from (fun s A B row hs hg hr => by
        obtain ⟨v, h1, h2, h3⟩ := hs.out
        exact ⟨v, cell_kept h1 hg hr, (frozen_kept h1 hg hr).trans h2, own_turn h3 hg hr⟩) _)
      (OwnFrom.and (fun s A B row hs hg hr => kpX_t hs (fun k hk hne => hg.block k (kpX_lt hs hk hne) (fun e => by have := (hr k e.symm).1; omega))) (ownFrom_below (Nat.le_refl _) (Below.size hB5))))
    (fun _ _ _ _ _ hs _ _ => hs)
    ⟨⟨_, HX5.out, HF5.out, World.ownsRow_nil _ _ _ _⟩, fun _ _ _ => rfl, hB5⟩
    (fun y => { tmps := #[.slice p n cap, .pointer (some ⟨w.heap.size, 0, none⟩), .slice none 0 0, .int .i64 0, .int .i64 0, .pointer (some ⟨W2.heap.size, 0, none⟩), .slice (some ⟨b4, 2 * y.1, none⟩) 2 2, .slice p n cap, .int .i64 0, .int .i64 0, .bool false, undef, .slice p n cap, .int .i64 n, .bool false, undef, undef, undef, undef, undef, .slice p n cap, .int .i64 n, .slice (some ⟨b4, 0, none⟩) M c4, .func (.func 97) #[] #[.pointer (some ⟨W4.heap.size, 0, none⟩), .pointer (some ⟨W4.heap.size + 1, 0, none⟩)], .slice (some ⟨b4, 2 * y.1, none⟩) 2 2, undef, undef, undef, undef, undef, undef, undef, undef, undef, undef, undef, undef, undef, undef, undef], defers := [] })
    ?assign ?body ?done ?stop
  case assign =>
    intro l y W K hK
    gi_wp2
    exact hK
  case body =>
    rintro l pre ⟨j, hj⟩ W ⟨hR, hK, hB⟩ hpl
    obtain ⟨v, hxv, hfx, hown⟩ := hR.out
    have hsz : W5'.heap.size ≤ W.heap.size := by
      rcases Nat.lt_or_ge W.heap.size W5'.heap.size with hh | hh
      · have hl1 : W5'.heap.size - 1 < W5'.heap.size := by omega
        have := kpX_lt hK hl1 (by omega)
        omega
      · exact hh
    have hLen := HLM.out
    have hMM := HMN.out
    obtain ⟨m0, hm0⟩ : ∃ m0, 2 * j = m0 := ⟨_, rfl⟩
    obtain ⟨m1, hm1⟩ : ∃ m1, m0 + 1 = m1 := ⟨_, rfl⟩
    obtain ⟨z1, hz1⟩ : ∃ z, L[m0]? = some z := ⟨L[m0]'(by omega), List.getElem?_eq_getElem _⟩
    obtain ⟨z2, hz2⟩ : ∃ z, L[m1]? = some z := ⟨L[m1]'(by omega), List.getElem?_eq_getElem _⟩
    obtain ⟨hz10, hz11⟩ := HZ.out m0 z1 hz1
    obtain ⟨hz20, hz21⟩ := HZ.out m1 z2 hz2
    have ca : W.drew.cell? ⟨w.heap.size, 0, none⟩ = some (.slice p n cap) := hK.cell (by omega) (by omega) HA5.out
    have cz1 : W.drew.cell? ⟨b4, m0, none⟩ = some (.int .i64 z1) := hK.cell (by omega) hnx (HC5.out m0 z1 hz1)
    have cz2 : W.drew.cell? ⟨b4, m1, none⟩ = some (.int .i64 z2) := hK.cell (by omega) hnx (HC5.out m1 z2 hz2)
    have cx : W.drew.cell? ⟨W2.heap.size, 0, none⟩ = some v := hxv
    have fx : W.drew.frozen? ⟨W2.heap.size, 0, none⟩ = false := hfx
    have HRA : Hid (raceAt L ns j = ⟨nmS ns z1, nmS ns z2, walkW (nmS ns z1) (nmS ns z2)⟩) := by
      rw [Hid, raceAt, List.getD_eq_getElem?_getD, List.getD_eq_getElem?_getD, hm0, hm1, hz1, hz2]
      rfl
    have HVV := HV.out.gr (show Gr w W.drew from Gr.drew hB)
    have HS1 := Lib.hid (seedIn_c ns (.slice p n cap) z1 W.drew HVV hz10 (by rw [← HN.out]; exact hz11) (by rw [← HN.out]; omega))
    have HS2 := Lib.hid (seedIn_c ns (.slice p n cap) z2 W.drew HVV hz20 (by rw [← HN.out]; exact hz21) (by rw [← HN.out]; omega))
    have HRO : Hid (Calls Tryz.prog 55 #[.string (nmS ns z1), .string (nmS ns z2)] W.drew fun e w' => e = .returned (.agg #[.string (nmS ns z1), .string (nmS ns z2), .int .i64 (walkW (nmS ns z1) (nmS ns z2))]) ∧ Gr W.drew w') := raceOf_c _ _ _
    generalize walkW (nmS ns z1) (nmS ns z2) = ww at *
    generalize nmS ns z1 = xa at *
    generalize nmS ns z2 = xb at *
    have HOW := Lib.hid hown
    have HSZ := Lib.hid hsz
    have HKP := Lib.hid hK
    have HBW := Lib.hid hB
    clear hxv hfx hown hsz hK hB HVV hz1 hz2 hz10 hz11 hz20 hz21 hMM hLen hR
    simp only [hm0]
    clear hm0
    gi_wp2
    refine wpIn_region_round (S := (fun w' => w'.cell? ⟨w.heap.size, 0, none⟩ = some (.slice p n cap) ∧ w'.cell? ⟨b4, m0, none⟩ = some (.int .i64 z1) ∧ w'.cell? ⟨b4, m1, none⟩ = some (.int .i64 z2))) (fun h9 => by obtain ⟨a9, w9, h9⟩ := h9; exact h9) (noDefer (by kernel_rfl)) (by kernel_rfl) ⟨ca, cz1, cz2⟩ (fun hHeld => ?_)
    have HOV0 : Hid (W.drew.ownsRow W5'.heap.size 55 3 v (pre.map fun y => raceAt L ns y.1).length (raCs (pre.map fun y => raceAt L ns y.1))) := HOW.out
    have HSV : Hid (W5'.heap.size ≤ W.drew.heap.size) := HSZ.out
    have HBV : Hid (Below w.heap.size w W.drew) := Gr.drew HBW.out
    have HKPV : Hid (KpX W5'.heap.size W2.heap.size W5' W.drew) := HKP.out
    have HKD : Hid (KeepsOthers W W.drew) := KeepsOthers.drew W
    have HKX : Hid (KpX W5'.heap.size W2.heap.size W W.drew) := fun _ _ _ => rfl
    have HLE : Hid ((pre.map fun y => raceAt L ns y.1).length ≤ 1000) := by rw [Hid, List.length_map]; omega
    clear HOW HSZ HBW HKP
    generalize hVV : W.drew = V at *
    clear hVV
    refine wpAnyH_take (i := 1) (v := (.slice p n cap)) (op_at rfl) (by kernel_rfl) (by kernel_rfl) (by kernel_rfl) (fun _ _ _ h => h) (Or.inl ⟨rfl, fun w hSw => ?_⟩) (by assumption) ?_
    · (try dsimp only at hSw); go_simp; try with_reducible rfl
    (try simp only [Act.put, List.setIfInBounds_toArray, List.set_cons_zero, List.set_cons_succ])
    refine wpAnyH_take (i := 2) (v := (.slice (some ⟨b4, m0, none⟩) 2 2)) (op_at rfl) (by kernel_rfl) (by kernel_rfl) (by kernel_rfl) (fun _ _ _ h => h) (Or.inl ⟨rfl, fun w hSw => ?_⟩) (by assumption) ?_
    · (try dsimp only at hSw); go_simp; try with_reducible rfl
    (try simp only [Act.put, List.setIfInBounds_toArray, List.set_cons_zero, List.set_cons_succ])
    refine wpAnyH_take (i := 3) (v := (.pointer (some ⟨b4, m0, none⟩))) (op_at rfl) (by kernel_rfl) (by kernel_rfl) (by kernel_rfl) (fun _ _ _ h => h) (Or.inl ⟨rfl, fun w hSw => ?_⟩) (by assumption) ?_
    · (try dsimp only at hSw); go_simp; try with_reducible rfl
    (try simp only [Act.put, List.setIfInBounds_toArray, List.set_cons_zero, List.set_cons_succ])
    refine wpAnyH_take (i := 4) (v := (.int .i64 z1)) (op_at rfl) (by kernel_rfl) (by kernel_rfl) (by kernel_rfl) (fun _ _ _ h => h) (Or.inl ⟨rfl, fun w hSw => ?_⟩) (by assumption) ?_
    · (try dsimp only at hSw); go_simp; try with_reducible rfl
    (try simp only [Act.put, List.setIfInBounds_toArray, List.set_cons_zero, List.set_cons_succ])
    refine wpAnyH_take (i := 6) (v := (.slice p n cap)) (op_at rfl) (by kernel_rfl) (by kernel_rfl) (by kernel_rfl) (fun _ _ _ h => h) (Or.inl ⟨rfl, fun w hSw => ?_⟩) (by assumption) ?_
    · (try dsimp only at hSw); go_simp; try with_reducible rfl
    (try simp only [Act.put, List.setIfInBounds_toArray, List.set_cons_zero, List.set_cons_succ])
    refine wpAnyH_take (i := 7) (v := (.slice (some ⟨b4, m0, none⟩) 2 2)) (op_at rfl) (by kernel_rfl) (by kernel_rfl) (by kernel_rfl) (fun _ _ _ h => h) (Or.inl ⟨rfl, fun w hSw => ?_⟩) (by assumption) ?_
    · (try dsimp only at hSw); go_simp; try with_reducible rfl
    (try simp only [Act.put, List.setIfInBounds_toArray, List.set_cons_zero, List.set_cons_succ])
    refine wpAnyH_take (i := 8) (v := (.pointer (some ⟨b4, m1, none⟩))) (op_at rfl) (by kernel_rfl) (by kernel_rfl) (by kernel_rfl) (fun _ _ _ h => h) (Or.inl ⟨rfl, fun w hSw => ?_⟩) (by assumption) ?_
    · (try dsimp only at hSw); go_simp; try with_reducible rfl
    (try simp only [Act.put, List.setIfInBounds_toArray, List.set_cons_zero, List.set_cons_succ])
    refine wpAnyH_take (i := 9) (v := (.int .i64 z2)) (op_at rfl) (by kernel_rfl) (by kernel_rfl) (by kernel_rfl) (fun _ _ _ h => h) (Or.inl ⟨rfl, fun w hSw => ?_⟩) (by assumption) ?_
    · (try dsimp only at hSw); go_simp; try with_reducible rfl
    (try simp only [Act.put, List.setIfInBounds_toArray, List.set_cons_zero, List.set_cons_succ])
    refine wpAnyH_ready (rs := [0, 5]) (by kernel_rfl) (by simp) (AllReadyH.cons (op_at rfl) (fun K hK => ?_) (AllReadyH.cons (op_at rfl) (fun K hK => ?_) AllReadyH.nil))
    · go_simp
      refine hK.out _ _ ⟨ca, cz1, cz2⟩ (fun hHeld => ?_)
      clear hK K
      (try simp only [Act.put, List.setIfInBounds_toArray, List.set_cons_zero, List.set_cons_succ])
      refine wpAnyH_ready (rs := [5]) (by kernel_rfl) (by simp) (AllReadyH.cons (op_at rfl) (fun K hK => ?_) AllReadyH.nil)
      go_simp
      refine HS1.out.mono ?_
      rintro e w8 ⟨rfl, rfl⟩
      go_wp2_with fail
      refine hK.out _ _ ⟨ca, cz1, cz2⟩ (fun hHeld => ?_)
      clear hK K
      (try simp only [Act.put, List.setIfInBounds_toArray, List.set_cons_zero, List.set_cons_succ])
      refine wpAnyH_ready (rs := [10]) (by kernel_rfl) (by simp) (AllReadyH.cons (op_at rfl) (fun K hK => ?_) AllReadyH.nil)
      go_simp
      refine HS2.out.mono ?_
      rintro e w8 ⟨rfl, rfl⟩
      go_wp2_with fail
      refine hK.out _ _ ⟨ca, cz1, cz2⟩ (fun hHeld => ?_)
      clear hK K
      (try simp only [Act.put, List.setIfInBounds_toArray, List.set_cons_zero, List.set_cons_succ])
      refine wpAnyH_ready (rs := [11]) (by kernel_rfl) (by simp) (AllReadyH.cons (op_at rfl) (fun K hK => ?_) AllReadyH.nil)
      go_simp
      refine HRO.out.mono ?_
      rintro e W6 ⟨rfl, g6⟩
      have ca6 := Gr.cell g6 ca
      have cz16 := Gr.cell g6 cz1
      have cz26 := Gr.cell g6 cz2
      have cx6 := Gr.cell g6 cx
      have fx6 : W6.frozen? ⟨W2.heap.size, 0, none⟩ = false := (Below.frozen g6 (p := ⟨W2.heap.size, 0, none⟩) (World.block_lt_of_cell? V ⟨W2.heap.size, 0, none⟩ cx)).trans fx
      have g7 : Gr W6 (W6.alloc (.cells #[.string xa, .string xb, .int .i64 ww] 55)) := (Gr.refl W6).alloc _
      have ca7 := Gr.cell g7 ca6
      have cz17 := Gr.cell g7 cz16
      have cz27 := Gr.cell g7 cz26
      have cx7 := Gr.cell g7 cx6
      have fx7 : (W6.alloc (.cells #[.string xa, .string xb, .int .i64 ww] 55)).frozen? ⟨W2.heap.size, 0, none⟩ = false := (Below.frozen g7 (p := ⟨W2.heap.size, 0, none⟩) (World.block_lt_of_cell? W6 ⟨W2.heap.size, 0, none⟩ cx6)).trans fx6
      go_wp2_with fail
      refine hK.out _ _ ⟨ca6, cz16, cz26⟩ (fun hHeld => ?_)
      clear hK K
      (try simp only [Act.put, List.setIfInBounds_toArray, List.set_cons_zero, List.set_cons_succ])
      refine wpAnyH_ready (rs := [12]) (by kernel_rfl) (by simp) (AllReadyH.cons (op_at rfl) (fun K hK => ?_) AllReadyH.nil)
      go_simp
      refine hK.out _ _ ⟨ca7, cz17, cz27⟩ (fun hHeld => ?_)
      clear hK K
      (try simp only [Act.put, List.setIfInBounds_toArray, List.set_cons_zero, List.set_cons_succ])
      have g67 : Gr V (W6.alloc (.cells #[.string xa, .string xb, .int .i64 ww] 55)) := g6.trans g7
      have HOV : Hid ((W6.alloc (.cells #[.string xa, .string xb, .int .i64 ww] 55)).ownsRow W5'.heap.size 55 3 v (pre.map fun y => raceAt L ns y.1).length (raCs (pre.map fun y => raceAt L ns y.1))) := World.ownsRow.alloc (own_kept HOV0.out g6) _
      have hs7 : W5'.heap.size ≤ (W6.alloc (.cells #[.string xa, .string xb, .int .i64 ww] 55)).heap.size := Nat.le_trans HSV.out (Below.size g67)
      refine wpAnyH_ready (rs := [13]) (by kernel_rfl) (by simp) (AllReadyH.cons (op_at rfl) (fun K hK => ?_) AllReadyH.nil)
      rw [if_pos (show Region.wanted _ _ = true from rfl)]
      refine step_ra 30 55 Tryz.underlying30 infoRaP _ _ rfl W5'.heap.size v _ _ rfl HOV.out ⟨xa, xb, ww⟩ W6.heap.size 1 rfl (cell_new W6 #[.string xa, .string xb, .int .i64 ww] 55 0 (by simp)) (cell_new W6 #[.string xa, .string xb, .int .i64 ww] 55 1 (by simp)) (cell_new W6 #[.string xa, .string xb, .int .i64 ww] 55 2 (by simp)) HLE.out hs7 ?_
      intro u1 w1 hown1 hgrow1
      obtain ⟨p1, c1, hu1, _, _⟩ := own_shape hown1
      obtain ⟨m9, hm9⟩ : ∃ m9, (pre.map fun y => raceAt L ns y.1).length + 1 = m9 := ⟨_, rfl⟩
      rw [hm9] at hu1
      subst hu1
      clear hm9
      have hob : ∀ g, v.ownBlock = some g → W5'.heap.size ≤ g := fun g hg => (own_in HOV.out hg).2
      have kp1 : KpX W5'.heap.size W2.heap.size (W6.alloc (.cells #[.string xa, .string xb, .int .i64 ww] 55)) w1 := KpX.grown hgrow1 hs7 hob
      have cx1 : w1.cell? ⟨W2.heap.size, 0, none⟩ = some v := (World.cell?_of_block (a := ⟨W2.heap.size, 0, none⟩) (hgrow1.block W2.heap.size (World.block_lt_of_cell? _ ⟨W2.heap.size, 0, none⟩ cx7) (fun e => by have := hob W2.heap.size e.symm; omega))).trans cx7
      have fx1 : w1.frozen? ⟨W2.heap.size, 0, none⟩ = false := (World.frozen?_of_block (a := ⟨W2.heap.size, 0, none⟩) (hgrow1.block W2.heap.size (World.block_lt_of_cell? _ ⟨W2.heap.size, 0, none⟩ cx7) (fun e => by have := hob W2.heap.size e.symm; omega))).trans fx7
      have ca1 := kp1.cell (by omega) (by omega) ca7
      have cz11 := kp1.cell (by omega) hnx cz17
      have cz21 := kp1.cell (by omega) hnx cz27
      have HO1 := Lib.hid hown1
      have HKO : Hid (KeepsOthers V w1) := (gr_others g67).trans (own_others HOV.out hgrow1)
      have HKP1 : Hid (KpX W5'.heap.size W2.heap.size V w1) := kpX_t (KpX.gr g67 HSV.out) kp1
      have HB1 : Hid (Below w.heap.size w w1) := Below.grown (Gr.trans HBV.out g67) hgrow1 (by have := Below.size hB5; omega) (fun q hq => by have := hob q hq; have := Below.size hB5; omega)
      clear hown1 hgrow1 hob kp1
      refine hK.out _ _ ⟨ca1, cz11, cz21⟩ (fun hHeld => ?_)
      clear hK K
      (try simp only [Act.put, List.setIfInBounds_toArray, List.set_cons_zero, List.set_cons_succ])
      have ca2 : (w1.setCell ⟨W2.heap.size, 0, none⟩ (.slice p1 m9 c1)).cell? ⟨w.heap.size, 0, none⟩ = some (.slice p n cap) := (World.cell?_setCell_far w1 _ _ _ (by show W2.heap.size ≠ w.heap.size; omega)).trans ca1
      have cz12 : (w1.setCell ⟨W2.heap.size, 0, none⟩ (.slice p1 m9 c1)).cell? ⟨b4, m0, none⟩ = some (.int .i64 z1) := (World.cell?_setCell_far w1 _ _ _ (by show W2.heap.size ≠ b4; omega)).trans cz11
      have cz22 : (w1.setCell ⟨W2.heap.size, 0, none⟩ (.slice p1 m9 c1)).cell? ⟨b4, m1, none⟩ = some (.int .i64 z2) := (World.cell?_setCell_far w1 _ _ _ (by show W2.heap.size ≠ b4; omega)).trans cz21
      refine wpAnyH_ready (rs := [14]) (by kernel_rfl) (by simp) (AllReadyH.cons (op_at rfl) (fun K hK => ?_) AllReadyH.nil)
      go_simp
      refine hK.out _ _ ⟨ca2, cz12, cz22⟩ (fun hHeld => ?_)
      clear hK K
      (try simp only [Act.put, List.setIfInBounds_toArray, List.set_cons_zero, List.set_cons_succ])
      refine wpAnyH_done (by kernel_rfl) ?_ _
      refine ⟨HKD.out.trans (HKO.out.trans (KeepsOthers.setCell _ _ _)), kpX_t HKX.out (kpX_t HKP1.out (KpX.setCell _ _ _ _)), ⟨.slice p1 m9 c1, World.cell?_setCell_same' _ _ _ (by rw [cx1]; rfl), by rw [World.frozen?_setCell]; exact fx1, ?_⟩, kpX_t HKPV.out (kpX_t HKP1.out (KpX.setCell _ _ _ _)), HB1.out.setCell (p := ⟨W2.heap.size, 0, none⟩) (by show w.heap.size ≤ W2.heap.size; omega) _⟩
      have ho := own_same (w' := w1.setCell ⟨W2.heap.size, 0, none⟩ (.slice p1 m9 c1)) HO1.out (fun g hg => Below.heap_setCell w1 ⟨W2.heap.size, 0, none⟩ (.slice p1 m9 c1) g (by have := (own_in HO1.out hg).2; show g ≠ W2.heap.size; omega))
      have hra := HRA.out
      rw [List.map_append, List.length_append, show List.map (fun y : { y : Nat // y < N } => raceAt L ns y.1) [⟨j, hj⟩] = [raceAt L ns j] from rfl, raCs_add]
      show (w1.setCell ⟨W2.heap.size, 0, none⟩ (.slice p1 m9 c1)).ownsRow _ _ _ _ ((pre.map fun y => raceAt L ns y.1).length + 1) (raCs (pre.map fun y => raceAt L ns y.1) ++ raC (raceAt L ns j))
      rw [hra]
      exact ho
    · go_simp
      refine HS1.out.mono ?_
      rintro e w8 ⟨rfl, rfl⟩
      go_wp2_with fail
      refine hK.out _ _ ⟨ca, cz1, cz2⟩ (fun hHeld => ?_)
      clear hK K
      (try simp only [Act.put, List.setIfInBounds_toArray, List.set_cons_zero, List.set_cons_succ])
      refine wpAnyH_ready (rs := [0, 10]) (by kernel_rfl) (by simp) (AllReadyH.cons (op_at rfl) (fun K hK => ?_) (AllReadyH.cons (op_at rfl) (fun K hK => ?_) AllReadyH.nil))
      · go_simp
        refine hK.out _ _ ⟨ca, cz1, cz2⟩ (fun hHeld => ?_)
        clear hK K
        (try simp only [Act.put, List.setIfInBounds_toArray, List.set_cons_zero, List.set_cons_succ])
        refine wpAnyH_ready (rs := [10]) (by kernel_rfl) (by simp) (AllReadyH.cons (op_at rfl) (fun K hK => ?_) AllReadyH.nil)
        go_simp
        refine HS2.out.mono ?_
        rintro e w8 ⟨rfl, rfl⟩
        go_wp2_with fail
        refine hK.out _ _ ⟨ca, cz1, cz2⟩ (fun hHeld => ?_)
        clear hK K
        (try simp only [Act.put, List.setIfInBounds_toArray, List.set_cons_zero, List.set_cons_succ])
        refine wpAnyH_ready (rs := [11]) (by kernel_rfl) (by simp) (AllReadyH.cons (op_at rfl) (fun K hK => ?_) AllReadyH.nil)
        go_simp
        refine HRO.out.mono ?_
        rintro e W6 ⟨rfl, g6⟩
        have ca6 := Gr.cell g6 ca
        have cz16 := Gr.cell g6 cz1
        have cz26 := Gr.cell g6 cz2
        have cx6 := Gr.cell g6 cx
        have fx6 : W6.frozen? ⟨W2.heap.size, 0, none⟩ = false := (Below.frozen g6 (p := ⟨W2.heap.size, 0, none⟩) (World.block_lt_of_cell? V ⟨W2.heap.size, 0, none⟩ cx)).trans fx
        have g7 : Gr W6 (W6.alloc (.cells #[.string xa, .string xb, .int .i64 ww] 55)) := (Gr.refl W6).alloc _
        have ca7 := Gr.cell g7 ca6
        have cz17 := Gr.cell g7 cz16
        have cz27 := Gr.cell g7 cz26
        have cx7 := Gr.cell g7 cx6
        have fx7 : (W6.alloc (.cells #[.string xa, .string xb, .int .i64 ww] 55)).frozen? ⟨W2.heap.size, 0, none⟩ = false := (Below.frozen g7 (p := ⟨W2.heap.size, 0, none⟩) (World.block_lt_of_cell? W6 ⟨W2.heap.size, 0, none⟩ cx6)).trans fx6
        go_wp2_with fail
        refine hK.out _ _ ⟨ca6, cz16, cz26⟩ (fun hHeld => ?_)
        clear hK K
        (try simp only [Act.put, List.setIfInBounds_toArray, List.set_cons_zero, List.set_cons_succ])
        refine wpAnyH_ready (rs := [12]) (by kernel_rfl) (by simp) (AllReadyH.cons (op_at rfl) (fun K hK => ?_) AllReadyH.nil)
        go_simp
        refine hK.out _ _ ⟨ca7, cz17, cz27⟩ (fun hHeld => ?_)
        clear hK K
        (try simp only [Act.put, List.setIfInBounds_toArray, List.set_cons_zero, List.set_cons_succ])
        have g67 : Gr V (W6.alloc (.cells #[.string xa, .string xb, .int .i64 ww] 55)) := g6.trans g7
        have HOV : Hid ((W6.alloc (.cells #[.string xa, .string xb, .int .i64 ww] 55)).ownsRow W5'.heap.size 55 3 v (pre.map fun y => raceAt L ns y.1).length (raCs (pre.map fun y => raceAt L ns y.1))) := World.ownsRow.alloc (own_kept HOV0.out g6) _
        have hs7 : W5'.heap.size ≤ (W6.alloc (.cells #[.string xa, .string xb, .int .i64 ww] 55)).heap.size := Nat.le_trans HSV.out (Below.size g67)
        refine wpAnyH_ready (rs := [13]) (by kernel_rfl) (by simp) (AllReadyH.cons (op_at rfl) (fun K hK => ?_) AllReadyH.nil)
        rw [if_pos (show Region.wanted _ _ = true from rfl)]
        refine step_ra 30 55 Tryz.underlying30 infoRaP _ _ rfl W5'.heap.size v _ _ rfl HOV.out ⟨xa, xb, ww⟩ W6.heap.size 1 rfl (cell_new W6 #[.string xa, .string xb, .int .i64 ww] 55 0 (by simp)) (cell_new W6 #[.string xa, .string xb, .int .i64 ww] 55 1 (by simp)) (cell_new W6 #[.string xa, .string xb, .int .i64 ww] 55 2 (by simp)) HLE.out hs7 ?_
        intro u1 w1 hown1 hgrow1
        obtain ⟨p1, c1, hu1, _, _⟩ := own_shape hown1
        obtain ⟨m9, hm9⟩ : ∃ m9, (pre.map fun y => raceAt L ns y.1).length + 1 = m9 := ⟨_, rfl⟩
        rw [hm9] at hu1
        subst hu1
        clear hm9
        have hob : ∀ g, v.ownBlock = some g → W5'.heap.size ≤ g := fun g hg => (own_in HOV.out hg).2
        have kp1 : KpX W5'.heap.size W2.heap.size (W6.alloc (.cells #[.string xa, .string xb, .int .i64 ww] 55)) w1 := KpX.grown hgrow1 hs7 hob
        have cx1 : w1.cell? ⟨W2.heap.size, 0, none⟩ = some v := (World.cell?_of_block (a := ⟨W2.heap.size, 0, none⟩) (hgrow1.block W2.heap.size (World.block_lt_of_cell? _ ⟨W2.heap.size, 0, none⟩ cx7) (fun e => by have := hob W2.heap.size e.symm; omega))).trans cx7
        have fx1 : w1.frozen? ⟨W2.heap.size, 0, none⟩ = false := (World.frozen?_of_block (a := ⟨W2.heap.size, 0, none⟩) (hgrow1.block W2.heap.size (World.block_lt_of_cell? _ ⟨W2.heap.size, 0, none⟩ cx7) (fun e => by have := hob W2.heap.size e.symm; omega))).trans fx7
        have ca1 := kp1.cell (by omega) (by omega) ca7
        have cz11 := kp1.cell (by omega) hnx cz17
        have cz21 := kp1.cell (by omega) hnx cz27
        have HO1 := Lib.hid hown1
        have HKO : Hid (KeepsOthers V w1) := (gr_others g67).trans (own_others HOV.out hgrow1)
        have HKP1 : Hid (KpX W5'.heap.size W2.heap.size V w1) := kpX_t (KpX.gr g67 HSV.out) kp1
        have HB1 : Hid (Below w.heap.size w w1) := Below.grown (Gr.trans HBV.out g67) hgrow1 (by have := Below.size hB5; omega) (fun q hq => by have := hob q hq; have := Below.size hB5; omega)
        clear hown1 hgrow1 hob kp1
        refine hK.out _ _ ⟨ca1, cz11, cz21⟩ (fun hHeld => ?_)
        clear hK K
        (try simp only [Act.put, List.setIfInBounds_toArray, List.set_cons_zero, List.set_cons_succ])
        have ca2 : (w1.setCell ⟨W2.heap.size, 0, none⟩ (.slice p1 m9 c1)).cell? ⟨w.heap.size, 0, none⟩ = some (.slice p n cap) := (World.cell?_setCell_far w1 _ _ _ (by show W2.heap.size ≠ w.heap.size; omega)).trans ca1
        have cz12 : (w1.setCell ⟨W2.heap.size, 0, none⟩ (.slice p1 m9 c1)).cell? ⟨b4, m0, none⟩ = some (.int .i64 z1) := (World.cell?_setCell_far w1 _ _ _ (by show W2.heap.size ≠ b4; omega)).trans cz11
        have cz22 : (w1.setCell ⟨W2.heap.size, 0, none⟩ (.slice p1 m9 c1)).cell? ⟨b4, m1, none⟩ = some (.int .i64 z2) := (World.cell?_setCell_far w1 _ _ _ (by show W2.heap.size ≠ b4; omega)).trans cz21
        refine wpAnyH_ready (rs := [14]) (by kernel_rfl) (by simp) (AllReadyH.cons (op_at rfl) (fun K hK => ?_) AllReadyH.nil)
        go_simp
        refine hK.out _ _ ⟨ca2, cz12, cz22⟩ (fun hHeld => ?_)
        clear hK K
        (try simp only [Act.put, List.setIfInBounds_toArray, List.set_cons_zero, List.set_cons_succ])
        refine wpAnyH_done (by kernel_rfl) ?_ _
        refine ⟨HKD.out.trans (HKO.out.trans (KeepsOthers.setCell _ _ _)), kpX_t HKX.out (kpX_t HKP1.out (KpX.setCell _ _ _ _)), ⟨.slice p1 m9 c1, World.cell?_setCell_same' _ _ _ (by rw [cx1]; rfl), by rw [World.frozen?_setCell]; exact fx1, ?_⟩, kpX_t HKPV.out (kpX_t HKP1.out (KpX.setCell _ _ _ _)), HB1.out.setCell (p := ⟨W2.heap.size, 0, none⟩) (by show w.heap.size ≤ W2.heap.size; omega) _⟩
        have ho := own_same (w' := w1.setCell ⟨W2.heap.size, 0, none⟩ (.slice p1 m9 c1)) HO1.out (fun g hg => Below.heap_setCell w1 ⟨W2.heap.size, 0, none⟩ (.slice p1 m9 c1) g (by have := (own_in HO1.out hg).2; show g ≠ W2.heap.size; omega))
        have hra := HRA.out
        rw [List.map_append, List.length_append, show List.map (fun y : { y : Nat // y < N } => raceAt L ns y.1) [⟨j, hj⟩] = [raceAt L ns j] from rfl, raCs_add]
        show (w1.setCell ⟨W2.heap.size, 0, none⟩ (.slice p1 m9 c1)).ownsRow _ _ _ _ ((pre.map fun y => raceAt L ns y.1).length + 1) (raCs (pre.map fun y => raceAt L ns y.1) ++ raC (raceAt L ns j))
        rw [hra]
        exact ho
      · go_simp
        refine HS2.out.mono ?_
        rintro e w8 ⟨rfl, rfl⟩
        go_wp2_with fail
        refine hK.out _ _ ⟨ca, cz1, cz2⟩ (fun hHeld => ?_)
        clear hK K
        (try simp only [Act.put, List.setIfInBounds_toArray, List.set_cons_zero, List.set_cons_succ])
        refine wpAnyH_ready (rs := [0, 11]) (by kernel_rfl) (by simp) (AllReadyH.cons (op_at rfl) (fun K hK => ?_) (AllReadyH.cons (op_at rfl) (fun K hK => ?_) AllReadyH.nil))
        · go_simp
          refine hK.out _ _ ⟨ca, cz1, cz2⟩ (fun hHeld => ?_)
          clear hK K
          (try simp only [Act.put, List.setIfInBounds_toArray, List.set_cons_zero, List.set_cons_succ])
          refine wpAnyH_ready (rs := [11]) (by kernel_rfl) (by simp) (AllReadyH.cons (op_at rfl) (fun K hK => ?_) AllReadyH.nil)
          go_simp
          refine HRO.out.mono ?_
          rintro e W6 ⟨rfl, g6⟩
          have ca6 := Gr.cell g6 ca
          have cz16 := Gr.cell g6 cz1
          have cz26 := Gr.cell g6 cz2
          have cx6 := Gr.cell g6 cx
          have fx6 : W6.frozen? ⟨W2.heap.size, 0, none⟩ = false := (Below.frozen g6 (p := ⟨W2.heap.size, 0, none⟩) (World.block_lt_of_cell? V ⟨W2.heap.size, 0, none⟩ cx)).trans fx
          have g7 : Gr W6 (W6.alloc (.cells #[.string xa, .string xb, .int .i64 ww] 55)) := (Gr.refl W6).alloc _
          have ca7 := Gr.cell g7 ca6
          have cz17 := Gr.cell g7 cz16
          have cz27 := Gr.cell g7 cz26
          have cx7 := Gr.cell g7 cx6
          have fx7 : (W6.alloc (.cells #[.string xa, .string xb, .int .i64 ww] 55)).frozen? ⟨W2.heap.size, 0, none⟩ = false := (Below.frozen g7 (p := ⟨W2.heap.size, 0, none⟩) (World.block_lt_of_cell? W6 ⟨W2.heap.size, 0, none⟩ cx6)).trans fx6
          go_wp2_with fail
          refine hK.out _ _ ⟨ca6, cz16, cz26⟩ (fun hHeld => ?_)
          clear hK K
          (try simp only [Act.put, List.setIfInBounds_toArray, List.set_cons_zero, List.set_cons_succ])
          refine wpAnyH_ready (rs := [12]) (by kernel_rfl) (by simp) (AllReadyH.cons (op_at rfl) (fun K hK => ?_) AllReadyH.nil)
          go_simp
          refine hK.out _ _ ⟨ca7, cz17, cz27⟩ (fun hHeld => ?_)
          clear hK K
          (try simp only [Act.put, List.setIfInBounds_toArray, List.set_cons_zero, List.set_cons_succ])
          have g67 : Gr V (W6.alloc (.cells #[.string xa, .string xb, .int .i64 ww] 55)) := g6.trans g7
          have HOV : Hid ((W6.alloc (.cells #[.string xa, .string xb, .int .i64 ww] 55)).ownsRow W5'.heap.size 55 3 v (pre.map fun y => raceAt L ns y.1).length (raCs (pre.map fun y => raceAt L ns y.1))) := World.ownsRow.alloc (own_kept HOV0.out g6) _
          have hs7 : W5'.heap.size ≤ (W6.alloc (.cells #[.string xa, .string xb, .int .i64 ww] 55)).heap.size := Nat.le_trans HSV.out (Below.size g67)
          refine wpAnyH_ready (rs := [13]) (by kernel_rfl) (by simp) (AllReadyH.cons (op_at rfl) (fun K hK => ?_) AllReadyH.nil)
          rw [if_pos (show Region.wanted _ _ = true from rfl)]
          refine step_ra 30 55 Tryz.underlying30 infoRaP _ _ rfl W5'.heap.size v _ _ rfl HOV.out ⟨xa, xb, ww⟩ W6.heap.size 1 rfl (cell_new W6 #[.string xa, .string xb, .int .i64 ww] 55 0 (by simp)) (cell_new W6 #[.string xa, .string xb, .int .i64 ww] 55 1 (by simp)) (cell_new W6 #[.string xa, .string xb, .int .i64 ww] 55 2 (by simp)) HLE.out hs7 ?_
          intro u1 w1 hown1 hgrow1
          obtain ⟨p1, c1, hu1, _, _⟩ := own_shape hown1
          obtain ⟨m9, hm9⟩ : ∃ m9, (pre.map fun y => raceAt L ns y.1).length + 1 = m9 := ⟨_, rfl⟩
          rw [hm9] at hu1
          subst hu1
          clear hm9
          have hob : ∀ g, v.ownBlock = some g → W5'.heap.size ≤ g := fun g hg => (own_in HOV.out hg).2
          have kp1 : KpX W5'.heap.size W2.heap.size (W6.alloc (.cells #[.string xa, .string xb, .int .i64 ww] 55)) w1 := KpX.grown hgrow1 hs7 hob
          have cx1 : w1.cell? ⟨W2.heap.size, 0, none⟩ = some v := (World.cell?_of_block (a := ⟨W2.heap.size, 0, none⟩) (hgrow1.block W2.heap.size (World.block_lt_of_cell? _ ⟨W2.heap.size, 0, none⟩ cx7) (fun e => by have := hob W2.heap.size e.symm; omega))).trans cx7
          have fx1 : w1.frozen? ⟨W2.heap.size, 0, none⟩ = false := (World.frozen?_of_block (a := ⟨W2.heap.size, 0, none⟩) (hgrow1.block W2.heap.size (World.block_lt_of_cell? _ ⟨W2.heap.size, 0, none⟩ cx7) (fun e => by have := hob W2.heap.size e.symm; omega))).trans fx7
          have ca1 := kp1.cell (by omega) (by omega) ca7
          have cz11 := kp1.cell (by omega) hnx cz17
          have cz21 := kp1.cell (by omega) hnx cz27
          have HO1 := Lib.hid hown1
          have HKO : Hid (KeepsOthers V w1) := (gr_others g67).trans (own_others HOV.out hgrow1)
          have HKP1 : Hid (KpX W5'.heap.size W2.heap.size V w1) := kpX_t (KpX.gr g67 HSV.out) kp1
          have HB1 : Hid (Below w.heap.size w w1) := Below.grown (Gr.trans HBV.out g67) hgrow1 (by have := Below.size hB5; omega) (fun q hq => by have := hob q hq; have := Below.size hB5; omega)
          clear hown1 hgrow1 hob kp1
          refine hK.out _ _ ⟨ca1, cz11, cz21⟩ (fun hHeld => ?_)
          clear hK K
          (try simp only [Act.put, List.setIfInBounds_toArray, List.set_cons_zero, List.set_cons_succ])
          have ca2 : (w1.setCell ⟨W2.heap.size, 0, none⟩ (.slice p1 m9 c1)).cell? ⟨w.heap.size, 0, none⟩ = some (.slice p n cap) := (World.cell?_setCell_far w1 _ _ _ (by show W2.heap.size ≠ w.heap.size; omega)).trans ca1
          have cz12 : (w1.setCell ⟨W2.heap.size, 0, none⟩ (.slice p1 m9 c1)).cell? ⟨b4, m0, none⟩ = some (.int .i64 z1) := (World.cell?_setCell_far w1 _ _ _ (by show W2.heap.size ≠ b4; omega)).trans cz11
          have cz22 : (w1.setCell ⟨W2.heap.size, 0, none⟩ (.slice p1 m9 c1)).cell? ⟨b4, m1, none⟩ = some (.int .i64 z2) := (World.cell?_setCell_far w1 _ _ _ (by show W2.heap.size ≠ b4; omega)).trans cz21
          refine wpAnyH_ready (rs := [14]) (by kernel_rfl) (by simp) (AllReadyH.cons (op_at rfl) (fun K hK => ?_) AllReadyH.nil)
          go_simp
          refine hK.out _ _ ⟨ca2, cz12, cz22⟩ (fun hHeld => ?_)
          clear hK K
          (try simp only [Act.put, List.setIfInBounds_toArray, List.set_cons_zero, List.set_cons_succ])
          refine wpAnyH_done (by kernel_rfl) ?_ _
          refine ⟨HKD.out.trans (HKO.out.trans (KeepsOthers.setCell _ _ _)), kpX_t HKX.out (kpX_t HKP1.out (KpX.setCell _ _ _ _)), ⟨.slice p1 m9 c1, World.cell?_setCell_same' _ _ _ (by rw [cx1]; rfl), by rw [World.frozen?_setCell]; exact fx1, ?_⟩, kpX_t HKPV.out (kpX_t HKP1.out (KpX.setCell _ _ _ _)), HB1.out.setCell (p := ⟨W2.heap.size, 0, none⟩) (by show w.heap.size ≤ W2.heap.size; omega) _⟩
          have ho := own_same (w' := w1.setCell ⟨W2.heap.size, 0, none⟩ (.slice p1 m9 c1)) HO1.out (fun g hg => Below.heap_setCell w1 ⟨W2.heap.size, 0, none⟩ (.slice p1 m9 c1) g (by have := (own_in HO1.out hg).2; show g ≠ W2.heap.size; omega))
          have hra := HRA.out
          rw [List.map_append, List.length_append, show List.map (fun y : { y : Nat // y < N } => raceAt L ns y.1) [⟨j, hj⟩] = [raceAt L ns j] from rfl, raCs_add]
          show (w1.setCell ⟨W2.heap.size, 0, none⟩ (.slice p1 m9 c1)).ownsRow _ _ _ _ ((pre.map fun y => raceAt L ns y.1).length + 1) (raCs (pre.map fun y => raceAt L ns y.1) ++ raC (raceAt L ns j))
          rw [hra]
          exact ho
        · go_simp
          refine HRO.out.mono ?_
          rintro e W6 ⟨rfl, g6⟩
          have ca6 := Gr.cell g6 ca
          have cz16 := Gr.cell g6 cz1
          have cz26 := Gr.cell g6 cz2
          have cx6 := Gr.cell g6 cx
          have fx6 : W6.frozen? ⟨W2.heap.size, 0, none⟩ = false := (Below.frozen g6 (p := ⟨W2.heap.size, 0, none⟩) (World.block_lt_of_cell? V ⟨W2.heap.size, 0, none⟩ cx)).trans fx
          have g7 : Gr W6 (W6.alloc (.cells #[.string xa, .string xb, .int .i64 ww] 55)) := (Gr.refl W6).alloc _
          have ca7 := Gr.cell g7 ca6
          have cz17 := Gr.cell g7 cz16
          have cz27 := Gr.cell g7 cz26
          have cx7 := Gr.cell g7 cx6
          have fx7 : (W6.alloc (.cells #[.string xa, .string xb, .int .i64 ww] 55)).frozen? ⟨W2.heap.size, 0, none⟩ = false := (Below.frozen g7 (p := ⟨W2.heap.size, 0, none⟩) (World.block_lt_of_cell? W6 ⟨W2.heap.size, 0, none⟩ cx6)).trans fx6
          go_wp2_with fail
          refine hK.out _ _ ⟨ca6, cz16, cz26⟩ (fun hHeld => ?_)
          clear hK K
          (try simp only [Act.put, List.setIfInBounds_toArray, List.set_cons_zero, List.set_cons_succ])
          refine wpAnyH_ready (rs := [0, 12]) (by kernel_rfl) (by simp) (AllReadyH.cons (op_at rfl) (fun K hK => ?_) (AllReadyH.cons (op_at rfl) (fun K hK => ?_) AllReadyH.nil))
          · go_simp
            refine hK.out _ _ ⟨ca6, cz16, cz26⟩ (fun hHeld => ?_)
            clear hK K
            (try simp only [Act.put, List.setIfInBounds_toArray, List.set_cons_zero, List.set_cons_succ])
            refine wpAnyH_ready (rs := [12]) (by kernel_rfl) (by simp) (AllReadyH.cons (op_at rfl) (fun K hK => ?_) AllReadyH.nil)
            go_simp
            refine hK.out _ _ ⟨ca7, cz17, cz27⟩ (fun hHeld => ?_)
            clear hK K
            (try simp only [Act.put, List.setIfInBounds_toArray, List.set_cons_zero, List.set_cons_succ])
            have g67 : Gr V (W6.alloc (.cells #[.string xa, .string xb, .int .i64 ww] 55)) := g6.trans g7
            have HOV : Hid ((W6.alloc (.cells #[.string xa, .string xb, .int .i64 ww] 55)).ownsRow W5'.heap.size 55 3 v (pre.map fun y => raceAt L ns y.1).length (raCs (pre.map fun y => raceAt L ns y.1))) := World.ownsRow.alloc (own_kept HOV0.out g6) _
            have hs7 : W5'.heap.size ≤ (W6.alloc (.cells #[.string xa, .string xb, .int .i64 ww] 55)).heap.size := Nat.le_trans HSV.out (Below.size g67)
            refine wpAnyH_ready (rs := [13]) (by kernel_rfl) (by simp) (AllReadyH.cons (op_at rfl) (fun K hK => ?_) AllReadyH.nil)
            rw [if_pos (show Region.wanted _ _ = true from rfl)]
            refine step_ra 30 55 Tryz.underlying30 infoRaP _ _ rfl W5'.heap.size v _ _ rfl HOV.out ⟨xa, xb, ww⟩ W6.heap.size 1 rfl (cell_new W6 #[.string xa, .string xb, .int .i64 ww] 55 0 (by simp)) (cell_new W6 #[.string xa, .string xb, .int .i64 ww] 55 1 (by simp)) (cell_new W6 #[.string xa, .string xb, .int .i64 ww] 55 2 (by simp)) HLE.out hs7 ?_
            intro u1 w1 hown1 hgrow1
            obtain ⟨p1, c1, hu1, _, _⟩ := own_shape hown1
            obtain ⟨m9, hm9⟩ : ∃ m9, (pre.map fun y => raceAt L ns y.1).length + 1 = m9 := ⟨_, rfl⟩
            rw [hm9] at hu1
            subst hu1
            clear hm9
            have hob : ∀ g, v.ownBlock = some g → W5'.heap.size ≤ g := fun g hg => (own_in HOV.out hg).2
            have kp1 : KpX W5'.heap.size W2.heap.size (W6.alloc (.cells #[.string xa, .string xb, .int .i64 ww] 55)) w1 := KpX.grown hgrow1 hs7 hob
            have cx1 : w1.cell? ⟨W2.heap.size, 0, none⟩ = some v := (World.cell?_of_block (a := ⟨W2.heap.size, 0, none⟩) (hgrow1.block W2.heap.size (World.block_lt_of_cell? _ ⟨W2.heap.size, 0, none⟩ cx7) (fun e => by have := hob W2.heap.size e.symm; omega))).trans cx7
            have fx1 : w1.frozen? ⟨W2.heap.size, 0, none⟩ = false := (World.frozen?_of_block (a := ⟨W2.heap.size, 0, none⟩) (hgrow1.block W2.heap.size (World.block_lt_of_cell? _ ⟨W2.heap.size, 0, none⟩ cx7) (fun e => by have := hob W2.heap.size e.symm; omega))).trans fx7
            have ca1 := kp1.cell (by omega) (by omega) ca7
            have cz11 := kp1.cell (by omega) hnx cz17
            have cz21 := kp1.cell (by omega) hnx cz27
            have HO1 := Lib.hid hown1
            have HKO : Hid (KeepsOthers V w1) := (gr_others g67).trans (own_others HOV.out hgrow1)
            have HKP1 : Hid (KpX W5'.heap.size W2.heap.size V w1) := kpX_t (KpX.gr g67 HSV.out) kp1
            have HB1 : Hid (Below w.heap.size w w1) := Below.grown (Gr.trans HBV.out g67) hgrow1 (by have := Below.size hB5; omega) (fun q hq => by have := hob q hq; have := Below.size hB5; omega)
            clear hown1 hgrow1 hob kp1
            refine hK.out _ _ ⟨ca1, cz11, cz21⟩ (fun hHeld => ?_)
            clear hK K
            (try simp only [Act.put, List.setIfInBounds_toArray, List.set_cons_zero, List.set_cons_succ])
            have ca2 : (w1.setCell ⟨W2.heap.size, 0, none⟩ (.slice p1 m9 c1)).cell? ⟨w.heap.size, 0, none⟩ = some (.slice p n cap) := (World.cell?_setCell_far w1 _ _ _ (by show W2.heap.size ≠ w.heap.size; omega)).trans ca1
            have cz12 : (w1.setCell ⟨W2.heap.size, 0, none⟩ (.slice p1 m9 c1)).cell? ⟨b4, m0, none⟩ = some (.int .i64 z1) := (World.cell?_setCell_far w1 _ _ _ (by show W2.heap.size ≠ b4; omega)).trans cz11
            have cz22 : (w1.setCell ⟨W2.heap.size, 0, none⟩ (.slice p1 m9 c1)).cell? ⟨b4, m1, none⟩ = some (.int .i64 z2) := (World.cell?_setCell_far w1 _ _ _ (by show W2.heap.size ≠ b4; omega)).trans cz21
            refine wpAnyH_ready (rs := [14]) (by kernel_rfl) (by simp) (AllReadyH.cons (op_at rfl) (fun K hK => ?_) AllReadyH.nil)
            go_simp
            refine hK.out _ _ ⟨ca2, cz12, cz22⟩ (fun hHeld => ?_)
            clear hK K
            (try simp only [Act.put, List.setIfInBounds_toArray, List.set_cons_zero, List.set_cons_succ])
            refine wpAnyH_done (by kernel_rfl) ?_ _
            refine ⟨HKD.out.trans (HKO.out.trans (KeepsOthers.setCell _ _ _)), kpX_t HKX.out (kpX_t HKP1.out (KpX.setCell _ _ _ _)), ⟨.slice p1 m9 c1, World.cell?_setCell_same' _ _ _ (by rw [cx1]; rfl), by rw [World.frozen?_setCell]; exact fx1, ?_⟩, kpX_t HKPV.out (kpX_t HKP1.out (KpX.setCell _ _ _ _)), HB1.out.setCell (p := ⟨W2.heap.size, 0, none⟩) (by show w.heap.size ≤ W2.heap.size; omega) _⟩
            have ho := own_same (w' := w1.setCell ⟨W2.heap.size, 0, none⟩ (.slice p1 m9 c1)) HO1.out (fun g hg => Below.heap_setCell w1 ⟨W2.heap.size, 0, none⟩ (.slice p1 m9 c1) g (by have := (own_in HO1.out hg).2; show g ≠ W2.heap.size; omega))
            have hra := HRA.out
            rw [List.map_append, List.length_append, show List.map (fun y : { y : Nat // y < N } => raceAt L ns y.1) [⟨j, hj⟩] = [raceAt L ns j] from rfl, raCs_add]
            show (w1.setCell ⟨W2.heap.size, 0, none⟩ (.slice p1 m9 c1)).ownsRow _ _ _ _ ((pre.map fun y => raceAt L ns y.1).length + 1) (raCs (pre.map fun y => raceAt L ns y.1) ++ raC (raceAt L ns j))
            rw [hra]
            exact ho
          · go_simp
            refine hK.out _ _ ⟨ca7, cz17, cz27⟩ (fun hHeld => ?_)
            clear hK K
            (try simp only [Act.put, List.setIfInBounds_toArray, List.set_cons_zero, List.set_cons_succ])
            refine wpAnyH_ready (rs := [0]) (by kernel_rfl) (by simp) (AllReadyH.cons (op_at rfl) (fun K hK => ?_) AllReadyH.nil)
            go_simp
            refine hK.out _ _ ⟨ca7, cz17, cz27⟩ (fun hHeld => ?_)
            clear hK K
            (try simp only [Act.put, List.setIfInBounds_toArray, List.set_cons_zero, List.set_cons_succ])
            have g67 : Gr V (W6.alloc (.cells #[.string xa, .string xb, .int .i64 ww] 55)) := g6.trans g7
            have HOV : Hid ((W6.alloc (.cells #[.string xa, .string xb, .int .i64 ww] 55)).ownsRow W5'.heap.size 55 3 v (pre.map fun y => raceAt L ns y.1).length (raCs (pre.map fun y => raceAt L ns y.1))) := World.ownsRow.alloc (own_kept HOV0.out g6) _
            have hs7 : W5'.heap.size ≤ (W6.alloc (.cells #[.string xa, .string xb, .int .i64 ww] 55)).heap.size := Nat.le_trans HSV.out (Below.size g67)
            refine wpAnyH_ready (rs := [13]) (by kernel_rfl) (by simp) (AllReadyH.cons (op_at rfl) (fun K hK => ?_) AllReadyH.nil)
            rw [if_pos (show Region.wanted _ _ = true from rfl)]
            refine step_ra 30 55 Tryz.underlying30 infoRaP _ _ rfl W5'.heap.size v _ _ rfl HOV.out ⟨xa, xb, ww⟩ W6.heap.size 1 rfl (cell_new W6 #[.string xa, .string xb, .int .i64 ww] 55 0 (by simp)) (cell_new W6 #[.string xa, .string xb, .int .i64 ww] 55 1 (by simp)) (cell_new W6 #[.string xa, .string xb, .int .i64 ww] 55 2 (by simp)) HLE.out hs7 ?_
            intro u1 w1 hown1 hgrow1
            obtain ⟨p1, c1, hu1, _, _⟩ := own_shape hown1
            obtain ⟨m9, hm9⟩ : ∃ m9, (pre.map fun y => raceAt L ns y.1).length + 1 = m9 := ⟨_, rfl⟩
            rw [hm9] at hu1
            subst hu1
            clear hm9
            have hob : ∀ g, v.ownBlock = some g → W5'.heap.size ≤ g := fun g hg => (own_in HOV.out hg).2
            have kp1 : KpX W5'.heap.size W2.heap.size (W6.alloc (.cells #[.string xa, .string xb, .int .i64 ww] 55)) w1 := KpX.grown hgrow1 hs7 hob
            have cx1 : w1.cell? ⟨W2.heap.size, 0, none⟩ = some v := (World.cell?_of_block (a := ⟨W2.heap.size, 0, none⟩) (hgrow1.block W2.heap.size (World.block_lt_of_cell? _ ⟨W2.heap.size, 0, none⟩ cx7) (fun e => by have := hob W2.heap.size e.symm; omega))).trans cx7
            have fx1 : w1.frozen? ⟨W2.heap.size, 0, none⟩ = false := (World.frozen?_of_block (a := ⟨W2.heap.size, 0, none⟩) (hgrow1.block W2.heap.size (World.block_lt_of_cell? _ ⟨W2.heap.size, 0, none⟩ cx7) (fun e => by have := hob W2.heap.size e.symm; omega))).trans fx7
            have ca1 := kp1.cell (by omega) (by omega) ca7
            have cz11 := kp1.cell (by omega) hnx cz17
            have cz21 := kp1.cell (by omega) hnx cz27
            have HO1 := Lib.hid hown1
            have HKO : Hid (KeepsOthers V w1) := (gr_others g67).trans (own_others HOV.out hgrow1)
            have HKP1 : Hid (KpX W5'.heap.size W2.heap.size V w1) := kpX_t (KpX.gr g67 HSV.out) kp1
            have HB1 : Hid (Below w.heap.size w w1) := Below.grown (Gr.trans HBV.out g67) hgrow1 (by have := Below.size hB5; omega) (fun q hq => by have := hob q hq; have := Below.size hB5; omega)
            clear hown1 hgrow1 hob kp1
            refine hK.out _ _ ⟨ca1, cz11, cz21⟩ (fun hHeld => ?_)
            clear hK K
            (try simp only [Act.put, List.setIfInBounds_toArray, List.set_cons_zero, List.set_cons_succ])
            have ca2 : (w1.setCell ⟨W2.heap.size, 0, none⟩ (.slice p1 m9 c1)).cell? ⟨w.heap.size, 0, none⟩ = some (.slice p n cap) := (World.cell?_setCell_far w1 _ _ _ (by show W2.heap.size ≠ w.heap.size; omega)).trans ca1
            have cz12 : (w1.setCell ⟨W2.heap.size, 0, none⟩ (.slice p1 m9 c1)).cell? ⟨b4, m0, none⟩ = some (.int .i64 z1) := (World.cell?_setCell_far w1 _ _ _ (by show W2.heap.size ≠ b4; omega)).trans cz11
            have cz22 : (w1.setCell ⟨W2.heap.size, 0, none⟩ (.slice p1 m9 c1)).cell? ⟨b4, m1, none⟩ = some (.int .i64 z2) := (World.cell?_setCell_far w1 _ _ _ (by show W2.heap.size ≠ b4; omega)).trans cz21
            refine wpAnyH_ready (rs := [14]) (by kernel_rfl) (by simp) (AllReadyH.cons (op_at rfl) (fun K hK => ?_) AllReadyH.nil)
            go_simp
            refine hK.out _ _ ⟨ca2, cz12, cz22⟩ (fun hHeld => ?_)
            clear hK K
            (try simp only [Act.put, List.setIfInBounds_toArray, List.set_cons_zero, List.set_cons_succ])
            refine wpAnyH_done (by kernel_rfl) ?_ _
            refine ⟨HKD.out.trans (HKO.out.trans (KeepsOthers.setCell _ _ _)), kpX_t HKX.out (kpX_t HKP1.out (KpX.setCell _ _ _ _)), ⟨.slice p1 m9 c1, World.cell?_setCell_same' _ _ _ (by rw [cx1]; rfl), by rw [World.frozen?_setCell]; exact fx1, ?_⟩, kpX_t HKPV.out (kpX_t HKP1.out (KpX.setCell _ _ _ _)), HB1.out.setCell (p := ⟨W2.heap.size, 0, none⟩) (by show w.heap.size ≤ W2.heap.size; omega) _⟩
            have ho := own_same (w' := w1.setCell ⟨W2.heap.size, 0, none⟩ (.slice p1 m9 c1)) HO1.out (fun g hg => Below.heap_setCell w1 ⟨W2.heap.size, 0, none⟩ (.slice p1 m9 c1) g (by have := (own_in HO1.out hg).2; show g ≠ W2.heap.size; omega))
            have hra := HRA.out
            rw [List.map_append, List.length_append, show List.map (fun y : { y : Nat // y < N } => raceAt L ns y.1) [⟨j, hj⟩] = [raceAt L ns j] from rfl, raCs_add]
            show (w1.setCell ⟨W2.heap.size, 0, none⟩ (.slice p1 m9 c1)).ownsRow _ _ _ _ ((pre.map fun y => raceAt L ns y.1).length + 1) (raCs (pre.map fun y => raceAt L ns y.1) ++ raC (raceAt L ns j))
            rw [hra]
            exact ho
  case done =>
    rintro D ys W hD hys ⟨hR, hK, hB⟩ hKD
    obtain ⟨v, hxv, hfx, hown⟩ := hR.out
    have hmp : ys.map (fun y => raceAt L ns y.1) = firstR ns (k' + 1) := by
      rw [HF.out, ← hys, List.map_map]
      rfl
    rw [hmp] at hown
    have hln : (firstR ns (k' + 1)).length = N := by rw [HF.out]; simp
    rw [hln] at hown
    obtain ⟨p9, c9, rfl, _, _⟩ := own_shape hown
    gi_wp2
    refine ⟨by simp, .inl ⟨_, _, rfl, run_takeDeferred hKD, ?_⟩⟩
    refine ⟨_, results_tmp2 rfl _ _ _, p9, k' + 1, N, c9, rfl, HK1.out, HK2.out, hln, hN5, RaS.of_own (own_turn hown (grownBy_putObj' W D _) (fun r e => by cases e; exact ⟨_, hKD, rfl⟩)) hln, hB.trans (belowK_b (w := w) (Nat.le_refl _) W D _ _ (Nat.le_trans (Below.size hB5) hD) hKD rfl rfl)⟩
  case stop =>
    rintro D c pre W _ _ h _
    exact h.elim
end Go.Proofs.YthfmgficbnmmnaaGreatDoor
