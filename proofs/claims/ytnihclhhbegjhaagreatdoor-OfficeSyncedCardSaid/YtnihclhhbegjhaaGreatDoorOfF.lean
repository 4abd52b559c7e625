/- Sheets (chapter 10): CheckSheet, Ranks and CheckEntry, as the program has them. -/
import Derived.Test.YtnihclhhbegjhaaGreatDoorGOfD
namespace Go.Proofs.YtnihclhhbegjhaaGreatDoor
open Go.RowKit Go.Lib
set_option linter.unusedSimpArgs false
set_option linter.unusedVariables false
def isOC (st : ByteArray) : Bool := !(st.toList == [111, 112, 101, 110]) && !(st.toList == [99, 108, 111, 115, 101, 100])
def headE (ro : ByteArray) (va : Int) (st : ByteArray) (n : Nat) : Int := firstE [nmE ro, outE va 1 16, if isOC st = true then 13 else 0, if decide ((160 : Int) < n) = true then 5 else 0]
def sheetE (ro : ByteArray) (va : Int) (st : ByteArray) (xs : List RowR) : Int := if headE ro va st xs.length = 0 then errG (oneShE va xs) xs xs.length 0 else headE ro va st xs.length
theorem RowsV.atO {w : World} {p : Option Addr} {n c : Nat} {xs : List RowR} (h : RowsV w (.slice p n c) xs) : xs.length = n ∧ (n ≤ c ∧ c ≤ maxLen) ∧ (0 < n → ∃ b off, p = some ⟨b, off, none⟩ ∧ ∀ i x, xs[i]? = some x → RowAt w b (off + i * 3) x) := by
  obtain ⟨⟨p', cap', e, hc, hh⟩⟩ := h
  simp only [Value.slice.injEq] at e
  obtain ⟨rfl, rfl, rfl⟩ := e
  exact ⟨rfl, hc, hh⟩
set_option maxHeartbeats 4000000 in
set_option maxRecDepth 100000 in
theorem checkSheet_o {w : World} {xs : List RowR} {p : Option Addr} {n cap : Nat} {ro st : ByteArray} {va : Int} (hv : RowsV w (.slice p n cap) xs) (h : st.toList = [111, 112, 101, 110]) :
    Calls Tryz.prog 58 #[.agg #[.string ro, .int .i64 va, .string st, .slice p n cap]] w fun e w' => e = .returned (.int .i64 (sheetE ro va st xs)) ∧ Gr w w' := by
  obtain ⟨hn, hcap, hh⟩ := hv.atO
  have hHE : headE ro va st xs.length = firstE [nmE ro, outE va 1 16, if false = true then 13 else 0, if decide ((160 : Int) < n) = true then 5 else 0] := by
    unfold headE
    rw [hn]
    have : isOC st = false := by unfold isOC; first | (rw [h]; rfl) | (rw [hq1, hq2]; rfl)
    rw [this]
  have HEACH := Lib.hid (fun (W : World) (M : Nat) (mg : Nat) (h1 : n ≤ 160) (hg : w.heap.size ≤ mg) (hK : ShKeep w W M w.heap.size mg ro va st (.slice p n cap) xs 0) =>
    (show Calls Tryz.prog 99 #[.slice p n cap, .func (.func 100) #[] #[.pointer (some ⟨M, 0, none⟩), .pointer (some ⟨w.heap.size, 0, none⟩)]] W fun e w' => e = .returned (.int .i64 (errG (oneShE va xs) xs n 0)) ∧ Gr w w' from by
      by_cases h0 : 0 < n
      · obtain ⟨b, off, rfl, hc⟩ := hh h0
        exact eachSh_c hn h1 hcap.1 hcap.2 hc ⟨_, _, _, rfl⟩ hg hK
      · obtain rfl : n = 0 := by omega
        exact (eachSh_nil p cap M w.heap.size W).mono fun e w' ⟨he, hw⟩ => ⟨he, hw ▸ hK.gr⟩))
  have HRES : Hid (sheetE ro va st xs = if headE ro va st xs.length = 0 then errG (oneShE va xs) xs n 0 else headE ro va st xs.length) := by unfold Hid sheetE; rw [hn]
  obtain ⟨e1, h1', H1⟩ := oname_e ro
  obtain ⟨e2, h2', H2⟩ := range_e va 1 16
  obtain ⟨e3, h3', H3⟩ := if_e false 13
  obtain ⟨mB, hmB⟩ : ∃ m, decide ((160 : Int) < n) = m := ⟨_, rfl⟩
  obtain ⟨e4, h4', H4⟩ := if_e mB 5
  rw [hmB, ← h1', ← h2', ← h3', ← h4'] at hHE
  have HF := Lib.hid (fun b cap w => first_four e1 e2 e3 e4 b cap w)
  obtain ⟨err, hErr⟩ : ∃ z, z = headE ro va st xs.length := ⟨_, rfl⟩
  rw [← hErr] at HRES hHE
  have HFz : Hid (firstE [e1, e2, e3, e4] = err) := hHE.symm
  have HM : Hid (err = 0 → n ≤ 160) := by
    intro h0
    have hz := firstE_zero (l := [e1, e2, e3, e4]) (by rw [HFz.out]; exact h0) e4 (by simp)
    rw [hz] at h4'
    cases mB
    · have := of_decide_eq_false hmB; omega
    · simp at h4'
  obtain ⟨W, hW, g, s0, s1, s2, s3⟩ := box4 w (.string ro) (.int .i64 va) (.string st) (.slice p n cap) 27
  have HW := Lib.hid hW
  replace H1 := Lib.hid (fun W' (_ : Gr w W') => H1 W')
  replace H2 := Lib.hid H2
  replace H3 := Lib.hid H3
  replace H4 := Lib.hid H4
  obtain ⟨R, hR⟩ : ∃ z, z = errG (oneShE va xs) xs n 0 := ⟨_, rfl⟩
  rw [← hR] at HRES HEACH
  obtain ⟨SE, hSE⟩ : ∃ z, z = sheetE ro va st xs := ⟨_, rfl⟩
  rw [← hSE] at HRES ⊢
  clear hW hHE hErr h1' h2' h3' h4' hR hSE hh hn hcap hv
  have hsz : w.heap.size ≤ W.heap.size := g.size
  by_cases h00 : err = 0
  · have hz0 : (err != 0) = false := by rw [h00]; rfl
    have HRZ : Hid (SE = R) := by unfold Hid; rw [HRES.out, if_pos h00]
    have HN := Lib.hid (HM.out h00)
    clear HM HRES h00
    go_enter Tryz.func58, Tryz.ntmps58
    go_wp2_with fail
    rw [HW.out]
    clear HW
    generalize hLw : w.heap.size = L at *
    have gd := (Gr.refl W).drew
    replace s0 := gd.cell s0
    replace s1 := gd.cell s1
    replace s2 := gd.cell s2
    replace s3 := gd.cell s3
    replace g := g.trans gd
    clear gd
    refine wp_region_held_drew (S := (fun w' => w'.cell? ⟨L, 0, none⟩ = some (.string ro) ∧ w'.cell? ⟨L, 1, none⟩ = some (.int .i64 va) ∧ w'.cell? ⟨L, 2, none⟩ = some (.string st) ∧ w'.cell? ⟨L, 3, none⟩ = some (.slice p n cap))) (by kernel_rfl) ⟨s0, s1, s2, s3⟩ (fun hHeld => ?_)
    generalize W.drew = V2 at *
    refine wpAnyH_take (i := 0) (v := (.pointer (some ⟨L, 0, none⟩))) (op_at rfl) (by kernel_rfl) (by kernel_rfl) (by kernel_rfl) (fun _ _ _ h => h) (Or.inl ⟨rfl, fun w hSw => ?_⟩) (by assumption) ?_
    · (try dsimp only at hSw); go_simp; try with_reducible rfl
    (try simp only [Act.put, tz0, tz1, tz2])
    refine wpAnyH_take (i := 1) (v := (.string ro)) (op_at rfl) (by kernel_rfl) (by kernel_rfl) (by kernel_rfl) (fun _ _ _ h => h) (Or.inl ⟨rfl, fun w hSw => ?_⟩) (by assumption) ?_
    · (try dsimp only at hSw); go_simp; try with_reducible rfl
    (try simp only [Act.put, tz0, tz1, tz2])
    refine wpAnyH_take (i := 3) (v := (.pointer (some ⟨L, 1, none⟩))) (op_at rfl) (by kernel_rfl) (by kernel_rfl) (by kernel_rfl) (fun _ _ _ h => h) (Or.inl ⟨rfl, fun w hSw => ?_⟩) (by assumption) ?_
    · (try dsimp only at hSw); go_simp; try with_reducible rfl
    (try simp only [Act.put, tz0, tz1, tz2])
    refine wpAnyH_take (i := 4) (v := (.int .i64 va)) (op_at rfl) (by kernel_rfl) (by kernel_rfl) (by kernel_rfl) (fun _ _ _ h => h) (Or.inl ⟨rfl, fun w hSw => ?_⟩) (by assumption) ?_
    · (try dsimp only at hSw); go_simp; try with_reducible rfl
    (try simp only [Act.put, tz0, tz1, tz2])
    refine wpAnyH_take (i := 6) (v := (.pointer (some ⟨L, 2, none⟩))) (op_at rfl) (by kernel_rfl) (by kernel_rfl) (by kernel_rfl) (fun _ _ _ h => h) (Or.inl ⟨rfl, fun w hSw => ?_⟩) (by assumption) ?_
    · (try dsimp only at hSw); go_simp; try with_reducible rfl
    (try simp only [Act.put, tz0, tz1, tz2])
    refine wpAnyH_take (i := 7) (v := (.string st)) (op_at rfl) (by kernel_rfl) (by kernel_rfl) (by kernel_rfl) (fun _ _ _ h => h) (Or.inl ⟨rfl, fun w hSw => ?_⟩) (by assumption) ?_
    · (try dsimp only at hSw); go_simp; try with_reducible rfl
    (try simp only [Act.put, tz0, tz1, tz2])
    refine wpAnyH_take (i := 8) (v := (.bool false)) (op_at rfl) (by kernel_rfl) (by kernel_rfl) (by kernel_rfl) (fun _ _ _ h => h) (Or.inl ⟨rfl, fun w hSw => ?_⟩) (by assumption) ?_
    · (try dsimp only at hSw); go_simp; try with_reducible rfl
    (try simp only [Act.put, tz0, tz1, tz2])
    refine wpAnyH_take (i := 15) (v := (.pointer (some ⟨L, 3, none⟩))) (op_at rfl) (by kernel_rfl) (by kernel_rfl) (by kernel_rfl) (fun _ _ _ h => h) (Or.inl ⟨rfl, fun w hSw => ?_⟩) (by assumption) ?_
    · (try dsimp only at hSw); go_simp; try with_reducible rfl
    (try simp only [Act.put, tz0, tz1, tz2])
    refine wpAnyH_take (i := 16) (v := (.slice p n cap)) (op_at rfl) (by kernel_rfl) (by kernel_rfl) (by kernel_rfl) (fun _ _ _ h => h) (Or.inl ⟨rfl, fun w hSw => ?_⟩) (by assumption) ?_
    · (try dsimp only at hSw); go_simp; try with_reducible rfl
    (try simp only [Act.put, tz0, tz1, tz2])
    refine wpAnyH_take (i := 17) (v := (.int .i64 n)) (op_at rfl) (by kernel_rfl) (by kernel_rfl) (by kernel_rfl) (fun _ _ _ h => h) (Or.inl ⟨rfl, fun w hSw => ?_⟩) (by assumption) ?_
    · (try dsimp only at hSw); go_simp; try with_reducible rfl
    (try simp only [Act.put, tz0, tz1, tz2])
    refine wpAnyH_take (i := 18) (v := (.bool mB)) (op_at rfl) (by kernel_rfl) (by kernel_rfl) (by kernel_rfl) (fun _ _ _ h => h) (Or.inl ⟨rfl, fun w hSw => ?_⟩) (by assumption) ?_
    · (try dsimp only at hSw); go_simp; try with_reducible rfl
    (try simp only [Act.put, tz0, tz1, tz2])
    refine wpAnyH_ready (rs := [2]) (by kernel_rfl) (by simp) (AllReadyH.cons (op_at rfl) (fun K hK => ?_) AllReadyH.nil)
    go_simp
    (refine (H1.out _ g).mono ?_; rintro e W2 ⟨rfl, hg⟩; replace s0 := hg.cell s0; replace s1 := hg.cell s1; replace s2 := hg.cell s2; replace s3 := hg.cell s3; replace g := g.trans hg; clear hg)
    go_wp2_with fail
    refine hK.out _ _ ⟨s0, s1, s2, s3⟩ (fun hHeld => ?_)
    clear hK K
    (try simp only [Act.put, tz0, tz1, tz2])
    refine wpAnyH_ready (rs := [5]) (by kernel_rfl) (by simp) (AllReadyH.cons (op_at rfl) (fun K hK => ?_) AllReadyH.nil)
    go_simp
    (refine (H2.out _).mono ?_; rintro e w' ⟨rfl, rfl⟩)
    go_wp2_with fail
    refine hK.out _ _ ⟨s0, s1, s2, s3⟩ (fun hHeld => ?_)
    clear hK K
    (try simp only [Act.put, tz0, tz1, tz2])
    refine wpAnyH_take (i := 9) (v := (.bool false)) (op_at rfl) (by kernel_rfl) (by kernel_rfl) (by kernel_rfl) (fun _ _ _ h => h) (Or.inl ⟨rfl, fun w hSw => ?_⟩) (by assumption) ?_
    · (try dsimp only at hSw); go_simp; try with_reducible rfl
    (try simp only [Act.put, tz0, tz1, tz2])
    refine wpAnyH_take (i := 10) (v := undef) (op_at rfl) (by kernel_rfl) (by kernel_rfl) (by kernel_rfl) (fun _ _ _ h => h) (Or.inr ⟨rfl, rfl⟩) (by assumption) ?_
    (try simp only [Act.put, tz0, tz1, tz2])
    refine wpAnyH_take (i := 11) (v := undef) (op_at rfl) (by kernel_rfl) (by kernel_rfl) (by kernel_rfl) (fun _ _ _ h => h) (Or.inr ⟨rfl, rfl⟩) (by assumption) ?_
    (try simp only [Act.put, tz0, tz1, tz2])
    refine wpAnyH_take (i := 12) (v := undef) (op_at rfl) (by kernel_rfl) (by kernel_rfl) (by kernel_rfl) (fun _ _ _ h => h) (Or.inr ⟨rfl, rfl⟩) (by assumption) ?_
    (try simp only [Act.put, tz0, tz1, tz2])
    refine wpAnyH_take (i := 13) (v := (.bool false)) (op_at rfl) (by kernel_rfl) (by kernel_rfl) (by kernel_rfl) (fun _ _ _ h => h) (Or.inl ⟨rfl, fun w hSw => ?_⟩) (by assumption) ?_
    · (try dsimp only at hSw); go_simp; try with_reducible rfl
    (try simp only [Act.put, tz0, tz1, tz2])
    refine wpAnyH_ready (rs := [14]) (by kernel_rfl) (by simp) (AllReadyH.cons (op_at rfl) (fun K hK => ?_) AllReadyH.nil)
    go_simp
    (refine (H3.out _).mono ?_; rintro e w' ⟨rfl, rfl⟩)
    go_wp2_with fail
    refine hK.out _ _ ⟨s0, s1, s2, s3⟩ (fun hHeld => ?_)
    clear hK K
    (try simp only [Act.put, tz0, tz1, tz2])
    refine wpAnyH_ready (rs := [19]) (by kernel_rfl) (by simp) (AllReadyH.cons (op_at rfl) (fun K hK => ?_) AllReadyH.nil)
    go_simp
    (refine (H4.out _).mono ?_; rintro e w' ⟨rfl, rfl⟩)
    go_wp2_with fail
    refine hK.out _ _ ⟨s0, s1, s2, s3⟩ (fun hHeld => ?_)
    clear hK K
    (try simp only [Act.put, tz0, tz1, tz2])
    refine wpAnyH_ready (rs := [20]) (by kernel_rfl) (by simp) (AllReadyH.cons (op_at rfl) (fun K hK => ?_) AllReadyH.nil)
    go_simp
    obtain ⟨WW, hWW, gW, q0, q1, q2, q3⟩ := box4 W2 (.int .i64 e1) (.int .i64 e2) (.int .i64 e3) (.int .i64 e4) 37
    rw [hWW]
    clear hWW
    replace s0 := gW.cell s0
    replace s1 := gW.cell s1
    replace s2 := gW.cell s2
    replace s3 := gW.cell s3
    replace g := g.trans gW
    refine hK.out _ _ ⟨s0, s1, s2, s3⟩ (fun hHeld => ?_)
    clear hK K
    (try simp only [Act.put, tz0, tz1, tz2])
    refine wpAnyH_ready (rs := [21]) (by kernel_rfl) (by simp) (AllReadyH.cons (op_at rfl) (fun K hK => ?_) AllReadyH.nil)
    go_simp
    (refine (HF.out _ _ WW q0 q1 q2 q3).mono ?_; rintro e w8 ⟨rfl, rfl⟩; rw [HFz.out])
    go_wp2_with fail
    refine hK.out _ _ ⟨s0, s1, s2, s3⟩ (fun hHeld => ?_)
    clear hK K
    (try simp only [Act.put, tz0, tz1, tz2])
    refine wpAnyH_take (i := 22) (v := (.int .i64 err)) (op_at rfl) (by kernel_rfl) (by kernel_rfl) (by kernel_rfl) (fun _ _ _ h => h) (Or.inl ⟨rfl, fun w hSw => ?_⟩) (by assumption) ?_
    · (try dsimp only at hSw); go_simp; try with_reducible rfl
    (try simp only [Act.put, tz0, tz1, tz2])
    refine wpAnyH_done (by kernel_rfl) ?_ _
    have hmm := @run_makeMap Tryz.prog
    have gb : Gr WW ((WW.alloc (.map #[] 0)).alloc (.cells #[.map (some WW.heap.size)] 85)) := ((Gr.refl WW).alloc _).alloc _
    have esz : (WW.alloc (.map #[] 0)).heap.size = WW.heap.size + 1 := by simp
    have mb := cell_new (WW.alloc (.map #[] 0)) #[.map (some WW.heap.size)] 85 0 (by simp)
    simp only [List.getElem_toArray, List.getElem_cons_zero] at mb
    rw [esz] at mb
    have s3b := gb.cell s3
    have HT := Lib.hid (HEACH.out ((WW.alloc (.map #[] 0)).alloc (.cells #[.map (some WW.heap.size)] 85)) (WW.heap.size + 1) WW.heap.size HN.out (by rw [← hLw]; exact g.size)
      ⟨g.trans gb, ⟨[], (mapG_new WW).gr ((Gr.refl _).alloc _), SeenO.nil xs⟩, mb, ⟨gb.cell s0, gb.cell s1, gb.cell s2, gb.cell s3⟩⟩)
    clear HEACH gb esz HN hLw hsz
    go_wp2_with fail
    refine HT.out.mono ?_
    rintro e w9 ⟨rfl, hg9⟩
    go_wp2_with fail
    go_ret
    exact ⟨by rw [HRZ.out]; rfl, hg9⟩
  · have hz0 : (err != 0) = true := bne_iff_ne.2 h00
    have HRZ : Hid (SE = err) := by unfold Hid; rw [HRES.out, if_neg h00]
    clear HM HRES h00 HEACH
    go_enter Tryz.func58, Tryz.ntmps58
    go_wp2_with fail
    rw [HW.out]
    clear HW
    generalize hLw : w.heap.size = L at *
    have gd := (Gr.refl W).drew
    replace s0 := gd.cell s0
    replace s1 := gd.cell s1
    replace s2 := gd.cell s2
    replace s3 := gd.cell s3
    replace g := g.trans gd
    clear gd
    refine wp_region_held_drew (S := (fun w' => w'.cell? ⟨L, 0, none⟩ = some (.string ro) ∧ w'.cell? ⟨L, 1, none⟩ = some (.int .i64 va) ∧ w'.cell? ⟨L, 2, none⟩ = some (.string st) ∧ w'.cell? ⟨L, 3, none⟩ = some (.slice p n cap))) (by kernel_rfl) ⟨s0, s1, s2, s3⟩ (fun hHeld => ?_)
    generalize W.drew = V2 at *
    refine wpAnyH_take (i := 0) (v := (.pointer (some ⟨L, 0, none⟩))) (op_at rfl) (by kernel_rfl) (by kernel_rfl) (by kernel_rfl) (fun _ _ _ h => h) (Or.inl ⟨rfl, fun w hSw => ?_⟩) (by assumption) ?_
    · (try dsimp only at hSw); go_simp; try with_reducible rfl
    (try simp only [Act.put, tz0, tz1, tz2])
    refine wpAnyH_take (i := 1) (v := (.string ro)) (op_at rfl) (by kernel_rfl) (by kernel_rfl) (by kernel_rfl) (fun _ _ _ h => h) (Or.inl ⟨rfl, fun w hSw => ?_⟩) (by assumption) ?_
    · (try dsimp only at hSw); go_simp; try with_reducible rfl
    (try simp only [Act.put, tz0, tz1, tz2])
    refine wpAnyH_take (i := 3) (v := (.pointer (some ⟨L, 1, none⟩))) (op_at rfl) (by kernel_rfl) (by kernel_rfl) (by kernel_rfl) (fun _ _ _ h => h) (Or.inl ⟨rfl, fun w hSw => ?_⟩) (by assumption) ?_
    · (try dsimp only at hSw); go_simp; try with_reducible rfl
    (try simp only [Act.put, tz0, tz1, tz2])
    refine wpAnyH_take (i := 4) (v := (.int .i64 va)) (op_at rfl) (by kernel_rfl) (by kernel_rfl) (by kernel_rfl) (fun _ _ _ h => h) (Or.inl ⟨rfl, fun w hSw => ?_⟩) (by assumption) ?_
    · (try dsimp only at hSw); go_simp; try with_reducible rfl
    (try simp only [Act.put, tz0, tz1, tz2])
    refine wpAnyH_take (i := 6) (v := (.pointer (some ⟨L, 2, none⟩))) (op_at rfl) (by kernel_rfl) (by kernel_rfl) (by kernel_rfl) (fun _ _ _ h => h) (Or.inl ⟨rfl, fun w hSw => ?_⟩) (by assumption) ?_
    · (try dsimp only at hSw); go_simp; try with_reducible rfl
    (try simp only [Act.put, tz0, tz1, tz2])
    refine wpAnyH_take (i := 7) (v := (.string st)) (op_at rfl) (by kernel_rfl) (by kernel_rfl) (by kernel_rfl) (fun _ _ _ h => h) (Or.inl ⟨rfl, fun w hSw => ?_⟩) (by assumption) ?_
    · (try dsimp only at hSw); go_simp; try with_reducible rfl
    (try simp only [Act.put, tz0, tz1, tz2])
    refine wpAnyH_take (i := 8) (v := (.bool false)) (op_at rfl) (by kernel_rfl) (by kernel_rfl) (by kernel_rfl) (fun _ _ _ h => h) (Or.inl ⟨rfl, fun w hSw => ?_⟩) (by assumption) ?_
    · (try dsimp only at hSw); go_simp; try with_reducible rfl
    (try simp only [Act.put, tz0, tz1, tz2])
    refine wpAnyH_take (i := 15) (v := (.pointer (some ⟨L, 3, none⟩))) (op_at rfl) (by kernel_rfl) (by kernel_rfl) (by kernel_rfl) (fun _ _ _ h => h) (Or.inl ⟨rfl, fun w hSw => ?_⟩) (by assumption) ?_
    · (try dsimp only at hSw); go_simp; try with_reducible rfl
    (try simp only [Act.put, tz0, tz1, tz2])
    refine wpAnyH_take (i := 16) (v := (.slice p n cap)) (op_at rfl) (by kernel_rfl) (by kernel_rfl) (by kernel_rfl) (fun _ _ _ h => h) (Or.inl ⟨rfl, fun w hSw => ?_⟩) (by assumption) ?_
    · (try dsimp only at hSw); go_simp; try with_reducible rfl
    (try simp only [Act.put, tz0, tz1, tz2])
    refine wpAnyH_take (i := 17) (v := (.int .i64 n)) (op_at rfl) (by kernel_rfl) (by kernel_rfl) (by kernel_rfl) (fun _ _ _ h => h) (Or.inl ⟨rfl, fun w hSw => ?_⟩) (by assumption) ?_
    · (try dsimp only at hSw); go_simp; try with_reducible rfl
    (try simp only [Act.put, tz0, tz1, tz2])
    refine wpAnyH_take (i := 18) (v := (.bool mB)) (op_at rfl) (by kernel_rfl) (by kernel_rfl) (by kernel_rfl) (fun _ _ _ h => h) (Or.inl ⟨rfl, fun w hSw => ?_⟩) (by assumption) ?_
    · (try dsimp only at hSw); go_simp; try with_reducible rfl
    (try simp only [Act.put, tz0, tz1, tz2])
    refine wpAnyH_ready (rs := [2]) (by kernel_rfl) (by simp) (AllReadyH.cons (op_at rfl) (fun K hK => ?_) AllReadyH.nil)
    go_simp
    (refine (H1.out _ g).mono ?_; rintro e W2 ⟨rfl, hg⟩; replace s0 := hg.cell s0; replace s1 := hg.cell s1; replace s2 := hg.cell s2; replace s3 := hg.cell s3; replace g := g.trans hg; clear hg)
    go_wp2_with fail
    refine hK.out _ _ ⟨s0, s1, s2, s3⟩ (fun hHeld => ?_)
    clear hK K
    (try simp only [Act.put, tz0, tz1, tz2])
    refine wpAnyH_ready (rs := [5]) (by kernel_rfl) (by simp) (AllReadyH.cons (op_at rfl) (fun K hK => ?_) AllReadyH.nil)
    go_simp
    (refine (H2.out _).mono ?_; rintro e w' ⟨rfl, rfl⟩)
    go_wp2_with fail
    refine hK.out _ _ ⟨s0, s1, s2, s3⟩ (fun hHeld => ?_)
    clear hK K
    (try simp only [Act.put, tz0, tz1, tz2])
    refine wpAnyH_take (i := 9) (v := (.bool false)) (op_at rfl) (by kernel_rfl) (by kernel_rfl) (by kernel_rfl) (fun _ _ _ h => h) (Or.inl ⟨rfl, fun w hSw => ?_⟩) (by assumption) ?_
    · (try dsimp only at hSw); go_simp; try with_reducible rfl
    (try simp only [Act.put, tz0, tz1, tz2])
    refine wpAnyH_take (i := 10) (v := undef) (op_at rfl) (by kernel_rfl) (by kernel_rfl) (by kernel_rfl) (fun _ _ _ h => h) (Or.inr ⟨rfl, rfl⟩) (by assumption) ?_
    (try simp only [Act.put, tz0, tz1, tz2])
    refine wpAnyH_take (i := 11) (v := undef) (op_at rfl) (by kernel_rfl) (by kernel_rfl) (by kernel_rfl) (fun _ _ _ h => h) (Or.inr ⟨rfl, rfl⟩) (by assumption) ?_
    (try simp only [Act.put, tz0, tz1, tz2])
    refine wpAnyH_take (i := 12) (v := undef) (op_at rfl) (by kernel_rfl) (by kernel_rfl) (by kernel_rfl) (fun _ _ _ h => h) (Or.inr ⟨rfl, rfl⟩) (by assumption) ?_
    (try simp only [Act.put, tz0, tz1, tz2])
    refine wpAnyH_take (i := 13) (v := (.bool false)) (op_at rfl) (by kernel_rfl) (by kernel_rfl) (by kernel_rfl) (fun _ _ _ h => h) (Or.inl ⟨rfl, fun w hSw => ?_⟩) (by assumption) ?_
    · (try dsimp only at hSw); go_simp; try with_reducible rfl
    (try simp only [Act.put, tz0, tz1, tz2])
    refine wpAnyH_ready (rs := [14]) (by kernel_rfl) (by simp) (AllReadyH.cons (op_at rfl) (fun K hK => ?_) AllReadyH.nil)
    go_simp
    (refine (H3.out _).mono ?_; rintro e w' ⟨rfl, rfl⟩)
    go_wp2_with fail
    refine hK.out _ _ ⟨s0, s1, s2, s3⟩ (fun hHeld => ?_)
    clear hK K
    (try simp only [Act.put, tz0, tz1, tz2])
    refine wpAnyH_ready (rs := [19]) (by kernel_rfl) (by simp) (AllReadyH.cons (op_at rfl) (fun K hK => ?_) AllReadyH.nil)
    go_simp
    (refine (H4.out _).mono ?_; rintro e w' ⟨rfl, rfl⟩)
    go_wp2_with fail
    refine hK.out _ _ ⟨s0, s1, s2, s3⟩ (fun hHeld => ?_)
    clear hK K
    (try simp only [Act.put, tz0, tz1, tz2])
    refine wpAnyH_ready (rs := [20]) (by kernel_rfl) (by simp) (AllReadyH.cons (op_at rfl) (fun K hK => ?_) AllReadyH.nil)
    go_simp
    obtain ⟨WW, hWW, gW, q0, q1, q2, q3⟩ := box4 W2 (.int .i64 e1) (.int .i64 e2) (.int .i64 e3) (.int .i64 e4) 37
    rw [hWW]
    clear hWW
    replace s0 := gW.cell s0
    replace s1 := gW.cell s1
    replace s2 := gW.cell s2
    replace s3 := gW.cell s3
    replace g := g.trans gW
    refine hK.out _ _ ⟨s0, s1, s2, s3⟩ (fun hHeld => ?_)
    clear hK K
    (try simp only [Act.put, tz0, tz1, tz2])
    refine wpAnyH_ready (rs := [21]) (by kernel_rfl) (by simp) (AllReadyH.cons (op_at rfl) (fun K hK => ?_) AllReadyH.nil)
    go_simp
    (refine (HF.out _ _ WW q0 q1 q2 q3).mono ?_; rintro e w8 ⟨rfl, rfl⟩; rw [HFz.out])
    go_wp2_with fail
    refine hK.out _ _ ⟨s0, s1, s2, s3⟩ (fun hHeld => ?_)
    clear hK K
    (try simp only [Act.put, tz0, tz1, tz2])
    refine wpAnyH_take (i := 22) (v := (.int .i64 err)) (op_at rfl) (by kernel_rfl) (by kernel_rfl) (by kernel_rfl) (fun _ _ _ h => h) (Or.inl ⟨rfl, fun w hSw => ?_⟩) (by assumption) ?_
    · (try dsimp only at hSw); go_simp; try with_reducible rfl
    (try simp only [Act.put, tz0, tz1, tz2])
    refine wpAnyH_done (by kernel_rfl) ?_ _
    go_wp2_with fail
    go_ret
    exact ⟨by rw [HRZ.out]; rfl, g⟩
set_option maxHeartbeats 4000000 in
set_option maxRecDepth 100000 in
theorem checkSheet_c {w : World} {xs : List RowR} {p : Option Addr} {n cap : Nat} {ro st : ByteArray} {va : Int} (hv : RowsV w (.slice p n cap) xs) (h : st.toList = [99, 108, 111, 115, 101, 100]) :
    Calls Tryz.prog 58 #[.agg #[.string ro, .int .i64 va, .string st, .slice p n cap]] w fun e w' => e = .returned (.int .i64 (sheetE ro va st xs)) ∧ Gr w w' := by
  obtain ⟨hn, hcap, hh⟩ := hv.atO
  have hHE : headE ro va st xs.length = firstE [nmE ro, outE va 1 16, if false = true then 13 else 0, if decide ((160 : Int) < n) = true then 5 else 0] := by
    unfold headE
    rw [hn]
    have : isOC st = false := by unfold isOC; first | (rw [h]; rfl) | (rw [hq1, hq2]; rfl)
    rw [this]
  have HEACH := Lib.hid (fun (W : World) (M : Nat) (mg : Nat) (h1 : n ≤ 160) (hg : w.heap.size ≤ mg) (hK : ShKeep w W M w.heap.size mg ro va st (.slice p n cap) xs 0) =>
    (show Calls Tryz.prog 99 #[.slice p n cap, .func (.func 100) #[] #[.pointer (some ⟨M, 0, none⟩), .pointer (some ⟨w.heap.size, 0, none⟩)]] W fun e w' => e = .returned (.int .i64 (errG (oneShE va xs) xs n 0)) ∧ Gr w w' from by
      by_cases h0 : 0 < n
      · obtain ⟨b, off, rfl, hc⟩ := hh h0
        exact eachSh_c hn h1 hcap.1 hcap.2 hc ⟨_, _, _, rfl⟩ hg hK
      · obtain rfl : n = 0 := by omega
        exact (eachSh_nil p cap M w.heap.size W).mono fun e w' ⟨he, hw⟩ => ⟨he, hw ▸ hK.gr⟩))
  have HRES : Hid (sheetE ro va st xs = if headE ro va st xs.length = 0 then errG (oneShE va xs) xs n 0 else headE ro va st xs.length) := by unfold Hid sheetE; rw [hn]
  obtain ⟨e1, h1', H1⟩ := oname_e ro
  obtain ⟨e2, h2', H2⟩ := range_e va 1 16
  obtain ⟨e3, h3', H3⟩ := if_e false 13
  obtain ⟨mB, hmB⟩ : ∃ m, decide ((160 : Int) < n) = m := ⟨_, rfl⟩
  obtain ⟨e4, h4', H4⟩ := if_e mB 5
  rw [hmB, ← h1', ← h2', ← h3', ← h4'] at hHE
  have HF := Lib.hid (fun b cap w => first_four e1 e2 e3 e4 b cap w)
  obtain ⟨err, hErr⟩ : ∃ z, z = headE ro va st xs.length := ⟨_, rfl⟩
  rw [← hErr] at HRES hHE
  have HFz : Hid (firstE [e1, e2, e3, e4] = err) := hHE.symm
  have HM : Hid (err = 0 → n ≤ 160) := by
    intro h0
    have hz := firstE_zero (l := [e1, e2, e3, e4]) (by rw [HFz.out]; exact h0) e4 (by simp)
    rw [hz] at h4'
    cases mB
    · have := of_decide_eq_false hmB; omega
    · simp at h4'
  obtain ⟨W, hW, g, s0, s1, s2, s3⟩ := box4 w (.string ro) (.int .i64 va) (.string st) (.slice p n cap) 27
  have HW := Lib.hid hW
  replace H1 := Lib.hid (fun W' (_ : Gr w W') => H1 W')
  replace H2 := Lib.hid H2
  replace H3 := Lib.hid H3
  replace H4 := Lib.hid H4
  obtain ⟨R, hR⟩ : ∃ z, z = errG (oneShE va xs) xs n 0 := ⟨_, rfl⟩
  rw [← hR] at HRES HEACH
  obtain ⟨SE, hSE⟩ : ∃ z, z = sheetE ro va st xs := ⟨_, rfl⟩
  rw [← hSE] at HRES ⊢
  clear hW hHE hErr h1' h2' h3' h4' hR hSE hh hn hcap hv
  have hsz : w.heap.size ≤ W.heap.size := g.size
  by_cases h00 : err = 0
  · have hz0 : (err != 0) = false := by rw [h00]; rfl
    have HRZ : Hid (SE = R) := by unfold Hid; rw [HRES.out, if_pos h00]
    have HN := Lib.hid (HM.out h00)
    clear HM HRES h00
    have hq1 : (st.toList == [111, 112, 101, 110]) = false := by rw [h]; rfl
    go_enter Tryz.func58, Tryz.ntmps58
    go_wp2_with fail
    rw [HW.out]
    clear HW
    generalize hLw : w.heap.size = L at *
    have gd := (Gr.refl W).drew
    replace s0 := gd.cell s0
    replace s1 := gd.cell s1
    replace s2 := gd.cell s2
    replace s3 := gd.cell s3
    replace g := g.trans gd
    clear gd
    refine wp_region_held_drew (S := (fun w' => w'.cell? ⟨L, 0, none⟩ = some (.string ro) ∧ w'.cell? ⟨L, 1, none⟩ = some (.int .i64 va) ∧ w'.cell? ⟨L, 2, none⟩ = some (.string st) ∧ w'.cell? ⟨L, 3, none⟩ = some (.slice p n cap))) (by kernel_rfl) ⟨s0, s1, s2, s3⟩ (fun hHeld => ?_)
    generalize W.drew = V2 at *
    refine wpAnyH_take (i := 0) (v := (.pointer (some ⟨L, 0, none⟩))) (op_at rfl) (by kernel_rfl) (by kernel_rfl) (by kernel_rfl) (fun _ _ _ h => h) (Or.inl ⟨rfl, fun w hSw => ?_⟩) (by assumption) ?_
    · (try dsimp only at hSw); go_simp; try with_reducible rfl
    (try simp only [Act.put, tz0, tz1, tz2])
    refine wpAnyH_take (i := 1) (v := (.string ro)) (op_at rfl) (by kernel_rfl) (by kernel_rfl) (by kernel_rfl) (fun _ _ _ h => h) (Or.inl ⟨rfl, fun w hSw => ?_⟩) (by assumption) ?_
    · (try dsimp only at hSw); go_simp; try with_reducible rfl
    (try simp only [Act.put, tz0, tz1, tz2])
    refine wpAnyH_take (i := 3) (v := (.pointer (some ⟨L, 1, none⟩))) (op_at rfl) (by kernel_rfl) (by kernel_rfl) (by kernel_rfl) (fun _ _ _ h => h) (Or.inl ⟨rfl, fun w hSw => ?_⟩) (by assumption) ?_
    · (try dsimp only at hSw); go_simp; try with_reducible rfl
    (try simp only [Act.put, tz0, tz1, tz2])
    refine wpAnyH_take (i := 4) (v := (.int .i64 va)) (op_at rfl) (by kernel_rfl) (by kernel_rfl) (by kernel_rfl) (fun _ _ _ h => h) (Or.inl ⟨rfl, fun w hSw => ?_⟩) (by assumption) ?_
    · (try dsimp only at hSw); go_simp; try with_reducible rfl
    (try simp only [Act.put, tz0, tz1, tz2])
    refine wpAnyH_take (i := 6) (v := (.pointer (some ⟨L, 2, none⟩))) (op_at rfl) (by kernel_rfl) (by kernel_rfl) (by kernel_rfl) (fun _ _ _ h => h) (Or.inl ⟨rfl, fun w hSw => ?_⟩) (by assumption) ?_
    · (try dsimp only at hSw); go_simp; try with_reducible rfl
    (try simp only [Act.put, tz0, tz1, tz2])
    refine wpAnyH_take (i := 7) (v := (.string st)) (op_at rfl) (by kernel_rfl) (by kernel_rfl) (by kernel_rfl) (fun _ _ _ h => h) (Or.inl ⟨rfl, fun w hSw => ?_⟩) (by assumption) ?_
    · (try dsimp only at hSw); go_simp; try with_reducible rfl
    (try simp only [Act.put, tz0, tz1, tz2])
    refine wpAnyH_take (i := 8) (v := (.bool true)) (op_at rfl) (by kernel_rfl) (by kernel_rfl) (by kernel_rfl) (fun _ _ _ h => h) (Or.inl ⟨rfl, fun w hSw => ?_⟩) (by assumption) ?_
    · (try dsimp only at hSw); go_simp; try with_reducible rfl
    (try simp only [Act.put, tz0, tz1, tz2])
    refine wpAnyH_take (i := 15) (v := (.pointer (some ⟨L, 3, none⟩))) (op_at rfl) (by kernel_rfl) (by kernel_rfl) (by kernel_rfl) (fun _ _ _ h => h) (Or.inl ⟨rfl, fun w hSw => ?_⟩) (by assumption) ?_
    · (try dsimp only at hSw); go_simp; try with_reducible rfl
    (try simp only [Act.put, tz0, tz1, tz2])
    refine wpAnyH_take (i := 16) (v := (.slice p n cap)) (op_at rfl) (by kernel_rfl) (by kernel_rfl) (by kernel_rfl) (fun _ _ _ h => h) (Or.inl ⟨rfl, fun w hSw => ?_⟩) (by assumption) ?_
    · (try dsimp only at hSw); go_simp; try with_reducible rfl
    (try simp only [Act.put, tz0, tz1, tz2])
    refine wpAnyH_take (i := 17) (v := (.int .i64 n)) (op_at rfl) (by kernel_rfl) (by kernel_rfl) (by kernel_rfl) (fun _ _ _ h => h) (Or.inl ⟨rfl, fun w hSw => ?_⟩) (by assumption) ?_
    · (try dsimp only at hSw); go_simp; try with_reducible rfl
    (try simp only [Act.put, tz0, tz1, tz2])
    refine wpAnyH_take (i := 18) (v := (.bool mB)) (op_at rfl) (by kernel_rfl) (by kernel_rfl) (by kernel_rfl) (fun _ _ _ h => h) (Or.inl ⟨rfl, fun w hSw => ?_⟩) (by assumption) ?_
    · (try dsimp only at hSw); go_simp; try with_reducible rfl
    (try simp only [Act.put, tz0, tz1, tz2])
    refine wpAnyH_ready (rs := [2]) (by kernel_rfl) (by simp) (AllReadyH.cons (op_at rfl) (fun K hK => ?_) AllReadyH.nil)
    go_simp
    (refine (H1.out _ g).mono ?_; rintro e W2 ⟨rfl, hg⟩; replace s0 := hg.cell s0; replace s1 := hg.cell s1; replace s2 := hg.cell s2; replace s3 := hg.cell s3; replace g := g.trans hg; clear hg)
    go_wp2_with fail
    refine hK.out _ _ ⟨s0, s1, s2, s3⟩ (fun hHeld => ?_)
    clear hK K
    (try simp only [Act.put, tz0, tz1, tz2])
    refine wpAnyH_ready (rs := [5]) (by kernel_rfl) (by simp) (AllReadyH.cons (op_at rfl) (fun K hK => ?_) AllReadyH.nil)
    go_simp
    (refine (H2.out _).mono ?_; rintro e w' ⟨rfl, rfl⟩)
    go_wp2_with fail
    refine hK.out _ _ ⟨s0, s1, s2, s3⟩ (fun hHeld => ?_)
    clear hK K
    (try simp only [Act.put, tz0, tz1, tz2])
    refine wpAnyH_take (i := 9) (v := (.bool true)) (op_at rfl) (by kernel_rfl) (by kernel_rfl) (by kernel_rfl) (fun _ _ _ h => h) (Or.inl ⟨rfl, fun w hSw => ?_⟩) (by assumption) ?_
    · (try dsimp only at hSw); go_simp; try with_reducible rfl
    (try simp only [Act.put, tz0, tz1, tz2])
    refine wpAnyH_take (i := 10) (v := (.pointer (some ⟨L, 2, none⟩))) (op_at rfl) (by kernel_rfl) (by kernel_rfl) (by kernel_rfl) (fun _ _ _ h => h) (Or.inl ⟨rfl, fun w hSw => ?_⟩) (by assumption) ?_
    · (try dsimp only at hSw); go_simp; try with_reducible rfl
    (try simp only [Act.put, tz0, tz1, tz2])
    refine wpAnyH_take (i := 11) (v := (.string st)) (op_at rfl) (by kernel_rfl) (by kernel_rfl) (by kernel_rfl) (fun _ _ _ h => h) (Or.inl ⟨rfl, fun w hSw => ?_⟩) (by assumption) ?_
    · (try dsimp only at hSw); go_simp; try with_reducible rfl
    (try simp only [Act.put, tz0, tz1, tz2])
    refine wpAnyH_take (i := 12) (v := (.bool false)) (op_at rfl) (by kernel_rfl) (by kernel_rfl) (by kernel_rfl) (fun _ _ _ h => h) (Or.inl ⟨rfl, fun w hSw => ?_⟩) (by assumption) ?_
    · (try dsimp only at hSw); go_simp; try with_reducible rfl
    (try simp only [Act.put, tz0, tz1, tz2])
    refine wpAnyH_take (i := 13) (v := (.bool false)) (op_at rfl) (by kernel_rfl) (by kernel_rfl) (by kernel_rfl) (fun _ _ _ h => h) (Or.inl ⟨rfl, fun w hSw => ?_⟩) (by assumption) ?_
    · (try dsimp only at hSw); go_simp; try with_reducible rfl
    (try simp only [Act.put, tz0, tz1, tz2])
    refine wpAnyH_ready (rs := [14]) (by kernel_rfl) (by simp) (AllReadyH.cons (op_at rfl) (fun K hK => ?_) AllReadyH.nil)
    go_simp
    (refine (H3.out _).mono ?_; rintro e w' ⟨rfl, rfl⟩)
    go_wp2_with fail
    refine hK.out _ _ ⟨s0, s1, s2, s3⟩ (fun hHeld => ?_)
    clear hK K
    (try simp only [Act.put, tz0, tz1, tz2])
    refine wpAnyH_ready (rs := [19]) (by kernel_rfl) (by simp) (AllReadyH.cons (op_at rfl) (fun K hK => ?_) AllReadyH.nil)
    go_simp
    (refine (H4.out _).mono ?_; rintro e w' ⟨rfl, rfl⟩)
    go_wp2_with fail
    refine hK.out _ _ ⟨s0, s1, s2, s3⟩ (fun hHeld => ?_)
    clear hK K
    (try simp only [Act.put, tz0, tz1, tz2])
    refine wpAnyH_ready (rs := [20]) (by kernel_rfl) (by simp) (AllReadyH.cons (op_at rfl) (fun K hK => ?_) AllReadyH.nil)
    go_simp
    obtain ⟨WW, hWW, gW, q0, q1, q2, q3⟩ := box4 W2 (.int .i64 e1) (.int .i64 e2) (.int .i64 e3) (.int .i64 e4) 37
    rw [hWW]
    clear hWW
    replace s0 := gW.cell s0
    replace s1 := gW.cell s1
    replace s2 := gW.cell s2
    replace s3 := gW.cell s3
    replace g := g.trans gW
    refine hK.out _ _ ⟨s0, s1, s2, s3⟩ (fun hHeld => ?_)
    clear hK K
    (try simp only [Act.put, tz0, tz1, tz2])
    refine wpAnyH_ready (rs := [21]) (by kernel_rfl) (by simp) (AllReadyH.cons (op_at rfl) (fun K hK => ?_) AllReadyH.nil)
    go_simp
    (refine (HF.out _ _ WW q0 q1 q2 q3).mono ?_; rintro e w8 ⟨rfl, rfl⟩; rw [HFz.out])
    go_wp2_with fail
    refine hK.out _ _ ⟨s0, s1, s2, s3⟩ (fun hHeld => ?_)
    clear hK K
    (try simp only [Act.put, tz0, tz1, tz2])
    refine wpAnyH_take (i := 22) (v := (.int .i64 err)) (op_at rfl) (by kernel_rfl) (by kernel_rfl) (by kernel_rfl) (fun _ _ _ h => h) (Or.inl ⟨rfl, fun w hSw => ?_⟩) (by assumption) ?_
    · (try dsimp only at hSw); go_simp; try with_reducible rfl
    (try simp only [Act.put, tz0, tz1, tz2])
    refine wpAnyH_done (by kernel_rfl) ?_ _
    have hmm := @run_makeMap Tryz.prog
    have gb : Gr WW ((WW.alloc (.map #[] 0)).alloc (.cells #[.map (some WW.heap.size)] 85)) := ((Gr.refl WW).alloc _).alloc _
    have esz : (WW.alloc (.map #[] 0)).heap.size = WW.heap.size + 1 := by simp
    have mb := cell_new (WW.alloc (.map #[] 0)) #[.map (some WW.heap.size)] 85 0 (by simp)
    simp only [List.getElem_toArray, List.getElem_cons_zero] at mb
    rw [esz] at mb
    have s3b := gb.cell s3
    have HT := Lib.hid (HEACH.out ((WW.alloc (.map #[] 0)).alloc (.cells #[.map (some WW.heap.size)] 85)) (WW.heap.size + 1) WW.heap.size HN.out (by rw [← hLw]; exact g.size)
      ⟨g.trans gb, ⟨[], (mapG_new WW).gr ((Gr.refl _).alloc _), SeenO.nil xs⟩, mb, ⟨gb.cell s0, gb.cell s1, gb.cell s2, gb.cell s3⟩⟩)
    clear HEACH gb esz HN hLw hsz
    go_wp2_with fail
    refine HT.out.mono ?_
    rintro e w9 ⟨rfl, hg9⟩
    go_wp2_with fail
    go_ret
    exact ⟨by rw [HRZ.out]; rfl, hg9⟩
  · have hz0 : (err != 0) = true := bne_iff_ne.2 h00
    have HRZ : Hid (SE = err) := by unfold Hid; rw [HRES.out, if_neg h00]
    clear HM HRES h00 HEACH
    have hq1 : (st.toList == [111, 112, 101, 110]) = false := by rw [h]; rfl
    go_enter Tryz.func58, Tryz.ntmps58
    go_wp2_with fail
    rw [HW.out]
    clear HW
    generalize hLw : w.heap.size = L at *
    have gd := (Gr.refl W).drew
    replace s0 := gd.cell s0
    replace s1 := gd.cell s1
    replace s2 := gd.cell s2
    replace s3 := gd.cell s3
    replace g := g.trans gd
    clear gd
    refine wp_region_held_drew (S := (fun w' => w'.cell? ⟨L, 0, none⟩ = some (.string ro) ∧ w'.cell? ⟨L, 1, none⟩ = some (.int .i64 va) ∧ w'.cell? ⟨L, 2, none⟩ = some (.string st) ∧ w'.cell? ⟨L, 3, none⟩ = some (.slice p n cap))) (by kernel_rfl) ⟨s0, s1, s2, s3⟩ (fun hHeld => ?_)
    generalize W.drew = V2 at *
    refine wpAnyH_take (i := 0) (v := (.pointer (some ⟨L, 0, none⟩))) (op_at rfl) (by kernel_rfl) (by kernel_rfl) (by kernel_rfl) (fun _ _ _ h => h) (Or.inl ⟨rfl, fun w hSw => ?_⟩) (by assumption) ?_
    · (try dsimp only at hSw); go_simp; try with_reducible rfl
    (try simp only [Act.put, tz0, tz1, tz2])
    refine wpAnyH_take (i := 1) (v := (.string ro)) (op_at rfl) (by kernel_rfl) (by kernel_rfl) (by kernel_rfl) (fun _ _ _ h => h) (Or.inl ⟨rfl, fun w hSw => ?_⟩) (by assumption) ?_
    · (try dsimp only at hSw); go_simp; try with_reducible rfl
    (try simp only [Act.put, tz0, tz1, tz2])
    refine wpAnyH_take (i := 3) (v := (.pointer (some ⟨L, 1, none⟩))) (op_at rfl) (by kernel_rfl) (by kernel_rfl) (by kernel_rfl) (fun _ _ _ h => h) (Or.inl ⟨rfl, fun w hSw => ?_⟩) (by assumption) ?_
    · (try dsimp only at hSw); go_simp; try with_reducible rfl
    (try simp only [Act.put, tz0, tz1, tz2])
    refine wpAnyH_take (i := 4) (v := (.int .i64 va)) (op_at rfl) (by kernel_rfl) (by kernel_rfl) (by kernel_rfl) (fun _ _ _ h => h) (Or.inl ⟨rfl, fun w hSw => ?_⟩) (by assumption) ?_
    · (try dsimp only at hSw); go_simp; try with_reducible rfl
    (try simp only [Act.put, tz0, tz1, tz2])
    refine wpAnyH_take (i := 6) (v := (.pointer (some ⟨L, 2, none⟩))) (op_at rfl) (by kernel_rfl) (by kernel_rfl) (by kernel_rfl) (fun _ _ _ h => h) (Or.inl ⟨rfl, fun w hSw => ?_⟩) (by assumption) ?_
    · (try dsimp only at hSw); go_simp; try with_reducible rfl
    (try simp only [Act.put, tz0, tz1, tz2])
    refine wpAnyH_take (i := 7) (v := (.string st)) (op_at rfl) (by kernel_rfl) (by kernel_rfl) (by kernel_rfl) (fun _ _ _ h => h) (Or.inl ⟨rfl, fun w hSw => ?_⟩) (by assumption) ?_
    · (try dsimp only at hSw); go_simp; try with_reducible rfl
    (try simp only [Act.put, tz0, tz1, tz2])
    refine wpAnyH_take (i := 8) (v := (.bool true)) (op_at rfl) (by kernel_rfl) (by kernel_rfl) (by kernel_rfl) (fun _ _ _ h => h) (Or.inl ⟨rfl, fun w hSw => ?_⟩) (by assumption) ?_
    · (try dsimp only at hSw); go_simp; try with_reducible rfl
    (try simp only [Act.put, tz0, tz1, tz2])
    refine wpAnyH_take (i := 15) (v := (.pointer (some ⟨L, 3, none⟩))) (op_at rfl) (by kernel_rfl) (by kernel_rfl) (by kernel_rfl) (fun _ _ _ h => h) (Or.inl ⟨rfl, fun w hSw => ?_⟩) (by assumption) ?_
    · (try dsimp only at hSw); go_simp; try with_reducible rfl
    (try simp only [Act.put, tz0, tz1, tz2])
    refine wpAnyH_take (i := 16) (v := (.slice p n cap)) (op_at rfl) (by kernel_rfl) (by kernel_rfl) (by kernel_rfl) (fun _ _ _ h => h) (Or.inl ⟨rfl, fun w hSw => ?_⟩) (by assumption) ?_
    · (try dsimp only at hSw); go_simp; try with_reducible rfl
    (try simp only [Act.put, tz0, tz1, tz2])
    refine wpAnyH_take (i := 17) (v := (.int .i64 n)) (op_at rfl) (by kernel_rfl) (by kernel_rfl) (by kernel_rfl) (fun _ _ _ h => h) (Or.inl ⟨rfl, fun w hSw => ?_⟩) (by assumption) ?_
    · (try dsimp only at hSw); go_simp; try with_reducible rfl
    (try simp only [Act.put, tz0, tz1, tz2])
    refine wpAnyH_take (i := 18) (v := (.bool mB)) (op_at rfl) (by kernel_rfl) (by kernel_rfl) (by kernel_rfl) (fun _ _ _ h => h) (Or.inl ⟨rfl, fun w hSw => ?_⟩) (by assumption) ?_
    · (try dsimp only at hSw); go_simp; try with_reducible rfl
    (try simp only [Act.put, tz0, tz1, tz2])
    refine wpAnyH_ready (rs := [2]) (by kernel_rfl) (by simp) (AllReadyH.cons (op_at rfl) (fun K hK => ?_) AllReadyH.nil)
    go_simp
    (refine (H1.out _ g).mono ?_; rintro e W2 ⟨rfl, hg⟩; replace s0 := hg.cell s0; replace s1 := hg.cell s1; replace s2 := hg.cell s2; replace s3 := hg.cell s3; replace g := g.trans hg; clear hg)
    go_wp2_with fail
    refine hK.out _ _ ⟨s0, s1, s2, s3⟩ (fun hHeld => ?_)
    clear hK K
    (try simp only [Act.put, tz0, tz1, tz2])
    refine wpAnyH_ready (rs := [5]) (by kernel_rfl) (by simp) (AllReadyH.cons (op_at rfl) (fun K hK => ?_) AllReadyH.nil)
    go_simp
    (refine (H2.out _).mono ?_; rintro e w' ⟨rfl, rfl⟩)
    go_wp2_with fail
    refine hK.out _ _ ⟨s0, s1, s2, s3⟩ (fun hHeld => ?_)
    clear hK K
    (try simp only [Act.put, tz0, tz1, tz2])
    refine wpAnyH_take (i := 9) (v := (.bool true)) (op_at rfl) (by kernel_rfl) (by kernel_rfl) (by kernel_rfl) (fun _ _ _ h => h) (Or.inl ⟨rfl, fun w hSw => ?_⟩) (by assumption) ?_
    · (try dsimp only at hSw); go_simp; try with_reducible rfl
    (try simp only [Act.put, tz0, tz1, tz2])
    refine wpAnyH_take (i := 10) (v := (.pointer (some ⟨L, 2, none⟩))) (op_at rfl) (by kernel_rfl) (by kernel_rfl) (by kernel_rfl) (fun _ _ _ h => h) (Or.inl ⟨rfl, fun w hSw => ?_⟩) (by assumption) ?_
    · (try dsimp only at hSw); go_simp; try with_reducible rfl
    (try simp only [Act.put, tz0, tz1, tz2])
    refine wpAnyH_take (i := 11) (v := (.string st)) (op_at rfl) (by kernel_rfl) (by kernel_rfl) (by kernel_rfl) (fun _ _ _ h => h) (Or.inl ⟨rfl, fun w hSw => ?_⟩) (by assumption) ?_
    · (try dsimp only at hSw); go_simp; try with_reducible rfl
    (try simp only [Act.put, tz0, tz1, tz2])
    refine wpAnyH_take (i := 12) (v := (.bool false)) (op_at rfl) (by kernel_rfl) (by kernel_rfl) (by kernel_rfl) (fun _ _ _ h => h) (Or.inl ⟨rfl, fun w hSw => ?_⟩) (by assumption) ?_
    · (try dsimp only at hSw); go_simp; try with_reducible rfl
    (try simp only [Act.put, tz0, tz1, tz2])
    refine wpAnyH_take (i := 13) (v := (.bool false)) (op_at rfl) (by kernel_rfl) (by kernel_rfl) (by kernel_rfl) (fun _ _ _ h => h) (Or.inl ⟨rfl, fun w hSw => ?_⟩) (by assumption) ?_
    · (try dsimp only at hSw); go_simp; try with_reducible rfl
    (try simp only [Act.put, tz0, tz1, tz2])
    refine wpAnyH_ready (rs := [14]) (by kernel_rfl) (by simp) (AllReadyH.cons (op_at rfl) (fun K hK => ?_) AllReadyH.nil)
    go_simp
    (refine (H3.out _).mono ?_; rintro e w' ⟨rfl, rfl⟩)
    go_wp2_with fail
    refine hK.out _ _ ⟨s0, s1, s2, s3⟩ (fun hHeld => ?_)
    clear hK K
    (try simp only [Act.put, tz0, tz1, tz2])
    refine wpAnyH_ready (rs := [19]) (by kernel_rfl) (by simp) (AllReadyH.cons (op_at rfl) (fun K hK => ?_) AllReadyH.nil)
    go_simp
    (refine (H4.out _).mono ?_; rintro e w' ⟨rfl, rfl⟩)
    go_wp2_with fail
    refine hK.out _ _ ⟨s0, s1, s2, s3⟩ (fun hHeld => ?_)
    clear hK K
    (try simp only [Act.put, tz0, tz1, tz2])
    refine wpAnyH_ready (rs := [20]) (by kernel_rfl) (by simp) (AllReadyH.cons (op_at rfl) (fun K hK => ?_) AllReadyH.nil)
    go_simp
    obtain ⟨WW, hWW, gW, q0, q1, q2, q3⟩ := box4 W2 (.int .i64 e1) (.int .i64 e2) (.int .i64 e3) (.int .i64 e4) 37
    rw [hWW]
    clear hWW
    replace s0 := gW.cell s0
    replace s1 := gW.cell s1
    replace s2 := gW.cell s2
    replace s3 := gW.cell s3
    replace g := g.trans gW
    refine hK.out _ _ ⟨s0, s1, s2, s3⟩ (fun hHeld => ?_)
    clear hK K
    (try simp only [Act.put, tz0, tz1, tz2])
    refine wpAnyH_ready (rs := [21]) (by kernel_rfl) (by simp) (AllReadyH.cons (op_at rfl) (fun K hK => ?_) AllReadyH.nil)
    go_simp
    (refine (HF.out _ _ WW q0 q1 q2 q3).mono ?_; rintro e w8 ⟨rfl, rfl⟩; rw [HFz.out])
    go_wp2_with fail
    refine hK.out _ _ ⟨s0, s1, s2, s3⟩ (fun hHeld => ?_)
    clear hK K
    (try simp only [Act.put, tz0, tz1, tz2])
    refine wpAnyH_take (i := 22) (v := (.int .i64 err)) (op_at rfl) (by kernel_rfl) (by kernel_rfl) (by kernel_rfl) (fun _ _ _ h => h) (Or.inl ⟨rfl, fun w hSw => ?_⟩) (by assumption) ?_
    · (try dsimp only at hSw); go_simp; try with_reducible rfl
    (try simp only [Act.put, tz0, tz1, tz2])
    refine wpAnyH_done (by kernel_rfl) ?_ _
    go_wp2_with fail
    go_ret
    exact ⟨by rw [HRZ.out]; rfl, g⟩
set_option maxHeartbeats 4000000 in
set_option maxRecDepth 100000 in
theorem checkSheet_n {w : World} {xs : List RowR} {p : Option Addr} {n cap : Nat} {ro st : ByteArray} {va : Int} (hv : RowsV w (.slice p n cap) xs) (hq1 : (st.toList == [111, 112, 101, 110]) = false) (hq2 : (st.toList == [99, 108, 111, 115, 101, 100]) = false) :
    Calls Tryz.prog 58 #[.agg #[.string ro, .int .i64 va, .string st, .slice p n cap]] w fun e w' => e = .returned (.int .i64 (sheetE ro va st xs)) ∧ Gr w w' := by
  obtain ⟨hn, hcap, hh⟩ := hv.atO
  have hHE : headE ro va st xs.length = firstE [nmE ro, outE va 1 16, if true = true then 13 else 0, if decide ((160 : Int) < n) = true then 5 else 0] := by
    unfold headE
    rw [hn]
    have : isOC st = true := by unfold isOC; first | (rw [h]; rfl) | (rw [hq1, hq2]; rfl)
    rw [this]
  have HEACH := Lib.hid (fun (W : World) (M : Nat) (mg : Nat) (h1 : n ≤ 160) (hg : w.heap.size ≤ mg) (hK : ShKeep w W M w.heap.size mg ro va st (.slice p n cap) xs 0) =>
    (show Calls Tryz.prog 99 #[.slice p n cap, .func (.func 100) #[] #[.pointer (some ⟨M, 0, none⟩), .pointer (some ⟨w.heap.size, 0, none⟩)]] W fun e w' => e = .returned (.int .i64 (errG (oneShE va xs) xs n 0)) ∧ Gr w w' from by
      by_cases h0 : 0 < n
      · obtain ⟨b, off, rfl, hc⟩ := hh h0
        exact eachSh_c hn h1 hcap.1 hcap.2 hc ⟨_, _, _, rfl⟩ hg hK
      · obtain rfl : n = 0 := by omega
        exact (eachSh_nil p cap M w.heap.size W).mono fun e w' ⟨he, hw⟩ => ⟨he, hw ▸ hK.gr⟩))
  have HRES : Hid (sheetE ro va st xs = if headE ro va st xs.length = 0 then errG (oneShE va xs) xs n 0 else headE ro va st xs.length) := by unfold Hid sheetE; rw [hn]
  obtain ⟨e1, h1', H1⟩ := oname_e ro
  obtain ⟨e2, h2', H2⟩ := range_e va 1 16
  obtain ⟨e3, h3', H3⟩ := if_e true 13
  obtain ⟨mB, hmB⟩ : ∃ m, decide ((160 : Int) < n) = m := ⟨_, rfl⟩
  obtain ⟨e4, h4', H4⟩ := if_e mB 5
  rw [hmB, ← h1', ← h2', ← h3', ← h4'] at hHE
  have HF := Lib.hid (fun b cap w => first_four e1 e2 e3 e4 b cap w)
  obtain ⟨err, hErr⟩ : ∃ z, z = headE ro va st xs.length := ⟨_, rfl⟩
  rw [← hErr] at HRES hHE
  have HFz : Hid (firstE [e1, e2, e3, e4] = err) := hHE.symm
  have HM : Hid (err = 0 → n ≤ 160) := by
    intro h0
    have hz := firstE_zero (l := [e1, e2, e3, e4]) (by rw [HFz.out]; exact h0) e4 (by simp)
    rw [hz] at h4'
    cases mB
    · have := of_decide_eq_false hmB; omega
    · simp at h4'
  obtain ⟨W, hW, g, s0, s1, s2, s3⟩ := box4 w (.string ro) (.int .i64 va) (.string st) (.slice p n cap) 27
  have HW := Lib.hid hW
  replace H1 := Lib.hid (fun W' (_ : Gr w W') => H1 W')
  replace H2 := Lib.hid H2
  replace H3 := Lib.hid H3
  replace H4 := Lib.hid H4
  obtain ⟨R, hR⟩ : ∃ z, z = errG (oneShE va xs) xs n 0 := ⟨_, rfl⟩
  rw [← hR] at HRES HEACH
  obtain ⟨SE, hSE⟩ : ∃ z, z = sheetE ro va st xs := ⟨_, rfl⟩
  rw [← hSE] at HRES ⊢
  clear hW hHE hErr h1' h2' h3' h4' hR hSE hh hn hcap hv
  have hsz : w.heap.size ≤ W.heap.size := g.size
  by_cases h00 : err = 0
  · have hz0 : (err != 0) = false := by rw [h00]; rfl
    have HRZ : Hid (SE = R) := by unfold Hid; rw [HRES.out, if_pos h00]
    have HN := Lib.hid (HM.out h00)
    clear HM HRES h00
    go_enter Tryz.func58, Tryz.ntmps58
    go_wp2_with fail
    rw [HW.out]
    clear HW
    generalize hLw : w.heap.size = L at *
    have gd := (Gr.refl W).drew
    replace s0 := gd.cell s0
    replace s1 := gd.cell s1
    replace s2 := gd.cell s2
    replace s3 := gd.cell s3
    replace g := g.trans gd
    clear gd
    refine wp_region_held_drew (S := (fun w' => w'.cell? ⟨L, 0, none⟩ = some (.string ro) ∧ w'.cell? ⟨L, 1, none⟩ = some (.int .i64 va) ∧ w'.cell? ⟨L, 2, none⟩ = some (.string st) ∧ w'.cell? ⟨L, 3, none⟩ = some (.slice p n cap))) (by kernel_rfl) ⟨s0, s1, s2, s3⟩ (fun hHeld => ?_)
    generalize W.drew = V2 at *
    refine wpAnyH_take (i := 0) (v := (.pointer (some ⟨L, 0, none⟩))) (op_at rfl) (by kernel_rfl) (by kernel_rfl) (by kernel_rfl) (fun _ _ _ h => h) (Or.inl ⟨rfl, fun w hSw => ?_⟩) (by assumption) ?_
    · (try dsimp only at hSw); go_simp; try with_reducible rfl
    (try simp only [Act.put, tz0, tz1, tz2])
    refine wpAnyH_take (i := 1) (v := (.string ro)) (op_at rfl) (by kernel_rfl) (by kernel_rfl) (by kernel_rfl) (fun _ _ _ h => h) (Or.inl ⟨rfl, fun w hSw => ?_⟩) (by assumption) ?_
    · (try dsimp only at hSw); go_simp; try with_reducible rfl
    (try simp only [Act.put, tz0, tz1, tz2])
    refine wpAnyH_take (i := 3) (v := (.pointer (some ⟨L, 1, none⟩))) (op_at rfl) (by kernel_rfl) (by kernel_rfl) (by kernel_rfl) (fun _ _ _ h => h) (Or.inl ⟨rfl, fun w hSw => ?_⟩) (by assumption) ?_
    · (try dsimp only at hSw); go_simp; try with_reducible rfl
    (try simp only [Act.put, tz0, tz1, tz2])
    refine wpAnyH_take (i := 4) (v := (.int .i64 va)) (op_at rfl) (by kernel_rfl) (by kernel_rfl) (by kernel_rfl) (fun _ _ _ h => h) (Or.inl ⟨rfl, fun w hSw => ?_⟩) (by assumption) ?_
    · (try dsimp only at hSw); go_simp; try with_reducible rfl
    (try simp only [Act.put, tz0, tz1, tz2])
    refine wpAnyH_take (i := 6) (v := (.pointer (some ⟨L, 2, none⟩))) (op_at rfl) (by kernel_rfl) (by kernel_rfl) (by kernel_rfl) (fun _ _ _ h => h) (Or.inl ⟨rfl, fun w hSw => ?_⟩) (by assumption) ?_
    · (try dsimp only at hSw); go_simp; try with_reducible rfl
    (try simp only [Act.put, tz0, tz1, tz2])
    refine wpAnyH_take (i := 7) (v := (.string st)) (op_at rfl) (by kernel_rfl) (by kernel_rfl) (by kernel_rfl) (fun _ _ _ h => h) (Or.inl ⟨rfl, fun w hSw => ?_⟩) (by assumption) ?_
    · (try dsimp only at hSw); go_simp; try with_reducible rfl
    (try simp only [Act.put, tz0, tz1, tz2])
    refine wpAnyH_take (i := 8) (v := (.bool true)) (op_at rfl) (by kernel_rfl) (by kernel_rfl) (by kernel_rfl) (fun _ _ _ h => h) (Or.inl ⟨rfl, fun w hSw => ?_⟩) (by assumption) ?_
    · (try dsimp only at hSw); go_simp; try with_reducible rfl
    (try simp only [Act.put, tz0, tz1, tz2])
    refine wpAnyH_take (i := 15) (v := (.pointer (some ⟨L, 3, none⟩))) (op_at rfl) (by kernel_rfl) (by kernel_rfl) (by kernel_rfl) (fun _ _ _ h => h) (Or.inl ⟨rfl, fun w hSw => ?_⟩) (by assumption) ?_
    · (try dsimp only at hSw); go_simp; try with_reducible rfl
    (try simp only [Act.put, tz0, tz1, tz2])
    refine wpAnyH_take (i := 16) (v := (.slice p n cap)) (op_at rfl) (by kernel_rfl) (by kernel_rfl) (by kernel_rfl) (fun _ _ _ h => h) (Or.inl ⟨rfl, fun w hSw => ?_⟩) (by assumption) ?_
    · (try dsimp only at hSw); go_simp; try with_reducible rfl
    (try simp only [Act.put, tz0, tz1, tz2])
    refine wpAnyH_take (i := 17) (v := (.int .i64 n)) (op_at rfl) (by kernel_rfl) (by kernel_rfl) (by kernel_rfl) (fun _ _ _ h => h) (Or.inl ⟨rfl, fun w hSw => ?_⟩) (by assumption) ?_
    · (try dsimp only at hSw); go_simp; try with_reducible rfl
    (try simp only [Act.put, tz0, tz1, tz2])
    refine wpAnyH_take (i := 18) (v := (.bool mB)) (op_at rfl) (by kernel_rfl) (by kernel_rfl) (by kernel_rfl) (fun _ _ _ h => h) (Or.inl ⟨rfl, fun w hSw => ?_⟩) (by assumption) ?_
    · (try dsimp only at hSw); go_simp; try with_reducible rfl
    (try simp only [Act.put, tz0, tz1, tz2])
    refine wpAnyH_ready (rs := [2]) (by kernel_rfl) (by simp) (AllReadyH.cons (op_at rfl) (fun K hK => ?_) AllReadyH.nil)
    go_simp
    (refine (H1.out _ g).mono ?_; rintro e W2 ⟨rfl, hg⟩; replace s0 := hg.cell s0; replace s1 := hg.cell s1; replace s2 := hg.cell s2; replace s3 := hg.cell s3; replace g := g.trans hg; clear hg)
    go_wp2_with fail
    refine hK.out _ _ ⟨s0, s1, s2, s3⟩ (fun hHeld => ?_)
    clear hK K
    (try simp only [Act.put, tz0, tz1, tz2])
    refine wpAnyH_ready (rs := [5]) (by kernel_rfl) (by simp) (AllReadyH.cons (op_at rfl) (fun K hK => ?_) AllReadyH.nil)
    go_simp
    (refine (H2.out _).mono ?_; rintro e w' ⟨rfl, rfl⟩)
    go_wp2_with fail
    refine hK.out _ _ ⟨s0, s1, s2, s3⟩ (fun hHeld => ?_)
    clear hK K
    (try simp only [Act.put, tz0, tz1, tz2])
    refine wpAnyH_take (i := 9) (v := (.bool true)) (op_at rfl) (by kernel_rfl) (by kernel_rfl) (by kernel_rfl) (fun _ _ _ h => h) (Or.inl ⟨rfl, fun w hSw => ?_⟩) (by assumption) ?_
    · (try dsimp only at hSw); go_simp; try with_reducible rfl
    (try simp only [Act.put, tz0, tz1, tz2])
    refine wpAnyH_take (i := 10) (v := (.pointer (some ⟨L, 2, none⟩))) (op_at rfl) (by kernel_rfl) (by kernel_rfl) (by kernel_rfl) (fun _ _ _ h => h) (Or.inl ⟨rfl, fun w hSw => ?_⟩) (by assumption) ?_
    · (try dsimp only at hSw); go_simp; try with_reducible rfl
    (try simp only [Act.put, tz0, tz1, tz2])
    refine wpAnyH_take (i := 11) (v := (.string st)) (op_at rfl) (by kernel_rfl) (by kernel_rfl) (by kernel_rfl) (fun _ _ _ h => h) (Or.inl ⟨rfl, fun w hSw => ?_⟩) (by assumption) ?_
    · (try dsimp only at hSw); go_simp; try with_reducible rfl
    (try simp only [Act.put, tz0, tz1, tz2])
    refine wpAnyH_take (i := 12) (v := (.bool true)) (op_at rfl) (by kernel_rfl) (by kernel_rfl) (by kernel_rfl) (fun _ _ _ h => h) (Or.inl ⟨rfl, fun w hSw => ?_⟩) (by assumption) ?_
    · (try dsimp only at hSw); go_simp; try with_reducible rfl
    (try simp only [Act.put, tz0, tz1, tz2])
    refine wpAnyH_take (i := 13) (v := (.bool true)) (op_at rfl) (by kernel_rfl) (by kernel_rfl) (by kernel_rfl) (fun _ _ _ h => h) (Or.inl ⟨rfl, fun w hSw => ?_⟩) (by assumption) ?_
    · (try dsimp only at hSw); go_simp; try with_reducible rfl
    (try simp only [Act.put, tz0, tz1, tz2])
    refine wpAnyH_ready (rs := [14]) (by kernel_rfl) (by simp) (AllReadyH.cons (op_at rfl) (fun K hK => ?_) AllReadyH.nil)
    go_simp
    (refine (H3.out _).mono ?_; rintro e w' ⟨rfl, rfl⟩)
    go_wp2_with fail
    refine hK.out _ _ ⟨s0, s1, s2, s3⟩ (fun hHeld => ?_)
    clear hK K
    (try simp only [Act.put, tz0, tz1, tz2])
    refine wpAnyH_ready (rs := [19]) (by kernel_rfl) (by simp) (AllReadyH.cons (op_at rfl) (fun K hK => ?_) AllReadyH.nil)
    go_simp
    (refine (H4.out _).mono ?_; rintro e w' ⟨rfl, rfl⟩)
    go_wp2_with fail
    refine hK.out _ _ ⟨s0, s1, s2, s3⟩ (fun hHeld => ?_)
    clear hK K
    (try simp only [Act.put, tz0, tz1, tz2])
    refine wpAnyH_ready (rs := [20]) (by kernel_rfl) (by simp) (AllReadyH.cons (op_at rfl) (fun K hK => ?_) AllReadyH.nil)
    go_simp
    obtain ⟨WW, hWW, gW, q0, q1, q2, q3⟩ := box4 W2 (.int .i64 e1) (.int .i64 e2) (.int .i64 e3) (.int .i64 e4) 37
    rw [hWW]
    clear hWW
    replace s0 := gW.cell s0
    replace s1 := gW.cell s1
    replace s2 := gW.cell s2
    replace s3 := gW.cell s3
    replace g := g.trans gW
    refine hK.out _ _ ⟨s0, s1, s2, s3⟩ (fun hHeld => ?_)
    clear hK K
    (try simp only [Act.put, tz0, tz1, tz2])
    refine wpAnyH_ready (rs := [21]) (by kernel_rfl) (by simp) (AllReadyH.cons (op_at rfl) (fun K hK => ?_) AllReadyH.nil)
    go_simp
    (refine (HF.out _ _ WW q0 q1 q2 q3).mono ?_; rintro e w8 ⟨rfl, rfl⟩; rw [HFz.out])
    go_wp2_with fail
    refine hK.out _ _ ⟨s0, s1, s2, s3⟩ (fun hHeld => ?_)
    clear hK K
    (try simp only [Act.put, tz0, tz1, tz2])
    refine wpAnyH_take (i := 22) (v := (.int .i64 err)) (op_at rfl) (by kernel_rfl) (by kernel_rfl) (by kernel_rfl) (fun _ _ _ h => h) (Or.inl ⟨rfl, fun w hSw => ?_⟩) (by assumption) ?_
    · (try dsimp only at hSw); go_simp; try with_reducible rfl
    (try simp only [Act.put, tz0, tz1, tz2])
    refine wpAnyH_done (by kernel_rfl) ?_ _
    have hmm := @run_makeMap Tryz.prog
    have gb : Gr WW ((WW.alloc (.map #[] 0)).alloc (.cells #[.map (some WW.heap.size)] 85)) := ((Gr.refl WW).alloc _).alloc _
    have esz : (WW.alloc (.map #[] 0)).heap.size = WW.heap.size + 1 := by simp
    have mb := cell_new (WW.alloc (.map #[] 0)) #[.map (some WW.heap.size)] 85 0 (by simp)
    simp only [List.getElem_toArray, List.getElem_cons_zero] at mb
    rw [esz] at mb
    have s3b := gb.cell s3
    have HT := Lib.hid (HEACH.out ((WW.alloc (.map #[] 0)).alloc (.cells #[.map (some WW.heap.size)] 85)) (WW.heap.size + 1) WW.heap.size HN.out (by rw [← hLw]; exact g.size)
      ⟨g.trans gb, ⟨[], (mapG_new WW).gr ((Gr.refl _).alloc _), SeenO.nil xs⟩, mb, ⟨gb.cell s0, gb.cell s1, gb.cell s2, gb.cell s3⟩⟩)
    clear HEACH gb esz HN hLw hsz
    go_wp2_with fail
    refine HT.out.mono ?_
    rintro e w9 ⟨rfl, hg9⟩
    go_wp2_with fail
    go_ret
    exact ⟨by rw [HRZ.out]; rfl, hg9⟩
  · have hz0 : (err != 0) = true := bne_iff_ne.2 h00
    have HRZ : Hid (SE = err) := by unfold Hid; rw [HRES.out, if_neg h00]
    clear HM HRES h00 HEACH
    go_enter Tryz.func58, Tryz.ntmps58
    go_wp2_with fail
    rw [HW.out]
    clear HW
    generalize hLw : w.heap.size = L at *
    have gd := (Gr.refl W).drew
    replace s0 := gd.cell s0
    replace s1 := gd.cell s1
    replace s2 := gd.cell s2
    replace s3 := gd.cell s3
    replace g := g.trans gd
    clear gd
    refine wp_region_held_drew (S := (fun w' => w'.cell? ⟨L, 0, none⟩ = some (.string ro) ∧ w'.cell? ⟨L, 1, none⟩ = some (.int .i64 va) ∧ w'.cell? ⟨L, 2, none⟩ = some (.string st) ∧ w'.cell? ⟨L, 3, none⟩ = some (.slice p n cap))) (by kernel_rfl) ⟨s0, s1, s2, s3⟩ (fun hHeld => ?_)
    generalize W.drew = V2 at *
    refine wpAnyH_take (i := 0) (v := (.pointer (some ⟨L, 0, none⟩))) (op_at rfl) (by kernel_rfl) (by kernel_rfl) (by kernel_rfl) (fun _ _ _ h => h) (Or.inl ⟨rfl, fun w hSw => ?_⟩) (by assumption) ?_
    · (try dsimp only at hSw); go_simp; try with_reducible rfl
    (try simp only [Act.put, tz0, tz1, tz2])
    refine wpAnyH_take (i := 1) (v := (.string ro)) (op_at rfl) (by kernel_rfl) (by kernel_rfl) (by kernel_rfl) (fun _ _ _ h => h) (Or.inl ⟨rfl, fun w hSw => ?_⟩) (by assumption) ?_
    · (try dsimp only at hSw); go_simp; try with_reducible rfl
    (try simp only [Act.put, tz0, tz1, tz2])
    refine wpAnyH_take (i := 3) (v := (.pointer (some ⟨L, 1, none⟩))) (op_at rfl) (by kernel_rfl) (by kernel_rfl) (by kernel_rfl) (fun _ _ _ h => h) (Or.inl ⟨rfl, fun w hSw => ?_⟩) (by assumption) ?_
    · (try dsimp only at hSw); go_simp; try with_reducible rfl
    (try simp only [Act.put, tz0, tz1, tz2])
    refine wpAnyH_take (i := 4) (v := (.int .i64 va)) (op_at rfl) (by kernel_rfl) (by kernel_rfl) (by kernel_rfl) (fun _ _ _ h => h) (Or.inl ⟨rfl, fun w hSw => ?_⟩) (by assumption) ?_
    · (try dsimp only at hSw); go_simp; try with_reducible rfl
    (try simp only [Act.put, tz0, tz1, tz2])
    refine wpAnyH_take (i := 6) (v := (.pointer (some ⟨L, 2, none⟩))) (op_at rfl) (by kernel_rfl) (by kernel_rfl) (by kernel_rfl) (fun _ _ _ h => h) (Or.inl ⟨rfl, fun w hSw => ?_⟩) (by assumption) ?_
    · (try dsimp only at hSw); go_simp; try with_reducible rfl
    (try simp only [Act.put, tz0, tz1, tz2])
    refine wpAnyH_take (i := 7) (v := (.string st)) (op_at rfl) (by kernel_rfl) (by kernel_rfl) (by kernel_rfl) (fun _ _ _ h => h) (Or.inl ⟨rfl, fun w hSw => ?_⟩) (by assumption) ?_
    · (try dsimp only at hSw); go_simp; try with_reducible rfl
    (try simp only [Act.put, tz0, tz1, tz2])
    refine wpAnyH_take (i := 8) (v := (.bool true)) (op_at rfl) (by kernel_rfl) (by kernel_rfl) (by kernel_rfl) (fun _ _ _ h => h) (Or.inl ⟨rfl, fun w hSw => ?_⟩) (by assumption) ?_
    · (try dsimp only at hSw); go_simp; try with_reducible rfl
    (try simp only [Act.put, tz0, tz1, tz2])
    refine wpAnyH_take (i := 15) (v := (.pointer (some ⟨L, 3, none⟩))) (op_at rfl) (by kernel_rfl) (by kernel_rfl) (by kernel_rfl) (fun _ _ _ h => h) (Or.inl ⟨rfl, fun w hSw => ?_⟩) (by assumption) ?_
    · (try dsimp only at hSw); go_simp; try with_reducible rfl
    (try simp only [Act.put, tz0, tz1, tz2])
    refine wpAnyH_take (i := 16) (v := (.slice p n cap)) (op_at rfl) (by kernel_rfl) (by kernel_rfl) (by kernel_rfl) (fun _ _ _ h => h) (Or.inl ⟨rfl, fun w hSw => ?_⟩) (by assumption) ?_
    · (try dsimp only at hSw); go_simp; try with_reducible rfl
    (try simp only [Act.put, tz0, tz1, tz2])
    refine wpAnyH_take (i := 17) (v := (.int .i64 n)) (op_at rfl) (by kernel_rfl) (by kernel_rfl) (by kernel_rfl) (fun _ _ _ h => h) (Or.inl ⟨rfl, fun w hSw => ?_⟩) (by assumption) ?_
    · (try dsimp only at hSw); go_simp; try with_reducible rfl
    (try simp only [Act.put, tz0, tz1, tz2])
    refine wpAnyH_take (i := 18) (v := (.bool mB)) (op_at rfl) (by kernel_rfl) (by kernel_rfl) (by kernel_rfl) (fun _ _ _ h => h) (Or.inl ⟨rfl, fun w hSw => ?_⟩) (by assumption) ?_
    · (try dsimp only at hSw); go_simp; try with_reducible rfl
    (try simp only [Act.put, tz0, tz1, tz2])
    refine wpAnyH_ready (rs := [2]) (by kernel_rfl) (by simp) (AllReadyH.cons (op_at rfl) (fun K hK => ?_) AllReadyH.nil)
    go_simp
    (refine (H1.out _ g).mono ?_; rintro e W2 ⟨rfl, hg⟩; replace s0 := hg.cell s0; replace s1 := hg.cell s1; replace s2 := hg.cell s2; replace s3 := hg.cell s3; replace g := g.trans hg; clear hg)
    go_wp2_with fail
    refine hK.out _ _ ⟨s0, s1, s2, s3⟩ (fun hHeld => ?_)
    clear hK K
    (try simp only [Act.put, tz0, tz1, tz2])
    refine wpAnyH_ready (rs := [5]) (by kernel_rfl) (by simp) (AllReadyH.cons (op_at rfl) (fun K hK => ?_) AllReadyH.nil)
    go_simp
    (refine (H2.out _).mono ?_; rintro e w' ⟨rfl, rfl⟩)
    go_wp2_with fail
    refine hK.out _ _ ⟨s0, s1, s2, s3⟩ (fun hHeld => ?_)
    clear hK K
    (try simp only [Act.put, tz0, tz1, tz2])
    refine wpAnyH_take (i := 9) (v := (.bool true)) (op_at rfl) (by kernel_rfl) (by kernel_rfl) (by kernel_rfl) (fun _ _ _ h => h) (Or.inl ⟨rfl, fun w hSw => ?_⟩) (by assumption) ?_
    · (try dsimp only at hSw); go_simp; try with_reducible rfl
    (try simp only [Act.put, tz0, tz1, tz2])
    refine wpAnyH_take (i := 10) (v := (.pointer (some ⟨L, 2, none⟩))) (op_at rfl) (by kernel_rfl) (by kernel_rfl) (by kernel_rfl) (fun _ _ _ h => h) (Or.inl ⟨rfl, fun w hSw => ?_⟩) (by assumption) ?_
    · (try dsimp only at hSw); go_simp; try with_reducible rfl
    (try simp only [Act.put, tz0, tz1, tz2])
    refine wpAnyH_take (i := 11) (v := (.string st)) (op_at rfl) (by kernel_rfl) (by kernel_rfl) (by kernel_rfl) (fun _ _ _ h => h) (Or.inl ⟨rfl, fun w hSw => ?_⟩) (by assumption) ?_
    · (try dsimp only at hSw); go_simp; try with_reducible rfl
    (try simp only [Act.put, tz0, tz1, tz2])
    refine wpAnyH_take (i := 12) (v := (.bool true)) (op_at rfl) (by kernel_rfl) (by kernel_rfl) (by kernel_rfl) (fun _ _ _ h => h) (Or.inl ⟨rfl, fun w hSw => ?_⟩) (by assumption) ?_
    · (try dsimp only at hSw); go_simp; try with_reducible rfl
    (try simp only [Act.put, tz0, tz1, tz2])
    refine wpAnyH_take (i := 13) (v := (.bool true)) (op_at rfl) (by kernel_rfl) (by kernel_rfl) (by kernel_rfl) (fun _ _ _ h => h) (Or.inl ⟨rfl, fun w hSw => ?_⟩) (by assumption) ?_
    · (try dsimp only at hSw); go_simp; try with_reducible rfl
    (try simp only [Act.put, tz0, tz1, tz2])
    refine wpAnyH_ready (rs := [14]) (by kernel_rfl) (by simp) (AllReadyH.cons (op_at rfl) (fun K hK => ?_) AllReadyH.nil)
    go_simp
    (refine (H3.out _).mono ?_; rintro e w' ⟨rfl, rfl⟩)
    go_wp2_with fail
    refine hK.out _ _ ⟨s0, s1, s2, s3⟩ (fun hHeld => ?_)
    clear hK K
    (try simp only [Act.put, tz0, tz1, tz2])
    refine wpAnyH_ready (rs := [19]) (by kernel_rfl) (by simp) (AllReadyH.cons (op_at rfl) (fun K hK => ?_) AllReadyH.nil)
    go_simp
    (refine (H4.out _).mono ?_; rintro e w' ⟨rfl, rfl⟩)
    go_wp2_with fail
    refine hK.out _ _ ⟨s0, s1, s2, s3⟩ (fun hHeld => ?_)
    clear hK K
    (try simp only [Act.put, tz0, tz1, tz2])
    refine wpAnyH_ready (rs := [20]) (by kernel_rfl) (by simp) (AllReadyH.cons (op_at rfl) (fun K hK => ?_) AllReadyH.nil)
    go_simp
    obtain ⟨WW, hWW, gW, q0, q1, q2, q3⟩ := box4 W2 (.int .i64 e1) (.int .i64 e2) (.int .i64 e3) (.int .i64 e4) 37
    rw [hWW]
    clear hWW
    replace s0 := gW.cell s0
    replace s1 := gW.cell s1
    replace s2 := gW.cell s2
    replace s3 := gW.cell s3
    replace g := g.trans gW
    refine hK.out _ _ ⟨s0, s1, s2, s3⟩ (fun hHeld => ?_)
    clear hK K
    (try simp only [Act.put, tz0, tz1, tz2])
    refine wpAnyH_ready (rs := [21]) (by kernel_rfl) (by simp) (AllReadyH.cons (op_at rfl) (fun K hK => ?_) AllReadyH.nil)
    go_simp
    (refine (HF.out _ _ WW q0 q1 q2 q3).mono ?_; rintro e w8 ⟨rfl, rfl⟩; rw [HFz.out])
    go_wp2_with fail
    refine hK.out _ _ ⟨s0, s1, s2, s3⟩ (fun hHeld => ?_)
    clear hK K
    (try simp only [Act.put, tz0, tz1, tz2])
    refine wpAnyH_take (i := 22) (v := (.int .i64 err)) (op_at rfl) (by kernel_rfl) (by kernel_rfl) (by kernel_rfl) (fun _ _ _ h => h) (Or.inl ⟨rfl, fun w hSw => ?_⟩) (by assumption) ?_
    · (try dsimp only at hSw); go_simp; try with_reducible rfl
    (try simp only [Act.put, tz0, tz1, tz2])
    refine wpAnyH_done (by kernel_rfl) ?_ _
    go_wp2_with fail
    go_ret
    exact ⟨by rw [HRZ.out]; rfl, g⟩
theorem checkSheet_cO {w : World} {xs : List RowR} {p : Option Addr} {n cap : Nat} (ro st : ByteArray) (va : Int) (hv : RowsV w (.slice p n cap) xs) :
    Calls Tryz.prog 58 #[.agg #[.string ro, .int .i64 va, .string st, .slice p n cap]] w fun e w' => e = .returned (.int .i64 (sheetE ro va st xs)) ∧ Gr w w' := by
  by_cases h : st.toList = [111, 112, 101, 110]
  · exact checkSheet_o hv h
  by_cases h2 : st.toList = [99, 108, 111, 115, 101, 100]
  · exact checkSheet_c hv h2
  exact checkSheet_n hv (by simpa using h) (by simpa using h2)
theorem sheetE_few {ro st : ByteArray} {va : Int} {xs : List RowR} (h : sheetE ro va st xs = 0) : xs.length ≤ 160 := by
  unfold sheetE at h
  split at h
  · rename_i h0
    unfold headE at h0
    have := firstE_zero h0 (if decide ((160 : Int) < xs.length) = true then 5 else 0) (by simp)
    by_cases hl : (160 : Int) < xs.length
    · rw [if_pos (by simpa using hl)] at this; cases this
    · omega
  · rename_i h0
    exact absurd h h0
end Go.Proofs.YtnihclhhbegjhaaGreatDoor
