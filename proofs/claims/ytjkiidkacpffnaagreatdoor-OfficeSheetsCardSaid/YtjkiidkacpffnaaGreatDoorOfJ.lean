/- Sheets (chapter 10): the reference: Ranks. -/
import Derived.Test.YtjkiidkacpffnaaGreatDoorGOfG
namespace Go.Proofs.YtjkiidkacpffnaaGreatDoor
open Go.RowKit Go.Lib
set_option linter.unusedSimpArgs false
set_option linter.unusedVariables false
set_option maxHeartbeats 4000000 in
set_option maxRecDepth 100000 in
theorem refRanks10_pos (ro : ByteArray) (va : Int) (st : ByteArray) (xs : List RowR) (n b off cap : Nat) (w : World) (hn : xs.length = n) (h1 : n ≤ 160) (hc : ∀ i x, xs[i]? = some x → RowAt w b (off + i * 3) x)
    (hlen : ∀ (i j : Nat) (x y : RowR), xs[i]? = some x → xs[j]? = some y → (x.st.toList == y.st.toList) = true → x.xs.length = y.xs.length) :
    Calls Tryz.prog 10 #[.agg #[.string ro, .int .i64 va, .string st, .slice (some ⟨b, off, none⟩) n cap]] w fun e w' => ∃ v, e = .returned v ∧ w'.ownsRow w.heap.size 3 1 v n (ints (ranksO xs)) ∧ Gr w w' := by
  obtain ⟨i1, hj, hy0, hy1, hy2⟩ := info_parts info3
  have HCC := Lib.hid hc
  have HLEN := Lib.hid hlen
  have hrl : (ranksO xs).length = n := by simp [ranksO, hn]
  have HRow := Lib.hid (fun k (h : k < n) => (show ∃ x, xs[k]? = some x ∧ (ranksO xs)[k]? = some (rankO xs x) from by
    obtain ⟨x, hx⟩ : ∃ x, xs[k]? = some x := ⟨xs[k]'(by omega), List.getElem?_eq_getElem _⟩
    exact ⟨x, hx, ranksO_at hx⟩))
  have HFin := Lib.hid (fun x => (show 1 + cntO xs x n = rankO xs x from by unfold rankO; rw [hn]))
  obtain ⟨W, hW, gW, s0, s1, s2, s3⟩ := box4 w (.string ro) (.int .i64 va) (.string st) (.slice (some ⟨b, off, none⟩) n cap) 27
  have HW := Lib.hid hW
  clear hW hc hn s0 s1 s2 hlen
  go_enter Tryz.func10, Tryz.ntmps10
  go_wp2_with fail
  rw [HW.out]
  clear HW
  have hBW : w.heap.size ≤ W.heap.size := gW.size
  obtain ⟨L, hL⟩ : ∃ B, w.heap.size = B := ⟨_, rfl⟩
  have hBL : w.heap.size ≤ W.heap.size := hBW
  rw [hL] at s3 hBL ⊢
  go_wp2_with fail
  go_loopw [3, 4] (fun v i wr => ∃ k : Nat, k ≤ n ∧ i = .int .i64 k ∧ wr.ownsRow W.heap.size 3 1 v k (ints ((ranksO xs).take k)) ∧ Gr W wr) (fun _ i _ => n - (intOf i).toNat)
  case atStart => exact ⟨0, Nat.zero_le _, rfl, World.ownsRow_nil _ _ _ _, Gr.refl _⟩
  case round =>
    obtain ⟨k, hk, rfl, hown, hnx⟩ := hrel
    have hsize := hnx.size
    have a3 := hnx.cell s3
    by_cases hkN : k < n
    · obtain ⟨x, hx, hr1⟩ := HRow.out k hkN
      have hk2 : (k : Int) < n := by omega
      have HOW := Lib.hid (fun W (g : Gr wr W) => own_gr hown g)
      have HIT := Lib.hid (ints_takeO hr1)
      have HLk := Lib.hid (show (ints ((ranksO xs).take k)).length = k from by simp [ints, hrl]; omega)
      have HX := Lib.hid hx
      have HNX := Lib.hid hnx
      clear hown hx hr1
      go_wp2_with fail
      go_loopw [5, 6] (fun c iq wi => ∃ q : Nat, q ≤ n ∧ iq = .int .i64 q ∧ c = .int .i64 (1 + cntO xs x q) ∧ Gr wr wi) (fun _ iq _ => n - (intOf iq).toNat)
      case atStart => exact ⟨0, Nat.zero_le _, rfl, rfl, Gr.refl _⟩
      case round =>
        obtain ⟨q, hq, rfl, rfl, hnq⟩ := hrel
        replace a3 := hnq.cell a3
        by_cases hqN : q < n
        · obtain ⟨y, hy, _⟩ := HRow.out q hqN
          obtain ⟨y0, y1, y2, hyv, hyl⟩ := (HCC.out q y hy).gr (gW.trans (HNX.out.trans hnq))
          obtain ⟨x0, x1, x2, hxv, hxl⟩ := (HCC.out k x HX.out).gr (gW.trans (HNX.out.trans hnq))
          obtain ⟨⟨pv, cv, hv, _⟩⟩ := id hyv
          obtain ⟨⟨pu, cu, hu, _⟩⟩ := id hxv
          have HB := Lib.hid (fun W (g : Gr wr W) => refBetter_c y x W (hyv.gr g) (hxv.gr g) hyl (HLEN.out q k y x hy HX.out))
          rw [hv, hu] at HB
          rw [hv] at y2
          rw [hu] at x2
          have HCN := Lib.hid (cntO_step (x := x) hy)
          have hcb := cntO_le xs x q
          have hq2 : (q : Int) < n := by omega
          have hq1 : (q : Int) ≤ 160 := by omega
          have HNQ := Lib.hid hnq
          have hk2 : (k : Int) < n := by omega
          clear hy hnq HRow HCC HOW HIT HLk hyv hyl hv hxv hxl hu HX HNX HLEN hL
          generalize cntO xs x q = cq at *
          generalize y.xs.length = yn at *
          generalize x.xs.length = xn at *
          cases hbt : betO y x
          · rw [hbt] at HB
            have HCN2 : Hid (cntO xs x (q + 1) = cq) := by unfold Hid; rw [HCN.out, hbt]; rfl
            clear HCN hbt
            go_wp2_with fail
            have gd := (Gr.refl wr).drew
            replace y0 := gd.cell y0
            replace y1 := gd.cell y1
            replace y2 := gd.cell y2
            replace x0 := gd.cell x0
            replace x1 := gd.cell x1
            replace x2 := gd.cell x2
            replace a3 := gd.cell a3
            have g := gd
            clear gd
            refine wp_region_held_drew (S := (fun w' => w'.cell? ⟨b, off + q * 3, none⟩ = some (.string y.nm) ∧ w'.cell? ⟨b, off + q * 3 + 1, none⟩ = some (.string y.st) ∧ w'.cell? ⟨b, off + q * 3 + 2, none⟩ = some (.slice pv yn cv) ∧ w'.cell? ⟨b, off + k * 3, none⟩ = some (.string x.nm) ∧ w'.cell? ⟨b, off + k * 3 + 1, none⟩ = some (.string x.st) ∧ w'.cell? ⟨b, off + k * 3 + 2, none⟩ = some (.slice pu xn cu) ∧ w'.cell? ⟨L, 3, none⟩ = some (.slice (some ⟨b, off, none⟩) n cap))) (by kernel_rfl) ⟨y0, y1, y2, x0, x1, x2, a3⟩ (fun hHeld => ?_)
            generalize wr.drew = Vz at *
            refine wpAnyH_take (i := 0) (v := (.pointer (some ⟨L, 3, none⟩))) (op_at rfl) (by kernel_rfl) (by kernel_rfl) (by kernel_rfl) (fun _ _ _ h => h) (Or.inl ⟨rfl, fun w hSw => ?_⟩) (by assumption) ?_
            · (try dsimp only at hSw); go_simp; try with_reducible rfl
            (try simp only [Act.put, List.setIfInBounds_toArray, List.set_cons_zero, List.set_cons_succ])
            refine wpAnyH_take (i := 1) (v := (.slice (some ⟨b, off, none⟩) n cap)) (op_at rfl) (by kernel_rfl) (by kernel_rfl) (by kernel_rfl) (fun _ _ _ h => h) (Or.inl ⟨rfl, fun w hSw => ?_⟩) (by assumption) ?_
            · (try dsimp only at hSw); go_simp; try with_reducible rfl
            (try simp only [Act.put, List.setIfInBounds_toArray, List.set_cons_zero, List.set_cons_succ])
            refine wpAnyH_take (i := 2) (v := (.int .i64 q)) (op_at rfl) (by kernel_rfl) (by kernel_rfl) (by kernel_rfl) (fun _ _ _ h => h) (Or.inl ⟨rfl, fun w hSw => ?_⟩) (by assumption) ?_
            · (try dsimp only at hSw); go_simp; try with_reducible rfl
            (try simp only [Act.put, List.setIfInBounds_toArray, List.set_cons_zero, List.set_cons_succ])
            refine wpAnyH_take (i := 3) (v := (.pointer (some ⟨b, off + q * 3, none⟩))) (op_at rfl) (by kernel_rfl) (by kernel_rfl) (by kernel_rfl) (fun _ _ _ h => h) (Or.inl ⟨rfl, fun w hSw => ?_⟩) (by assumption) ?_
            · (try dsimp only at hSw); go_simp; try with_reducible rfl
            (try simp only [Act.put, List.setIfInBounds_toArray, List.set_cons_zero, List.set_cons_succ])
            refine wpAnyH_take (i := 4) (v := (.agg #[.string y.nm, .string y.st, .slice pv yn cv])) (op_at rfl) (by kernel_rfl) (by kernel_rfl) (by kernel_rfl) (fun _ _ _ h => h) (Or.inl ⟨rfl, fun w hSw => ?_⟩) (by assumption) ?_
            · (try dsimp only at hSw); go_simp; try with_reducible rfl
            (try simp only [Act.put, List.setIfInBounds_toArray, List.set_cons_zero, List.set_cons_succ])
            refine wpAnyH_take (i := 5) (v := (.pointer (some ⟨L, 3, none⟩))) (op_at rfl) (by kernel_rfl) (by kernel_rfl) (by kernel_rfl) (fun _ _ _ h => h) (Or.inl ⟨rfl, fun w hSw => ?_⟩) (by assumption) ?_
            · (try dsimp only at hSw); go_simp; try with_reducible rfl
            (try simp only [Act.put, List.setIfInBounds_toArray, List.set_cons_zero, List.set_cons_succ])
            refine wpAnyH_take (i := 6) (v := (.slice (some ⟨b, off, none⟩) n cap)) (op_at rfl) (by kernel_rfl) (by kernel_rfl) (by kernel_rfl) (fun _ _ _ h => h) (Or.inl ⟨rfl, fun w hSw => ?_⟩) (by assumption) ?_
            · (try dsimp only at hSw); go_simp; try with_reducible rfl
            (try simp only [Act.put, List.setIfInBounds_toArray, List.set_cons_zero, List.set_cons_succ])
            refine wpAnyH_take (i := 7) (v := (.int .i64 k)) (op_at rfl) (by kernel_rfl) (by kernel_rfl) (by kernel_rfl) (fun _ _ _ h => h) (Or.inl ⟨rfl, fun w hSw => ?_⟩) (by assumption) ?_
            · (try dsimp only at hSw); go_simp; try with_reducible rfl
            (try simp only [Act.put, List.setIfInBounds_toArray, List.set_cons_zero, List.set_cons_succ])
            refine wpAnyH_take (i := 8) (v := (.pointer (some ⟨b, off + k * 3, none⟩))) (op_at rfl) (by kernel_rfl) (by kernel_rfl) (by kernel_rfl) (fun _ _ _ h => h) (Or.inl ⟨rfl, fun w hSw => ?_⟩) (by assumption) ?_
            · (try dsimp only at hSw); go_simp; try with_reducible rfl
            (try simp only [Act.put, List.setIfInBounds_toArray, List.set_cons_zero, List.set_cons_succ])
            refine wpAnyH_take (i := 9) (v := (.agg #[.string x.nm, .string x.st, .slice pu xn cu])) (op_at rfl) (by kernel_rfl) (by kernel_rfl) (by kernel_rfl) (fun _ _ _ h => h) (Or.inl ⟨rfl, fun w hSw => ?_⟩) (by assumption) ?_
            · (try dsimp only at hSw); go_simp; try with_reducible rfl
            (try simp only [Act.put, List.setIfInBounds_toArray, List.set_cons_zero, List.set_cons_succ])
            refine wpAnyH_ready (rs := [10]) (by kernel_rfl) (by simp) (AllReadyH.cons (op_at rfl) (fun K hK => ?_) AllReadyH.nil)
            go_simp
            (refine (HB.out _ g).mono ?_; rintro e W2 ⟨rfl, hg⟩; replace y0 := hg.cell y0; replace y1 := hg.cell y1; replace y2 := hg.cell y2; replace x0 := hg.cell x0; replace x1 := hg.cell x1; replace x2 := hg.cell x2; replace a3 := hg.cell a3; replace g := g.trans hg; clear hg)
            go_wp2_with fail
            refine hK.out _ _ ⟨y0, y1, y2, x0, x1, x2, a3⟩ (fun hHeld => ?_)
            clear hK K
            (try simp only [Act.put, List.setIfInBounds_toArray, List.set_cons_zero, List.set_cons_succ])
            refine wpAnyH_done (by kernel_rfl) ?_ _
            go_wp2_with fail
            go_roundw
            case rel => exact ⟨q + 1, by omega, by go_num, by rw [HCN2.out]; try rfl, HNQ.out.trans g⟩
            case measure => simp [intOf]; omega
          · rw [hbt] at HB
            have HCN2 : Hid (cntO xs x (q + 1) = cq + 1) := by unfold Hid; rw [HCN.out, hbt]; rfl
            clear HCN hbt
            go_wp2_with fail
            have gd := (Gr.refl wr).drew
            replace y0 := gd.cell y0
            replace y1 := gd.cell y1
            replace y2 := gd.cell y2
            replace x0 := gd.cell x0
            replace x1 := gd.cell x1
            replace x2 := gd.cell x2
            replace a3 := gd.cell a3
            have g := gd
            clear gd
            refine wp_region_held_drew (S := (fun w' => w'.cell? ⟨b, off + q * 3, none⟩ = some (.string y.nm) ∧ w'.cell? ⟨b, off + q * 3 + 1, none⟩ = some (.string y.st) ∧ w'.cell? ⟨b, off + q * 3 + 2, none⟩ = some (.slice pv yn cv) ∧ w'.cell? ⟨b, off + k * 3, none⟩ = some (.string x.nm) ∧ w'.cell? ⟨b, off + k * 3 + 1, none⟩ = some (.string x.st) ∧ w'.cell? ⟨b, off + k * 3 + 2, none⟩ = some (.slice pu xn cu) ∧ w'.cell? ⟨L, 3, none⟩ = some (.slice (some ⟨b, off, none⟩) n cap))) (by kernel_rfl) ⟨y0, y1, y2, x0, x1, x2, a3⟩ (fun hHeld => ?_)
            generalize wr.drew = Vz at *
            refine wpAnyH_take (i := 0) (v := (.pointer (some ⟨L, 3, none⟩))) (op_at rfl) (by kernel_rfl) (by kernel_rfl) (by kernel_rfl) (fun _ _ _ h => h) (Or.inl ⟨rfl, fun w hSw => ?_⟩) (by assumption) ?_
            · (try dsimp only at hSw); go_simp; try with_reducible rfl
            (try simp only [Act.put, List.setIfInBounds_toArray, List.set_cons_zero, List.set_cons_succ])
            refine wpAnyH_take (i := 1) (v := (.slice (some ⟨b, off, none⟩) n cap)) (op_at rfl) (by kernel_rfl) (by kernel_rfl) (by kernel_rfl) (fun _ _ _ h => h) (Or.inl ⟨rfl, fun w hSw => ?_⟩) (by assumption) ?_
            · (try dsimp only at hSw); go_simp; try with_reducible rfl
            (try simp only [Act.put, List.setIfInBounds_toArray, List.set_cons_zero, List.set_cons_succ])
            refine wpAnyH_take (i := 2) (v := (.int .i64 q)) (op_at rfl) (by kernel_rfl) (by kernel_rfl) (by kernel_rfl) (fun _ _ _ h => h) (Or.inl ⟨rfl, fun w hSw => ?_⟩) (by assumption) ?_
            · (try dsimp only at hSw); go_simp; try with_reducible rfl
            (try simp only [Act.put, List.setIfInBounds_toArray, List.set_cons_zero, List.set_cons_succ])
            refine wpAnyH_take (i := 3) (v := (.pointer (some ⟨b, off + q * 3, none⟩))) (op_at rfl) (by kernel_rfl) (by kernel_rfl) (by kernel_rfl) (fun _ _ _ h => h) (Or.inl ⟨rfl, fun w hSw => ?_⟩) (by assumption) ?_
            · (try dsimp only at hSw); go_simp; try with_reducible rfl
            (try simp only [Act.put, List.setIfInBounds_toArray, List.set_cons_zero, List.set_cons_succ])
            refine wpAnyH_take (i := 4) (v := (.agg #[.string y.nm, .string y.st, .slice pv yn cv])) (op_at rfl) (by kernel_rfl) (by kernel_rfl) (by kernel_rfl) (fun _ _ _ h => h) (Or.inl ⟨rfl, fun w hSw => ?_⟩) (by assumption) ?_
            · (try dsimp only at hSw); go_simp; try with_reducible rfl
            (try simp only [Act.put, List.setIfInBounds_toArray, List.set_cons_zero, List.set_cons_succ])
            refine wpAnyH_take (i := 5) (v := (.pointer (some ⟨L, 3, none⟩))) (op_at rfl) (by kernel_rfl) (by kernel_rfl) (by kernel_rfl) (fun _ _ _ h => h) (Or.inl ⟨rfl, fun w hSw => ?_⟩) (by assumption) ?_
            · (try dsimp only at hSw); go_simp; try with_reducible rfl
            (try simp only [Act.put, List.setIfInBounds_toArray, List.set_cons_zero, List.set_cons_succ])
            refine wpAnyH_take (i := 6) (v := (.slice (some ⟨b, off, none⟩) n cap)) (op_at rfl) (by kernel_rfl) (by kernel_rfl) (by kernel_rfl) (fun _ _ _ h => h) (Or.inl ⟨rfl, fun w hSw => ?_⟩) (by assumption) ?_
            · (try dsimp only at hSw); go_simp; try with_reducible rfl
            (try simp only [Act.put, List.setIfInBounds_toArray, List.set_cons_zero, List.set_cons_succ])
            refine wpAnyH_take (i := 7) (v := (.int .i64 k)) (op_at rfl) (by kernel_rfl) (by kernel_rfl) (by kernel_rfl) (fun _ _ _ h => h) (Or.inl ⟨rfl, fun w hSw => ?_⟩) (by assumption) ?_
            · (try dsimp only at hSw); go_simp; try with_reducible rfl
            (try simp only [Act.put, List.setIfInBounds_toArray, List.set_cons_zero, List.set_cons_succ])
            refine wpAnyH_take (i := 8) (v := (.pointer (some ⟨b, off + k * 3, none⟩))) (op_at rfl) (by kernel_rfl) (by kernel_rfl) (by kernel_rfl) (fun _ _ _ h => h) (Or.inl ⟨rfl, fun w hSw => ?_⟩) (by assumption) ?_
            · (try dsimp only at hSw); go_simp; try with_reducible rfl
            (try simp only [Act.put, List.setIfInBounds_toArray, List.set_cons_zero, List.set_cons_succ])
            refine wpAnyH_take (i := 9) (v := (.agg #[.string x.nm, .string x.st, .slice pu xn cu])) (op_at rfl) (by kernel_rfl) (by kernel_rfl) (by kernel_rfl) (fun _ _ _ h => h) (Or.inl ⟨rfl, fun w hSw => ?_⟩) (by assumption) ?_
            · (try dsimp only at hSw); go_simp; try with_reducible rfl
            (try simp only [Act.put, List.setIfInBounds_toArray, List.set_cons_zero, List.set_cons_succ])
            refine wpAnyH_ready (rs := [10]) (by kernel_rfl) (by simp) (AllReadyH.cons (op_at rfl) (fun K hK => ?_) AllReadyH.nil)
            go_simp
            (refine (HB.out _ g).mono ?_; rintro e W2 ⟨rfl, hg⟩; replace y0 := hg.cell y0; replace y1 := hg.cell y1; replace y2 := hg.cell y2; replace x0 := hg.cell x0; replace x1 := hg.cell x1; replace x2 := hg.cell x2; replace a3 := hg.cell a3; replace g := g.trans hg; clear hg)
            go_wp2_with fail
            refine hK.out _ _ ⟨y0, y1, y2, x0, x1, x2, a3⟩ (fun hHeld => ?_)
            clear hK K
            (try simp only [Act.put, List.setIfInBounds_toArray, List.set_cons_zero, List.set_cons_succ])
            refine wpAnyH_done (by kernel_rfl) ?_ _
            go_wp2_with fail
            go_roundw
            case rel => exact ⟨q + 1, by omega, by go_num, by rw [HCN2.out]; try (congr 1; omega), HNQ.out.trans g⟩
            case measure => simp [intOf]; omega
        · obtain rfl : q = n := by omega
          have hown := HOW.out _ hnq
          rw [HFin.out]
          have hsz := hnq.size
          have hlk := HLk.out
          generalize rankO xs x = rk at *
          clear HX
          go_wp2_with (first
            | (at_builtin; refine wpList_append_own _ rfl _ _ 34 rfl W.heap.size 3 i1 (.int .i64 0) 1 8 Tryz.underlying34 hj hy0 hy1 hy2 rfl (by decide) _ _ _ rfl (hown.alloc _) ⟨wr.heap.size, 0, none⟩ 1 1 [.int .i64 rk] rfl rfl (cell_one_new _ _ _) (by intro u hu; simp at hu; subst hu; rfl) (by unfold maxLen; omega) (by omega) (by simp; omega) ?_; intro v1 w1 hown1 hgrow1 hnil1))
          go_roundw
          case rel => exact ⟨k + 1, by omega, by go_num, by rw [HIT.out]; exact hown1, Below.grown ((HNX.out.trans hnq).alloc _) hgrow1 (by simp; omega) (fun j hj => (hown.lt j hj).1)⟩
          case measure => simp [intOf]; omega
    · obtain rfl : k = n := by omega
      rw [List.take_of_length_le (by omega)] at hown
      go_wp2_with fail
      go_ret
      exact ⟨_, rfl, own_lower hown hBW, gW.trans hnx⟩
theorem refRanks10_nil (ro : ByteArray) (va : Int) (st : ByteArray) (p : Option Addr) (cap : Nat) (w : World) :
    Calls Tryz.prog 10 #[.agg #[.string ro, .int .i64 va, .string st, .slice p 0 cap]] w fun e w' => e = .returned (.slice none 0 0) ∧ Gr w w' := by
  go_enter Tryz.func10, Tryz.ntmps10
  go_wp2_with fail
  refine wp_loop_rounds 2 ?_
  rw [rounds_succ]
  go_wp2_with fail
  go_ret
  exact ⟨rfl, (Gr.refl w).alloc _⟩
theorem refRanks10_c {w : World} {xs : List RowR} {p : Option Addr} {n cap : Nat} (ro st : ByteArray) (va : Int) (hv : RowsV w (.slice p n cap) xs) (h1 : n ≤ 160)
    (hlen : ∀ (i j : Nat) (x y : RowR), xs[i]? = some x → xs[j]? = some y → (x.st.toList == y.st.toList) = true → x.xs.length = y.xs.length) :
    Calls Tryz.prog 10 #[.agg #[.string ro, .int .i64 va, .string st, .slice p n cap]] w fun e w' => ∃ v, e = .returned v ∧ w'.ownsRow w.heap.size 3 1 v n (ints (ranksO xs)) ∧ Gr w w' := by
  obtain ⟨hn, hcap, hh⟩ := hv.atO
  by_cases h0 : 0 < n
  · obtain ⟨b, off, rfl, hc⟩ := hh h0
    exact refRanks10_pos ro va st xs n b off cap w hn h1 hc hlen
  · obtain rfl : n = 0 := by omega
    have hx : xs = [] := List.eq_nil_of_length_eq_zero hn
    subst hx
    exact (refRanks10_nil ro va st p cap w).mono fun e w' ⟨he, hg⟩ => ⟨_, he, World.ownsRow_nil _ _ _ _, hg⟩
end Go.Proofs.YtjkiidkacpffnaaGreatDoor
