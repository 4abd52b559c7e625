/- MemberGaps: the law, walked. -/
import Derived.Test.YtmlmbgifkmkmgaaGreatGMbH
namespace Go.Proofs.YtmlmbgifkmkmgaaGreat
open Go.RowKit Go.Lib
set_option linter.unusedSimpArgs false
set_option linter.unusedVariables false
/-- all calls of awake() return true -/
def AwakeOK (w : World) : Prop := ∀ W, Gr w W → Calls Tryz.prog 8 #[] W fun e w' => e = .returned (.bool true) ∧ Gr W w'
set_option maxHeartbeats 2000000 in
set_option maxRecDepth 100000 in
theorem lawGaps_c (xs : List CatR) (v : Value) (born day : Int) (w : World) (hv : CatAts w v xs) (hb : xs.length * 32 ≤ 140737488355328) (hA : AwakeOK w) :
    Calls Tryz.prog 5 #[v, .int .i64 born, .int .i64 day] w fun e w' => e = .returned (.bool true) ∧ Gr w w' := by
  have HA := Lib.hid hA
  have HCv := Lib.hid (cats_c hv hb)
  have HV := Lib.hid hv
  obtain ⟨p, n, cap, rfl, hn⟩ : ∃ p n cap, v = .slice p n cap ∧ n = xs.length := by
    obtain ⟨⟨p, cap, rfl, _⟩⟩ := hv
    exact ⟨p, _, cap, rfl, rfl⟩
  have HN := Lib.hid hn
  clear hA hv hb hn
  have OUT : ∀ (W W' : World), Gr w W → Gr W W' → Gr w W' := fun W W' g h => g.trans h
  have HOB := Lib.hid (fun W => refOutside_c born 0 10000 W)
  have HOD := Lib.hid (fun W => refOutside_c day born 90000 W)
  have ho1 : outB born 0 10000 = (decide (born < 0) || decide (10000 < born)) := rfl
  have ho2 : outB day born 90000 = (decide (day < born) || decide (90000 < day)) := rfl
  generalize outB born 0 10000 = o1 at *
  generalize outB day born 90000 = o2 at *
  have HO1 := Lib.hid ho1
  have HO2 := Lib.hid ho2
  clear ho1 ho2
  by_cases hn12 : (12 : Int) < n
  · have h12 : decide ((12 : Int) < n) = true := decide_eq_true hn12
    go_enter Tryz.func5, Tryz.ntmps5
    go_wp2_with fail
    refine HCv.out.mono ?_
    rintro e W1 ⟨u, rfl, hu, g1⟩
    go_wp2_with fail
    refine (HA.out _ g1).mono ?_
    rintro e W2 ⟨rfl, g2⟩
    replace g2 := g1.trans g2
    go_wp2_with fail
    refine (HA.out _ g2).mono ?_
    rintro e W3 ⟨rfl, g3⟩
    go_wp2_with fail
    go_ret
    exact ⟨rfl, g2.trans g3⟩
  have h12 : decide ((12 : Int) < n) = false := decide_eq_false hn12
  go_enter Tryz.func5, Tryz.ntmps5
  go_wp2_with fail
  refine HCv.out.mono ?_
  rintro e W1 ⟨u, rfl, hu, g1⟩
  have HU := Lib.hid hu
  clear hu
  go_wp2_with fail
  refine (HA.out _ g1).mono ?_
  rintro e W2 ⟨rfl, g2⟩
  have g02 := g1.trans g2
  go_wp2_with fail
  refine (shortCats_c (HU.out.gr g2)).mono ?_
  rintro e W2' ⟨⟨r, rfl, hr⟩, rfl⟩
  have HR := Lib.hid hr
  clear hr
  cases r
  · go_wp2_with fail
    refine (HA.out _ g02).mono ?_
    rintro e W3 ⟨rfl, g3⟩
    go_wp2_with fail
    go_ret
    exact ⟨rfl, g02.trans g3⟩
  go_wp2_with fail
  refine (refCats_c (HU.out.gr g2)).mono ?_
  rintro e W3 ⟨rfl, g3⟩
  replace g3 := g02.trans g3
  by_cases hz : listE 256 (catE xs) xs = 0
  case neg =>
    have q1 : (listE 256 (catE xs) xs == 0) = false := by simpa using hz
    have q2 : (listE 256 (catE xs) xs != 0) = true := by simpa [bne] using q1
    generalize listE 256 (catE xs) xs = z at *
    clear q1 hz
    go_wp2_with fail
    refine (HA.out _ g3).mono ?_
    rintro e W4 ⟨rfl, g4⟩
    go_wp2_with fail
    go_ret
    exact ⟨rfl, g3.trans g4⟩
  have HZ := Lib.hid hz
  rw [hz]
  clear hz
  go_wp2_with fail
  refine (HOB.out _).mono ?_
  rintro e W3' ⟨rfl, rfl⟩
  cases o1
  case true =>
    go_wp2_with fail
    refine (HA.out _ g3).mono ?_
    rintro e W4 ⟨rfl, g4⟩
    go_wp2_with fail
    go_ret
    exact ⟨rfl, g3.trans g4⟩
  go_wp2_with fail
  refine (HOD.out _).mono ?_
  rintro e W3' ⟨rfl, rfl⟩
  cases o2
  case true =>
    go_wp2_with fail
    refine (HA.out _ g3).mono ?_
    rintro e W4 ⟨rfl, g4⟩
    go_wp2_with fail
    go_ret
    exact ⟨rfl, g3.trans g4⟩
  have b0 : 0 ≤ born ∧ born ≤ 10000 := by have := HO1.out; simp at this; omega
  have b1 : born ≤ day ∧ day ≤ 90000 := by have := HO2.out; simp at this; omega
  go_wp2_with fail
  refine (gaps_good (HV.out.gr g3) HZ.out).mono ?_
  rintro e W4 ⟨gv, rfl, hG, g4⟩
  replace g4 := g3.trans g4
  have HG := Lib.hid hG
  clear hG
  have HAg1 := Lib.hid (fun W => age_ok (annR born) day W (ann_ok b0.1 b1.1 (by omega)))
  have HAg2 := Lib.hid (fun W => age_ok (annR born) (day + 365) W (ann_ok b0.1 (by omega) (by omega)))
  have hbn : (annR born).bn = born := rfl
  rw [hbn] at HAg1 HAg2
  have hq : (day + 365 - born) / 365 = (day - born) / 365 + 1 := by omega
  rw [hq] at HAg2
  obtain ⟨a, ha⟩ : ∃ a, a = (day - born) / 365 := ⟨_, rfl⟩
  have ha1 : 365 * a ≤ day - born := by omega
  have ha2 : day - born < 365 * (a + 1) := by omega
  have ha3 : 0 ≤ a ∧ a ≤ 250 := by omega
  rw [← ha] at HAg1 HAg2
  unfold cliV annR at HAg1 HAg2
  clear hbn hq ha
  obtain ⟨W5, hW5, g5, c0, c1, c2, c3⟩ := box4 W4 (.string ⟨#[97, 110, 110]⟩) (.string ⟨#[65]⟩) (.int .i64 born) (.string ⟨#[111, 112, 101, 110]⟩) 42
  have HW5 := Lib.hid hW5
  clear hW5
  obtain ⟨ha0, ha4⟩ := ha3
  obtain ⟨b00, b01⟩ := b0
  obtain ⟨b10, b11⟩ := b1
  go_wp2_with fail
  rw [HW5.out]
  generalize W4.heap.size = C at *
  have g05 := g4.trans g5
  clear HW5
  refine (HAg1.out _).mono ?_
  rintro e W6 ⟨rfl, g6⟩
  replace c0 := g6.cell c0
  replace c1 := g6.cell c1
  replace c2 := g6.cell c2
  replace c3 := g6.cell c3
  have HG5 := Lib.hid ((HG.out.gr g5).gr g6)
  have g06 := g05.trans g6
  clear HG g6 g05 g5
  go_wp2_with fail
  refine (HAg2.out _).mono ?_
  rintro e W7 ⟨rfl, g7⟩
  replace c0 := g7.cell c0
  replace c1 := g7.cell c1
  replace c2 := g7.cell c2
  replace c3 := g7.cell c3
  have HGG := Lib.hid (HG5.out.gr g7)
  have g07 := g06.trans g7
  clear HG5 g7 g06
  have HTq := Lib.hid (fun (k : Nat) (q : GapR) (h : (gapL (covF xs) 121)[k]? = some q) => gapT (covF xs) h)
  have HLb := Lib.hid (lastB_le (covF xs))
  have HIn := Lib.hid (fun (a : Nat) (h : a < 121) => inG_cov (f := covF xs) h)
  have hglen := gapL_len (covF xs) 121
  generalize gapL (covF xs) 121 = gs at *
  obtain ⟨⟨pg, cg, rfl, hcg, hhg⟩⟩ := HGG.out
  obtain ⟨m, hm⟩ : ∃ m, m = gs.length := ⟨_, rfl⟩
  rw [← hm] at hglen hhg ⊢
  have HM := Lib.hid hm
  have HH := Lib.hid hhg
  clear hm hhg hcg HGG
  have hmk := make_121 W7
  go_wp2_with fail
  go_loopw [15, 104] (fun lv ix wr => ∃ (k : Nat) (cur : Array Value), k ≤ m ∧ ix = .int .i64 k ∧ lv = .int .i64 (lastB gs k) ∧ wr.heap[W7.heap.size]? = some (.cells cur 4 (0, 0)) ∧ BitsA 121 (inG (gs.take k)) cur ∧ Gr W7 wr) (fun _ ix _ => m - (intOf ix).toNat)
  case atStart => exact ⟨0, _, Nat.zero_le _, rfl, by rw [lastB_zero], heap_alloc_new _ _, ⟨by simp, fun a ha => by simp [Array.getElem?_replicate, ha, inG]⟩, (Gr.refl _).alloc _⟩
  case round =>
    obtain ⟨k, cur, hk, rfl, rfl, hF, hB, hnx⟩ := hrel
    by_cases hkm : k < m
    · obtain ⟨q, hq⟩ : ∃ q, gs[k]? = some q := ⟨gs[k]'(by have := HM.out; omega), List.getElem?_eq_getElem _⟩
      obtain ⟨bg, og, rfl, hcc⟩ := HH.out (by omega)
      obtain ⟨d0, d1⟩ := (hcc k q hq).gr hnx
      have hT := HTq.out k q hq
      obtain ⟨t0, t1, t2, t3⟩ := hT
      have hlb := HLb.out k
      obtain ⟨l0, l1⟩ := hlb
      have HIK := Lib.hid (inG_take hq)
      have HLS := Lib.hid (lastB_succ hq)
      have hi2 : (k : Int) < m := by omega
      obtain ⟨q0, hq0⟩ : ∃ q0 : Nat, q.a = (q0 : Int) := ⟨q.a.toNat, by omega⟩
      rw [hq0] at d0 t0 t1 t3
      have HQ0 := Lib.hid hq0
      have hblk := heap_alloc_new wr (.cells #[.int .i64 q0, .int .i64 q.b] 53)
      have hFW := ((Gr.refl wr).alloc (.cells #[.int .i64 q0, .int .i64 q.b] 53)).block hF
      have hnxW := hnx.trans ((Gr.refl wr).alloc (.cells #[.int .i64 q0, .int .i64 q.b] 53))
      have hbs : wr.heap.size ≠ W7.heap.size := by have := (Array.getElem?_eq_some_iff.1 hF).1; omega
      have HBS := Lib.hid hbs
      have HB0 := Lib.hid hB
      generalize lastB gs k = lk at *
      generalize inG (gs.take k) = fk at *
      clear hcc hq hq0 hbs hF hB
      go_wp2_with fail
      generalize wr.alloc (.cells #[.int .i64 q0, .int .i64 q.b] 53) = W at *
      generalize wr.heap.size = Bx at *
      go_loopw [19] (fun ax wr2 => ∃ (j : Nat) (cur2 : Array Value), q0 ≤ j ∧ (j : Int) ≤ q.b + 1 ∧ ax = .int .i64 j ∧ wr2.heap[W7.heap.size]? = some (.cells cur2 4 (0, 0)) ∧ BitsA 121 (fun a => fk a || (decide ((q0 : Int) ≤ (a : Int)) && decide ((a : Int) < j))) cur2 ∧ wr2.heap[Bx]? = some (.cells #[.int .i64 q0, .int .i64 q.b] 53 (0, 0)) ∧ Gr W7 wr2) (fun ax _ => (q.b + 1 - intOf ax).toNat)
      case atStart => exact ⟨q0, cur, Nat.le_refl _, by omega, rfl, hFW, HB0.out.congr fun a ha => by
        have : (decide ((q0 : Int) ≤ (a : Int)) && decide ((a : Int) < (q0 : Int))) = false := by
          rw [Bool.and_eq_false_iff, decide_eq_false_iff_not, decide_eq_false_iff_not]; omega
        rw [this, Bool.or_false], hblk, hnxW⟩
      case round =>
        obtain ⟨j, cur2, hj1, hj2, rfl, hG2, hB2, hbx, hnx2⟩ := hrel
        have a1 : wr.cell? ⟨Bx, 1, none⟩ = some (.int .i64 q.b) := by rw [cell_of_row wr Bx 1 _ _ (0, 0) hbx]; rfl
        by_cases hle : (j : Int) ≤ q.b
        · have hcell : wr.cell? ⟨W7.heap.size, j, none⟩ = some (.bool (fk j || (decide ((q0 : Int) ≤ (j : Int)) && decide ((j : Int) < (j : Int))))) := by
            rw [cell_of_row wr W7.heap.size j cur2 _ (0, 0) hG2]; exact hB2.cell j (by omega)
          generalize (fk j || (decide ((q0 : Int) ≤ (j : Int)) && decide ((j : Int) < (j : Int)))) = b0 at hcell
          have hfz := frozen_of_row wr W7.heap.size j cur2 _ hG2
          have HSE := Lib.hid (heap_setCell_same wr W7.heap.size j cur2 _ (.bool true) hG2)
          have HSO := Lib.hid (heap_setCell_other wr ⟨W7.heap.size, j, none⟩ Bx (.bool true) HBS.out)
          have HST := Lib.hid (bits_inner (by omega) hle t2 hB2)
          have hnx3 : Gr W7 (wr.setCell ⟨W7.heap.size, j, none⟩ (.bool true)) := Below.setCell hnx2 (Nat.le_refl _) _
          have hj3 : (j : Int) < 121 := by omega
          clear hB2 hG2
          go_wp2_with fail
          go_roundw
          case rel => exact ⟨j + 1, _, by omega, by omega, by go_num, HSE.out, HST.out, by rw [HSO.out]; exact hbx, hnx3⟩
          case measure => simp [intOf]; omega
        · have HEND := Lib.hid (show BitsA 121 (inG (gs.take (k + 1))) cur2 from (bits_end (by omega) hj2 hB2).congr fun a ha => by rw [HIK.out, HQ0.out])
          clear hB2
          go_wp2_with fail
          go_roundw
          case rel => exact ⟨k + 1, _, by omega, by go_num, by rw [HLS.out], hG2, HEND.out, hnx2⟩
          case measure => simp [intOf]; omega
    · have hkk : k = m := by omega
      subst hkk
      have HB0 := Lib.hid (show BitsA 121 (inG gs) cur by rw [List.take_of_length_le (by have := HM.out; omega)] at hB; exact hB)
      clear hB
      go_wp2_with fail
      have hF0 := hF
      have hnx0 := hnx
      clear hF hnx
      go_loopw [146] (fun ix wr => ∃ j : Nat, j ≤ 121 ∧ ix = .int .i64 j ∧ wr.heap[W7.heap.size]? = some (.cells cur 4 (0, 0)) ∧ Gr W7 wr) (fun ix _ => 121 - (intOf ix).toNat)
      case atStart => exact ⟨0, Nat.zero_le _, rfl, hF0, hnx0⟩
      case round =>
        obtain ⟨j, hj, rfl, hF, hnx⟩ := hrel
        by_cases hj121 : j < 121
        · have hS := suits_good (annR born) (born + 365 * (j : Int)) wr (HV.out.gr (g07.trans hnx)) HZ.out (ann_ok b00 (by omega) (by omega))
          have hag : (born + 365 * (j : Int) - (annR born).bn) / 365 = j := by show (born + 365 * (j : Int) - born) / 365 = j; omega
          rw [hag] at hS
          unfold cliV annR at hS
          have HS := Lib.hid hS
          have e0 := hnx.cell c0
          have e1 := hnx.cell c1
          have e2 := hnx.cell c2
          have e3 := hnx.cell c3
          have hi2 : (j : Int) < 121 := by omega
          have hcell : wr.cell? ⟨W7.heap.size, j, none⟩ = some (.bool (!covF xs j)) := by
            rw [cell_of_row wr W7.heap.size j cur _ (0, 0) hF, HB0.out.cell j hj121, HIn.out j hj121]
          have hcov := suitL_cov xs j
          have hFF := hF
          clear hS hag hF
          have hcv : covB xs (j : Int) = covF xs j := rfl
          rw [hcv] at hcov
          clear hcv
          have HFF := Lib.hid hFF
          clear hFF
          cases hc : covF xs j
          · rw [hc] at hcell hcov
            have hz0 : (suitL xs (j : Int)).length = 0 := by
              rcases Nat.eq_zero_or_pos (suitL xs (j : Int)).length with h | h
              · exact h
              · exact absurd (hcov.1 h) (by decide)
            have HZ0 := Lib.hid hz0
            have hcell' : wr.cell? ⟨W7.heap.size, j, none⟩ = some (.bool true) := hcell
            clear hcov hz0 hc hcell
            go_wp2_with fail
            refine HS.out.mono ?_
            rintro e W8 ⟨u2, rfl, ⟨⟨p2, cp2, rfl, _⟩⟩, hg8⟩
            have hcell := hg8.cell hcell'
            rw [HZ0.out]
            clear hcell'
            go_wp2_with fail
            go_roundw
            case rel => exact ⟨j + 1, by omega, by go_num, hg8.block HFF.out, hnx.trans hg8⟩
            case measure => simp [intOf]; omega
          · rw [hc] at hcell hcov
            have hz0 : 0 < (suitL xs (j : Int)).length := hcov.2 rfl
            generalize hzz : (suitL xs (j : Int)).length = z at *
            have HZZ := Lib.hid hzz
            have hz1 : ((z : Int) == 0) = false := by simp; omega
            have hcell' : wr.cell? ⟨W7.heap.size, j, none⟩ = some (.bool false) := hcell
            clear hcov hc hcell hzz
            go_wp2_with fail
            refine HS.out.mono ?_
            rintro e W8 ⟨u2, rfl, ⟨⟨p2, cp2, rfl, _⟩⟩, hg8⟩
            have hcell := hg8.cell hcell'
            rw [HZZ.out]
            clear hcell'
            go_wp2_with fail
            go_roundw
            case rel => exact ⟨j + 1, by omega, by go_num, hg8.block HFF.out, hnx.trans hg8⟩
            case measure => simp [intOf]; omega
        · obtain rfl : j = 121 := by omega
          go_wp2_with fail
          go_ret
          exact ⟨rfl, g07.trans hnx⟩
end Go.Proofs.YtmlmbgifkmkmgaaGreat
