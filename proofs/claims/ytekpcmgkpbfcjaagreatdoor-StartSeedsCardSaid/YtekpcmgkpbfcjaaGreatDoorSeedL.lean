/- the law StartSeeds. -/
import Derived.Test.YtekpcmgkpbfcjaaGreatDoorSeedC
namespace Go.Proofs.YtekpcmgkpbfcjaaGreatDoor
open Go.RowKit Go.Lib
theorem rnd_some {n : Int} (h1 : 2 ≤ n) (h2 : n ≤ 64) : ∃ k, Rnd n k := by
  by_cases q1 : n ≤ 2
  · exact ⟨1, h1, h2, by omega, by omega⟩
  by_cases q2 : n ≤ 4
  · exact ⟨2, h1, h2, by omega, by omega⟩
  by_cases q3 : n ≤ 8
  · exact ⟨3, h1, h2, by omega, by omega⟩
  by_cases q4 : n ≤ 16
  · exact ⟨4, h1, h2, by omega, by omega⟩
  by_cases q5 : n ≤ 32
  · exact ⟨5, h1, h2, by omega, by omega⟩
  · exact ⟨6, h1, h2, by omega, by omega⟩
theorem info4 : (Tryz.prog.info? 4).map (fun i => (i.zero, i.size, i.bytes)) = some (some (.bool false), 1, 1) := by kernel_rfl
theorem make_bools (N : Nat) (hN : N ≤ 64) (w : World) : (Instr.makeSlice 46 (.int .i64 ((N : Int) + 1)) (.int .i64 ((N : Int) + 1))).run Tryz.prog w = .ok (.slice (some ⟨w.heap.size, 0, none⟩) (N + 1) (N + 1)) (w.alloc (.cells (Array.replicate (N + 1) (.bool false)) 4)) := by
  obtain ⟨i0, hi, hz0, hz1, hz2⟩ := info_parts info4
  have := run_make (P := Tryz.prog) w 46 4 i0 (.bool false) Tryz.underlying46 hi hz0 .i64 .i64 ((N : Int) + 1) ((N : Int) + 1) (by omega) (by omega) (by rw [hz2]; omega) (by omega)
  rw [hz1] at this
  have e : madeCells (#[.bool false] : Array Value) (N + 1) = Array.replicate (N + 1) (.bool false) := Array.ext' (by rw [toList_madeCells_one]; simp)
  simpa [Value.cells, e] using this
structure Pw (pw : Nat → Int) (n : Int) (k : Nat) : Prop where
  zero : pw 0 = 1
  succ : ∀ j, pw (j + 1) = 2 * pw j
  pos : ∀ j, 1 ≤ pw j
  mono : ∀ i j, i ≤ j → pw i ≤ pw j
  low : n ≤ pw k
  high : pw k < 2 * n
  inj : ∀ j, pw j ≤ pw k → j ≤ k
theorem pw_some {n : Int} {k : Nat} (h : Rnd n k) : ∃ pw : Nat → Int, (∀ j, ((2 ^ j : Nat) : Int) = pw j) ∧ (∀ j, (2 : Int) ^ j = pw j) ∧ Pw pw n k := by
  refine ⟨fun j => ((2 ^ j : Nat) : Int), fun j => rfl, fun j => by simp, ⟨rfl, fun j => by simp [Nat.pow_succ]; omega, fun j => ?_, fun i j hij => ?_, h.low, h.high, fun j hj => ?_⟩⟩
  · have := Nat.two_pow_pos j
    omega
  · have := Nat.pow_le_pow_right (show 0 < 2 by decide) hij
    omega
  · apply Nat.le_of_not_lt
    intro hh
    have h1 := Nat.pow_le_pow_right (show 0 < 2 by decide) (show k + 1 ≤ j from hh)
    have h2 := Nat.two_pow_pos k
    rw [Nat.pow_succ] at h1
    skip
    omega
set_option maxHeartbeats 4000000 in
set_option maxRecDepth 100000 in
theorem lawseeds_out (n p0 p1 : Int) (hn : n < 2 ∨ 64 < n) (w : World) (hA : ∀ W, Gr w W → Calls Tryz.prog 5 #[] W fun e w' => e = .returned (.bool true) ∧ Gr W w') :
    Calls Tryz.prog 4 #[.int .i64 n, .agg #[.int .u8 p0, .int .u8 p1]] w fun x w' => x = .returned (.bool true) ∧ Gr w w' := by
  obtain ⟨W, hW, g, a0, a1⟩ := box2 w (.int .u8 p0) (.int .u8 p1) 45
  have HW := Lib.hid hW
  have HA := Lib.hid hA
  clear hA hW
  have hd : (decide (n < 2) = true) ∨ (decide (n < 2) = false ∧ decide (64 < n) = true) := by
    rcases hn with h | h
    · exact .inl (by simpa using h)
    · by_cases q : n < 2
      · exact .inl (by simpa using q)
      · exact .inr ⟨by simpa using q, by simpa using h⟩
  clear hn
  rcases hd with h1 | ⟨h1, h2⟩
  all_goals
    go_enter Tryz.func4, Tryz.ntmps4
    go_wp2_with fail
    rw [HW.out]
    refine (HA.out _ g).mono ?_
    rintro e w4 ⟨rfl, hg⟩
    replace g := g.trans hg
    clear hg
    go_wp2_with fail
    refine (HA.out _ g).mono ?_
    rintro e w5 ⟨rfl, hg⟩
    go_wp2_with fail
    go_ret
    exact ⟨rfl, g.trans hg⟩
set_option maxHeartbeats 4000000 in
set_option maxRecDepth 100000 in
theorem lawseeds_in (n p0 p1 : Int) (k : Nat) (hr : Rnd n k) (hp0 : 0 ≤ p0 ∧ p0 ≤ 255) (hp1 : 0 ≤ p1 ∧ p1 ≤ 255) (w : World) (hA : ∀ W, Gr w W → Calls Tryz.prog 5 #[] W fun e w' => e = .returned (.bool true) ∧ Gr W w') :
    Calls Tryz.prog 4 #[.int .i64 n, .agg #[.int .u8 p0, .int .u8 p1]] w fun x w' => x = .returned (.bool true) ∧ Gr w w' := by
  obtain ⟨W, hW, g, a0, a1⟩ := box2 w (.int .u8 p0) (.int .u8 p1) 45
  have HW := Lib.hid hW
  have HA := Lib.hid hA
  have hn1 := hr.n2
  have hn2 := hr.n64
  have h1 : decide (n < 2) = false := by simpa using hn1
  have h2 : decide (64 < n) = false := by simpa using hn2
  have HB := Lib.hid (bracketE_c n ⟨by omega, hn2⟩)
  have HS := Lib.hid (slots hr)
  obtain ⟨pw, hq, hq2, hpw⟩ := pw_some hr
  clear hA hW
  go_enter Tryz.func4, Tryz.ntmps4
  go_wp2_with fail
  rw [HW.out]
  refine (HA.out _ g).mono ?_
  rintro e w4 ⟨rfl, hg⟩
  replace g := g.trans hg
  replace a0 := hg.cell a0
  replace a1 := hg.cell a1
  clear hg
  go_wp2_with fail
  refine (HB.out _).mono ?_
  rintro e w5 ⟨v, j, rfl, hb1, hb2, hb3, hg⟩
  have hkj := pow_one hb1 hb2 hr.low hr.high
  subst hkj
  obtain ⟨gb, cap, rfl, hbg, hgw, hcell⟩ := reads_pos hb3 (Nat.two_pow_pos _)
  have HC := Lib.hid hcell
  replace g := g.trans hg
  replace a0 := hg.cell a0
  replace a1 := hg.cell a1
  have HRN := Lib.hid hr
  have hL0 := hq j
  have hw0 := hpw.zero
  have hlow := hpw.low
  have hhigh := hpw.high
  have HP := Lib.hid hpw
  have HQ := Lib.hid hq2
  have HQ1 := Lib.hid hq
  clear hb1 hb2 hb3 hcell hg hr hq hq2 hpw
  generalize hLj : 2 ^ j = L at *
  generalize hBj : zK n (growB j) = B at *
  go_wp2_with fail
  go_loopw [7, 8] (fun s r wr => ∃ q : Nat, q ≤ j ∧ s = .int .i64 (pw q) ∧ r = .int .i64 q ∧ w5 = wr) (fun _ r _ => j - (intOf r).toNat)
  case atStart => exact ⟨0, Nat.zero_le _, by rw [hw0], rfl, rfl⟩
  case round =>
    obtain ⟨q, hqj, rfl, rfl, rfl⟩ := hrel
    have hqp := HP.out.pos q
    have hqs := HP.out.succ q
    have hj6 := HRN.out.k
    clear hw0
    by_cases hlt : pw q < n
    · have hqj' : q < j := Nat.lt_of_le_of_ne hqj fun h => by subst h; omega
      go_wp2_with fail
      go_roundw
      case rel => exact ⟨q + 1, hqj', by rw [hqs], by go_num, trivial⟩
      case measure => simp [intOf]; omega
    · have hqj' : q = j := by
        refine Nat.le_antisymm hqj (Nat.le_of_not_lt fun h => ?_)
        have := HP.out.mono (q + 1) j h
        omega
      subst hqj'
      clear hqj
      rw [← hL0] at hlt hlow hhigh
      rw [← hL0]
      clear hqp hqs
      obtain ⟨N, hN⟩ : ∃ N : Nat, n = N := ⟨n.toNat, by omega⟩
      subst hN
      have hmk := make_bools N (by omega) w5
      have HBL : Hid (B.length = L) := by unfold Hid; rw [HS.out.len, hLj]
      go_wp2_with fail
      go_loopw [56] (fun ix wr => ∃ (i : Nat) (cur : Array Value), i ≤ L ∧ ix = .int .i64 i ∧ wr.heap[w5.heap.size]? = some (.cells cur 4 (0, 0)) ∧ Seen N B i cur ∧ Gr w5 wr) (fun ix _ => L - (intOf ix).toNat)
      case atStart => exact ⟨0, _, Nat.zero_le _, rfl, heap_alloc_new _ _, Seen.start N B, (Gr.refl _).alloc _⟩
      case round =>
        obtain ⟨i, cur, hiL, rfl, hgc, hseen, hnx⟩ := hrel
        by_cases hil : (i : Int) < L
        · have hil2 : i < B.length := by rw [HBL.out]; omega
          have hx : B[i]? = some B[i] := List.getElem?_eq_getElem hil2
          have hx0 := HS.out.low i _ hx
          have hxn := HS.out.high i _ hx
          obtain ⟨m, hm⟩ : ∃ m : Nat, B[i] = (m : Int) := ⟨B[i].toNat, by omega⟩
          rw [hm] at hx hx0 hxn
          clear hm
          have hc := hnx.cell (HC.out i _ hx)
          have hst := hseen.store hx (by omega)
          have hfz := frozen_of_row wr w5.heap.size m cur 4 hgc
          have hset := heap_setCell_same wr w5.heap.size m cur 4 (.bool true) hgc
          have HST := Lib.hid hst
          have HSE := Lib.hid hset
          have hnx3 : Gr w5 (wr.setCell ⟨w5.heap.size, m, none⟩ (.bool true)) := Below.setCell hnx (Nat.le_refl _) _
          have d1 : decide ((m : Int) < 0) = false := by simp
          have d2 : decide ((N : Int) < m) = false := by simp; omega
          have hfresh : 0 < m → wr.cell? ⟨w5.heap.size, m, none⟩ = some (.bool false) := fun h => by
            rw [cell_of_row wr w5.heap.size m cur 4 (0, 0) hgc]
            exact hseen.fresh HS.out hx (by omega) h
          have hc3 := hnx3.cell (HC.out i _ hx)
          clear hst hset
          rcases Nat.mod_two_eq_zero_or_one i with ho | ho
          · have hm2 : Int.tmod (i : Int) 2 = 0 := by rw [Int.tmod_eq_emod_of_nonneg (by omega)]; omega
            by_cases h0 : 0 < m
            · have d3 : decide (0 < (m : Int)) = true := by simp; omega
              have hfr := hfresh h0
              clear hfresh hseen hgc
              go_wp2_with fail
              go_big_quiet (fail)
              go_wp2_with fail
              go_roundw
              case rel => exact ⟨i + 1, _, by omega, by go_num, HSE.out, HST.out, hnx3.drewN _⟩
              case measure => simp [intOf]; omega
            · have d3 : decide (0 < (m : Int)) = false := by simp; omega
              obtain ⟨b0, hb0⟩ := hseen.zero
              have hfr : wr.cell? ⟨w5.heap.size, m, none⟩ = some (.bool b0) := by
                rw [cell_of_row wr w5.heap.size m cur 4 (0, 0) hgc, show m = 0 by omega]
                exact hb0
              clear hb0
              clear hfresh hseen hgc
              go_wp2_with fail
              go_big_quiet (fail)
              go_wp2_with fail
              go_roundw
              case rel => exact ⟨i + 1, _, by omega, by go_num, HSE.out, HST.out, hnx3.drewN _⟩
              case measure => simp [intOf]; omega
          · obtain ⟨i', rfl⟩ : ∃ i', i = i' + 1 := ⟨i - 1, by omega⟩
            have hm2 : Int.tmod ((i' : Int) + 1) 2 = 1 := by rw [Int.tmod_eq_emod_of_nonneg (by omega)]; omega
            have hil3 : i' < B.length := by omega
            have hy : B[i']? = some B[i'] := List.getElem?_eq_getElem hil3
            have hy0 := HS.out.low i' _ hy
            have hyn := HS.out.high i' _ hy
            have hsum := HS.out.sum (i' + 1) m B[i'] ho hx hy
            obtain ⟨m2, hmm⟩ : ∃ m2 : Nat, B[i'] = (m2 : Int) := ⟨B[i'].toNat, by omega⟩
            rw [hmm] at hy hy0 hyn hsum
            clear hmm
            have hc4 := hnx3.cell (HC.out i' _ hy)
            rw [hLj] at hsum
            by_cases h0 : 0 < m
            · have d3 : decide (0 < (m : Int)) = true := by simp; omega
              have hfr := hfresh h0
              clear hfresh hseen hgc
              by_cases h00 : 0 < m2
              · have d4 : decide (0 < (m2 : Int)) = true := by simp; omega
                have hsm := hsum (by omega) (by omega)
                clear hsum
                go_wp2_with fail
                go_big_quiet (fail)
                go_wp2_with fail
                go_roundw
                case rel => exact ⟨i' + 1 + 1, _, by omega, by go_num, HSE.out, HST.out, hnx3.drewN _⟩
                case measure => simp [intOf]; omega
              · have d4 : decide (0 < (m2 : Int)) = false := by simp; omega
                clear hsum
                go_wp2_with fail
                go_big_quiet (fail)
                go_wp2_with fail
                go_roundw
                case rel => exact ⟨i' + 1 + 1, _, by omega, by go_num, HSE.out, HST.out, hnx3.drewN _⟩
                case measure => simp [intOf]; omega
            · have d3 : decide (0 < (m : Int)) = false := by simp; omega
              obtain ⟨b0, hb0⟩ := hseen.zero
              have hfr : wr.cell? ⟨w5.heap.size, m, none⟩ = some (.bool b0) := by
                rw [cell_of_row wr w5.heap.size m cur 4 (0, 0) hgc, show m = 0 by omega]
                exact hb0
              clear hb0
              clear hfresh hseen hsum hgc
              go_wp2_with fail
              go_big_quiet (fail)
              go_wp2_with fail
              go_roundw
              case rel => exact ⟨i' + 1 + 1, _, by omega, by go_num, HSE.out, HST.out, hnx3.drewN _⟩
              case measure => simp [intOf]; omega
        · obtain rfl : i = L := by omega
          have hcs : ∀ s : Nat, 1 ≤ s → s ≤ N → wr.cell? ⟨w5.heap.size, s, none⟩ = some (.bool true) := fun s h1 h2 => by
            rw [cell_of_row wr w5.heap.size s cur 4 (0, 0) hgc]
            rw [← hLj] at hseen
            exact hseen.done HS.out rfl h1 h2
          have HCS := Lib.hid hcs
          clear hcs hgc hseen
          go_wp2_with fail
          go_loopw [11] (fun sv wr2 => ∃ s : Nat, 1 ≤ s ∧ s ≤ N + 1 ∧ sv = .int .i64 s ∧ wr = wr2) (fun sv _ => N + 1 - (intOf sv).toNat)
          case atStart => exact ⟨1, by omega, by omega, rfl, rfl⟩
          case round =>
            obtain ⟨s, hs1, hs2, rfl, rfl⟩ := hrel
            by_cases hsN : (s : Int) ≤ N
            · have hc := HCS.out s hs1 (by omega)
              go_wp2_with fail
              go_roundw
              case rel => exact ⟨s + 1, by omega, by omega, by go_num, trivial⟩
              case measure => simp [intOf]; omega
            · have b0 := hnx.cell a0
              have b1 := hnx.cell a1
              have hw0 : IntKind.i64.wrap p0 = p0 := by rw [IntKind.wrap_i64]; omega
              have hw1 : IntKind.i64.wrap p1 = p1 := by rw [IntKind.wrap_i64]; omega
              have hN0 : ((N : Int) == 0) = false := by simp; omega
              obtain ⟨r0, he0, hr0⟩ : ∃ r : Int, Int.tmod p0 N = r ∧ 0 ≤ r ∧ r < N := ⟨_, rfl, by rw [Int.tmod_eq_emod_of_nonneg hp0.1]; exact ⟨Int.emod_nonneg _ (by omega), Int.emod_lt_of_pos _ (by omega)⟩⟩
              obtain ⟨r1, he1, hr1⟩ : ∃ r : Int, Int.tmod p1 N = r ∧ 0 ≤ r ∧ r < N := ⟨_, rfl, by rw [Int.tmod_eq_emod_of_nonneg hp1.1]; exact ⟨Int.emod_nonneg _ (by omega), Int.emod_lt_of_pos _ (by omega)⟩⟩
              go_wp2_with fail
              go_big_quiet (fail)
              have hG : Gr w (wr.drewN nq) := (g.trans hnx).drewN _
              by_cases hrr : r0 = r1
              · subst hrr
                clear HS HC HCS HP HRN HQ HQ1 HB
                go_wp2_with fail
                go_ret
                exact ⟨rfl, hG⟩
              · have hT : Two N (1 + r0) (1 + r1) q := ⟨HRN.out, by omega, by omega, by omega, by omega, by omega⟩
                have hT2 : Two N (1 + r1) (1 + r0) q := ⟨HRN.out, by omega, by omega, by omega, by omega, by omega⟩
                have hM1 := fun W => Meet_c N (1 + r0) (1 + r1) q hT W
                have hM2 := fun W => Meet_c N (1 + r1) (1 + r0) q hT2 W
                obtain ⟨_, hp⟩ := hT.at
                have hbest := hp.best
                rw [← hp.same] at hM2
                have hm1 := hp.pos
                have hm2 := hp.most
                have hne : ((1 + r0 : Int) == 1 + r1) = false := by simp; omega
                clear hT hT2 hp
                generalize mtK (growB q) (1 + r0) (1 + r1) = mt at *
                have HM1 := Lib.hid hM1
                have HM2 := Lib.hid hM2
                have HBEST := Lib.hid hbest
                have hp0 := HP.out.zero
                have hp1 := HP.out.succ 0
                clear hM1 hM2 hbest HS HC HCS HB
                generalize wr.drewN nq = wq at *
                go_wp2_with fail
                refine (HM1.out _).mono ?_
                rintro e w6 ⟨rfl, hg6⟩
                go_wp2_with fail
                refine (HM2.out _).mono ?_
                rintro e w7 ⟨rfl, hg7⟩
                have hG7 := (hG.trans hg6).trans hg7
                clear hG hg6 hg7
                go_wp2_with fail
                go_loopw [18, 19] (fun bv lv wr2 => ∃ l : Nat, 1 ≤ l ∧ l ≤ q + 1 ∧ bv = .int .i64 (pw l) ∧ lv = .int .i64 l ∧ w7 = wr2) (fun _ lv _ => q + 1 - (intOf lv).toNat)
                case atStart => exact ⟨1, by omega, by omega, by rw [hp1, hp0]; rfl, rfl, rfl⟩
                case round =>
                  obtain ⟨l, hl1, hl2, rfl, rfl, rfl⟩ := hrel
                  have hps := HP.out.succ l
                  have hpp := HP.out.pos l
                  clear hp0 hp1
                  by_cases hle : pw l ≤ pw q
                  · have hlq := HP.out.inj l hle
                    have hb := HBEST.out l hl1 hlq
                    rw [HQ.out l] at hb
                    clear HQ HQ1 HP HRN HBEST HM1 HM2
                    by_cases c1 : 1 + r0 ≤ pw l
                    · by_cases c2 : 1 + r1 ≤ pw l
                      · have c3 := hb c1 c2
                        clear hb
                        go_wp2_with fail
                        go_roundw
                        case rel => exact ⟨l + 1, by omega, by omega, by rw [hps], by go_num, trivial⟩
                        case measure => simp [intOf]; omega
                      · clear hb
                        go_wp2_with fail
                        go_roundw
                        case rel => exact ⟨l + 1, by omega, by omega, by rw [hps], by go_num, trivial⟩
                        case measure => simp [intOf]; omega
                    · clear hb
                      go_wp2_with fail
                      go_roundw
                      case rel => exact ⟨l + 1, by omega, by omega, by rw [hps], by go_num, trivial⟩
                      case measure => simp [intOf]; omega
                  · clear HQ HQ1 HP HRN HBEST HM1 HM2
                    go_wp2_with fail
                    go_ret
                    exact ⟨rfl, hG7⟩
theorem lawseeds_c (n p0 p1 : Int) (hp0 : 0 ≤ p0 ∧ p0 ≤ 255) (hp1 : 0 ≤ p1 ∧ p1 ≤ 255) (w : World) (hA : ∀ W, Gr w W → Calls Tryz.prog 5 #[] W fun e w' => e = .returned (.bool true) ∧ Gr W w') :
    Calls Tryz.prog 4 #[.int .i64 n, .agg #[.int .u8 p0, .int .u8 p1]] w fun x w' => x = .returned (.bool true) ∧ Gr w w' := by
  by_cases h : 2 ≤ n ∧ n ≤ 64
  · obtain ⟨k, hk⟩ := rnd_some h.1 h.2
    exact lawseeds_in n p0 p1 k hk hp0 hp1 w hA
  · exact lawseeds_out n p0 p1 (by omega) w hA
end Go.Proofs.YtekpcmgkpbfcjaaGreatDoor
