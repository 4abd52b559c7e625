/- Members: the gaps, as the program finds them. -/
import Derived.Test.YtenkbeeiblhnjaaGreatGMbP
import Derived.Deep.MidRow
namespace Go.Proofs.YtenkbeeiblhnjaaGreat
open Go.RowKit Go.Lib
set_option linter.unusedSimpArgs false
set_option linter.unusedVariables false
theorem zeros112 : Tryz.zeroCells135 = Array.replicate 121 (.bool false) := by kernel_rfl
theorem cov_inner {xs : List CatR} {k m : Nat} {x : CatR} {cur : Array Value} (hx : xs[k]? = some x) (h0 : 0 ≤ x.lo) (hm : x.lo ≤ (m : Int)) (h1 : (m : Int) ≤ x.hi) (h : BitsA 121 (fun a => covB (xs.take k) a || (decide (x.lo ≤ (a : Int)) && decide ((a : Int) < m))) cur) (h2 : x.hi ≤ 120) :
    BitsA 121 (fun a => covB (xs.take k) a || (decide (x.lo ≤ (a : Int)) && decide ((a : Int) < ((m + 1 : Nat) : Int)))) (cur.setIfInBounds m (.bool true)) := by
  refine (h.store (m := m) (by omega)).congr fun a ha => ?_
  rw [Bool.or_assoc]
  congr 1
  by_cases q : a = m
  · subst q; simp; omega
  · rw [show (a == m) = false by simpa using q, Bool.or_false]
    congr 1
    exact decide_eq_decide.2 (by omega)
theorem cov_end {xs : List CatR} {k m : Nat} {x : CatR} {cur : Array Value} (hx : xs[k]? = some x) (h1 : x.hi < (m : Int)) (h3 : (m : Int) ≤ x.hi + 1) (h : BitsA 121 (fun a => covB (xs.take k) a || (decide (x.lo ≤ (a : Int)) && decide ((a : Int) < m))) cur) :
    BitsA 121 (fun a => covB (xs.take (k + 1)) a) cur := by
  refine h.congr fun a ha => ?_
  rw [covB_take hx]
  congr 1
  unfold suitB
  congr 1
  exact decide_eq_decide.2 (by omega)
set_option maxHeartbeats 1000000 in
set_option maxRecDepth 100000 in
theorem gaps_pos (xs : List CatR) (f : Nat → Bool) (hf : ∀ a : Nat, f a = covB xs a) (p : Option Addr) (n cap : Nat) (w : World) (hn : xs.length = n) (h1 : n ≤ 256) (hv : CatAts w (.slice p n cap) xs) (hE : listE 256 (catE xs) xs = 0) (hc : 0 < n → ∃ b off, p = some ⟨b, off, none⟩ ∧ ∀ i x, xs[i]? = some x → CatAt w b (off + i * 3) x) (hr : ∀ (i : Nat) (x : CatR), xs[i]? = some x → 0 ≤ x.lo ∧ x.lo ≤ x.hi ∧ x.hi ≤ 120) :
    Calls Tryz.prog 33 #[.slice p n cap] w fun e w' => ∃ v, e = .returned (.tuple #[v, .int .i64 0]) ∧ GapAts w' v (gapL f 121) ∧ Gr w w' := by
  have HC := Lib.hid hc
  have HN := Lib.hid hn
  have HR := Lib.hid hr
  have HF := Lib.hid hf
  have HK := Lib.hid (checkCats_c xs _ w hv)
  rw [hE] at HK
  clear hc hn hE hv hr hf
  go_enter Tryz.func33, Tryz.ntmps33
  go_wp2_with fail
  refine HK.out.mono ?_
  rintro e w4 ⟨rfl, hg⟩
  go_wp2_with fail
  go_loopw [19] (fun ix wr => ∃ (k : Nat) (cur : Array Value), k ≤ n ∧ ix = .int .i64 k ∧ wr.heap[w4.heap.size]? = some (.cells cur 135 (0, 0)) ∧ BitsA 121 (fun a => covB (xs.take k) a) cur ∧ Gr w4 wr) (fun ix _ => n - (intOf ix).toNat)
  case atStart => exact ⟨0, _, Nat.zero_le _, rfl, heap_alloc_new _ _, by rw [zeros112]; exact ⟨by simp, fun a ha => by simp [Array.getElem?_replicate, ha, covB]⟩, (Gr.refl _).alloc _⟩
  case round =>
    obtain ⟨k, cur, hk, rfl, hG, hB, hnx⟩ := hrel
    have hsize := hnx.size
    by_cases hkN : k < n
    · obtain ⟨x, hx⟩ : ∃ x, xs[k]? = some x := ⟨xs[k]'(by have := HN.out; omega), List.getElem?_eq_getElem _⟩
      obtain ⟨b, off, rfl, hcc⟩ := HC.out (by omega)
      obtain ⟨c0, c1, c2⟩ := (hcc k x hx).gr (hg.trans hnx)
      clear hcc
      obtain ⟨r0, r1, r2⟩ := HR.out k x hx
      have hi2 : (k : Int) < n := by omega
      have HX := Lib.hid hx
      have r0' := r0
      obtain ⟨m0, hm0⟩ : ∃ m0 : Nat, x.lo = (m0 : Int) := ⟨x.lo.toNat, by omega⟩
      rw [hm0] at c1 r0 r1
      have HM := Lib.hid hm0
      have hblk := heap_alloc_new wr (.cells #[.string x.nm, .int .i64 m0, .int .i64 x.hi] 76)
      have hGW := ((Gr.refl wr).alloc (.cells #[.string x.nm, .int .i64 m0, .int .i64 x.hi] 76)).block hG
      have hnxW := hnx.trans ((Gr.refl wr).alloc (.cells #[.string x.nm, .int .i64 m0, .int .i64 x.hi] 76))
      have hbs : wr.heap.size ≠ w4.heap.size := by have := (Array.getElem?_eq_some_iff.1 hG).1; omega
      have HBS := Lib.hid hbs
      have HB0 := Lib.hid hB
      have hxh := r2
      clear hx hbs hG hm0
      go_wp2_with fail
      generalize wr.alloc (.cells #[.string x.nm, .int .i64 m0, .int .i64 x.hi] 76) = W at *
      generalize wr.heap.size = Bx at *
      go_loopw [8] (fun ax wr2 => ∃ (m : Nat) (cur2 : Array Value), m0 ≤ m ∧ (m : Int) ≤ x.hi + 1 ∧ ax = .int .i64 m ∧ wr2.heap[w4.heap.size]? = some (.cells cur2 135 (0, 0)) ∧ BitsA 121 (fun a => covB (xs.take k) a || (decide (x.lo ≤ (a : Int)) && decide ((a : Int) < m))) cur2 ∧ wr2.heap[Bx]? = some (.cells #[.string x.nm, .int .i64 m0, .int .i64 x.hi] 76 (0, 0)) ∧ Gr w4 wr2) (fun ax _ => (x.hi + 1 - intOf ax).toNat)
      case atStart => exact ⟨m0, cur, Nat.le_refl _, by omega, rfl, hGW, HB0.out.congr fun a ha => by
        rw [HM.out]
        have : (decide ((m0 : Int) ≤ (a : Int)) && decide ((a : Int) < (m0 : Int))) = false := by
          rw [Bool.and_eq_false_iff, decide_eq_false_iff_not, decide_eq_false_iff_not]; omega
        rw [this, Bool.or_false], hblk, hnxW⟩
      case round =>
        obtain ⟨m, cur2, hm1, hm2, rfl, hG2, hB2, hbx, hnx2⟩ := hrel
        have a2 : wr.cell? ⟨Bx, 2, none⟩ = some (.int .i64 x.hi) := by rw [cell_of_row wr Bx 2 _ _ (0, 0) hbx]; rfl
        by_cases hle : (m : Int) ≤ x.hi
        · have hcell : wr.cell? ⟨w4.heap.size, m, none⟩ = some (.bool (covB (xs.take k) m || (decide (x.lo ≤ (m : Int)) && decide ((m : Int) < (m : Int))))) := by
            rw [cell_of_row wr w4.heap.size m cur2 _ (0, 0) hG2]; exact hB2.cell m (by omega)
          generalize (covB (xs.take k) m || (decide (x.lo ≤ (m : Int)) && decide ((m : Int) < (m : Int)))) = b0 at hcell
          have hfz := frozen_of_row wr w4.heap.size m cur2 _ hG2
          have HSE := Lib.hid (heap_setCell_same wr w4.heap.size m cur2 _ (.bool true) hG2)
          have HSO := Lib.hid (heap_setCell_other wr ⟨w4.heap.size, m, none⟩ Bx (.bool true) HBS.out)
          have HST := Lib.hid (cov_inner HX.out r0' (by rw [HM.out]; omega) hle hB2 hxh)
          have hnx3 : Gr w4 (wr.setCell ⟨w4.heap.size, m, none⟩ (.bool true)) := Below.setCell hnx2 (Nat.le_refl _) _
          have hm3 : (m : Int) < 121 := by omega
          clear hB2 hG2
          go_wp2_with fail
          go_roundw
          case rel => exact ⟨m + 1, _, by omega, by omega, by go_num, HSE.out, HST.out, by rw [HSO.out]; exact hbx, hnx3⟩
          case measure => simp [intOf]; omega
        · have HEND := Lib.hid (cov_end HX.out (by omega) hm2 hB2)
          clear hB2
          go_wp2_with fail
          go_roundw
          case rel => exact ⟨k + 1, _, by omega, by go_num, hG2, HEND.out, hnx2⟩
          case measure => simp [intOf]; omega
    · have hkk : k = n := by omega
      subst hkk
      have HB0 := Lib.hid (show BitsA 121 f cur by rw [List.take_of_length_le (by have := HN.out; omega)] at hB; exact hB.congr fun a _ => (HF.out a).symm)
      clear hB
      have hsz := HB0.out.size
      have hrg : wr.rangeAt w4.heap.size 0 cur.toList := fun j v hv => by
        rw [Nat.zero_add, cell_of_row wr w4.heap.size j cur _ (0, 0) hG]
        simpa using hv
      have hinf : (Tryz.prog.info? 135).map (·.size) = some cur.toList.length := by
        rw [Array.length_toList, hsz]; kernel_rfl
      have HRG := Lib.hid hrg
      have HIN := Lib.hid hinf
      clear hsz hrg hinf
      go_wp2_with (refine wpList_load_mid rfl 135 _ rfl w4.heap.size 0 rfl cur.toList _ HRG.out Tryz.underlying135 rfl HIN.out ?_)
      obtain ⟨i0, hi, hz0, hz1, hz2⟩ := info_parts infoGap
      have hG0 := hG
      have hnx0 := hnx
      clear hG hnx
      generalize w4.heap.size = G at *
      obtain ⟨W, hWW⟩ : ∃ W, W = wr := ⟨wr, rfl⟩
      have hGlt := (Array.getElem?_eq_some_iff.1 hG0).1
      clear HRG HIN
      subst hWW
      go_loopw [9, 35] (fun gv ax wr => ∃ j : Nat, j ≤ 121 ∧ ax = .int .i64 j ∧ wr.ownsRow W.heap.size 52 2 gv (gapL f j).length (gapCs (gapL f j)) ∧ Gr W wr) (fun _ ax _ => 121 - (intOf ax).toNat)
      case atStart => exact ⟨0, Nat.zero_le _, rfl, World.ownsRow_nil _ _ _ _, Gr.refl _⟩
      case round =>
        obtain ⟨j, hj, rfl, hown, hnx⟩ := hrel
        by_cases hj121 : j < 121
        · have hI := fun W => idx_bool HB0.out hj121 W
          have hi2 : (j : Int) < 121 := by omega
          have hG1 := hnx.block hG0
          have hlen := gapL_len f j
          rcases gapL_step f j with ⟨e1, hst⟩ | ⟨e1, e2, hst, _⟩ | ⟨e1, e2, e3, l, q, hl, hqb, hst⟩
          · rw [e1] at hI
            have HST := Lib.hid hst
            clear hst e1
            go_wp2_with fail
            go_roundw
            case rel => exact ⟨j + 1, by omega, by go_num, by rw [HST.out]; exact hown, hnx⟩
            case measure => simp [intOf]; omega
          · rw [e1] at hI
            have HST := Lib.hid hst
            have HL := Lib.hid (gapCs_len (gapL f j))
            have hcc := cell_gapC wr ⟨j, j⟩ 52
            have HCC := Lib.hid hcc
            have hsize := hnx.size
            clear hst e1 hcc
            rcases Nat.eq_zero_or_pos j with rfl | h0
            · have hI' : ∀ W, (Instr.index 135 (.agg cur) (.int .i64 0)).run Tryz.prog W = .ok (.bool false) W := hI
              have HCC' : Hid (∀ (t : Nat) (u : Value), [Value.int .i64 0, .int .i64 0][t]? = some u → (wr.alloc (.cells #[.int .i64 0, .int .i64 0] 52)).cell? ((⟨wr.heap.size, 0, none⟩ : Addr).add t) = some u) := HCC.out
              clear e2 hI HCC
              have HCC := HCC'
              clear HCC'
              generalize hz1' : (gapL f 0).length = z at *
              have HZ := Lib.hid hz1'
              clear hz1'
              go_wp2_with (first
                | (at_builtin; refine wpList_append_own _ rfl _ _ 81 rfl W.heap.size 52 i0 (.agg #[.int .i64 0, .int .i64 0]) 2 16 Tryz.underlying81 hi hz0 hz1 hz2 rfl (by decide) _ _ _ rfl (hown.alloc _) ⟨wr.heap.size, 0, none⟩ 1 1 [.int .i64 0, .int .i64 0] rfl rfl HCC.out (by intro u hu; simp at hu; subst hu; rfl) (by unfold maxLen; omega) (by omega) (by simp; omega) ?_; intro v1 w1 hown1 hgrow1 hnil1))
              go_roundw
              case rel => exact ⟨0 + 1, by omega, by go_num, by rw [HST.out, gapCs_add, List.length_append, HZ.out]; exact hown1, Below.grown (Below.alloc hnx hsize _) hgrow1 (by simp; omega) (fun j hj => (hown.lt j hj).1)⟩
              case measure => simp [intOf] <;> omega
            · have hz : ((j : Int) == 0) = false := by simp; omega
              have h5 : (1 : Int) ≤ j := by omega
              have e3 : f (j - 1) = true := by
                rcases e2 with e2 | e2
                · omega
                · exact e2
              have hidx : ((j : Int) - 1).toNat = j - 1 := by omega
              have hcell : wr.cell? ⟨G, j - 1, none⟩ = some (.bool true) := by
                rw [cell_of_row wr G (j - 1) cur _ (0, 0) hG1, HB0.out.cell (j - 1) (by omega), e3]
              clear e2 e3 hG1 hG0
              generalize hz1' : (gapL f j).length = z at *
              have HZ := Lib.hid hz1'
              clear hz1'
              go_wp2_with (first
                | (at_builtin; refine wpList_append_own _ rfl _ _ 81 rfl W.heap.size 52 i0 (.agg #[.int .i64 0, .int .i64 0]) 2 16 Tryz.underlying81 hi hz0 hz1 hz2 rfl (by decide) _ _ _ rfl (hown.alloc _) ⟨wr.heap.size, 0, none⟩ 1 1 [.int .i64 j, .int .i64 j] rfl rfl HCC.out (by intro u hu; simp at hu; subst hu; rfl) (by unfold maxLen; omega) (by omega) (by simp; omega) ?_; intro v1 w1 hown1 hgrow1 hnil1))
              go_roundw
              case rel => exact ⟨j + 1, by omega, by go_num, by rw [HST.out, gapCs_add, List.length_append, HZ.out]; exact hown1, Below.grown (Below.alloc hnx hsize _) hgrow1 (by simp; omega) (fun j hj => (hown.lt j hj).1)⟩
              case measure => simp [intOf]; omega
          · have hz : ((j : Int) == 0) = false := by simp; omega
            have h5 : (1 : Int) ≤ j := by omega
            have hidx : ((j : Int) - 1).toNat = j - 1 := by omega
            have hcell : wr.cell? ⟨G, j - 1, none⟩ = some (.bool false) := by
              rw [cell_of_row wr G (j - 1) cur _ (0, 0) hG1, HB0.out.cell (j - 1) (by omega), e3]
            rw [e1] at hI
            rw [hl, List.length_append, List.length_singleton] at hown hlen
            have hlast := gapCs_last l q j
            have hlat := gapCs_lastAt l q
            have hcl : (gapCs (l ++ [q])).length = (l.length + 1) * 2 := by rw [gapCs_len]; simp
            generalize hzl : l.length = z at *
            rcases hown.2 with ⟨_, h0⟩ | ⟨g, cp, cur2, rfl, hbg, _, hzc, hcm, _, _⟩
            · exact absurd h0 (by omega)
            obtain ⟨s1, s2, s3, s4⟩ := own_set (i := z * 2 + 1) (.int .i64 j) hown (by rw [hcl]; omega)
            rw [hlat] at s4
            rw [hlast] at s1
            have HS1 := Lib.hid s1
            have HST := Lib.hid hst
            have HZL := Lib.hid hzl
            have hnx3 : Gr W (wr.setCell ⟨g, z * 2 + 1, none⟩ (.int .i64 j)) := Below.setCell hnx s2 _
            clear s1 hst hzl hlast hlat hcl hl e1 e2 e3 hqb hown hG1 hG0
            go_wp2_with fail
            go_roundw
            case rel => exact ⟨j + 1, by omega, by go_num, by rw [HST.out, List.length_append, List.length_singleton, HZL.out]; exact HS1.out, hnx3⟩
            case measure => simp [intOf]; omega
        · obtain rfl : j = 121 := by omega
          go_wp2_with fail
          exact bodyPost_ret (v := .tuple #[_, .int .i64 0]) (by simp [results, Tryz.results33, go_sem]) rfl ⟨_, rfl, GapAts_of_owns rfl hown, (hg.trans hnx0).trans hnx⟩
theorem cat_range {xs : List CatR} (h : listE 256 (catE xs) xs = 0) : xs.length ≤ 256 ∧ ∀ (i : Nat) (x : CatR), xs[i]? = some x → 0 ≤ x.lo ∧ x.lo ≤ x.hi ∧ x.hi ≤ 120 := by
  unfold listE at h
  split at h
  · cases h
  · rename_i hl
    refine ⟨by omega, fun i x hx => ?_⟩
    have hi := (List.getElem?_eq_some_iff.1 hx).1
    have h0 := errG_zero xs.length 0 h (by omega) i x (by omega) (by omega) hx
    unfold catE at h0
    have h1 := firstE_zero h0 (outE x.lo 0 120) (by simp)
    have h2 := firstE_zero h0 (outE x.hi 0 120) (by simp)
    have h3 := firstE_zero h0 (if decide (x.hi < x.lo) then 11 else 0) (by simp)
    rw [outE_zero] at h1 h2
    have h6 : ¬ x.hi < x.lo := by
      intro h7
      rw [if_pos (by simpa using h7)] at h3
      cases h3
    omega
def covF (xs : List CatR) (a : Nat) : Bool := covB xs a
theorem gaps_good {v : Value} {xs : List CatR} {w : World} (h : CatAts w v xs) (hE : listE 256 (catE xs) xs = 0) :
    Calls Tryz.prog 33 #[v] w fun e w' => ∃ v, e = .returned (.tuple #[v, .int .i64 0]) ∧ GapAts w' v (gapL (covF xs) 121) ∧ Gr w w' := by
  have hv := h
  obtain ⟨⟨p, cap, rfl, hcap, hh⟩⟩ := h
  obtain ⟨h1, h2⟩ := cat_range hE
  exact gaps_pos xs (covF xs) (fun a => rfl) p _ cap w rfl h1 hv hE hh h2
theorem gaps_bad {v : Value} {xs : List CatR} {w : World} (h : CatAts w v xs) (hE : listE 256 (catE xs) xs ≠ 0) :
    Calls Tryz.prog 33 #[v] w fun e w' => e = .returned (.tuple #[.slice none 0 0, .int .i64 (listE 256 (catE xs) xs)]) ∧ Gr w w' := by
  have HK := Lib.hid (checkCats_c xs _ w h)
  generalize listE 256 (catE xs) xs = z at *
  have q1 : (z == 0) = false := by simpa using hE
  have q2 : (z != 0) = true := by simpa [bne] using q1
  obtain ⟨⟨p, cap, rfl, _⟩⟩ := h
  go_enter Tryz.func33, Tryz.ntmps33
  go_wp2_with fail
  refine HK.out.mono ?_
  rintro e w4 ⟨rfl, hg⟩
  go_wp2_with fail
  exact bodyPost_ret (v := .tuple #[.slice none 0 0, .int .i64 z]) (by simp [results, Tryz.results33, go_sem]) rfl ⟨rfl, hg⟩
end Go.Proofs.YtenkbeeiblhnjaaGreat
