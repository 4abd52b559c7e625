/- StartGoes: the law's walk. -/
import Derived.Test.YtenhodepaoaiiaaGreatDoorGStT
namespace Go.Proofs.YtenhodepaoaiiaaGreatDoor
open Go.RowKit Go.Lib
set_option linter.unusedSimpArgs false
set_option linter.unusedVariables false
set_option maxHeartbeats 4000000
set_option maxRecDepth 100000
/-- the law's own test passes -/
def AwakeOK (w : World) : Prop := ∀ W, Gr w W → Calls Tryz.prog 5 #[] W fun e w' => e = .returned (.bool true) ∧ Gr W w'
theorem Rows0V.gr {w w' : World} {v : Value} {xs : List RowR} (h : Rows0V w v xs) (g : Gr w w') : Rows0V w' v xs := by
  obtain ⟨⟨p, cap, rfl, hcap, hh⟩⟩ := h
  exact ⟨p, cap, rfl, hcap, fun h0 => by
    obtain ⟨b, off, e, hc⟩ := hh h0
    exact ⟨b, off, e, fun i x hx => (hc i x hx).gr g⟩⟩
theorem goes_mid {p : Option Addr} {n c : Nat} {m a0 a1 : Int} {w : World} (h14 : 14 < n) (h160 : n ≤ 160) (hA : AwakeOK w) :
    Calls Tryz.prog 4 #[.slice p n c, .int .i64 m, .agg #[.int .u8 a0, .int .u8 a1]] w fun e w' => e = .returned (.bool true) ∧ Gr w w' := by
  obtain ⟨W, hW, g, b0, b1⟩ := box2 w (.int .u8 a0) (.int .u8 a1) 39
  have HW := Lib.hid hW
  have HA : Hid (AwakeOK w) := hA
  have HS := Lib.hid (fun W => shortRs_mid p n c 14 W h14 h160)
  clear hW hA
  go_enter Tryz.func4, Tryz.ntmps4
  go_wp2_with fail
  rw [HW.out]
  generalize w.heap.size = B at *
  clear HW
  refine (HA.out _ g).mono ?_
  rintro e w1 ⟨rfl, g1⟩
  go_wp2_with fail
  refine (HS.out _).mono ?_
  rintro e w2 ⟨rfl, rfl⟩
  go_wp2_with (refine (HA.out _ (g.trans g1)).mono ?_; rintro e w2 ⟨rfl, g2⟩)
  go_ret
  exact ⟨rfl, (g.trans g1).trans g2⟩
theorem goes_many {xs : List RowR} {p : Option Addr} {n c : Nat} {m a0 a1 : Int} {w : World} (h : Rows0V w (.slice p n c) xs) (h160 : 160 < n) (hA : AwakeOK w) :
    Calls Tryz.prog 4 #[.slice p n c, .int .i64 m, .agg #[.int .u8 a0, .int .u8 a1]] w fun e w' => e = .returned (.bool true) ∧ Gr w w' := by
  obtain ⟨W, hW, g, b0, b1⟩ := box2 w (.int .u8 a0) (.int .u8 a1) 39
  have HW := Lib.hid hW
  have HA : Hid (AwakeOK w) := hA
  have HS := Lib.hid (fun W (g : Gr w W) => shortRs_lim 14 (h.gr g))
  have HC := Lib.hid (fun W => refRes6_many p n c W h160)
  clear hW hA h
  go_enter Tryz.func4, Tryz.ntmps4
  go_wp2_with fail
  rw [HW.out]
  generalize w.heap.size = B at *
  clear HW
  refine (HA.out _ g).mono ?_
  rintro e w1 ⟨rfl, g1⟩
  replace g1 := g.trans g1
  go_wp2_with fail
  refine (HS.out _ g1).mono ?_
  rintro e w2 ⟨⟨r, rfl, hr⟩, rfl⟩
  clear hr
  cases r
  · go_wp2_with (refine (HA.out _ g1).mono ?_; rintro e w2 ⟨rfl, g2⟩)
    go_ret
    exact ⟨rfl, g1.trans g2⟩
  · go_wp2_with fail
    refine (HC.out _).mono ?_
    rintro e w3 ⟨rfl, g3⟩
    go_wp2_with (refine (HA.out _ (g1.trans g3)).mono ?_; rintro e w2 ⟨rfl, g2⟩)
    go_ret
    exact ⟨rfl, (g1.trans g3).trans g2⟩
theorem goes_quota {xs : List RowR} {p : Option Addr} {n c : Nat} {m a0 a1 : Int} {w : World} (h : Rows0V w (.slice p n c) xs) (h14 : n ≤ 14) (hA : AwakeOK w) (hb : decide (m < 0) = true ∨ (decide (m < 0) = false ∧ decide (160 < m) = true)) :
    Calls Tryz.prog 4 #[.slice p n c, .int .i64 m, .agg #[.int .u8 a0, .int .u8 a1]] w fun e w' => e = .returned (.bool true) ∧ Gr w w' := by
  obtain ⟨W, hW, g, b0, b1⟩ := box2 w (.int .u8 a0) (.int .u8 a1) 39
  have HW := Lib.hid hW
  have HA : Hid (AwakeOK w) := hA
  have HS := Lib.hid (fun W (g : Gr w W) => shortRs_lim 14 (h.gr g))
  have HC := Lib.hid (fun (hs : ∀ x ∈ xs, x.xs.length ≤ 10) W (g : Gr w W) => refRes6_c ((h.rows hs).gr g) (by omega))
  clear hW hA h
  generalize rowsG xs n 0 = z at *
  rcases hb with h1 | ⟨h1, h2⟩
  all_goals
    go_enter Tryz.func4, Tryz.ntmps4
    go_wp2_with fail
    rw [HW.out]
    generalize w.heap.size = B at *
    clear HW
    refine (HA.out _ g).mono ?_
    rintro e w1 ⟨rfl, g1⟩
    replace g1 := g.trans g1
    go_wp2_with fail
    refine (HS.out _ g1).mono ?_
    rintro e w2 ⟨⟨r, rfl, hr⟩, rfl⟩
    cases r
    · clear hr
      go_wp2_with (refine (HA.out _ g1).mono ?_; rintro e w2 ⟨rfl, g2⟩)
      go_ret
      exact ⟨rfl, g1.trans g2⟩
    · have HR := Lib.hid (HC.out (hr rfl) _ g1)
      clear hr HC
      cases hz : (z != 0)
      all_goals
        go_wp2_with fail
        refine HR.out.mono ?_
        rintro e w3 ⟨rfl, g3⟩
        go_wp2_with (refine (HA.out _ (g1.trans g3)).mono ?_; rintro e w2 ⟨rfl, g2⟩)
        go_ret
        exact ⟨rfl, (g1.trans g3).trans g2⟩
/-- how many of the first k results have no state -/
def goodN (xs : List RowR) (k : Nat) : Nat := (xs.take k).countP fun x => x.st.toList.isEmpty
theorem goodN_step {xs : List RowR} {k : Nat} {x : RowR} (h : xs[k]? = some x) : goodN xs (k + 1) = goodN xs k + if x.st.toList.isEmpty then 1 else 0 := by
  unfold goodN
  rw [List.take_add_one, h, Option.toList_some, List.countP_append, List.countP_singleton]
theorem goodN_all {xs : List RowR} {n : Nat} (h : xs.length ≤ n) : goodN xs n = (fineB (xs.map bare)).length := by
  unfold goodN fineB
  rw [List.take_of_length_le h, List.countP_eq_length_filter, List.filter_map, List.length_map]
  rfl
theorem rev_at {xs : List RowR} {n k : Nat} (hn : xs.length = n) (hk : k < n) : xs.reverse[k]? = xs[n - 1 - k]? := by
  subst hn; exact List.getElem?_reverse hk
theorem goes_few {xs : List RowR} {p : Option Addr} {n c : Nat} {a0 a1 : Int} {w : World} (mm : Nat) (h : Rows0V w (.slice p n c) xs) (h14 : n ≤ 14) (hm : mm ≤ 160) (ha0 : 0 ≤ a0 ∧ a0 < 256) (ha1 : 0 ≤ a1 ∧ a1 < 256) (hA : AwakeOK w) :
    Calls Tryz.prog 4 #[.slice p n c, .int .i64 (mm : Int), .agg #[.int .u8 a0, .int .u8 a1]] w fun e w' => e = .returned (.bool true) ∧ Gr w w' := by
  obtain ⟨i0, hi, hz0, hz1, hz2⟩ := info_parts infoRes
  have hn : xs.length = n := by obtain ⟨⟨p', c', e, hcap, hh⟩⟩ := h; cases e; rfl
  have hO0 : outE (mm : Int) 0 160 = 0 := outE_zero.2 ⟨by omega, by omega⟩
  obtain ⟨W, hW, g, b0, b1⟩ := box2 w (.int .u8 a0) (.int .u8 a1) 39
  have HW := Lib.hid hW
  have HA : Hid (AwakeOK w) := hA
  have HS := Lib.hid (fun W (g : Gr w W) => shortRs_lim 14 (h.gr g))
  have HC := Lib.hid (fun (hs : ∀ x ∈ xs, x.xs.length ≤ 10) W (g : Gr w W) => refRes6_c ((h.rows hs).gr g) (by omega))
  have HV := Lib.hid (fun (h0 : rowsG xs n 0 = 0) => (show ValidB (xs.map bare) from (listG_valid (by unfold listG; rw [if_neg (by omega), hn]; exact h0)).1))
  have HRows := Lib.hid (fun (hs : ∀ x ∈ xs, x.xs.length ≤ 10) W (g : Gr w W) => (h.rows hs).gr g)
  have HN := Lib.hid hn
  have hm0 : decide ((mm : Int) < 0) = false := decide_eq_false (by omega)
  have hm1 : decide ((160 : Int) < mm) = false := decide_eq_false (by omega)
  have HO := Lib.hid hO0
  clear hW hA h hn hO0
  generalize hR : rowsG xs n 0 = z at *
  clear hR
  go_enter Tryz.func4, Tryz.ntmps4
  go_wp2_with fail
  rw [HW.out]
  generalize w.heap.size = B at *
  clear HW
  refine (HA.out _ g).mono ?_
  rintro e w1 ⟨rfl, g1⟩
  replace b0 := g1.cell b0
  replace b1 := g1.cell b1
  replace g1 := g.trans g1
  clear g
  go_wp2_with fail
  refine (HS.out _ g1).mono ?_
  rintro e w2 ⟨⟨r, rfl, hr⟩, rfl⟩
  cases r
  · clear hr
    go_wp2_with (refine (HA.out _ g1).mono ?_; rintro e w2 ⟨rfl, g2⟩)
    go_ret
    exact ⟨rfl, g1.trans g2⟩
  have HSh := Lib.hid (hr rfl)
  have HCc := Lib.hid (HC.out HSh.out _ g1)
  clear hr HC HS
  by_cases hz : z = 0
  case neg =>
    have hz3 : (z != 0) = true := bne_iff_ne.2 hz
    go_wp2_with fail
    refine HCc.out.mono ?_
    rintro e w3 ⟨rfl, g3⟩
    go_wp2_with (refine (HA.out _ (g1.trans g3)).mono ?_; rintro e w2 ⟨rfl, g2⟩)
    go_ret
    exact ⟨rfl, (g1.trans g3).trans g2⟩
  have hz3 : (z != 0) = false := by rw [hz]; rfl
  have HVa := Lib.hid (HV.out hz)
  clear HV hz
  go_wp2_with fail
  refine HCc.out.mono ?_
  rintro e w3 ⟨rfl, g3⟩
  replace b0 := g3.cell b0
  replace b1 := g3.cell b1
  replace g3 := g1.trans g3
  clear HCc g1 HA
  obtain ⟨hn, _, hh⟩ := (HRows.out HSh.out w (Gr.refl w)).at
  have HX := Lib.hid (fun k (h : k < n) => (show ∃ x, xs[k]? = some x from ⟨xs[k]'(by omega), List.getElem?_eq_getElem _⟩))
  have HH := Lib.hid hh
  have HRl := Lib.hid (rowCs_len xs.reverse)
  have HFw := Lib.hid (fun (ys : List RowR) (p : Option Addr) (n c : Nat) (W : World) (hr : RowsV W (.slice p n c) ys) (hn : n < 20) (hV : ValidB (ys.map bare)) => forwardS_ok mm hr hn hV HO.out)
  have HRp := Lib.hid (fun (ys : List RowR) (p : Option Addr) (n c : Nat) (ns : List ByteArray) (q : Option Addr) (l k : Nat) (W : World) (hO : OutOK ys ns) (hr : RowsV W (.slice p n c) ys) (hn : n < 20) (hV : ValidB (ys.map bare)) (ho : WordsV W (.slice q l k) ns) (h2 : l ≤ 160) => replace_ok mm hO hr hn hV ho h2 HO.out)
  clear hh hn
  go_wp2_with fail
  go_loopw [7, 8, 51] (fun v gd i wr => ∃ k : Nat, k ≤ n ∧ i = .int .i64 k ∧ gd = .int .i64 (goodN xs k) ∧ wr.ownsRow w3.heap.size 42 3 v k (rowCs (xs.reverse.take k)) ∧ Gr w3 wr) (fun _ _ i _ => n - (intOf i).toNat)
  case atStart => exact ⟨0, Nat.zero_le _, rfl, rfl, World.ownsRow_nil _ _ _ _, Gr.refl _⟩
  case round =>
    obtain ⟨k, hk, rfl, rfl, hown, hnx⟩ := hrel
    have hsize := hnx.size
    by_cases hkN : k < n
    · obtain ⟨x, hx⟩ := HX.out k hkN
      obtain ⟨y, hy⟩ := HX.out (n - 1 - k) (by omega)
      obtain ⟨b, off, rfl, hc⟩ := HH.out (by omega)
      obtain ⟨c0, c1, c2, hv, _⟩ := (hc _ y hy).gr (g3.trans hnx)
      obtain ⟨⟨p', cap', hu, _⟩⟩ := hv
      rw [hu] at c2
      have d1 := ((hc k x hx).gr g3).st
      have hj : (n : Int) - 1 - k = ((n - 1 - k : Nat) : Int) := by omega
      have hjn : ((n - 1 - k : Nat) : Int) < n := by omega
      have HG := Lib.hid (goodN_step hx)
      have HQ := Lib.hid (show xs.reverse.take (k + 1) = xs.reverse.take k ++ [y] from by rw [List.take_add_one, rev_at HN.out hkN, hy]; rfl)
      have HQ3 := Lib.hid (show rowCs (xs.reverse.take k ++ [y]) = rowCs (xs.reverse.take k) ++ [.string y.nm, .string y.st, .slice p' y.xs.length cap'] from by rw [rowCs_add]; unfold rowC; rw [hu])
      have hi2 : (k : Int) < n := by omega
      have HOW := Lib.hid hown
      have hgk : goodN xs k ≤ 14 := by unfold goodN; exact Nat.le_trans List.countP_le_length (by rw [List.length_take]; omega)
      generalize n - 1 - k = j at *
      clear hown hx hy hu hc
      generalize goodN xs k = gd at *
      cases hE : x.st.toList.isEmpty
      · have hE2 : ¬ x.st.toList = [] := by intro e; rw [e] at hE; cases hE
        have HG2 := Lib.hid (show goodN xs (k + 1) = gd from by have := HG.out; rw [hE] at this; simpa using this)
        go_wp2_with (at_builtin; refine wpList_append_own _ rfl _ _ 22 rfl w3.heap.size 42 i0 (.agg #[.string ⟨#[]⟩, .string ⟨#[]⟩, .slice none 0 0]) 3 56 Tryz.underlying22 hi hz0 hz1 hz2 rfl (by decide) _ _ _ rfl (HOW.out.alloc _) ⟨wr.heap.size, 0, none⟩ 1 1 [.string y.nm, .string y.st, .slice p' y.xs.length cap'] rfl rfl (cell_three_sz _ _ (by simp) _ _ _ _) (by intro u hu; simp at hu; rcases hu with rfl | rfl | rfl <;> rfl) (by unfold maxLen; omega) (by omega) (by simp; omega) ?_; intro v1 w1 hown1 hgrow1 hnil1; have d1' : Gr w3 w1 := Below.grown (hnx.alloc _) hgrow1 (by simp; omega) (fun j hj => (HOW.out.lt j hj).1); have d1w := d1'.cell d1)
        go_roundw
        case rel =>
          exact ⟨k + 1, by omega, by go_num, by rw [HG2.out], by rw [HQ.out, HQ3.out]; exact hown1, d1'⟩
        case measure => simp [intOf]; omega
      · have hE2 : x.st.toList = [] := by simpa using hE
        have HG2 := Lib.hid (show goodN xs (k + 1) = gd + 1 from by have := HG.out; rw [hE] at this; simpa using this)
        go_wp2_with (at_builtin; refine wpList_append_own _ rfl _ _ 22 rfl w3.heap.size 42 i0 (.agg #[.string ⟨#[]⟩, .string ⟨#[]⟩, .slice none 0 0]) 3 56 Tryz.underlying22 hi hz0 hz1 hz2 rfl (by decide) _ _ _ rfl (HOW.out.alloc _) ⟨wr.heap.size, 0, none⟩ 1 1 [.string y.nm, .string y.st, .slice p' y.xs.length cap'] rfl rfl (cell_three_sz _ _ (by simp) _ _ _ _) (by intro u hu; simp at hu; rcases hu with rfl | rfl | rfl <;> rfl) (by unfold maxLen; omega) (by omega) (by simp; omega) ?_; intro v1 w1 hown1 hgrow1 hnil1; have d1' : Gr w3 w1 := Below.grown (hnx.alloc _) hgrow1 (by simp; omega) (fun j hj => (HOW.out.lt j hj).1); have d1w := d1'.cell d1)
        go_roundw
        case rel =>
          exact ⟨k + 1, by omega, by go_num, by rw [HG2.out]; go_num, by rw [HQ.out, HQ3.out]; exact hown1, d1'⟩
        case measure => simp [intOf]; omega
    · obtain rfl : k = n := by omega
      have hi2 : ¬ (k : Int) < k := by omega
      rw [List.take_of_length_le (by rw [List.length_reverse]; have := HN.out; omega)] at hown
      obtain ⟨p2, c2, rfl, hback⟩ := rowsV_owns hown (by rw [List.length_reverse]; exact HN.out) (fun x hx => by
        have hmem : x ∈ xs := List.mem_reverse.1 hx
        obtain ⟨j, hj⟩ := List.mem_iff_getElem?.1 hmem
        have hjl := (List.getElem?_eq_some_iff.1 hj).1
        obtain ⟨b, off, _, hc⟩ := HH.out (by have := HN.out; omega)
        have := hc j x hj
        exact ⟨this.val.gr (g3.trans hnx), this.len⟩)
      have gW := g3.trans hnx
      replace b0 := hnx.cell b0
      replace b1 := hnx.cell b1
      have HB := Lib.hid hback
      have hgood : goodN xs k = (fineB (xs.map bare)).length := goodN_all (by rw [HN.out]; exact Nat.le_refl _)
      have hF := HFw.out xs p k c wr (HRows.out HSh.out _ gW) (by omega) HVa.out
      have hmr : (xs.reverse).map bare = (xs.map bare).reverse := List.map_reverse
      have hG := fun W (g : Gr wr W) => HFw.out xs.reverse p2 k c2 W (hback.gr g) (by omega) (by rw [hmr]; exact HVa.out.rev)
      rw [hmr] at hG
      have hLen := thruB_perm_len (List.reverse_perm (xs.map bare)) (mm : Int)
      have hMin := thruB_min (xs.map bare) mm
      have hMax := thruB_good (xs.map bare) (mm : Int)
      have hMem := fun s (hs : s ∈ thruB (xs.map bare) mm) => thruB_perm_mem (List.reverse_perm (xs.map bare)).symm hs
      rw [← hgood] at hMin hMax
      have hg14 : goodN xs k ≤ 14 := by unfold goodN; exact Nat.le_trans List.countP_le_length (by rw [List.length_take]; omega)
      have HFr := Lib.hid hF
      have HGr := Lib.hid hG
      have HMem := Lib.hid hMem
      clear hown hback hgood hF hG hmr hMem HFw HN
      generalize goodN xs k = gd at *
      go_wp2_with fail
      refine HFr.out.mono ?_
      rintro e w4 ⟨q4, l4, k4, rfl, hv4, g4⟩
      clear HFr
      go_wp2_with fail
      refine (HGr.out _ g4).mono ?_
      rintro e w5 ⟨q5, l5, k5, rfl, hv5, g5⟩
      clear HGr
      replace hv4 := hv4.gr g5
      have gV := g4.trans g5
      replace b0 := gV.cell b0
      replace b1 := gV.cell b1
      replace gW := gW.trans gV
      clear gV g4 g5 HB
      have hl4 := hv4.words.at.1
      have hl5 := hv5.words.at.1
      have HA1 := Lib.hid (fun (s : ByteArray) (h : hasS (thruB (xs.map bare) mm) s = false) => thruB_drop HVa.out mm s h)
      have HA2 := Lib.hid (fun (s : ByteArray) => thruB_not (ns := [s]) (bs := xs.map bare) (m := (mm : Int)) (s := s) (by simp [hasS]))
      have HA3 := Lib.hid (fun (s t : ByteArray) (h : s ∈ thruB (xs.map bare) mm) (hne : hasS [t] s = false) => goes_on h hne)
      rw [hl4] at hLen hMin hMax
      rw [hl5] at hLen
      subst hLen
      have HL4 := Lib.hid hl4
      have HL5 := Lib.hid hl5
      have HV4 := Lib.hid hv4
      have HV5 := Lib.hid hv5
      clear hv4 hv5 hl4 hl5
      generalize hF : thruB (xs.map bare) mm = F at *
      generalize thruB (xs.map bare).reverse mm = G at *
      have hq1 : decide (gd < l5) = false := decide_eq_false (by omega)
      have hq2 : decide ((l5 : Int) < min (mm : Int) (gd : Int)) = false := decide_eq_false (by omega)
      go_wp2_with fail
      have HF4 := Lib.hid (show ∀ i, i < l5 → ∃ s b off, F[i]? = some s ∧ q4 = some ⟨b, off, none⟩ ∧ w5.cell? ⟨b, off + i, none⟩ = some (.string s) from fun i hi => by
        obtain ⟨hf, _, hh⟩ := HV4.out.words.at
        obtain ⟨b, off, e, hc⟩ := hh (by omega)
        exact ⟨F[i]'(by omega), b, off, List.getElem?_eq_getElem _, e, hc i _ (List.getElem?_eq_getElem _)⟩)
      have HHg := Lib.hid (fun (s : ByteArray) => hasWord_c HV5.out.words (by omega) s)
      have hl1k : l5 ≤ 1000 := by omega
      go_loopg [113] l5 (fun gk s wr2 => ∃ i : Nat, s = .int .i64 i ∧ gk + i = l5 ∧ wr2 = w5)
      case atStart => exact ⟨0, rfl, by omega, rfl⟩
      case round =>
        obtain ⟨i, rfl, hi, hw⟩ := hrel
        have hw2 := hw.symm
        clear hw
        subst hw2
        by_cases hlt : i < l5
        · obtain ⟨s, b, off, hs, rfl, hcs⟩ := HF4.out i hlt
          have HT := HHg.out s
          have hsG : hasS G s = true := by
            have := HMem.out s (List.mem_of_getElem? hs)
            unfold hasS; rw [List.any_eq_true]; exact ⟨s, this, by simp⟩
          rw [hsG] at HT
          have HTt := Lib.hid HT
          have hi2 : (i : Int) < l5 := by omega
          clear HT hs hsG
          go_wp2_with (refine HTt.out.mono ?_; rintro e w6 ⟨rfl, rfl⟩)
          go_roundg (gk - 1)
          case measure => omega
          case rel => exact ⟨i + 1, by go_num, by omega, rfl⟩
        · obtain rfl : i = l5 := by omega
          have hi2 : ¬ (i : Int) < i := by omega
          clear HHg HV5 HL5 HMem
          by_cases hk0 : k = 0
          · have hk1 : ((k : Int) == 0) = true := by rw [hk0]; rfl
            go_wp2_with fail
            go_ret
            exact ⟨rfl, gW⟩
          have hk1 : ((k : Int) == 0) = false := beq_eq_false_iff_ne.2 (by omega)
          have hw0 : IntKind.i64.wrap a0 = a0 := by rw [IntKind.wrap_i64]; omega
          have hw1 : IntKind.i64.wrap a1 = a1 := by rw [IntKind.wrap_i64]; omega
          obtain ⟨r0, he0, hr0⟩ : ∃ r : Nat, Int.tmod a0 k = r ∧ r < k := ⟨(Int.tmod a0 k).toNat, by rw [Int.tmod_eq_emod_of_nonneg ha0.1]; have := Int.emod_nonneg a0 (b := (k : Int)) (by omega); omega, by rw [Int.tmod_eq_emod_of_nonneg ha0.1]; have := Int.emod_nonneg a0 (b := (k : Int)) (by omega); have := Int.emod_lt_of_pos a0 (b := (k : Int)) (by omega); omega⟩
          obtain ⟨r1, he1, hr1⟩ : ∃ r : Nat, Int.tmod a1 k = r ∧ r < k := ⟨(Int.tmod a1 k).toNat, by rw [Int.tmod_eq_emod_of_nonneg ha1.1]; have := Int.emod_nonneg a1 (b := (k : Int)) (by omega); omega, by rw [Int.tmod_eq_emod_of_nonneg ha1.1]; have := Int.emod_nonneg a1 (b := (k : Int)) (by omega); have := Int.emod_lt_of_pos a1 (b := (k : Int)) (by omega); omega⟩
          obtain ⟨x, hx⟩ := HX.out r0 hr0
          obtain ⟨y, hy⟩ := HX.out r1 hr1
          obtain ⟨b, off, rfl, hc⟩ := HH.out (by omega)
          have c0 := ((hc r0 x hx).gr gW).nm
          have d0 := ((hc r1 y hy).gr gW).nm
          have hr0i : (r0 : Int) < k := by omega
          have hr1i : (r1 : Int) < k := by omega
          have HXx := Lib.hid hx
          have HYy := Lib.hid hy
          clear hx hy hc HX HH
          go_wp2_with fail
          go_big_quiet (fail)
          have gW2 : Gr w (w5.drewN nq) := gW.drewN _
          have HV4b := Lib.hid (HV4.out.gr ((Gr.refl w5).drewN nq))
          clear b0 b1 c0 d0 HF4 HV4 gW
          generalize w5.drewN nq = wq at *
          go_wp2_with fail
          have HRx := Lib.hid (fun W (g : Gr w W) => (HRows.out HSh.out W g))
          refine (HRp.out xs _ k c [x.nm] _ 1 1 _ (outOK_one HXx.out) (HRx.out _ (gW2.alloc _)) (by omega) HVa.out (words_one _ _ _) (by omega)).mono ?_
          rintro e w6 ⟨q6, l6, k6, rfl, hv6, g6⟩
          rw [rest_bare] at hv6
          replace g6 := ((Gr.refl wq).alloc _).trans g6
          have HV4c := Lib.hid (HV4b.out.gr g6)
          have gW3 := gW2.trans g6
          have hA2 := HA2.out x.nm
          have hA3 := fun s h hne => HA3.out s x.nm h hne
          have hA1 := HA1.out x.nm
          have hl4 := HV4c.out.words.at.1
          have hl6 := hv6.words.at.1
          have hl6k : l6 ≤ 1000 := by
            have := thruB_len (restB [x.nm] (xs.map bare)) (mm : Int)
            have h3 := (restB_sub [x.nm] (xs.map bare)).length_le
            have h4 := HRl.out
            rw [hl6] at this
            rw [List.length_map] at h3
            have h5 : xs.length = k := (HRows.out HSh.out w (Gr.refl w)).at.1
            omega
          have HHF := Lib.hid (fun W (g : Gr w6 W) (s : ByteArray) => hasWord_c ((HV4c.out.gr g).words) (by omega) s)
          have HHA := Lib.hid (fun W (g : Gr w6 W) (s : ByteArray) => hasWord_c ((hv6.gr g).words) (by omega) s)
          have HSm := Lib.hid (fun (h : thruB (restB [x.nm] (xs.map bare)) mm = F) => sameWords_c (h ▸ hv6) HV4c.out (by omega))
          have HA3b := Lib.hid hA3
          clear HV4b g6 hv6 hl4 hl6 hA3 HA1 HA2 HA3
          generalize thruB (restB [x.nm] (xs.map bare)) mm = A at *
          go_wp2_with fail
          refine (HHF.out _ (Gr.refl _) x.nm).mono ?_
          rintro e w7 ⟨rfl, rfl⟩
          cases hh : hasS F x.nm
          all_goals
            first
              | (have hAF := hA1 hh
                 go_wp2_with fail
                 refine (HSm.out hAF).mono ?_
                 rintro e wz ⟨rfl, gz⟩
                 go_wp2_with fail)
              | (go_wp2_with fail
                 have gz := Gr.refl w6)
            refine (HHA.out _ gz x.nm).mono ?_
            rintro e w8 ⟨rfl, hw8⟩
            replace gz : Gr w6 w8 := hw8 ▸ gz
            clear hw8
            rw [hA2]
            have HF4 := Lib.hid (show ∀ j, j < i → ∃ s b off, F[j]? = some s ∧ q4 = some ⟨b, off, none⟩ ∧ w6.cell? ⟨b, off + j, none⟩ = some (.string s) from fun j hj => by
              obtain ⟨hf, _, hh⟩ := HV4c.out.words.at
              obtain ⟨b, off, e, hc⟩ := hh (by omega)
              exact ⟨F[j]'(by omega), b, off, List.getElem?_eq_getElem _, e, hc j _ (List.getElem?_eq_getElem _)⟩)
            go_wp2_with fail
            go_loopg [174] i (fun gk s wr3 => ∃ j : Nat, s = .int .i64 j ∧ gk + j = i ∧ Gr w6 wr3)
            case atStart => exact ⟨0, rfl, by omega, gz⟩
            case round =>
              clear gz
              obtain ⟨j, rfl, hj, gz⟩ := hrel
              by_cases hlt : j < i
              · obtain ⟨s, b2, off2, hs, rfl, hcs⟩ := HF4.out j hlt
                replace hcs := gz.cell hcs
                have hj2 : (j : Int) < i := by omega
                cases hsx : (s.toList == x.nm.toList)
                · have hin := HA3b.out s (List.mem_of_getElem? hs) (by simp [hasS, hsx])
                  have HT := Lib.hid (HHA.out _ gz s)
                  rw [hin] at HT
                  have hsx2 := beq_eq_false_iff_ne.1 hsx
                  clear hs hin
                  go_wp2_with (refine HT.out.mono ?_; rintro e w9 ⟨rfl, rfl⟩)
                  go_roundg (gk - 1)
                  case measure => omega
                  case rel => exact ⟨j + 1, by go_num, by omega, gz⟩
                · have hsx2 := beq_iff_eq.1 hsx
                  clear hs
                  go_wp2_with fail
                  go_roundg (gk - 1)
                  case measure => omega
                  case rel => exact ⟨j + 1, by go_num, by omega, gz⟩
              · obtain rfl : j = i := by omega
                have hj2 : ¬ (j : Int) < j := by omega
                have gWz := gW3.trans gz
                clear HHA HHF HSm HF4 HA3b HV4c hA1 hA2
                cases hxy : (x.nm.toList == y.nm.toList)
                case true =>
                  have hxy2 := beq_iff_eq.1 hxy
                  go_wp2_with fail
                  go_ret
                  exact ⟨rfl, gWz⟩
                have hxy2 := beq_eq_false_iff_ne.1 hxy
                have hyx : (y.nm.toList == x.nm.toList) = false := beq_eq_false_iff_ne.2 (fun e => hxy2 e.symm)
                have hkl : xs.length = k := (HRows.out HSh.out w (Gr.refl w)).at.1
                go_wp2_with fail
                refine (HRp.out xs _ k c [x.nm, y.nm] _ 2 2 _ (outOK_two HXx.out HYy.out hyx) (HRx.out _ (gWz.alloc _)) (by omega) HVa.out (words_two _ _ _ _) (by omega)).mono ?_
                rintro e v1 ⟨qb, lb, kb, rfl, hvb, g1⟩
                rw [rest_bare] at hvb
                replace g1 := (gWz.alloc _).trans g1
                go_wp2_with fail
                refine (HRp.out xs _ k c [y.nm, x.nm] _ 2 2 _ (outOK_two HYy.out HXx.out hxy) (HRx.out _ (g1.alloc _)) (by omega) HVa.out (words_two _ _ _ _) (by omega)).mono ?_
                rintro e v2 ⟨qc, lc, kc, rfl, hvc, g2⟩
                rw [rest_bare, restB_comm] at hvc
                replace hvb := hvb.gr (((Gr.refl _).alloc _).trans g2)
                replace g2 := (g1.alloc _).trans g2
                go_wp2_with fail
                refine (refWithout_c (HRx.out _ (g2.alloc _)) (by omega) (words_one _ _ _) (by omega)).mono ?_
                rintro e v3 ⟨qr, lr, kr, rfl, hrr, g3⟩
                replace hvb := hvb.gr (((Gr.refl _).alloc _).trans g3)
                replace hvc := hvc.gr (((Gr.refl _).alloc _).trans g3)
                replace g3 := (g2.alloc _).trans g3
                have hlr := hrr.at.1
                have hrl := rest_le [x.nm] xs
                go_wp2_with fail
                refine (HRp.out (rest [x.nm] xs) _ lr kr [y.nm] _ 1 1 _ (outOK_rest HYy.out hyx) (hrr.gr ((Gr.refl _).alloc _)) (by omega) (by rw [rest_bare]; exact HVa.out.sub (restB_sub _ _)) (words_one _ _ _) (by omega)).mono ?_
                rintro e v4 ⟨qd, ld, kd, rfl, hvd, g4⟩
                rw [rest_bare, rest_bare, restB_two] at hvd
                replace hvb := hvb.gr (((Gr.refl _).alloc _).trans g4)
                replace hvc := hvc.gr (((Gr.refl _).alloc _).trans g4)
                replace g4 := (g3.alloc _).trans g4
                have hLb : (thruB (restB [x.nm, y.nm] (xs.map bare)) mm).length ≤ 1000 := by
                  have := thruB_len (restB [x.nm, y.nm] (xs.map bare)) (mm : Int)
                  have h3 := (restB_sub [x.nm, y.nm] (xs.map bare)).length_le
                  rw [List.length_map] at h3
                  omega
                replace hvd : StrsV v4 (.slice qd ld kd) (thruB (restB [x.nm, y.nm] (xs.map bare)) mm) := hvd
                generalize thruB (restB [x.nm, y.nm] (xs.map bare)) mm = TT at *
                go_wp2_with fail
                refine (sameWords_c hvb hvc hLb).mono ?_
                rintro e v5 ⟨rfl, g5⟩
                go_wp2_with fail
                refine (sameWords_c (hvb.gr g5) (hvd.gr g5) hLb).mono ?_
                rintro e v6 ⟨rfl, g6⟩
                go_wp2_with fail
                go_ret
                exact ⟨rfl, (g4.trans g5).trans g6⟩
theorem lawGoes_c {xs : List RowR} {v : Value} {a0 a1 : Int} {w : World} (m : Int) (h : Rows0V w v xs) (ha0 : 0 ≤ a0 ∧ a0 < 256) (ha1 : 0 ≤ a1 ∧ a1 < 256) (hA : AwakeOK w) :
    Calls Tryz.prog 4 #[v, .int .i64 m, .agg #[.int .u8 a0, .int .u8 a1]] w fun e w' => e = .returned (.bool true) ∧ Gr w w' := by
  obtain ⟨p, c, rfl, _, _⟩ := h.out
  rcases Nat.lt_or_ge 160 xs.length with h1 | h1
  · exact goes_many h h1 hA
  rcases Nat.lt_or_ge 14 xs.length with h2 | h2
  · exact goes_mid h2 h1 hA
  by_cases h3 : m < 0
  · exact goes_quota h h2 hA (.inl (decide_eq_true h3))
  by_cases h4 : 160 < m
  · exact goes_quota h h2 hA (.inr ⟨decide_eq_false h3, decide_eq_true h4⟩)
  obtain ⟨k, rfl⟩ := Int.eq_ofNat_of_zero_le (show 0 ≤ m by omega)
  exact goes_few k h h2 (by omega) ha0 ha1 hA
end Go.Proofs.YtenhodepaoaiiaaGreatDoor
