/- Who goes on (chapter 8): karabinerResults, and what is asked of the names that go on. -/
import Derived.Test.YtnbboheaheicnabGreatDoorStIJ
import Derived.Test.YtnbboheaheicnabGreatDoorRoC
import Derived.Test.YtnbboheaheicnabGreatDoorThNG
namespace Go.Proofs.YtnbboheaheicnabGreatDoor
open Go.RowKit Go.Lib
set_option linter.unusedSimpArgs false
set_option linter.unusedVariables false
/-- the slice v reads as the results xs, however many values they have -/
structure Rows0V (w : World) (v : Value) (xs : List RowR) : Prop where
  mk' ::
  out : ∃ p cap, v = .slice p xs.length cap ∧ (xs.length ≤ cap ∧ cap ≤ maxLen) ∧ (0 < xs.length → ∃ b off, p = some ⟨b, off, none⟩ ∧ ∀ i x, xs[i]? = some x → Row0 w b (off + i * 3) x)
theorem Rows0V.rows {w : World} {v : Value} {xs : List RowR} (h : Rows0V w v xs) (hl : ∀ x ∈ xs, x.xs.length ≤ 10) : RowsV w v xs := by
  obtain ⟨⟨p, cap, rfl, hcap, hh⟩⟩ := h
  refine ⟨p, cap, rfl, hcap, fun h0 => ?_⟩
  obtain ⟨b, off, e, hc⟩ := hh h0
  exact ⟨b, off, e, fun i x hx => (hc i x hx).at (by have := hl x (List.mem_of_getElem? hx); omega)⟩
theorem shortRs_any {xs : List RowR} {p : Option Addr} {n c : Nat} {w : World} (h : Rows0V w (.slice p n c) xs) :
    Calls Tryz.prog 12 #[.slice p n c, .int .i64 10] w fun e w' => ShoRet e xs ∧ w = w' := by
  obtain ⟨⟨p', c', e, hcap, hh⟩⟩ := h
  cases e
  by_cases h0 : 0 < xs.length
  · obtain ⟨b, off, rfl, hc⟩ := hh h0
    exact shortRs_pos xs _ b off c 10 w rfl (Nat.le_trans hcap.1 hcap.2) hc
  · have hz : xs = [] := List.length_eq_zero_iff.1 (by omega)
    subst hz
    refine (shortRs_nil p c 10 (by omega) w).mono ?_
    rintro e w' ⟨rfl, rfl⟩
    exact ⟨⟨true, rfl, fun _ x hx => by cases hx⟩, rfl⟩
theorem valid_round {xs : List RowR} (h : roundE xs = 0) (h1 : xs.length ≤ 160) : ValidB (xs.map bare) := by
  unfold roundE at h
  rw [if_neg (by omega)] at h
  exact valid_of_zero h
/-- results of which more is asked -/
structure Good (xs : List RowR) (n : Nat) : Prop where
  few : n ≤ 10
  short : ∀ x ∈ xs, x.xs.length ≤ 10
  valid : ValidB (xs.map bare)
/-- what karabinerResults returns -/
structure KRet (e : Ending) (xs : List RowR) (n : Nat) : Prop where
  out : ∃ r, e = .returned (.bool r) ∧ (r = true → Good xs n)
set_option maxHeartbeats 1000000 in
set_option maxRecDepth 100000 in
theorem kRes_c {xs : List RowR} {p : Option Addr} {n c : Nat} {w : World} (h : Rows0V w (.slice p n c) xs) :
    Calls Tryz.prog 4 #[.slice p n c, .int .i64 10] w fun e w' => KRet e xs n ∧ Gr w w' := by
  have HS := Lib.hid (shortRs_any h)
  have hn : xs.length = n := by obtain ⟨⟨p', c', e, hcap, hh⟩⟩ := h; cases e; rfl
  have HN := Lib.hid hn
  have HR := Lib.hid (fun hl W (g : Gr w W) => (h.rows hl).gr g)
  clear h hn
  go_enter Tryz.func4, Tryz.ntmps4
  go_wp2_with fail
  refine HS.out.mono ?_
  rintro e w1 ⟨⟨r, rfl, hr⟩, rfl⟩
  cases r
  · clear hr
    go_wp2_with fail
    go_ret
    exact ⟨⟨false, rfl, fun h => by cases h⟩, Gr.refl _⟩
  · have HSh := Lib.hid (hr rfl)
    clear hr
    cases h10 : decide ((n : Int) ≤ 10)
    · go_wp2_with fail
      go_ret
      exact ⟨⟨false, rfl, fun h => by cases h⟩, Gr.refl _⟩
    · have h10' : (n : Int) ≤ 10 := of_decide_eq_true h10
      have HC := Lib.hid (refRes_c (HR.out HSh.out _ (Gr.refl _)) (by omega))
      have HK := Lib.hid (fun W (g : Gr w W) => refRound_any (HR.out HSh.out _ g))
      have HV := Lib.hid (fun (h : roundE xs = 0) => valid_round h (by have := HN.out; omega))
      generalize roundE xs = E at *
      go_wp2_with fail
      refine HC.out.mono ?_
      rintro e w2 ⟨⟨z, rfl⟩, g2⟩
      clear HC
      by_cases hz : z = 0
      · have hz2 : (z == 0) = true := by rw [hz]; rfl
        by_cases hE : E = 0
        · have hE2 : (E == 0) = true := by rw [hE]; rfl
          go_wp2_with fail
          refine (HK.out _ g2).mono ?_
          rintro e w3 ⟨rfl, g3⟩
          go_wp2_with fail
          go_ret
          exact ⟨⟨true, rfl, fun _ => ⟨by omega, HSh.out, HV.out hE⟩⟩, g2.trans g3⟩
        · have hE2 : (E == 0) = false := beq_eq_false_iff_ne.2 hE
          go_wp2_with fail
          refine (HK.out _ g2).mono ?_
          rintro e w3 ⟨rfl, g3⟩
          go_wp2_with fail
          go_ret
          exact ⟨⟨false, rfl, fun h => by cases h⟩, g2.trans g3⟩
      · have hz2 : (z == 0) = false := beq_eq_false_iff_ne.2 hz
        go_wp2_with fail
        go_ret
        exact ⟨⟨false, rfl, fun h => by cases h⟩, g2⟩
/-! ## who goes on -/
theorem ValidB.sub {bs cs : List Bare} (h : ValidB bs) (hs : cs.Sublist bs) : ValidB cs where
  each := fun b hb => h.each b (hs.subset hb)
  apart := h.apart.sublist (hs.map _)
  even := fun b hb c hc => h.even b (hs.subset hb) c (hs.subset hc)
def restB (ns : List ByteArray) (bs : List Bare) : List Bare := bs.filter fun b => !hasS ns b.nm
theorem rest_bare (ns : List ByteArray) (xs : List RowR) : (rest ns xs).map bare = restB ns (xs.map bare) := by
  unfold rest restB
  rw [List.filter_map]
  rfl
theorem restB_sub (ns : List ByteArray) (bs : List Bare) : (restB ns bs).Sublist bs := List.filter_sublist
theorem thruB_mem {bs : List Bare} {m : Int} {s : ByteArray} : s ∈ thruB bs m ↔ ∃ b ∈ fineB bs, b.nm = s ∧ rankB (fineB bs) b ≤ m := by
  unfold thruB goOn ranksB
  rw [pls_map, List.mem_map]
  constructor
  · rintro ⟨p, hp, rfl⟩
    rw [List.mem_filter] at hp
    obtain ⟨h1, h2⟩ := hp
    rw [(srtP_spec _).1.mem_iff, List.mem_map] at h1
    obtain ⟨b, hb, rfl⟩ := h1
    exact ⟨b, hb, rfl, by simpa using h2⟩
  · rintro ⟨b, hb, rfl, h⟩
    refine ⟨⟨b.nm, rankB (fineB bs) b⟩, ?_, rfl⟩
    rw [List.mem_filter, (srtP_spec _).1.mem_iff, List.mem_map]
    exact ⟨⟨b, hb, rfl⟩, by simpa using h⟩
theorem rankB_sub {bs cs : List Bare} (h : cs.Sublist bs) (b : Bare) : rankB cs b ≤ rankB bs b := by
  unfold rankB
  have := h.countP_le (p := fun c => decide (cmpB c b < 0))
  omega
/-- who goes on and is not out goes on without those who are out -/
theorem goes_on {ns : List ByteArray} {bs : List Bare} {m : Int} {s : ByteArray} (h : s ∈ thruB bs m) (hs : hasS ns s = false) : hasS (thruB (restB ns bs) m) s = true := by
  obtain ⟨b, hb, rfl, hr⟩ := thruB_mem.1 h
  unfold hasS
  rw [List.any_eq_true]
  refine ⟨b.nm, thruB_mem.2 ⟨b, ?_, rfl, ?_⟩, by simp⟩
  · unfold fineB restB at *
    rw [List.mem_filter] at hb ⊢
    exact ⟨List.mem_filter.2 ⟨hb.1, by simp [hs]⟩, hb.2⟩
  · have : (fineB (restB ns bs)).Sublist (fineB bs) := (restB_sub ns bs).filter _
    have := rankB_sub this b
    omega
theorem StrsV.words {w : World} {v : Value} {ns : List ByteArray} (h : StrsV w v ns) : WordsV w v ns := by
  obtain ⟨⟨p, cap, rfl, hc, hh⟩⟩ := h
  refine ⟨p, cap, rfl, hc, fun h0 => ?_⟩
  rcases hh with ⟨rfl, _⟩ | ⟨b, rfl, hb⟩
  · cases h0
  · exact ⟨b, 0, rfl, fun i t ht => by rw [Nat.zero_add]; exact hb i t ht⟩
theorem throughK_ok (hS : SortFOK) (I : InsOK) {W : World} {p : Option Addr} {n c : Nat} {ys : List RowR} (h : RowsV W (.slice p n c) ys) (h1 : n < 20) (hSt : StatesIn W) (hV : ValidB (ys.map bare)) (m : Int) (hm : outE m 0 160 = 0) :
    Calls Tryz.prog 8 #[.slice p n c, .int .i64 m] W fun e w' => ∃ q l k, e = .returned (.tuple #[.slice q l k, .int .i64 0]) ∧ StrsV w' (.slice q l k) (thruB (ys.map bare) m) ∧ Gr W w' := by
  have hn := h.at.1
  by_cases h0 : 0 < n
  · refine (through_ok hS I h (by omega) (by omega) hSt hV m (outE_zero.1 hm)).mono ?_
    rintro e w' ⟨u, rfl, hu, g⟩
    obtain ⟨q, k, rfl, _, _⟩ := id hu.out
    exact ⟨q, _, k, rfl, hu, g⟩
  · have hz : n = 0 := by omega
    subst hz
    refine (through_none p c m hm W).mono ?_
    rintro e w' ⟨rfl, g⟩
    have hnil : thruB (ys.map bare) m = [] := List.length_eq_zero_iff.1 (by have := thruB_len (ys.map bare) m; rw [List.length_map, hn] at this; omega)
    rw [hnil]
    exact ⟨none, 0, 0, rfl, ⟨none, 0, rfl, ⟨Nat.le_refl _, by unfold maxLen; omega⟩, .inl ⟨rfl, rfl, rfl⟩⟩, g⟩
end Go.Proofs.YtnbboheaheicnabGreatDoor
namespace Go.Proofs.YtnbboheaheicnabGreatDoor
open Go.RowKit Go.Lib
set_option linter.unusedSimpArgs false
set_option linter.unusedVariables false
set_option maxHeartbeats 4000000
set_option maxRecDepth 100000
/-- the law's own test passes -/
def GoesOn (w : World) : Prop := ∀ W, Gr w W → Calls Tryz.prog 6 #[] W fun e w' => e = .returned (.bool true) ∧ Gr W w'
theorem law_bad {xs : List RowR} {p : Option Addr} {n c : Nat} {q : Option Addr} {l k0 : Nat} {m : Int} {w : World} (h : Rows0V w (.slice p n c) xs) (hA : GoesOn w)
    (hb : decide (m < 0) = true ∨ (decide (m < 0) = false ∧ decide (20 < m) = true) ∨ (decide (m < 0) = false ∧ decide (20 < m) = false ∧ decide ((10 : Int) < l) = true)) :
    Calls Tryz.prog 3 #[.slice p n c, .int .i64 m, .slice q l k0] w fun e w' => e = .returned (.bool true) ∧ Gr w w' := by
  have HK := Lib.hid (kRes_c h)
  have HA : Hid (GoesOn w) := hA
  clear h hA
  rcases hb with h1 | ⟨h1, h2⟩ | ⟨h1, h2, h3⟩
  all_goals
    go_enter Tryz.func3, Tryz.ntmps3
    go_wp2_with fail
    refine HK.out.mono ?_
    rintro e w1 ⟨⟨r, rfl, hr⟩, g1⟩
    clear hr
    cases r
    all_goals
      go_wp2_with (refine (HA.out _ g1).mono ?_; rintro e w2 ⟨rfl, g2⟩)
      go_ret
      exact ⟨rfl, g1.trans g2⟩
theorem law_good (hS : SortFOK) (I : InsOK) {xs : List RowR} {ns : List ByteArray} {p : Option Addr} {n c : Nat} {q : Option Addr} {l k0 : Nat} {w : World} (mm : Nat) (hm20 : mm ≤ 20) (hl10 : l ≤ 10) (h : Rows0V w (.slice p n c) xs) (ho : WordsV w (.slice q l k0) ns) (hSt : StatesIn w) (hA : GoesOn w) :
    Calls Tryz.prog 3 #[.slice p n c, .int .i64 (mm : Int), .slice q l k0] w fun e w' => e = .returned (.bool true) ∧ Gr w w' := by
  obtain ⟨i0, hi, hz0, hz1, hz2⟩ := info_parts infoRes
  have hO0 : outE (mm : Int) 0 160 = 0 := outE_zero.2 ⟨by omega, by omega⟩
  have HK := Lib.hid (kRes_c h)
  have HA : Hid (GoesOn w) := hA
  have HRows := Lib.hid (fun (G : Good xs n) W (g : Gr w W) => (h.rows G.short).gr g)
  have HOut := Lib.hid (fun (G : Good xs n) W (g : Gr w W) => refOut_c ((h.rows G.short).gr g) (ho.gr g) (by have := G.few; omega) (by omega))
  have HFw := Lib.hid (fun (G : Good xs n) W (g : Gr w W) => forwardS_ok mm ((h.rows G.short).gr g) (by have := G.few; omega) G.valid hO0)
  have HTh := Lib.hid (fun (ys : List RowR) (p : Option Addr) (n c : Nat) (W : World) (g : Gr w W) (hr : RowsV W (.slice p n c) ys) (hn : n < 20) (hV : ValidB (ys.map bare)) => throughK_ok hS I hr hn (hSt.gr g) hV mm hO0)
  have HRp := Lib.hid (fun (G : Good xs n) (O : OutOK xs ns) W (g : Gr w W) => replace_ok mm O ((h.rows G.short).gr g) (by have := G.few; omega) G.valid (ho.gr g) (by omega) hO0)
  have HHas := Lib.hid (fun W (g : Gr w W) s => hasWord_c (ho.gr g) (by omega) s)
  have hm0 : decide ((mm : Int) < 0) = false := decide_eq_false (by omega)
  have hm1 : decide ((20 : Int) < mm) = false := decide_eq_false (by omega)
  have hl0 : decide ((10 : Int) < l) = false := decide_eq_false (by omega)
  clear h ho hSt hA hO0 hS I
  go_enter Tryz.func3, Tryz.ntmps3
  go_wp2_with fail
  refine HK.out.mono ?_
  rintro e w1 ⟨⟨r, rfl, hr⟩, g1⟩
  cases r
  · clear hr
    go_wp2_with (refine (HA.out _ g1).mono ?_; rintro e w2 ⟨rfl, g2⟩)
    go_ret
    exact ⟨rfl, g1.trans g2⟩
  have G := hr rfl
  have HG := Lib.hid G
  clear hr
  go_wp2_with fail
  refine (HOut.out G _ g1).mono ?_
  rintro e w2 ⟨⟨z, rfl, hz⟩, g2⟩
  replace g2 := g1.trans g2
  by_cases hzz : z = 0
  case neg =>
    have hz3 : (z != 0) = true := bne_iff_ne.2 hzz
    clear hz hzz
    go_wp2_with (refine (HA.out _ g2).mono ?_; rintro e w3 ⟨rfl, g3⟩)
    go_ret
    exact ⟨rfl, g2.trans g3⟩
  have hz3 : (z != 0) = false := by rw [hzz]; rfl
  have HO := Lib.hid (hz hzz)
  clear hz hzz
  go_wp2_with fail
  refine (HFw.out G _ g2).mono ?_
  rintro e w3 ⟨q7, l7, k7, rfl, hv7, g3⟩
  have g3' := g2.trans g3
  have HT4 := Lib.hid (HTh.out _ _ _ _ _ g3' (HRows.out G _ g3') (by have := G.few; omega) G.valid)
  go_wp2_with fail
  refine HT4.out.mono ?_
  rintro e w4 ⟨q9, l9, k9, rfl, hv9, g4⟩
  clear HT4
  replace hv7 := hv7.gr g4
  have g4' := g3'.trans g4
  go_wp2_with fail
  refine (HRp.out G HO.out _ g4').mono ?_
  rintro e w5 ⟨q11, l11, k11, rfl, hv11, g5⟩
  replace hv7 := hv7.gr g5
  replace hv9 := hv9.gr g5
  have gg := g4'.trans g5
  have HV7 := Lib.hid hv7
  have HV9 := Lib.hid hv9
  have HV11 := Lib.hid hv11
  clear hv7 hv9 hv11 g1 g2 g3 g4 g5 g3' g4'
  obtain ⟨hn, _, hh⟩ := (HRows.out G w (Gr.refl w)).at
  have h1 : n < 20 := by have := G.few; omega
  have HX := Lib.hid (fun k (h : k < n) => (show ∃ x, xs[k]? = some x from ⟨xs[k]'(by omega), List.getElem?_eq_getElem _⟩))
  have HFl := Lib.hid (fun k => (show (rest ns (xs.take k)).length < 20 from by have := rest_le ns (xs.take k); rw [List.length_take] at this; omega))
  have HH := Lib.hid hh
  have HN := Lib.hid hn
  clear hh hn G
  go_wp2_with fail
  go_loopw [13, 64] (fun v i wr => ∃ k : Nat, k ≤ n ∧ i = .int .i64 k ∧ wr.ownsRow w5.heap.size 33 3 v (rest ns (xs.take k)).length (rowCs (rest ns (xs.take k))) ∧ Gr w5 wr) (fun _ i _ => n - (intOf i).toNat)
  case atStart => exact ⟨0, Nat.zero_le _, rfl, World.ownsRow_nil _ _ _ _, Gr.refl _⟩
  case round =>
    obtain ⟨k, hk, rfl, hown, hnx⟩ := hrel
    have hsize := hnx.size
    by_cases hkN : k < n
    · obtain ⟨x, hx⟩ := HX.out k hkN
      obtain ⟨b, off, rfl, hc⟩ := HH.out (by omega)
      obtain ⟨c0, c1, c2, hv, _⟩ := (hc k x hx).gr (gg.trans hnx)
      obtain ⟨⟨p', cap', hu, _⟩⟩ := hv
      rw [hu] at c2
      have HQ := Lib.hid (rest_take (ns := ns) hx)
      have HL := Lib.hid (HFl.out k)
      have HRc := Lib.hid (rowCs_len (rest ns (xs.take k)))
      have hi2 : (k : Int) < n := by omega
      have gz := ((Gr.refl wr).alloc (.cells #[.string x.nm, .string x.st, .slice p' x.xs.length cap'] 33))
      have HCx := Lib.hid (HHas.out _ ((gg.trans hnx).trans gz) x.nm)
      have HOW := Lib.hid (fun W (g : Gr wr W) => own_gr hown g)
      have HGZ := Lib.hid gz
      cases hh : hasS ns x.nm
      · rw [hh] at HCx
        have HQ2 := Lib.hid (show rest ns (xs.take (k + 1)) = rest ns (xs.take k) ++ [x] from by
          have := HQ.out; rw [hh] at this; simpa using this)
        have HQ3 := Lib.hid (show rowCs (rest ns (xs.take k) ++ [x]) = rowCs (rest ns (xs.take k)) ++ [.string x.nm, .string x.st, .slice p' x.xs.length cap'] from by rw [rowCs_add]; unfold rowC; rw [hu])
        have HQ4 := Lib.hid (show (rest ns (xs.take k) ++ [x]).length = (rest ns (xs.take k)).length + 1 from by simp)
        have hl20 := HL.out
        clear hown hx hh hu hc gz
        generalize (rest ns (xs.take k)).length = z at *
        go_wp2_with (first
          | (refine HCx.out.mono ?_; rintro e w4 ⟨rfl, rfl⟩)
          | (at_builtin; refine wpList_append_own _ rfl _ _ 22 rfl w5.heap.size 33 i0 (.agg #[.string ⟨#[]⟩, .string ⟨#[]⟩, .slice none 0 0]) 3 56 Tryz.underlying22 hi hz0 hz1 hz2 rfl (by decide) _ _ _ rfl ((HOW.out _ HGZ.out).alloc _) ⟨wr.heap.size + 1, 0, none⟩ 1 1 [.string x.nm, .string x.st, .slice p' x.xs.length cap'] rfl rfl (cell_three_sz _ _ (by simp) _ _ _ _) (by intro u hu; simp at hu; rcases hu with rfl | rfl | rfl <;> rfl) (by unfold maxLen; omega) (by omega) (by simp; omega) ?_; intro v1 w1 hown1 hgrow1 hnil1))
        go_roundw
        case rel =>
          exact ⟨k + 1, by omega, by go_num, by rw [HQ2.out, HQ3.out, HQ4.out]; exact hown1, Below.grown ((hnx.trans HGZ.out).alloc _) hgrow1 (by simp; omega) (fun j hj => ((HOW.out _ HGZ.out).lt j hj).1)⟩
        case measure => simp [intOf]; omega
      · rw [hh] at HCx
        have HQ2 := Lib.hid (show rest ns (xs.take (k + 1)) = rest ns (xs.take k) from by
          have := HQ.out; rw [hh] at this; simpa using this)
        clear hown hx hh hu hc gz
        go_wp2_with (refine HCx.out.mono ?_; rintro e w4 ⟨rfl, rfl⟩)
        go_roundw
        case rel => exact ⟨k + 1, by omega, by go_num, by rw [HQ2.out]; exact HOW.out _ HGZ.out, hnx.trans HGZ.out⟩
        case measure => simp [intOf]; omega
    · obtain rfl : k = n := by omega
      rw [List.take_of_length_le (by have := HN.out; omega)] at hown
      have hlr : (rest ns xs).length < 20 := by have := HFl.out k; rwa [List.take_of_length_le (by have := HN.out; omega)] at this
      obtain ⟨p2, c2, rfl, hrows⟩ := rowsV_owns hown rfl (fun x hx => by
        have hmem : x ∈ xs := (List.mem_filter.1 hx).1
        obtain ⟨j, hj⟩ := List.mem_iff_getElem?.1 hmem
        have hjl := (List.getElem?_eq_some_iff.1 hj).1
        obtain ⟨b, off, _, hc⟩ := HH.out (by have := HN.out; omega)
        have := hc j x hj
        exact ⟨this.val.gr (gg.trans hnx), this.len⟩)
      have hVr : ValidB ((rest ns xs).map bare) := by rw [rest_bare]; exact HG.out.valid.sub (restB_sub _ _)
      have HT := Lib.hid (HTh.out _ _ _ _ _ (gg.trans hnx) hrows hlr hVr)
      have hv7 := HV7.out.gr hnx
      have hv9 := HV9.out.gr hnx
      have hv11 := HV11.out.gr hnx
      have HL7 := Lib.hid (show (thruB (xs.map bare) mm).length ≤ 1000 from by have := thruB_len (xs.map bare) mm; rw [List.length_map] at this; have := HN.out; omega)
      have HL11 := Lib.hid (show (thruB ((rest ns xs).map bare) mm).length ≤ 1000 from by have := thruB_len ((rest ns xs).map bare) mm; rw [List.length_map] at this; omega)
      have HGo := Lib.hid (fun (s : ByteArray) (hs : s ∈ thruB (xs.map bare) mm) (h0 : hasS ns s = false) => (show hasS (thruB ((rest ns xs).map bare) mm) s = true from by rw [rest_bare]; exact goes_on hs h0))
      generalize thruB (xs.map bare) mm = T7 at *
      generalize thruB ((rest ns xs).map bare) mm = T11 at *
      have gW := gg.trans hnx
      clear hown hrows hlr hVr HV7 HV9 HV11 HX HFl HH HN HTh HRows HOut HFw HRp HK
      go_wp2_with fail
      refine HT.out.mono ?_
      rintro e w6 ⟨q16, l16, k16, rfl, hv16, g6⟩
      replace hv7 := hv7.gr g6
      replace hv9 := hv9.gr g6
      replace hv11 := hv11.gr g6
      replace gW := gW.trans g6
      clear HT g6
      have HSa := Lib.hid (sameWords_c hv7 hv9 HL7.out)
      go_wp2_with fail
      refine HSa.out.mono ?_
      rintro e w7 ⟨rfl, g7⟩
      replace hv7 := hv7.gr g7
      replace hv11 := hv11.gr g7
      replace hv16 := hv16.gr g7
      replace gW := gW.trans g7
      clear HSa g7 hv9
      have HSb := Lib.hid (sameWords_c hv11 hv16 HL11.out)
      go_wp2_with fail
      refine HSb.out.mono ?_
      rintro e w8 ⟨rfl, g8⟩
      replace hv7 := hv7.gr g8
      replace hv11 := hv11.gr g8
      replace gW := gW.trans g8
      clear HSb g8 hv16
      obtain ⟨hl7, _, hh7⟩ := hv7.words.at
      have HW11 := Lib.hid hv11.words
      have hl11 := hv11.words.at.1
      have HHb := Lib.hid (fun (W : World) (g : Gr w8 W) (s : ByteArray) => hasWord_c (HW11.out.gr g) (by have := HL11.out; omega) s)
      have HH7 := Lib.hid hh7
      have HX7 := Lib.hid (fun k (h : k < l7) => (show ∃ x, T7[k]? = some x from ⟨T7[k]'(by omega), List.getElem?_eq_getElem _⟩))
      have HGW := Lib.hid gW
      have hl7b : l7 ≤ 1000 := by have := HL7.out; omega
      clear hh7 hv7 hv11 hl7 hl11
      go_wp2_with fail
      go_loopg [106] l7 (fun gk s106 wr => ∃ i : Nat, s106 = .int .i64 i ∧ gk + i = l7 ∧ wr = w8)
      case atStart => exact ⟨0, rfl, by omega, rfl⟩
      case round =>
        obtain ⟨i, rfl, hi8, rfl⟩ := hrel
        by_cases hlt : i < l7
        · obtain ⟨s, hs⟩ := HX7.out i hlt
          obtain ⟨b7, off7, rfl, hc7⟩ := HH7.out (by omega)
          have d0 := hc7 i s hs
          have hi2 : (i : Int) < l7 := by omega
          have HC0 := Lib.hid (HHas.out _ HGW.out s)
          have HC1 := Lib.hid (HHb.out _ (Gr.refl _) s)
          have hgo := HGo.out s (List.mem_of_getElem? hs)
          clear hs hc7
          cases hh : hasS ns s
          · rw [hh] at HC0
            rw [hgo hh] at HC1
            clear hgo hh
            go_wp2_with fail
            refine HC0.out.mono ?_
            rintro e w9 ⟨rfl, rfl⟩
            go_wp2_with fail
            refine HC1.out.mono ?_
            rintro e w9 ⟨rfl, rfl⟩
            go_wp2_with fail
            go_roundg (gk - 1)
            case measure => omega
            case rel => exact ⟨i + 1, by go_num, by omega, rfl⟩
          · rw [hh] at HC0
            clear hgo hh
            go_wp2_with fail
            refine HC0.out.mono ?_
            rintro e w9 ⟨rfl, rfl⟩
            go_wp2_with fail
            go_roundg (gk - 1)
            case measure => omega
            case rel => exact ⟨i + 1, by go_num, by omega, rfl⟩
        · have hi2 : ¬ (i : Int) < l7 := by omega
          go_wp2_with (refine (HA.out _ HGW.out).mono ?_; rintro e w9 ⟨rfl, g9⟩)
          go_ret
          exact ⟨rfl, HGW.out.trans g9⟩
theorem lawForward_c (hS : SortFOK) (I : InsOK) {xs : List RowR} {ns : List ByteArray} {v u : Value} {w : World} (h : Rows0V w v xs) (m : Int) (ho : WordsV w u ns) (hSt : StatesIn w) (hA : GoesOn w) :
    Calls Tryz.prog 3 #[v, .int .i64 m, u] w fun e w' => e = .returned (.bool true) ∧ Gr w w' := by
  obtain ⟨p, c, rfl⟩ : ∃ p c, v = .slice p xs.length c := by obtain ⟨⟨p, c, rfl, _⟩⟩ := h; exact ⟨p, c, rfl⟩
  obtain ⟨q, k, rfl⟩ : ∃ p c, u = .slice p ns.length c := by obtain ⟨⟨p, c, rfl, _⟩⟩ := ho; exact ⟨p, c, rfl⟩
  by_cases h1 : m < 0
  · exact law_bad h hA (.inl (decide_eq_true h1))
  by_cases h2 : 20 < m
  · exact law_bad h hA (.inr (.inl ⟨decide_eq_false h1, decide_eq_true h2⟩))
  by_cases h3 : (10 : Int) < ns.length
  · exact law_bad h hA (.inr (.inr ⟨decide_eq_false h1, decide_eq_false h2, decide_eq_true h3⟩))
  obtain ⟨mm, rfl⟩ : ∃ mm : Nat, m = mm := ⟨m.toNat, by omega⟩
  exact law_good hS I mm (by omega) (by omega) h ho hSt hA
end Go.Proofs.YtnbboheaheicnabGreatDoor
