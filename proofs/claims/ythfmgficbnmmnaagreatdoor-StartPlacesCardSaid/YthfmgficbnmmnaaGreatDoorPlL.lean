/- Places: the law, walked. -/
import Derived.Test.YthfmgficbnmmnaaGreatDoorPlK
namespace Go.Proofs.YthfmgficbnmmnaaGreatDoor
open Go.RowKit Go.Lib
set_option linter.unusedSimpArgs false
set_option linter.unusedVariables false
/-- what the law's copy of races returns -/
structure OwnRa (e : Ending) (w w' : World) (l : List RaR) : Prop where
  mk' ::
  out : ∃ u, e = .returned u ∧ w'.ownsRow w.heap.size 91 3 u l.length (raCs l) ∧ Gr w w'
set_option maxHeartbeats 4000000 in
set_option maxRecDepth 100000 in
theorem races6o_c {v : Value} {l : List RaR} {w : World} (h : RaV w v l) (hb : l.length * 40 ≤ 140737488355328) :
    Calls Tryz.prog 7 #[v] w fun e w' => OwnRa e w w' l := by
  obtain ⟨i0, hi, hz0, hz1, hz2⟩ := info_parts infoRaR
  obtain ⟨⟨p, cap, rfl, ⟨hcap, hmx⟩, hr⟩⟩ := h
  obtain ⟨n, hn⟩ : ∃ n, n = l.length := ⟨_, rfl⟩
  rw [← hn] at hcap hb ⊢
  have HN := Lib.hid hn
  have HR := Lib.hid hr.out
  have hnm : n ≤ 3518437208883 := by omega
  clear hr hn
  go_enter Tryz.func7, Tryz.ntmps7
  go_wp2_with fail
  go_loopg [3, 4] n (fun gk s3 s4 wr => ∃ i : Nat, s4 = .int .i64 (i : Int) ∧ gk + i = n ∧ wr.ownsRow w.heap.size 91 3 s3 i (raCs (l.take i)) ∧ Hid (Gr w wr))
  case atStart => exact ⟨0, rfl, by omega, World.ownsRow_nil _ _ _ _, Gr.refl _⟩
  case round =>
    obtain ⟨i, rfl, hgk, hown, HG⟩ := hrel
    have hsz := HG.out.size
    by_cases hlt : i < n
    · obtain ⟨x, hx⟩ : ∃ x, l[i]? = some x := ⟨l[i]'(by have := HN.out; omega), List.getElem?_eq_getElem _⟩
      obtain ⟨b, off, rfl, hc⟩ := HR.out (by have := HN.out; omega)
      obtain ⟨a0, a1, a2⟩ := hc i x hx
      replace a0 := Gr.cell HG.out a0
      replace a1 := Gr.cell HG.out a1
      replace a2 := Gr.cell HG.out a2
      have hlt2 : (i : Int) < (n : Int) := by omega
      have HT : Hid (raCs (l.take (i + 1)) = raCs (l.take i) ++ raC x) := by rw [Hid, List.take_add_one, hx]; exact raCs_add _ _
      obtain ⟨xa, xb, xw⟩ := x
      simp only at a0 a1 a2
      clear hx hc
      go_wp2_with (at_builtin; refine wpList_append_own _ rfl _ _ 28 rfl w.heap.size 91 i0 (.agg #[.string ⟨#[]⟩, .string ⟨#[]⟩, .int .i64 0]) 3 40 Tryz.underlying28 hi hz0 hz1 hz2 rfl (by decide) _ _ _ rfl (hown.alloc _) ⟨wr.heap.size, 0, none⟩ 1 1 [.string xa, .string xb, .int .i64 xw] rfl rfl (cell_three6 _ _ _ _ _) (by intro u hu; simp at hu; rcases hu with rfl | rfl | rfl <;> rfl) (by unfold maxLen; omega) (by omega) (by simp; omega) ?_; intro v1 w1 hown1 hgrow1 _)
      have HGR : Hid (Gr w w1) := Below.grown (HG.out.alloc _) hgrow1 (by simp; omega) (fun q hq => (own_in hown hq).2)
      have HO1 := Lib.hid hown1
      clear hown1 hgrow1 hown
      go_roundg (gk - 1)
      case measure => omega
      case rel => exact ⟨i + 1, by go_num, by omega, by have := HO1.out; rw [HT.out]; exact this, HGR⟩
    · obtain rfl : n = i := by omega
      have hlt2 : ¬ (n : Int) < (n : Int) := by omega
      have HV : Hid (wr.ownsRow w.heap.size 91 3 u3 n (raCs l)) := by have := hown; rwa [List.take_of_length_le (by have := HN.out; omega)] at this
      clear hown
      go_wp2_with fail
      go_ret
      exact ⟨_, rfl, by rw [← HN.out]; exact HV.out, HG.out⟩

def rdV (y : Rd) : Value := .slice y.p y.n y.c
theorem own_apartT {w w' : World} {b1 b2 s1 s2 n1 n2 : Nat} {T1 T2 : TypeId} {v1 v2 : Value} {l1 l2 : List Value} (h1 : w.ownsRow b1 T1 s1 v1 n1 l1) (h2 : w.ownsRow b2 T2 s2 v2 n2 l2) (hT : T1 ≠ T2) (hg : w.grownBy w' v2.ownBlock) : w'.ownsRow b1 T1 s1 v1 n1 l1 := by
  refine ⟨h1.1, ?_⟩
  rcases h1.2 with hn | ⟨g, cap, cur, rfl, hb, hgg, rest⟩
  · exact .inl hn
  · exact .inr ⟨g, cap, cur, rfl, hb, own_far h2 hg hgg hT, rest⟩
theorem infoSlR : (Tryz.prog.info? 28).map (fun i => (i.zero, i.size, i.bytes)) = some (some (.slice none 0 0), 1, 24) := by kernel_rfl
/-- the copies that the law has made -/
structure Cps (base : Nat) (w : World) (xs ys : List Rd) : Prop where
  mk' ::
  out : ∀ (j : Nat) (y : Rd), ys[j]? = some y → ∃ x, xs[j]? = some x ∧ y.l = x.l ∧ y.l.length = y.n ∧ w.ownsRow base 91 3 (rdV y) y.n (raCs y.l)
theorem Cps.gr {base : Nat} {w w' : World} {xs ys : List Rd} (h : Cps base w xs ys) (g : Gr w w') : Cps base w' xs ys := ⟨fun j y hy => by
  obtain ⟨x, h1, h2, h3, h4⟩ := h.out j y hy
  exact ⟨x, h1, h2, h3, own_kept h4 g⟩⟩
theorem Cps.grown {base : Nat} {w w' : World} {xs ys : List Rd} {b2 s2 n2 : Nat} {v2 : Value} {l2 : List Value} (h : Cps base w xs ys) (h2 : w.ownsRow b2 28 s2 v2 n2 l2) (hg : w.grownBy w' v2.ownBlock) : Cps base w' xs ys := ⟨fun j y hy => by
  obtain ⟨x, h1, h3, h4, h5⟩ := h.out j y hy
  exact ⟨x, h1, h3, h4, own_apartT h5 h2 (by decide) hg⟩⟩
theorem Cps.add {base : Nat} {w : World} {xs ys : List Rd} {x y : Rd} (h : Cps base w xs ys) (hx : xs[ys.length]? = some x) (e : y.l = x.l) (hl : y.l.length = y.n) (ho : w.ownsRow base 91 3 (rdV y) y.n (raCs y.l)) : Cps base w xs (ys ++ [y]) := ⟨fun j z hz => by
  rcases Nat.lt_or_ge j ys.length with hj | hj
  · rw [List.getElem?_append_left hj] at hz
    exact h.out j z hz
  · rw [List.getElem?_append_right hj] at hz
    have hj2 : j = ys.length := by
      rcases Nat.lt_or_ge (j - ys.length) 1 with h1 | h1
      · omega
      · rw [List.getElem?_eq_none (by simpa using h1)] at hz; cases hz
    subst hj2
    simp at hz
    subst hz
    exact ⟨x, hx, e, hl, ho⟩⟩
theorem Cps.lists {base : Nat} {w : World} {xs ys : List Rd} (h : Cps base w xs ys) (hn : ys.length = xs.length) : ys.map Rd.l = xs.map Rd.l := by
  apply List.ext_getElem?
  intro i
  rw [List.getElem?_map, List.getElem?_map]
  rcases Nat.lt_or_ge i ys.length with hi | hi
  · obtain ⟨y, hy⟩ : ∃ y, ys[i]? = some y := ⟨ys[i], List.getElem?_eq_getElem hi⟩
    obtain ⟨x, hx, e, _⟩ := h.out i y hy
    rw [hy, hx]; simp [e]
  · rw [List.getElem?_eq_none hi, List.getElem?_eq_none (by omega)]
theorem rd_own {w : World} {base : Nat} {y : Rd} (hl : y.l.length = y.n) (h : w.ownsRow base 91 3 (rdV y) y.n (raCs y.l)) : RdOk w y := by
  obtain ⟨p, c, e, h1, h2⟩ := own_shape h
  unfold rdV at e h
  simp only [Value.slice.injEq] at e
  obtain ⟨rfl, _, rfl⟩ := e
  exact ⟨hl, h1, h2, RaS.of_own h hl⟩
theorem Cps.ats {base b2 n : Nat} {w : World} {xs ys : List Rd} {v : Value} (h : Cps base w xs ys) (hn : ys.length = n) (ho : w.ownsRow b2 28 1 v n (ys.map rdV)) : RdAts w v ys := by
  subst hn
  rcases ho.2 with ⟨rfl, h0⟩ | ⟨g, cap, cur, rfl, _, _, hle, hmx, _, _⟩
  · exact ⟨none, 0, by rw [h0], ⟨by omega, by unfold maxLen; omega⟩, fun h => by omega⟩
  · refine ⟨some ⟨g, 0, none⟩, cap, rfl, ⟨hle, hmx⟩, fun _ => ⟨g, 0, rfl, fun i y hy => ?_⟩⟩
    have c0 := ho.cells (g := g) rfl i (rdV y) (by simp [hy])
    rw [addr_add] at c0
    obtain ⟨x, _, _, hl, ho2⟩ := h.out i y hy
    exact ⟨c0, rd_own hl ho2⟩
theorem topP_len (ls : List (List RaR)) : (topP ls).length ≤ 1 := by unfold topP; split <;> simp
theorem placesL_len {ls : List (List RaR)} (h : roundsE ls = 0) : (placesL ls).length ≤ 1000 := by
  obtain ⟨m, hm, hm6, hml⟩ := roundsE_zero h
  have h1 := flat_mem_len rndP 64 ls.reverse (fun x hx => by
    obtain ⟨i, hi⟩ := List.getElem?_of_mem (List.mem_reverse.1 hx)
    have h2 := (hml i x hi).2
    have h3 := rndP_len x
    omega)
  have h2 := topP_len ls
  rw [List.length_reverse] at h1
  unfold placesL
  rw [List.length_append]
  omega
set_option maxHeartbeats 4000000 in
set_option maxRecDepth 100000 in
theorem lawPlaces_c {v : Value} {xs : List Rd} {w : World} (r1 t1 r2 t2 : Int) (hv : RdAts w v xs) (hb : ∀ x ∈ xs, x.l.length * 40 ≤ 140737488355328) (hA : AwakeOK w) :
    Calls Tryz.prog 3 #[v, .agg #[.int .i64 r1, .int .i64 t1], .agg #[.int .i64 r2, .int .i64 t2]] w fun e w' => e = .returned (.bool true) ∧ Gr w w' := by
  obtain ⟨i0, hi, hz0, hz1, hz2⟩ := info_parts infoSlR
  have HV := Lib.hid hv
  have HA := Lib.hid hA
  have HB := Lib.hid hb
  obtain ⟨⟨p, cap, rfl, ⟨hcap, hmx⟩, hh⟩⟩ := hv
  obtain ⟨n, hn⟩ : ∃ n, n = xs.length := ⟨_, rfl⟩
  rw [← hn] at HV hcap ⊢
  have HN := Lib.hid hn
  have HH := Lib.hid hh
  obtain ⟨W1, hW1, g1, a0, a1, b0, b1⟩ := box22 w (.int .i64 r1) (.int .i64 t1) (.int .i64 r2) (.int .i64 t2) 24 24
  have HW1 := Lib.hid hW1
  clear hA hb hn hh hW1
  go_enter Tryz.func3, Tryz.ntmps3
  go_wp2_with fail
  rw [HW1.out]
  refine (HA.out _ g1).mono ?_
  rintro e W2 ⟨rfl, g2⟩
  have G2 := Lib.hid (g1.trans g2)
  replace a0 := g2.cell a0
  replace a1 := g2.cell a1
  replace b0 := g2.cell b0
  replace b1 := g2.cell b1
  clear g1 g2 HW1
  by_cases h8 : 8 < n
  · have h8i : (8 : Int) < (n : Int) := by omega
    go_wp2_with fail
    refine (HA.out _ G2.out).mono ?_
    rintro e W3 ⟨rfl, g3⟩
    go_wp2_with fail
    go_ret
    exact ⟨rfl, G2.out.trans g3⟩
  have h8i : ¬ (8 : Int) < (n : Int) := by omega
  have A0 := Lib.hid a0
  have A1 := Lib.hid a1
  have B0 := Lib.hid b0
  have B1 := Lib.hid b1
  generalize hBa : w.heap.size = Ba at *
  clear a0 a1 b0 b1
  go_wp2_with fail
  go_loopg [7, 8] n (fun gk s7 s8 wr => ∃ (i : Nat) (ys : List Rd), s8 = .int .i64 (i : Int) ∧ gk + i = n ∧ ys.length = i ∧ wr.ownsRow W2.heap.size 28 1 s7 i (ys.map rdV) ∧ Hid (Cps W2.heap.size wr xs ys) ∧ Hid (Gr W2 wr) ∧ Hid (∀ (j : Nat) (x : Rd), j < i → xs[j]? = some x → x.l.length ≤ 34))
  case atStart => exact ⟨0, [], rfl, by omega, rfl, World.ownsRow_nil _ _ _ _, ⟨fun j y h => by simp at h⟩, Gr.refl _, fun j x h => by omega⟩
  case round =>
    obtain ⟨i, ys, rfl, hgk, hyl, hown, HCP, HG, HS⟩ := hrel
    by_cases hlt : i < n
    · obtain ⟨x, hx⟩ : ∃ x, xs[i]? = some x := ⟨xs[i]'(by have := HN.out; omega), List.getElem?_eq_getElem _⟩
      obtain ⟨b, off, rfl, hc⟩ := HH.out (by have := HN.out; omega)
      have hxa := (hc i x hx).gr (G2.out.trans HG.out)
      have cx := hxa.nm
      have HX := Lib.hid hx
      have hlt2 : (i : Int) < (n : Int) := by omega
      have HR6 := Lib.hid (fun V (g : Gr wr V) => races6o_c (hxa.ok.gr g).rav (HB.out x (List.mem_of_getElem? hx)))
      have hxl := hxa.ok.len
      have HXL := Lib.hid hxl
      have HOW := Lib.hid hown
      have HYL := Lib.hid hyl
      clear hx hc hxa hown hxl hyl
      go_wp2_with fail
      refine (HR6.out _ (Gr.refl _)).mono ?_
      rintro e W3 ⟨⟨u3, rfl, ho3, g3⟩⟩
      have HSH := Lib.hid (shortRaces_c (RaV.of_own rfl ho3))
      have L3 := Lib.hid g3
      have cx3 := g3.cell cx
      obtain ⟨p3, c3, rfl, _, _⟩ := own_shape ho3
      clear ho3 g3
      go_wp2_with fail
      refine HSH.out.mono ?_
      rintro e w9 ⟨⟨sh, rfl, hsh⟩, rfl⟩
      have HSS := Lib.hid hsh
      clear hsh HSH
      cases sh
      · go_wp2_with fail
        go_ret
        exact ⟨rfl, (G2.out.trans HG.out).trans L3.out⟩
      have hx34 := (HSS.out rfl).1
      have HS2 : Hid (∀ (j : Nat) (y : Rd), j < i + 1 → xs[j]? = some y → y.l.length ≤ 34) := fun j y hj hy => by
        rcases Nat.lt_or_ge j i with h | h
        · exact HS.out j y h hy
        · obtain rfl : i = j := by omega
          rw [HX.out] at hy; cases hy; exact hx34
      clear hx34
      go_wp2_with fail
      refine (HR6.out _ L3.out).mono ?_
      rintro e W4 ⟨⟨u4, rfl, ho4, g4⟩⟩
      have L4 := Lib.hid (L3.out.trans g4)
      obtain ⟨p4, c4, rfl, _, _⟩ := own_shape ho4
      have ho4b := own_low (b' := W2.heap.size) ho4 (Nat.le_trans HG.out.size L3.out.size)
      have ho5 := own_kept HOW.out L4.out
      have hcp := HCP.out.gr L4.out
      have ga := (Gr.refl W4).alloc (.cells #[.slice p4 x.l.length c4] 28)
      clear HOW HCP HR6 ho4 g4
      go_wp2_with (at_builtin; refine wpList_append_own _ rfl _ _ 25 rfl W2.heap.size 28 i0 (.slice none 0 0) 1 24 Tryz.underlying25 hi hz0 hz1 hz2 rfl (by decide) _ _ _ rfl (own_kept ho5 ga) ⟨W4.heap.size, 0, none⟩ 1 1 [.slice p4 x.l.length c4] rfl rfl (cell_one6 _ _ _) (by intro u hu; simp at hu; subst hu; rfl) (by unfold maxLen; omega) (by omega) (by have h1 := L4.out.size; have h2 := HG.out.size; simp; omega) ?_; intro v1 w1 hown1 hgrow1 _)
      have hcp2 := (hcp.gr ga).grown (own_kept ho5 ga) hgrow1
      have ho6 := own_apartT (own_kept ho4b ga) (own_kept ho5 ga) (by decide) hgrow1
      have HCN : Hid (Cps W2.heap.size w1 xs (ys ++ [(⟨p4, x.l.length, c4, x.l⟩ : Rd)])) := hcp2.add (x := x) (y := ⟨p4, x.l.length, c4, x.l⟩) (by rw [HYL.out]; exact HX.out) rfl rfl ho6
      have HOW1 : Hid (w1.ownsRow W2.heap.size 28 1 v1 (i + 1) ((ys ++ [(⟨p4, x.l.length, c4, x.l⟩ : Rd)]).map rdV)) := by rw [Hid, List.map_append]; exact hown1
      have HGR : Hid (Gr W2 w1) := Below.grown ((HG.out.trans L4.out).trans ga) hgrow1 (by have h1 := L4.out.size; have h2 := HG.out.size; simp; omega) (fun q hq => (own_in ho5 hq).2)
      clear hown1 hgrow1 hcp2 ho6 hcp ho5 ho4b ga
      go_roundg (gk - 1)
      case measure => omega
      case rel => exact ⟨i + 1, ys ++ [⟨p4, x.l.length, c4, x.l⟩], by go_num, by omega, by rw [List.length_append, HYL.out]; rfl, HOW1.out, HCN, HGR, HS2⟩
    · obtain rfl : n = i := by omega
      have hlt2 : ¬ (n : Int) < (n : Int) := by omega
      have HLS : Hid (ys.map Rd.l = xs.map Rd.l) := HCP.out.lists (by rw [hyl]; exact HN.out)
      have HY := Lib.hid (HCP.out.ats hyl hown)
      obtain ⟨py, cy, rfl, _, _⟩ := own_shape hown
      have G3 := Lib.hid (G2.out.trans HG.out)
      have HG0 := Lib.hid HG.out
      have a0 := Gr.cell HG.out A0.out
      have a1 := Gr.cell HG.out A1.out
      have b0 := Gr.cell HG.out B0.out
      have b1 := Gr.cell HG.out B1.out
      have hs34 : ∀ x ∈ xs, x.l.length ≤ 34 := fun x hx => by
        obtain ⟨j, hj⟩ := List.getElem?_of_mem hx
        exact HS.out j x (by have := (List.getElem?_eq_some_iff.1 hj).1; have := HN.out; omega) hj
      have hy34 : ∀ y ∈ ys, y.l.length ≤ 34 := fun y hy => by
        obtain ⟨j, hj⟩ := List.getElem?_of_mem hy
        obtain ⟨x, hx, e, _⟩ := HCP.out.out j y hj
        rw [e]; exact hs34 x (List.mem_of_getElem? hx)
      have HS34 := Lib.hid hs34
      have HY34 := Lib.hid hy34
      clear hown hs34 hy34 hlt HCP HG
      obtain ⟨x1, hx1⟩ : ∃ x1, x1 = runE r1 t1 := ⟨_, rfl⟩
      obtain ⟨x2, hx2⟩ : ∃ x2, x2 = runE r2 t2 := ⟨_, rfl⟩
      obtain ⟨bad, hbad⟩ : ∃ bad, bad = (if x1 = 0 then x2 else x1) := ⟨_, rfl⟩
      have hK1 : ∀ W, Calls Tryz.prog 10 #[.agg #[.int .i64 r1, .int .i64 t1]] W fun e w' => e = .returned (.int .i64 x1) ∧ Gr W w' := fun W => by rw [hx1]; exact checkRun_c r1 t1 W
      have hK2 : ∀ W, Calls Tryz.prog 10 #[.agg #[.int .i64 r2, .int .i64 t2]] W fun e w' => e = .returned (.int .i64 x2) ∧ Gr W w' := fun W => by rw [hx2]; exact checkRun_c r2 t2 W
      have hF2 : ∀ (b cap : Nat) (V : World), V.cell? ⟨b, 0, none⟩ = some (.int .i64 x1) → V.cell? ⟨b, 1, none⟩ = some (.int .i64 x2) → Calls Tryz.prog 9 #[.slice (some ⟨b, 0, none⟩) 2 cap] V fun e w' => e = .returned (.int .i64 bad) ∧ V = w' := fun b cap V h0 h1 => by rw [hbad, ← firstE_two]; exact first6_c x1 x2 b cap V h0 h1
      have hD : ∃ d, (bad = 0 → d = duelE r1 t1 r2 t2) ∧ (bad ≠ 0 → d = 0) ∧ ∀ W, Calls Tryz.prog 8 #[.agg #[.int .i64 r1, .int .i64 t1], .agg #[.int .i64 r2, .int .i64 t2]] W fun e w' => e = .returned (.tuple #[.int .i64 d, .int .i64 bad]) ∧ Gr W w' := by
        by_cases hz : bad = 0
        · have z1 : x1 = 0 := by
            rcases Classical.em (x1 = 0) with h | h
            · exact h
            · rw [if_neg h] at hbad; exact absurd (hbad.symm.trans hz) h
          have z2 : x2 = 0 := by rw [if_pos z1] at hbad; exact hbad.symm.trans hz
          exact ⟨_, fun _ => rfl, fun h => absurd hz h, fun W => by rw [hz]; exact Duel_c r1 t1 r2 t2 (runE_zero (hx1.symm.trans z1)) (runE_zero (hx2.symm.trans z2)) W⟩
        · exact ⟨0, fun h => absurd h hz, fun _ => rfl, fun W => by
            have := Duel_bad r1 t1 r2 t2 (by rw [← hx1, ← hx2, ← hbad]; exact hz) W
            rw [← hx1, ← hx2, ← hbad] at this; exact this⟩
      obtain ⟨d, hd0, hd1, hD⟩ := hD
      have HK1 := Lib.hid hK1
      have HK2 := Lib.hid hK2
      have HF2 := Lib.hid hF2
      have HD := Lib.hid hD
      have HD0 := Lib.hid hd0
      have HD1 := Lib.hid hd1
      clear hK1 hK2 hF2 hD hd0 hd1 hbad hx1 hx2
      generalize hBb : Ba + 1 = Bb at *
      go_wp2_with fail
      refine (HD.out _).mono ?_
      rintro e W3 ⟨rfl, g3⟩
      have L3 := Lib.hid g3
      replace a0 := Gr.cell g3 a0
      replace a1 := Gr.cell g3 a1
      replace b0 := Gr.cell g3 b0
      replace b1 := Gr.cell g3 b1
      clear g3
      go_wp2_with fail
      have gd := (Gr.refl W3).drew
      replace a0 := Gr.cell gd a0
      replace a1 := Gr.cell gd a1
      replace b0 := Gr.cell gd b0
      replace b1 := Gr.cell gd b1
      have gv := L3.out.trans gd
      refine wp_region_held_drew (S := (fun w' => w'.cell? ⟨Ba, 0, none⟩ = some (.int .i64 r1) ∧ w'.cell? ⟨Ba, 1, none⟩ = some (.int .i64 t1) ∧ w'.cell? ⟨Bb, 0, none⟩ = some (.int .i64 r2) ∧ w'.cell? ⟨Bb, 1, none⟩ = some (.int .i64 t2))) (by kernel_rfl) ⟨a0, a1, b0, b1⟩ (fun hHeld => ?_)
      clear gd
      generalize W3.drew = V0 at *
      refine wpAnyH_take (i := 0) (v := (.agg #[.int .i64 r1, .int .i64 t1])) (op_at rfl) (by kernel_rfl) (by kernel_rfl) (by kernel_rfl) (fun _ _ _ h => h) (Or.inl ⟨rfl, fun w hSw => ?_⟩) (by assumption) ?_
      · (try dsimp only at hSw); go_simp; try with_reducible rfl
      (try simp only [Act.put, List.setIfInBounds_toArray, List.set_cons_zero, List.set_cons_succ])
      refine wpAnyH_take (i := 2) (v := (.agg #[.int .i64 r2, .int .i64 t2])) (op_at rfl) (by kernel_rfl) (by kernel_rfl) (by kernel_rfl) (fun _ _ _ h => h) (Or.inl ⟨rfl, fun w hSw => ?_⟩) (by assumption) ?_
      · (try dsimp only at hSw); go_simp; try with_reducible rfl
      (try simp only [Act.put, List.setIfInBounds_toArray, List.set_cons_zero, List.set_cons_succ])
      refine wpAnyH_ready (rs := [1]) (by kernel_rfl) (by simp) (AllReadyH.cons (op_at rfl) (fun K hK => ?_) AllReadyH.nil)
      go_simp
      (refine (HK1.out _).mono ?_; rintro e V1 ⟨rfl, hg⟩; replace a0 := Gr.cell hg a0; replace a1 := Gr.cell hg a1; replace b0 := Gr.cell hg b0; replace b1 := Gr.cell hg b1; replace gv := gv.trans hg; clear hg)
      go_wp2_with fail
      refine hK.out _ _ ⟨a0, a1, b0, b1⟩ (fun hHeld => ?_)
      clear hK K
      (try simp only [Act.put, List.setIfInBounds_toArray, List.set_cons_zero, List.set_cons_succ])
      refine wpAnyH_ready (rs := [3]) (by kernel_rfl) (by simp) (AllReadyH.cons (op_at rfl) (fun K hK => ?_) AllReadyH.nil)
      go_simp
      (refine (HK2.out _).mono ?_; rintro e V2 ⟨rfl, hg⟩; replace a0 := Gr.cell hg a0; replace a1 := Gr.cell hg a1; replace b0 := Gr.cell hg b0; replace b1 := Gr.cell hg b1; replace gv := gv.trans hg; clear hg)
      go_wp2_with fail
      refine hK.out _ _ ⟨a0, a1, b0, b1⟩ (fun hHeld => ?_)
      clear hK K
      (try simp only [Act.put, List.setIfInBounds_toArray, List.set_cons_zero, List.set_cons_succ])
      refine wpAnyH_ready (rs := [4]) (by kernel_rfl) (by simp) (AllReadyH.cons (op_at rfl) (fun K hK => ?_) AllReadyH.nil)
      go_simp
      obtain ⟨VF, hVF, gVF, s0, s1⟩ := box2 V2 (.int .i64 x1) (.int .i64 x2) 3
      rw [hVF]
      clear hVF
      replace gv := gv.trans gVF
      replace a0 := Gr.cell gVF a0
      replace a1 := Gr.cell gVF a1
      replace b0 := Gr.cell gVF b0
      replace b1 := Gr.cell gVF b1
      refine hK.out _ _ ⟨a0, a1, b0, b1⟩ (fun hHeld => ?_)
      clear hK K
      (try simp only [Act.put, List.setIfInBounds_toArray, List.set_cons_zero, List.set_cons_succ])
      refine wpAnyH_ready (rs := [5]) (by kernel_rfl) (by simp) (AllReadyH.cons (op_at rfl) (fun K hK => ?_) AllReadyH.nil)
      go_simp
      (refine (HF2.out _ _ VF s0 s1).mono ?_; rintro e V4 ⟨rfl, rfl⟩)
      go_wp2_with fail
      refine hK.out _ _ ⟨a0, a1, b0, b1⟩ (fun hHeld => ?_)
      clear hK K
      (try simp only [Act.put, List.setIfInBounds_toArray, List.set_cons_zero, List.set_cons_succ])
      refine wpAnyH_take (i := 6) (v := (.int .i64 bad)) (op_at rfl) (by kernel_rfl) (by kernel_rfl) (by kernel_rfl) (fun _ _ _ h => h) (Or.inl ⟨rfl, fun w hSw => ?_⟩) (by assumption) ?_
      · (try dsimp only at hSw); go_simp; try with_reducible rfl
      (try simp only [Act.put, List.setIfInBounds_toArray, List.set_cons_zero, List.set_cons_succ])
      refine wpAnyH_done (by kernel_rfl) ?_ _
      have GV := Lib.hid gv
      clear gv gVF s0 s1 HF2 HK1 HK2 HD
      by_cases hz : bad = 0
      · subst hz
        have hdd := HD0.out rfl
        have HRD : Hid (∀ W, Calls Tryz.prog 12 #[.agg #[.int .i64 r1, .int .i64 t1], .agg #[.int .i64 r2, .int .i64 t2]] W fun e w' => e = .returned (.int .i64 d) ∧ Gr W w') := fun W => by rw [hdd]; exact refDuel_c r1 t1 r2 t2 W
        clear hdd HD0 HD1
        go_wp2_with fail
        refine (HRD.out _).mono ?_
        rintro e W5 ⟨rfl, g5⟩
        have L5 := Lib.hid (GV.out.trans g5)
        clear g5
        go_wp2_with fail
        refine (int6_ok _ _).mono ?_
        rintro e w9 ⟨rfl, rfl⟩
        have HPO : Hid (roundsE (xs.map Rd.l) = 0 → ∀ V, Gr wr V → Calls Tryz.prog 13 #[.slice p n cap] V fun e w' => ∃ q c, e = .returned (.tuple #[.slice q (placesL (xs.map Rd.l)).length c, .int .i64 0]) ∧ PlS w' q (placesL (xs.map Rd.l)) ∧ Gr V w') := fun hr V g => places_ok xs _ V (HV.out.gr (G3.out.trans g)) HS34.out hr
        have HPE : Hid (roundsE (xs.map Rd.l) ≠ 0 → ∀ V, Gr wr V → Calls Tryz.prog 13 #[.slice p n cap] V fun e w' => e = .returned (.tuple #[.slice none 0 0, .int .i64 (roundsE (xs.map Rd.l))]) ∧ Gr V w') := fun hr V g => places_err xs _ V (HV.out.gr (G3.out.trans g)) HS34.out hr
        have HRC : Hid (∀ V, Gr wr V → Calls Tryz.prog 14 #[.slice py n cy] V fun e w' => e = .returned (.int .i64 (roundsE (xs.map Rd.l))) ∧ Gr V w') := fun V g => by
          have := refCheckRounds_c ys _ V (HY.out.gr g) HY34.out
          rw [HLS.out] at this
          exact this
        have HRP : Hid (roundsE (xs.map Rd.l) = 0 → ∀ V, Gr wr V → Calls Tryz.prog 17 #[.slice py n cy] V fun e w' => RetPl e V w' (placesL (xs.map Rd.l))) := fun hr V g => by
          have := refPlaces_c ys _ V (HY.out.gr g) HY34.out (by rw [HLS.out]; exact hr)
          rw [HLS.out] at this
          exact this
        have HLN : Hid (roundsE (xs.map Rd.l) = 0 → (placesL (xs.map Rd.l)).length ≤ 1000) := fun hr => placesL_len hr
        clear HLS
        generalize placesL (xs.map Rd.l) = ps at *
        generalize roundsE (xs.map Rd.l) = z at *
        by_cases hr : z = 0
        · subst hr
          have HQO := Lib.hid (HPO.out rfl)
          have HQP := Lib.hid (HRP.out rfl)
          have HQN := Lib.hid (HLN.out rfl)
          clear HPE HPO HRP HLN
          go_wp2_with fail
          refine (HQO.out _ L5.out).mono ?_
          rintro e W6 ⟨q6, c6, rfl, hp6, g6⟩
          have HP6 := Lib.hid hp6
          have L6 := Lib.hid (L5.out.trans g6)
          clear hp6 g6
          go_wp2_with fail
          refine (HRC.out _ L6.out).mono ?_
          rintro e W7 ⟨rfl, g7⟩
          have L7 := Lib.hid (L6.out.trans g7)
          have HPC := Lib.hid (placesCopy_c ps q6 ps.length c6 W7 (HP6.out.gr g7) rfl HQN.out)
          clear g7 HP6
          go_wp2_with fail
          refine HPC.out.mono ?_
          rintro e W8 ⟨⟨q8, c8, rfl, hp8, g8⟩⟩
          have L8 := Lib.hid (L7.out.trans g8)
          have HP8 := Lib.hid hp8
          clear hp8 g8 HPC
          go_wp2_with fail
          refine (HQP.out _ L8.out).mono ?_
          rintro e W9 ⟨⟨q9, c9, rfl, hp9, g9⟩⟩
          have HSP := Lib.hid (samePl_c ps q8 q9 ps.length c8 c9 W9 (HP8.out.gr g9) hp9 rfl HQN.out)
          have L9 := Lib.hid (L8.out.trans g9)
          clear hp9 g9 HP8
          go_wp2_with fail
          refine HSP.out.mono ?_
          rintro e W10 ⟨rfl, g10⟩
          have L10 := Lib.hid (L9.out.trans g10)
          clear g10
          go_wp2_with fail
          go_ret
          exact ⟨by first | rfl | simp, G3.out.trans L10.out⟩
        · have HQE := Lib.hid (HPE.out hr)
          have z1 : (z != 0) = true := bne_iff_ne.2 hr
          have z2 : (z == z) = true := beq_self_eq_true z
          clear hr HPO HRP HLN HPE
          go_wp2_with fail
          refine (HQE.out _ L5.out).mono ?_
          rintro e W6 ⟨rfl, g6⟩
          have L6 := Lib.hid (L5.out.trans g6)
          clear g6
          go_wp2_with fail
          refine (HRC.out _ L6.out).mono ?_
          rintro e W7 ⟨rfl, g7⟩
          have L7 := Lib.hid (L6.out.trans g7)
          clear g7
          go_wp2_with fail
          go_ret
          exact ⟨by first | rfl | simp, G3.out.trans L7.out⟩

      · have q1 : (bad != 0) = true := bne_iff_ne.2 hz
        have q2 : (bad == 0) = false := beq_eq_false_iff_ne.2 hz
        have hdd := HD1.out hz
        subst hdd
        have L5 := GV
        have HIE := Lib.hid (int6_err bad 0 hz)
        clear HD0 HD1 hz
        go_wp2_with fail
        refine (HIE.out _).mono ?_
        rintro e w9 ⟨rfl, rfl⟩
        have HPO : Hid (roundsE (xs.map Rd.l) = 0 → ∀ V, Gr wr V → Calls Tryz.prog 13 #[.slice p n cap] V fun e w' => ∃ q c, e = .returned (.tuple #[.slice q (placesL (xs.map Rd.l)).length c, .int .i64 0]) ∧ PlS w' q (placesL (xs.map Rd.l)) ∧ Gr V w') := fun hr V g => places_ok xs _ V (HV.out.gr (G3.out.trans g)) HS34.out hr
        have HPE : Hid (roundsE (xs.map Rd.l) ≠ 0 → ∀ V, Gr wr V → Calls Tryz.prog 13 #[.slice p n cap] V fun e w' => e = .returned (.tuple #[.slice none 0 0, .int .i64 (roundsE (xs.map Rd.l))]) ∧ Gr V w') := fun hr V g => places_err xs _ V (HV.out.gr (G3.out.trans g)) HS34.out hr
        have HRC : Hid (∀ V, Gr wr V → Calls Tryz.prog 14 #[.slice py n cy] V fun e w' => e = .returned (.int .i64 (roundsE (xs.map Rd.l))) ∧ Gr V w') := fun V g => by
          have := refCheckRounds_c ys _ V (HY.out.gr g) HY34.out
          rw [HLS.out] at this
          exact this
        have HRP : Hid (roundsE (xs.map Rd.l) = 0 → ∀ V, Gr wr V → Calls Tryz.prog 17 #[.slice py n cy] V fun e w' => RetPl e V w' (placesL (xs.map Rd.l))) := fun hr V g => by
          have := refPlaces_c ys _ V (HY.out.gr g) HY34.out (by rw [HLS.out]; exact hr)
          rw [HLS.out] at this
          exact this
        have HLN : Hid (roundsE (xs.map Rd.l) = 0 → (placesL (xs.map Rd.l)).length ≤ 1000) := fun hr => placesL_len hr
        clear HLS
        generalize placesL (xs.map Rd.l) = ps at *
        generalize roundsE (xs.map Rd.l) = z at *
        by_cases hr : z = 0
        · subst hr
          have HQO := Lib.hid (HPO.out rfl)
          have HQP := Lib.hid (HRP.out rfl)
          have HQN := Lib.hid (HLN.out rfl)
          clear HPE HPO HRP HLN
          go_wp2_with fail
          refine (HQO.out _ L5.out).mono ?_
          rintro e W6 ⟨q6, c6, rfl, hp6, g6⟩
          have HP6 := Lib.hid hp6
          have L6 := Lib.hid (L5.out.trans g6)
          clear hp6 g6
          go_wp2_with fail
          refine (HRC.out _ L6.out).mono ?_
          rintro e W7 ⟨rfl, g7⟩
          have L7 := Lib.hid (L6.out.trans g7)
          have HPC := Lib.hid (placesCopy_c ps q6 ps.length c6 W7 (HP6.out.gr g7) rfl HQN.out)
          clear g7 HP6
          go_wp2_with fail
          refine HPC.out.mono ?_
          rintro e W8 ⟨⟨q8, c8, rfl, hp8, g8⟩⟩
          have L8 := Lib.hid (L7.out.trans g8)
          have HP8 := Lib.hid hp8
          clear hp8 g8 HPC
          go_wp2_with fail
          refine (HQP.out _ L8.out).mono ?_
          rintro e W9 ⟨⟨q9, c9, rfl, hp9, g9⟩⟩
          have HSP := Lib.hid (samePl_c ps q8 q9 ps.length c8 c9 W9 (HP8.out.gr g9) hp9 rfl HQN.out)
          have L9 := Lib.hid (L8.out.trans g9)
          clear hp9 g9 HP8
          go_wp2_with fail
          refine HSP.out.mono ?_
          rintro e W10 ⟨rfl, g10⟩
          have L10 := Lib.hid (L9.out.trans g10)
          clear g10
          go_wp2_with fail
          go_ret
          exact ⟨by first | rfl | simp, G3.out.trans L10.out⟩
        · have HQE := Lib.hid (HPE.out hr)
          have z1 : (z != 0) = true := bne_iff_ne.2 hr
          have z2 : (z == z) = true := beq_self_eq_true z
          clear hr HPO HRP HLN HPE
          go_wp2_with fail
          refine (HQE.out _ L5.out).mono ?_
          rintro e W6 ⟨rfl, g6⟩
          have L6 := Lib.hid (L5.out.trans g6)
          clear g6
          go_wp2_with fail
          refine (HRC.out _ L6.out).mono ?_
          rintro e W7 ⟨rfl, g7⟩
          have L7 := Lib.hid (L6.out.trans g7)
          clear g7
          go_wp2_with fail
          go_ret
          exact ⟨by first | rfl | simp, G3.out.trans L7.out⟩

end Go.Proofs.YthfmgficbnmmnaaGreatDoor
