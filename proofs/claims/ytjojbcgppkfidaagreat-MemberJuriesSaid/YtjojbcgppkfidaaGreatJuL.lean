/- Juries: tests of sizes; what an appointment may be, as the reference says. -/
import Derived.Test.YtjojbcgppkfidaaGreatJuJ
import Derived.BigQuiet
namespace Go.Proofs.YtjojbcgppkfidaaGreat
open Go.RowKit Go.Lib
set_option linter.unusedSimpArgs false
set_option linter.unusedVariables false
/-- what a test of a jury's sizes returns -/
structure ShortJuryR (e : Ending) (os : List OfR) (ps : List PoR) : Prop where
  mk' ::
  out : ∃ r, e = .returned (.bool r) ∧ (r = true → (∀ x ∈ os, x.rs.length ≤ 19) ∧ (∀ y ∈ ps, y.ns.length ≤ 163) ∧ os.length ≤ 27 ∧ ps.length ≤ 27)
set_option maxHeartbeats 8000000 in
set_option maxRecDepth 100000 in
theorem shortJury_c (os : List OfR) (ps : List PoR) (vo vp : Value) (w : World) (ho : OfAts w vo os) (hp : PoAts w vp ps) :
    Calls Tryz.prog 6 #[.agg #[vo, vp]] w fun e w' => ShortJuryR e os ps ∧ Gr w w' := by
  obtain ⟨⟨po, co, rfl, hco, hho⟩⟩ := ho
  obtain ⟨⟨pp, cp, rfl, hcp, hhp⟩⟩ := hp
  have hb1 := Nat.le_trans hco.1 hco.2
  have hb2 := Nat.le_trans hcp.1 hcp.2
  unfold maxLen at hb1 hb2
  obtain ⟨W, hW, g, a0, a1⟩ := box2 w (.slice po os.length co) (.slice pp ps.length cp) 31
  have OSC := Lib.hid hho
  have PSC := Lib.hid hhp
  obtain ⟨on, hon⟩ : ∃ n, n = os.length := ⟨_, rfl⟩
  obtain ⟨pn, hpn⟩ : ∃ n, n = ps.length := ⟨_, rfl⟩
  have OSN : Hid (os.length = on) := hon.symm
  have PSN : Hid (ps.length = pn) := hpn.symm
  rw [← hon] at OSC hW a0 hb1 ⊢
  rw [← hpn] at PSC hW a1 hb2 ⊢
  clear hho hhp hon hpn hco hcp
  go_enter Tryz.func6, Tryz.ntmps6
  go_wp2_with fail
  clear hW
  generalize w.heap.size = Bx at *
  go_loopg [3] on (fun gk s3 wr => ∃ i : Nat, s3 = .int .i64 i ∧ gk + i = on ∧ Gr w wr ∧ wr.cell? ⟨Bx, 0, none⟩ = some (.slice po on co) ∧ wr.cell? ⟨Bx, 1, none⟩ = some (.slice pp pn cp) ∧ Hid (∀ x ∈ os.take i, x.rs.length ≤ 19))
  case atStart => exact ⟨0, rfl, by omega, g, a0, a1, fun x hx => by simp at hx⟩
  case round =>
    obtain ⟨i, rfl, hi, hgx, b0, b1, HA⟩ := hrel
    clear a0 a1
    obtain ⟨a0, a1⟩ := And.intro b0 b1
    clear b0 b1
    by_cases hlt : i < on
    · obtain ⟨x, hx⟩ : ∃ x, os[i]? = some x := ⟨os[i]'(by have := OSN.out; omega), List.getElem?_eq_getElem _⟩
      obtain ⟨bo, oo, rfl, HC⟩ := OSC.out (by omega)
      obtain ⟨c0, c1, c2, c3, cs⟩ := (HC i x hx).gr hgx
      have hi2 : (i : Int) < on := by omega
      have HS := Lib.hid (shortJ_c cs 19)
      have HAN : Hid (x.rs.length ≤ 19 → ∀ x ∈ os.take (i + 1), x.rs.length ≤ 19) := fun hm y hy => by
        rw [List.take_add_one, hx] at hy
        rcases List.mem_append.1 hy with hy | hy
        · exact HA.out y hy
        · simp at hy; subst hy; exact hm
      clear hx HC cs
      rcases Nat.lt_or_ge 40 x.nm.size with hs0 | hs0
      · go_wp2_with fail
        go_ret
        exact ⟨⟨false, rfl, fun h => (by cases h)⟩, hgx⟩
      rcases Nat.lt_or_ge 40 x.na.size with hs1 | hs1
      · go_wp2_with fail
        go_ret
        exact ⟨⟨false, rfl, fun h => (by cases h)⟩, hgx⟩
      go_wp2_with fail
      refine HS.out.mono ?_
      rintro e w4 ⟨⟨r, rfl, hr⟩, rfl⟩
      have HR := Lib.hid hr
      clear hr
      cases r
      · go_wp2_with fail
        go_ret
        exact ⟨⟨false, rfl, fun h => (by cases h)⟩, hgx⟩
      · go_wp2_with fail
        go_roundg (gk - 1)
        case measure => omega
        case rel => exact ⟨i + 1, by go_num, by omega, hgx, a0, a1, HAN.out (by first | exact HR.out trivial | exact HR.out rfl)⟩
    · obtain rfl : i = on := by omega
      have hi2 : (i : Int) ≤ i := by omega
      have HE := HA
      rw [List.take_of_length_le (by have := OSN.out; omega)] at HE
      clear HA
      have HO := HE
      clear HE
      obtain ⟨on, hon⟩ : ∃ m, m = i := ⟨i, rfl⟩
      rw [← hon] at a0 OSN
      replace g := hgx
      go_wp2_with fail
      clear hi hi2 hlt hgx
      subst hon
      go_loopg [4] pn (fun gk s3 wr => ∃ i : Nat, s3 = .int .i64 i ∧ gk + i = pn ∧ Gr w wr ∧ wr.cell? ⟨Bx, 0, none⟩ = some (.slice po on co) ∧ wr.cell? ⟨Bx, 1, none⟩ = some (.slice pp pn cp) ∧ Hid (∀ x ∈ ps.take i, x.ns.length ≤ 163))
      case atStart => exact ⟨0, rfl, by omega, g, a0, a1, fun x hx => by simp at hx⟩
      case round =>
        obtain ⟨i, rfl, hi, hgx, b0, b1, HA⟩ := hrel
        clear a0 a1
        obtain ⟨a0, a1⟩ := And.intro b0 b1
        clear b0 b1
        by_cases hlt : i < pn
        · obtain ⟨x, hx⟩ : ∃ x, ps[i]? = some x := ⟨ps[i]'(by have := PSN.out; omega), List.getElem?_eq_getElem _⟩
          obtain ⟨bp, op, rfl, HC⟩ := PSC.out (by omega)
          obtain ⟨c0, c1, c2, c3, cs⟩ := (HC i x hx).gr hgx
          have hi2 : (i : Int) < pn := by omega
          have HS := Lib.hid (shortJ_c cs 163)
          have HAN : Hid (x.ns.length ≤ 163 → ∀ x ∈ ps.take (i + 1), x.ns.length ≤ 163) := fun hm y hy => by
            rw [List.take_add_one, hx] at hy
            rcases List.mem_append.1 hy with hy | hy
            · exact HA.out y hy
            · simp at hy; subst hy; exact hm
          clear hx HC cs
          rcases Nat.lt_or_ge 40 x.nm.size with hs0 | hs0
          · go_wp2_with fail
            go_ret
            exact ⟨⟨false, rfl, fun h => (by cases h)⟩, hgx⟩
          rcases Nat.lt_or_ge 40 x.ro.size with hs1 | hs1
          · go_wp2_with fail
            go_ret
            exact ⟨⟨false, rfl, fun h => (by cases h)⟩, hgx⟩
          go_wp2_with fail
          refine HS.out.mono ?_
          rintro e w4 ⟨⟨r, rfl, hr⟩, rfl⟩
          have HR := Lib.hid hr
          clear hr
          cases r
          · go_wp2_with fail
            go_ret
            exact ⟨⟨false, rfl, fun h => (by cases h)⟩, hgx⟩
          · go_wp2_with fail
            go_roundg (gk - 1)
            case measure => omega
            case rel => exact ⟨i + 1, by go_num, by omega, hgx, a0, a1, HAN.out (by first | exact HR.out trivial | exact HR.out rfl)⟩
        · obtain rfl : i = pn := by omega
          have hi2 : (i : Int) ≤ i := by omega
          have HE := HA
          rw [List.take_of_length_le (by have := PSN.out; omega)] at HE
          clear HA
          cases h1 : decide ((on : Int) ≤ 27)
          · go_wp2_with fail
            go_ret
            exact ⟨⟨false, rfl, fun h => (by cases h)⟩, hgx⟩
          · cases h2 : decide ((i : Int) ≤ 27)
            · go_wp2_with fail
              go_ret
              exact ⟨⟨false, rfl, fun h => (by cases h)⟩, hgx⟩
            · go_wp2_with fail
              go_ret
              exact ⟨⟨true, rfl, fun _ => ⟨HO.out, HE.out, by have := of_decide_eq_true h1; rw [OSN.out]; omega, by have := of_decide_eq_true h2; rw [PSN.out]; omega⟩⟩, hgx⟩
theorem posI_any_mono {Q : Int → Bool} {o : Int} {xs : List Int} {i j : Nat} (h : i ≤ j) (hq : (posI o (xs.take i) 0).any Q = true) : (posI o (xs.take j) 0).any Q = true := by
  induction j with
  | zero =>
    obtain rfl : i = 0 := by omega
    exact hq
  | succ j ih =>
    by_cases e : i = j + 1
    · subst e; exact hq
    · have := ih (by omega)
      by_cases hj : j < xs.length
      · obtain ⟨x, hx⟩ : ∃ x, xs[j]? = some x := ⟨_, List.getElem?_eq_getElem hj⟩
        rw [posI_take o hx, List.any_append, this, Bool.true_or]
      · rw [List.take_of_length_le (by omega)]
        rwa [List.take_of_length_le (by omega)] at this
set_option maxHeartbeats 4000000 in
set_option maxRecDepth 100000 in
theorem fitsNone_c (os : List OfR) (ps : List PoR) (a : List Int) (vo vp : Value) (ba oa ca i m : Nat) (w : World) (ho : OfAts w vo os) (hp : PoAts w vp ps) (hm : m = i + 1) (hmc : m ≤ ca) (ha : ∀ j x, a[j]? = some x → w.cell? ⟨ba, oa + j, none⟩ = some (.int .i64 x)) (hk : a[i]? = some (-1)) (hal : a.length = ps.length) (hl2 : ps.length ≤ 1000) :
    Calls Tryz.prog 46 #[.agg #[vo, vp], .slice (some ⟨ba, oa, none⟩) m ca] w fun e w' => e = .returned (.int .i64 (uptoE os ps a i (-1))) ∧ Gr w w' := by
  have hz : uptoE os ps a i (-1) = 0 := rfl
  rw [hz]
  clear hz
  have hia := (List.getElem?_eq_some_iff.1 hk).1
  have hw : IntKind.i64.wrap ((m : Int) - 1) = (i : Int) := by rw [IntKind.wrap_i64] <;> omega
  obtain ⟨⟨po, co, rfl, hco, hho⟩⟩ := ho
  obtain ⟨⟨pp, cp, rfl, hcp, hhp⟩⟩ := hp
  have hb1 := Nat.le_trans hco.1 hco.2
  have hb2 := Nat.le_trans hcp.1 hcp.2
  unfold maxLen at hb1 hb2
  obtain ⟨W, hW, g, a0, a1⟩ := box2 w (.slice po os.length co) (.slice pp ps.length cp) 31
  have OSC := Lib.hid hho
  have PSC := Lib.hid hhp
  obtain ⟨on, hon⟩ : ∃ n, n = os.length := ⟨_, rfl⟩
  obtain ⟨pn, hpn⟩ : ∃ n, n = ps.length := ⟨_, rfl⟩
  have OSN : Hid (os.length = on) := hon.symm
  have PSN : Hid (ps.length = pn) := hpn.symm
  rw [← hon] at OSC hW a0 hb1 ⊢
  rw [← hpn] at PSC hW a1 hb2 hal hl2 ⊢
  clear hho hhp hon hpn hco hcp
  have HA := Lib.hid ha
  have HIA := Lib.hid (ha i _ hk)
  have AL := Lib.hid hal
  clear ha hk
  go_enter Tryz.func46, Tryz.ntmps46
  go_wp2_with fail
  clear hW
  generalize w.heap.size = Bx at *
  go_loopw [6, 7] (fun s6 s7 wr => ∃ k : Nat, k ≤ m ∧ s7 = .int .i64 k ∧ s6 = .int .i64 0 ∧ Gr w wr) (fun _ s7 _ => m - (intOf s7).toNat)
  case atStart => exact ⟨0, Nat.zero_le _, rfl, rfl, g⟩
  case round =>
    obtain ⟨k, hkm, rfl, rfl, hg⟩ := hrel
    have cI := hg.cell HIA.out
    by_cases hlt : k < m
    · obtain ⟨y, hy⟩ : ∃ y, a[k]? = some y := ⟨a[k]'(by omega), List.getElem?_eq_getElem _⟩
      have cK := hg.cell (HA.out k y hy)
      have hki : (k : Int) ≤ i := by omega
      have him : i < m := by omega
      have hki2 : (k : Int) < m := by omega
      have him2 : (i : Int) < m := by omega
      clear hy
      by_cases e : y = -1
      · subst e
        go_wp2_with fail
        go_big_quiet (fail)
        go_wp2_with fail
        go_roundw
        case rel => exact ⟨k + 1, by omega, by go_num, rfl, hg.drewN _⟩
        case measure => simp [intOf]; omega
      · have q1 : (y == -1) = false := by simpa using e
        have q2 : (y != -1) = true := by simpa [bne] using q1
        go_wp2_with fail
        go_big_quiet (fail)
        go_wp2_with fail
        go_roundw
        case rel => exact ⟨k + 1, by omega, by go_num, rfl, hg.drewN _⟩
        case measure => simp [intOf]; omega
    · have hki : (i : Int) < k := by omega
      have him : i < m := by omega
      have him2 : (i : Int) < m := by omega
      go_wp2_with fail
      go_big_quiet (fail)
      go_wp2_with fail
      go_ret
      exact ⟨rfl, hg.drewN _⟩
set_option maxHeartbeats 8000000 in
set_option maxRecDepth 100000 in
theorem fitsSome_c (os : List OfR) (ps : List PoR) (a : List Int) (vo vp : Value) (ba oa ca i m : Nat) (o : Nat) (w : World) (ho : OfAts w vo os) (hp : PoAts w vp ps) (hm : m = i + 1) (hmc : m ≤ ca) (ha : ∀ j x, a[j]? = some x → w.cell? ⟨ba, oa + j, none⟩ = some (.int .i64 x)) (hk : a[i]? = some (o : Int)) (hal : a.length = ps.length) (hl2 : ps.length ≤ 1000) (hol : o < os.length) :
    Calls Tryz.prog 46 #[.agg #[vo, vp], .slice (some ⟨ba, oa, none⟩) m ca] w fun e w' => e = .returned (.int .i64 (uptoE os ps a i (o : Int))) ∧ Gr w w' := by
  have hia := (List.getElem?_eq_some_iff.1 hk).1
  have hw : IntKind.i64.wrap ((m : Int) - 1) = (i : Int) := by rw [IntKind.wrap_i64] <;> omega
  obtain ⟨xo, hxo⟩ : ∃ x, os[o]? = some x := ⟨_, List.getElem?_eq_getElem hol⟩
  obtain ⟨yi, hyi⟩ : ∃ x, ps[i]? = some x := ⟨_, List.getElem?_eq_getElem (by omega)⟩
  have hR : uptoE os ps a i (o : Int) = firstE [if (posI (o : Int) (a.take i) 0).any (sameH ps i) then 9 else 0, if decide (xo.ld ≤ ((posI (o : Int) (a.take i) 0).length : Int)) then 5 else 0] := by
    unfold uptoE
    rw [if_neg (by omega)]
    unfold loadO
    rw [Int.toNat_natCast, hxo]
  generalize uptoE os ps a i (o : Int) = err at *
  have HB9 : Hid (∀ k, k ≤ i → (posI (o : Int) (a.take k) 0).any (sameH ps i) = true → err = 9) := fun k hki h => by
    rw [hR, posI_any_mono hki h]
    rfl
  have HB5 : Hid ((posI (o : Int) (a.take i) 0).any (sameH ps i) = false → err = if decide (xo.ld ≤ ((posI (o : Int) (a.take i) 0).length : Int)) then 5 else 0) := fun h => by
    rw [hR, h]
    cases decide (xo.ld ≤ ((posI (o : Int) (a.take i) 0).length : Int)) <;> rfl
  have HQ := Lib.hid (fun k (x : Int) (h : a[k]? = some x) => posI_take (o : Int) h)
  have HH := Lib.hid (fun k (y : PoR) (h : ps[k]? = some y) => sameH_at (k := i) h hyi)
  have HLE := Lib.hid (fun k => posI_le (o : Int) (a.take k) 0)
  obtain ⟨⟨po, co, rfl, hco, hho⟩⟩ := ho
  obtain ⟨⟨pp, cp, rfl, hcp, hhp⟩⟩ := hp
  have hb1 := Nat.le_trans hco.1 hco.2
  have hb2 := Nat.le_trans hcp.1 hcp.2
  unfold maxLen at hb1 hb2
  obtain ⟨W, hW, g, a0, a1⟩ := box2 w (.slice po os.length co) (.slice pp ps.length cp) 31
  have OSC := Lib.hid hho
  have PSC := Lib.hid hhp
  obtain ⟨on, hon⟩ : ∃ n, n = os.length := ⟨_, rfl⟩
  obtain ⟨pn, hpn⟩ : ∃ n, n = ps.length := ⟨_, rfl⟩
  have OSN : Hid (os.length = on) := hon.symm
  have PSN : Hid (ps.length = pn) := hpn.symm
  rw [← hon] at OSC hW a0 hb1 hol ⊢
  rw [← hpn] at PSC hW a1 hb2 hal hl2 ⊢
  clear hho hhp hon hpn hco hcp
  obtain ⟨bo, oo, rfl, hqo⟩ := OSC.out (by omega)
  obtain ⟨bp, op, rfl, hqp⟩ := PSC.out (by omega)
  have HL := Lib.hid (hqo o xo hxo).ld
  have HYI := Lib.hid (hqp i yi hyi).hr
  have HP := Lib.hid hqp
  have HA := Lib.hid ha
  have HIA := Lib.hid (ha i _ hk)
  have HK := Lib.hid hk
  clear ha hk hR hxo hyi hqo hqp OSC PSC OSN
  go_enter Tryz.func46, Tryz.ntmps46
  go_wp2_with fail
  clear hW
  generalize w.heap.size = Bx at *
  go_loopw [6, 7] (fun s6 s7 wr => ∃ k c : Nat, k ≤ m ∧ s7 = .int .i64 k ∧ s6 = .int .i64 c ∧ Gr w wr ∧ wr.cell? ⟨Bx, 0, none⟩ = some (.slice (some ⟨bo, oo, none⟩) on co) ∧ wr.cell? ⟨Bx, 1, none⟩ = some (.slice (some ⟨bp, op, none⟩) pn cp) ∧ Hid (c = (posI (o : Int) (a.take k) 0).length) ∧ Hid ((posI (o : Int) (a.take (min k i)) 0).any (sameH ps i) = false)) (fun _ s7 _ => m - (intOf s7).toNat)
  case atStart => exact ⟨0, 0, Nat.zero_le _, rfl, rfl, g, a0, a1, rfl, by rw [Hid, Nat.zero_min]; rfl⟩
  case round =>
    obtain ⟨k, c, hkm, rfl, rfl, hg, b0, b1, HC, HN⟩ := hrel
    clear a0 a1
    obtain ⟨a0, a1⟩ := And.intro b0 b1
    clear b0 b1
    have cI := hg.cell HIA.out
    have him : i < m := by omega
    have him2 : (i : Int) < m := by omega
    have cYI := hg.cell HYI.out
    have hc1000 : c ≤ 1000 := by have := HLE.out k; rw [List.length_take] at this; rw [HC.out]; omega
    by_cases hlt : k < m
    · obtain ⟨y, hy⟩ : ∃ y, a[k]? = some y := ⟨a[k]'(by omega), List.getElem?_eq_getElem _⟩
      have cK := hg.cell (HA.out k y hy)
      have hki : (k : Int) ≤ i := by omega
      have hki2 : (k : Int) < m := by omega
      have hq := HQ.out k y hy
      by_cases e : y = (o : Int)
      · rw [if_pos e] at hq
        subst e
        by_cases hk2 : k < i
        · obtain ⟨pk, hpk⟩ : ∃ x, ps[k]? = some x := ⟨ps[k]'(by have := PSN.out; omega), List.getElem?_eq_getElem _⟩
          have cYK := hg.cell (HP.out k pk hpk).hr
          have hh := HH.out k pk hpk
          have hk3 : (k : Int) < i := by omega
          have hkp : (k : Int) < pn := by omega
          have hip : (i : Int) < pn := by omega
          have hany : (posI (o : Int) (a.take (k + 1)) 0).any (sameH ps i) = (pk.hr == yi.hr) := by
            have hn := HN.out
            rw [Nat.min_eq_left (by omega)] at hn
            rw [hq, List.any_append, hn, Bool.false_or]
            simp [hh]
          have HC2 : Hid (c + 1 = (posI (o : Int) (a.take (k + 1)) 0).length) := by rw [Hid, hq, List.length_append, ← HC.out]; rfl
          cases hb : (pk.hr == yi.hr)
          · have HN2 : Hid ((posI (o : Int) (a.take (min (k + 1) i)) 0).any (sameH ps i) = false) := by rw [Hid, Nat.min_eq_left (by omega), hany, hb]
            clear hany hq hh hpk hy HC HN
            go_wp2_with fail
            go_big_quiet (fail)
            go_wp2_with fail
            go_big_quiet (fail)
            go_wp2_with fail
            go_roundw
            case rel => exact ⟨k + 1, c + 1, by omega, by go_num, by go_num, hg.drewN _, ((Gr.refl wr).drewN _).cell a0, ((Gr.refl wr).drewN _).cell a1, HC2, HN2⟩
            case measure => simp [intOf]; omega
          · have HE : Hid (err = 9) := HB9.out (k + 1) (by omega) (by rw [hany, hb])
            clear hany hq hh hpk hy HC HN HC2
            go_wp2_with fail
            go_big_quiet (fail)
            go_wp2_with fail
            go_big_quiet (fail)
            go_wp2_with fail
            go_ret
            exact ⟨by rw [HE.out]; rfl, by first | exact hg.drewN _ | exact (hg.drewN _).drewN _⟩
        · have hki3 : k = i := by omega
          have HC2 : Hid (c + 1 = (posI (o : Int) (a.take (k + 1)) 0).length) := by rw [Hid, hq, List.length_append, ← HC.out]; rfl
          have HN2 : Hid ((posI (o : Int) (a.take (min (k + 1) i)) 0).any (sameH ps i) = false) := by
            have := HN.out
            rw [Nat.min_eq_right (by omega)] at this
            rw [Hid, Nat.min_eq_right (by omega), this]
          have hkk : (i : Int) ≤ k := by omega
          clear hki3
          clear hq hy HC HN
          go_wp2_with fail
          go_big_quiet (fail)
          go_wp2_with fail
          go_big_quiet (fail)
          go_wp2_with fail
          go_roundw
          case rel => exact ⟨k + 1, c + 1, by omega, by go_num, by go_num, hg.drewN _, ((Gr.refl wr).drewN _).cell a0, ((Gr.refl wr).drewN _).cell a1, HC2, HN2⟩
          case measure => simp [intOf]; omega
      · have q1 : (y == (o : Int)) = false := by simpa using e
        have q2 : (y != (o : Int)) = true := by simpa [bne] using q1
        have hki3 : k ≠ i := fun h => by
          subst h
          rw [HK.out] at hy
          cases hy
          exact e rfl
        rw [if_neg e, List.append_nil] at hq
        have HC2 : Hid (c = (posI (o : Int) (a.take (k + 1)) 0).length) := by rw [Hid, hq, ← HC.out]
        have HN2 : Hid ((posI (o : Int) (a.take (min (k + 1) i)) 0).any (sameH ps i) = false) := by
          have hn := HN.out
          rw [Nat.min_eq_left (by omega)] at hn
          rw [Hid, Nat.min_eq_left (by omega), hq, hn]
        clear hq hy HC HN
        go_wp2_with fail
        go_big_quiet (fail)
        go_wp2_with fail
        go_roundw
        case rel => exact ⟨k + 1, c, by omega, by go_num, rfl, hg.drewN _, ((Gr.refl wr).drewN _).cell a0, ((Gr.refl wr).drewN _).cell a1, HC2, HN2⟩
        case measure => simp [intOf]; omega
    · have hkm2 : k = i + 1 := by omega
      have hki : (i : Int) < k := by omega
      have hol2 : (o : Int) < on := by omega
      have cL := hg.cell HL.out
      have HE : Hid (err = if decide (xo.ld ≤ (c : Int) - 1) then 5 else 0) := by
        have hn := HN.out
        rw [Nat.min_eq_right (by omega)] at hn
        have hc := HC.out
        rw [hkm2, HQ.out i _ HK.out, if_pos rfl, List.length_append] at hc
        rw [Hid, HB5.out hn, hc]
        congr 2
        simp
      clear HC HN hkm2
      cases hb : decide (xo.ld < (c : Int))
      · have hb2 : decide (xo.ld ≤ (c : Int) - 1) = false := decide_eq_false (by have := of_decide_eq_false hb; omega)
        rw [hb2] at HE
        clear hb2
        go_wp2_with fail
        go_big_quiet (fail)
        go_wp2_with fail
        go_ret
        exact ⟨by rw [HE.out]; rfl, hg.drewN _⟩
      · have hb2 : decide (xo.ld ≤ (c : Int) - 1) = true := decide_eq_true (by have := of_decide_eq_true hb; omega)
        rw [hb2] at HE
        clear hb2
        go_wp2_with fail
        go_big_quiet (fail)
        go_wp2_with fail
        go_ret
        exact ⟨by rw [HE.out]; rfl, hg.drewN _⟩
end Go.Proofs.YtjojbcgppkfidaaGreat
