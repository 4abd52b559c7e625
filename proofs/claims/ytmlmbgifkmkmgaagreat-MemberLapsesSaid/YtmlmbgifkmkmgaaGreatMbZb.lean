/- MemberLapses: the law, walked. -/
import Derived.Test.YtmlmbgifkmkmgaaGreatMbZa
import Derived.Test.YtmlmbgifkmkmgaaGreatGMbT
import Derived.Test.YtmlmbgifkmkmgaaGreatMbS
import Derived.Test.YtmlmbgifkmkmgaaGreatMbJ
namespace Go.Proofs.YtmlmbgifkmkmgaaGreat
open Go.RowKit Go.Lib
set_option linter.unusedSimpArgs false
set_option linter.unusedVariables false
theorem append_nil_run (g c ty : Nat) (w : World) (cur : Array Value) (t : TypeId) (hg : w.heap[g]? = some (.cells cur t (0, 0))) :
    (Builtin.append_ #[52, 52] ty #[.slice (some ⟨g, 0, none⟩) 0 0, .slice none 0 c]).run Tryz.prog w = .ok (.slice (some ⟨g, 0, none⟩) 0 0) w := by
  obtain ⟨i1, hj, hy0, hy1, hy2⟩ := info_parts infoLicM
  simp [Builtin.append_, run_underlying Tryz.underlying52, sizeOf, typeInfo, hj, Builtin.lenOf, Builtin.firstCells, storeCells]
theorem list_nil {w : World} {ops : Array Oper} {rest : List Oper} {o : Oper} {a : Act} {Q : Exit → Act → World → Prop} (hgd : o.guard = none) (s x : Operand) (ho : o.op = .call { callee := .builtin .append, args := #[s, x], argTypes := #[52, 52] })
    (g c : Nat) (cur : Array Value) (t : TypeId) (hs : a.eval s = .slice (some ⟨g, 0, none⟩) 0 0) (hx : a.eval x = .slice none 0 c) (hg : w.heap[g]? = some (.cells cur t (0, 0)))
    (h : wpList Tryz.prog ops Q rest (a.put o.dst (.slice (some ⟨g, 0, none⟩) 0 0)) w) : wpList Tryz.prog ops Q (o :: rest) a w := by
  refine wpList_plain hgd fun _ hK => ?_
  have hr := append_nil_run g c o.type w cur t hg
  unfold Oper.wp
  simp [execOp, ho, resolve, invoke, builtin, hs, hx, hr, Result.andThen]
  exact hK _ _ h
theorem rev_at {xs : List CatR} {k j : Nat} {x : CatR} (h : k + j + 1 = xs.length) (hx : xs[j]? = some x) : xs.reverse[k]? = some x := by
  rw [List.getElem?_reverse (by omega)]
  rw [show xs.length - 1 - k = j by omega]
  exact hx
set_option maxHeartbeats 4000000 in
set_option maxRecDepth 100000 in
theorem lawLap_c (xs : List CatR) (v : Value) (nm : ByteArray) (d : Int) (w : World) (hv : CatAts w v xs) (hb : xs.length * 32 ≤ 140737488355328) (hA : AwakeOK w) :
    Calls Tryz.prog 6 #[v, .string nm, .int .i64 d] w fun e w' => e = .returned (.bool true) ∧ Gr w w' := by
  obtain ⟨i0, hi, hz0, hz1, hz2⟩ := info_parts infoLicM
  have HA := Lib.hid hA
  have HCv := Lib.hid (lics_c hv hb)
  have HV := Lib.hid hv
  have HLi := Lib.hid (fun t W (g : Gr w W) => licensed_c nm d t (hv.gr g))
  have HLa := Lib.hid (fun W (g : Gr w W) => lapse_c nm d (hv.gr g))
  have HRC := Lib.hid (fun W u (h : CatAts W u xs) => refLics_c h)
  have HN0 := Lib.hid (fun W => refIsName_c nm W)
  have HO0 := Lib.hid (fun W => refOutside_c d 0 90000 W)
  have HXL := Lib.hid (fun (h : lapE xs nm d = 0) => lapF h)
  have HE0 := Lib.hid (fun (h : listE 256 (licE xs) xs = 0) (h1 : nmE nm = 0) (h2 : 0 ≤ d) (h3 : d ≤ 99999) => @lapE_of xs nm d (lic_range h).1 (ok_of_list h) h1 h2 h3)
  obtain ⟨p, n, cap, rfl, hn⟩ : ∃ p n cap, v = .slice p n cap ∧ n = xs.length := by
    obtain ⟨⟨p, cap, rfl, _⟩⟩ := hv
    exact ⟨p, _, cap, rfl, rfl⟩
  have HN := Lib.hid hn
  clear hA hv hb hn
  have g := Gr.refl w
  go_enter Tryz.func6, Tryz.ntmps6
  go_wp2_with fail
  refine HCv.out.mono ?_
  rintro e W1 ⟨u, rfl, hu, hg⟩
  have HU := Lib.hid hu
  replace g := g.trans hg
  clear hu hg HCv
  go_wp2_with fail
  refine (HA.out _ g).mono ?_
  rintro e W2 ⟨rfl, hg⟩
  replace g := g.trans hg
  replace HU := Lib.hid (HU.out.gr hg)
  clear hg
  cases h12 : decide ((12 : Int) < n)
  case true =>
    go_wp2_with fail
    refine (HA.out _ g).mono ?_
    rintro e W4 ⟨rfl, g4⟩
    go_wp2_with fail
    go_ret
    exact ⟨rfl, g.trans g4⟩
  go_wp2_with fail
  refine (shortLics_c HU.out).mono ?_
  rintro e W2' ⟨⟨r, rfl, hr⟩, rfl⟩
  clear hr
  cases r
  · go_wp2_with fail
    refine (HA.out _ g).mono ?_
    rintro e W4 ⟨rfl, g4⟩
    go_wp2_with fail
    go_ret
    exact ⟨rfl, g.trans g4⟩
  go_wp2_with fail
  refine (HRC.out _ _ HU.out).mono ?_
  rintro e W3 ⟨rfl, hg⟩
  replace g := g.trans hg
  clear hg HU
  by_cases hz : listE 256 (licE xs) xs = 0
  rotate_left
  · generalize listE 256 (licE xs) xs = z at *
    have q1 : (z == 0) = false := by simpa using hz
    have q2 : (z != 0) = true := by simpa [bne] using q1
    go_wp2_with fail
    refine (HA.out _ g).mono ?_
    rintro e W4 ⟨rfl, g4⟩
    go_wp2_with fail
    go_ret
    exact ⟨rfl, g.trans g4⟩
  have HZ := Lib.hid hz
  rw [hz]
  clear hz
  cases h40 : decide ((40 : Int) < nm.size)
  case true =>
    go_wp2_with fail
    refine (HA.out _ g).mono ?_
    rintro e W4 ⟨rfl, g4⟩
    go_wp2_with fail
    go_ret
    exact ⟨rfl, g.trans g4⟩
  go_wp2_with fail
  refine (HN0.out _).mono ?_
  rintro e W5 ⟨rfl, rfl⟩
  by_cases hnm : Nm nm
  rotate_left
  · have q1 : decide (Nm nm) = false := decide_eq_false hnm
    rw [q1]
    go_wp2_with fail
    refine (HA.out _ g).mono ?_
    rintro e W4 ⟨rfl, g4⟩
    go_wp2_with fail
    go_ret
    exact ⟨rfl, g.trans g4⟩
  have q1 : decide (Nm nm) = true := decide_eq_true hnm
  have hnmE : nmE nm = 0 := if_pos hnm
  rw [q1]
  clear q1 hnm HN0
  go_wp2_with fail
  refine (HO0.out _).mono ?_
  rintro e W6 ⟨rfl, rfl⟩
  have hO : outE d 0 90000 = if outB d 0 90000 then 3 else 0 := rfl
  cases hob : outB d 0 90000
  case true =>
    go_wp2_with fail
    refine (HA.out _ g).mono ?_
    rintro e W4 ⟨rfl, g4⟩
    go_wp2_with fail
    go_ret
    exact ⟨rfl, g.trans g4⟩
  rw [hob] at hO
  obtain ⟨d0, d9⟩ := outE_zero.1 hO
  have h0 := HE0.out HZ.out hnmE d0 (by omega)
  clear HE0 hO hnmE hob HO0
  obtain ⟨f1, f2, f3⟩ := HXL.out h0
  have n12 : n ≤ 12 := by
    have := of_decide_eq_false h12
    omega
  have HL1 := Lib.hid (fun W (g : Gr w W) => (HLa.out W g))
  have HLB := Lib.hid (fun W v2 (h : CatAts W v2 xs.reverse) => lapse_c nm d h)
  have HLM := Lib.hid (fun W v2 (h : CatAts W v2 (xs ++ [⟨nm, d + 3, d + 9⟩])) => lapse_c nm d h)
  have hmd := more_day xs nm d ⟨nm, d + 3, d + 9⟩
  have h99 := lapF (more_err h0 (by have := HN.out; omega) d9)
  have HI1 := Lib.hid (fun (h : d < lapD xs nm d) W (g : Gr w W) => HLi.out (lapD xs nm d - 1) W g)
  have HI2 := Lib.hid (fun (h : lapD xs nm d ≤ 99999) W (g : Gr w W) => HLi.out (lapD xs nm d) W g)
  have hi1 : d < lapD xs nm d → licdE xs nm d (lapD xs nm d - 1) = 0 := fun h => licd_zero h0 (by omega) (by omega)
  have hi2 : lapD xs nm d ≤ 99999 → licdE xs nm d (lapD xs nm d) = 0 := fun h => licd_zero h0 f1 h
  have hbe := back_err h0
  have hme := more_err h0 (by have := HN.out; omega) d9
  rw [back_day, hbe, if_pos rfl] at HLB
  rw [hme, if_pos rfl] at HLM
  rw [h0, if_pos rfl] at HL1
  obtain ⟨_, h992, _⟩ := h99
  have HJ1 := Lib.hid (fun (h : d < lapD xs nm d) W (g : Gr w W) => by
    have := HI1.out h W g
    rw [hi1 h, if_pos rfl, decide_eq_true (by omega)] at this
    exact this)
  have HJ2 := Lib.hid (fun (h : lapD xs nm d ≤ 99999) W (g : Gr w W) => by
    have := HI2.out h W g
    rw [hi2 h, if_pos rfl, decide_eq_false (by omega)] at this
    exact this)
  clear hbe hme HLi HLa HXL HRC HZ h0 HI1 HI2 hi1 hi2
  generalize lapD (xs ++ [⟨nm, d + 3, d + 9⟩]) nm d = M at *
  generalize lapD xs nm d = L at *
  clear h12 h40
  have HF3 := Lib.hid f3
  clear f3
  go_wp2_with fail
  refine (HL1.out _ g).mono ?_
  rintro e W7 ⟨rfl, hg⟩
  replace g := g.trans hg
  clear hg HL1
  have r1 : decide (L < d) = false := by simp; omega
  have r2 : decide ((100000 : Int) < L) = false := by simp; omega
  have r3 : decide (M < L) = false := by simp; omega
  go_wp2_with fail
  go_loopw [10, 11, 78] (fun bv jv iv wr => ∃ k : Nat, k ≤ n ∧ iv = .int .i64 k ∧ wr.ownsRow w.heap.size 73 3 bv k (catCs (xs.reverse.take k)) ∧ Gr w wr) (fun _ _ iv _ => n - (intOf iv).toNat)
  case atStart => exact ⟨0, Nat.zero_le _, rfl, World.ownsRow_nil _ _ _ _, g⟩
  case round =>
    obtain ⟨k, hk, rfl, hown, hnx⟩ := hrel
    have hsize := hnx.size
    by_cases hkN : k < n
    · obtain ⟨j, hj⟩ : ∃ j, k + j + 1 = n := ⟨n - 1 - k, by omega⟩
      obtain ⟨x, hx⟩ : ∃ x, xs[j]? = some x := ⟨xs[j]'(by have := HN.out; omega), List.getElem?_eq_getElem _⟩
      have hrv := rev_at (k := k) (by rw [← HN.out]; exact hj) hx
      obtain ⟨b, off, rfl, c0, c1, c2⟩ : ∃ b off, p = some ⟨b, off, none⟩ ∧ wr.cell? ⟨b, off + j * 3, none⟩ = some (.string x.nm) ∧ wr.cell? ⟨b, off + j * 3 + 1, none⟩ = some (.int .i64 x.lo) ∧ wr.cell? ⟨b, off + j * 3 + 2, none⟩ = some (.int .i64 x.hi) := by
        obtain ⟨⟨p', cap', e, _, hh⟩⟩ := HV.out.gr hnx
        simp only [Value.slice.injEq] at e
        obtain ⟨rfl, _, rfl⟩ := e
        obtain ⟨b, off, rfl, hc⟩ := hh (by have := HN.out; omega)
        obtain ⟨c0, c1, c2⟩ := hc j x hx
        exact ⟨b, off, rfl, c0, c1, c2⟩
      have HQ := Lib.hid (catCs_take hrv)
      have HLn := Lib.hid (catCs_len (xs.reverse.take k))
      have HT := Lib.hid (show (xs.reverse.take k).length = k by rw [List.length_take, List.length_reverse]; have := HN.out; omega)
      have hi2 : (k : Int) < n := by omega
      have hj1 : ((n : Int) - 1 - k).toNat = j := by omega
      have hj2 : (0 : Int) ≤ (n : Int) - 1 - k := by omega
      have hj3 : (n : Int) - 1 - k < n := by omega
      clear hx hrv
      go_wp2_with (first
        | (at_builtin; refine wpList_append_own _ rfl _ _ 52 rfl w.heap.size 73 i0 (.agg #[.string ⟨#[]⟩, .int .i64 0, .int .i64 0]) 3 32 Tryz.underlying52 hi hz0 hz1 hz2 rfl (by decide) _ _ _ rfl (hown.alloc _) ⟨wr.heap.size, 0, none⟩ 1 1 (catC x) rfl rfl (cell_catC _ _ _) (by intro u hu; simp [catC] at hu; rcases hu with rfl | rfl | rfl <;> rfl) (by unfold maxLen; omega) (by omega) (by simp; omega) ?_; intro v1 w1 hown1 hgrow1 hnil1))
      go_roundw
      case rel =>
        exact ⟨k + 1, by omega, by go_num, by rw [HQ.out]; exact hown1, Below.grown (hnx.alloc _) hgrow1 (by simp; omega) (fun j hj => (hown.lt j hj).1)⟩
      case measure => simp [intOf]; omega
    · have hkk : k = n := by omega
      subst hkk
      rw [List.take_of_length_le (by rw [List.length_reverse]; have := HN.out; omega)] at hown
      have HB := Lib.hid (CatAts_of_owns (by rw [List.length_reverse]; exact HN.out.symm) hown)
      clear hown g
      go_wp2_with fail
      refine (HLB.out _ _ HB.out).mono ?_
      rintro e W8 ⟨rfl, hg⟩
      have g := hnx.trans hg
      have hsz8 := g.size
      clear hg HB HLB hnx hsize
      have hB0 := heap_alloc_new W8 (.cells #[] 73)
      have hown : (W8.alloc (.cells #[] 73)).ownsRow w.heap.size 73 3 (.slice (some ⟨W8.heap.size, 0, none⟩) 0 0) 0 [] := ⟨by simp, .inr ⟨W8.heap.size, 0, #[], rfl, g.size, hB0, Nat.le_refl _, by unfold maxLen; omega, rfl, by simp⟩⟩
      have hgA : Gr w (W8.alloc (.cells #[] 73)) := g.alloc _
      have hszA := hgA.size
      have HGA := Lib.hid hgA
      have HB0 := Lib.hid hB0
      clear hgA hB0 g
      rcases p with _ | ad
      · have hk0 : k = 0 := by
          obtain ⟨⟨p', cap', e, _, hh⟩⟩ := HV.out
          simp only [Value.slice.injEq] at e
          obtain ⟨rfl, e2, rfl⟩ := e
          rcases Nat.eq_zero_or_pos k with h | h
          · exact h
          · obtain ⟨b, off, e3, _⟩ := hh (by omega)
            cases e3
        subst hk0
        have hx0 : xs = [] := List.eq_nil_of_length_eq_zero HN.out.symm
        have HX0 := Lib.hid hx0
        clear hx0
        go_wp2_with (first
          | (at_builtin; refine list_nil rfl _ _ rfl W8.heap.size cap #[] _ rfl rfl HB0.out ?_)
          | (at_builtin; refine wpList_append_own _ rfl _ _ 52 rfl w.heap.size 73 i0 (.agg #[.string ⟨#[]⟩, .int .i64 0, .int .i64 0]) 3 32 Tryz.underlying52 hi hz0 hz1 hz2 rfl (by decide) _ _ _ rfl (hown.alloc _) ⟨(W8.alloc (.cells #[] 73)).heap.size, 0, none⟩ 1 1 (catC ⟨nm, d + 3, d + 9⟩) (by first | rfl | simp [go_sem]) rfl (cell_catC _ _ _) (by intro u hu; simp [catC] at hu; rcases hu with rfl | rfl | rfl <;> rfl) (by unfold maxLen; omega) (by omega) (by simp; omega) ?_; intro v2 w2 hown2 hgrow2 hnil2))
        have hcat : CatAts w2 v2 (xs ++ [⟨nm, d + 3, d + 9⟩]) := CatAts_of_owns (n := 1) (by simp [HX0.out]) (by rw [HX0.out]; simpa [catCs] using hown2)
        have g : Gr w w2 := Below.grown (HGA.out.alloc _) hgrow2 (by simp; omega) (fun j hj => (hown.lt j hj).1)
        refine (HLM.out _ _ hcat).mono ?_
        rintro e W9 ⟨rfl, hg⟩
        replace g := g.trans hg
        clear hg hcat HLM hown2 hgrow2 hnil2 hown HGA HB0
        go_wp2_with fail
        go_loopw [16] (fun nv wr => ∃ m : Int, nv = .int .i64 m ∧ d ≤ m ∧ m ≤ L + 1 ∧ Gr w wr) (fun nv _ => (L + 1 - intOf nv).toNat)
        case atStart => exact ⟨d, rfl, Int.le_refl _, by omega, g⟩
        case round =>
          obtain ⟨m, rfl, m1, m2, hg⟩ := hrel
          cases e1 : decide (m ≤ L)
          case false =>
            cases k1 : decide (d < L)
            all_goals
              cases k2 : decide ((99999 : Int) < L)
            case false.true => 
              go_wp2_with fail
              go_ret
              exact ⟨rfl, hg⟩
            case false.false =>
              have hle := of_decide_eq_false k2
              go_wp2_with fail
              refine (HJ2.out (by omega) _ hg).mono ?_
              rintro e WP ⟨rfl, hg9⟩
              go_wp2_with fail
              go_ret
              exact ⟨rfl, hg.trans hg9⟩
            case true.true =>
              have hlt := of_decide_eq_true k1
              go_wp2_with fail
              refine (HJ1.out hlt _ hg).mono ?_
              rintro e WP ⟨rfl, hg9⟩
              go_wp2_with fail
              go_ret
              exact ⟨rfl, hg.trans hg9⟩
            case true.false =>
              have hlt := of_decide_eq_true k1
              have hle := of_decide_eq_false k2
              go_wp2_with fail
              refine (HJ1.out hlt _ hg).mono ?_
              rintro e WP ⟨rfl, hg9⟩
              replace hg := hg.trans hg9
              clear hg9
              go_wp2_with fail
              refine (HJ2.out (by omega) _ hg).mono ?_
              rintro e WP2 ⟨rfl, hg9⟩
              go_wp2_with fail
              go_ret
              exact ⟨rfl, hg.trans hg9⟩
          case true =>
          cases e2 : decide (m ≤ d + 300)
          case false =>
            cases k1 : decide (d < L)
            all_goals
              cases k2 : decide ((99999 : Int) < L)
            case false.true => 
              go_wp2_with fail
              go_ret
              exact ⟨rfl, hg⟩
            case false.false =>
              have hle := of_decide_eq_false k2
              go_wp2_with fail
              refine (HJ2.out (by omega) _ hg).mono ?_
              rintro e WP ⟨rfl, hg9⟩
              go_wp2_with fail
              go_ret
              exact ⟨rfl, hg.trans hg9⟩
            case true.true =>
              have hlt := of_decide_eq_true k1
              go_wp2_with fail
              refine (HJ1.out hlt _ hg).mono ?_
              rintro e WP ⟨rfl, hg9⟩
              go_wp2_with fail
              go_ret
              exact ⟨rfl, hg.trans hg9⟩
            case true.false =>
              have hlt := of_decide_eq_true k1
              have hle := of_decide_eq_false k2
              go_wp2_with fail
              refine (HJ1.out hlt _ hg).mono ?_
              rintro e WP ⟨rfl, hg9⟩
              replace hg := hg.trans hg9
              clear hg9
              go_wp2_with fail
              refine (HJ2.out (by omega) _ hg).mono ?_
              rintro e WP2 ⟨rfl, hg9⟩
              go_wp2_with fail
              go_ret
              exact ⟨rfl, hg.trans hg9⟩
          case true =>
          go_wp2_with fail
          go_loopg [17, 19, 145] 0 (fun gk hv pv iv wr2 => ∃ i : Nat, iv = .int .i64 i ∧ gk + i = 0 ∧ hv = .bool ((xs.take i).any (mineH nm m)) ∧ Gr wr wr2)
          case atStart => exact ⟨0, rfl, by omega, by simp, Gr.refl _⟩
          case round =>
            obtain ⟨i, rfl, hig, rfl, hg2⟩ := hrel
            by_cases hlt : i < 0
            · omega
            · have hany : (xs.take i).any (mineH nm m) = decide (m < L) := by
                rw [List.take_of_length_le (by have := HN.out; omega)]
                exact HF3.out m m1 (of_decide_eq_true e1)
              have hmL := of_decide_eq_true e1
              have hi9 : i = 0 := by omega
              rw [hany]
              clear hany
              subst hi9
              cases e3 : decide (m < L)
              all_goals
                go_wp2_with fail
                go_roundw
                case rel => exact ⟨m + 1, rfl, by omega, by omega, hg.trans hg2⟩
                case measure => simp [intOf]; omega
      · have hCC : ∀ j u, (catCs xs)[j]? = some u → (W8.alloc (.cells #[] 73)).cell? (ad.add j) = some u := by
          obtain ⟨⟨p', cap', e, _, hh⟩⟩ := HV.out.gr HGA.out
          simp only [Value.slice.injEq] at e
          obtain ⟨rfl, e2, rfl⟩ := e
          rcases Nat.eq_zero_or_pos k with h | h
          · intro j u hu
            have hl := catCs_len xs
            have := (List.getElem?_eq_some_iff.1 hu).1
            omega
          · obtain ⟨b, off, e3, hc⟩ := hh (by omega)
            simp only [Option.some.injEq] at e3
            subst e3
            exact catCs_cells hc
        have HCC := Lib.hid hCC
        have HLn := Lib.hid (catCs_len xs)
        clear hCC
        go_wp2_with (first
          | (at_builtin; refine wpList_append_own _ rfl _ _ 52 rfl w.heap.size 73 i0 (.agg #[.string ⟨#[]⟩, .int .i64 0, .int .i64 0]) 3 32 Tryz.underlying52 hi hz0 hz1 hz2 rfl (by decide) _ _ _ rfl hown ad k cap (catCs xs) rfl (by rw [HLn.out, HN.out]) HCC.out (catCs_one xs) (by unfold maxLen; omega) (by omega) hszA ?_; intro v1 w1 hown1 hgrow1 hnil1; have g1 := Below.grown HGA.out hgrow1 hszA (fun j hj => (hown.lt j hj).1); have hs1 := g1.size)
          | (at_builtin; refine wpList_append_own _ rfl _ _ 52 rfl w.heap.size 73 i0 (.agg #[.string ⟨#[]⟩, .int .i64 0, .int .i64 0]) 3 32 Tryz.underlying52 hi hz0 hz1 hz2 rfl (by decide) _ _ _ rfl (hown1.alloc _) ⟨w1.heap.size, 0, none⟩ 1 1 (catC ⟨nm, d + 3, d + 9⟩) (by first | rfl | simp [go_sem]) rfl (cell_catC _ _ _) (by intro u hu; simp [catC] at hu; rcases hu with rfl | rfl | rfl <;> rfl) (by unfold maxLen; omega) (by omega) (by simp; omega) ?_; intro v2 w2 hown2 hgrow2 hnil2))
        have hcat : CatAts w2 v2 (xs ++ [⟨nm, d + 3, d + 9⟩]) := CatAts_of_owns (n := k + 1) (by simp; have := HN.out; omega) (by rw [catCs_add]; simpa using hown2)
        have g : Gr w w2 := Below.grown (Gr.alloc g1 _) hgrow2 (by simp; omega) (fun j hj => (hown1.lt j hj).1)
        refine (HLM.out _ _ hcat).mono ?_
        rintro e W9 ⟨rfl, hg⟩
        replace g := g.trans hg
        clear hg hcat HLM hown2 hgrow2 hnil2 hown HGA HB0
        go_wp2_with fail
        go_loopw [16] (fun nv wr => ∃ m : Int, nv = .int .i64 m ∧ d ≤ m ∧ m ≤ L + 1 ∧ Gr w wr) (fun nv _ => (L + 1 - intOf nv).toNat)
        case atStart => exact ⟨d, rfl, Int.le_refl _, by omega, g⟩
        case round =>
          obtain ⟨m, rfl, m1, m2, hg⟩ := hrel
          cases e1 : decide (m ≤ L)
          case false =>
            cases k1 : decide (d < L)
            all_goals
              cases k2 : decide ((99999 : Int) < L)
            case false.true => 
              go_wp2_with fail
              go_ret
              exact ⟨rfl, hg⟩
            case false.false =>
              have hle := of_decide_eq_false k2
              go_wp2_with fail
              refine (HJ2.out (by omega) _ hg).mono ?_
              rintro e WP ⟨rfl, hg9⟩
              go_wp2_with fail
              go_ret
              exact ⟨rfl, hg.trans hg9⟩
            case true.true =>
              have hlt := of_decide_eq_true k1
              go_wp2_with fail
              refine (HJ1.out hlt _ hg).mono ?_
              rintro e WP ⟨rfl, hg9⟩
              go_wp2_with fail
              go_ret
              exact ⟨rfl, hg.trans hg9⟩
            case true.false =>
              have hlt := of_decide_eq_true k1
              have hle := of_decide_eq_false k2
              go_wp2_with fail
              refine (HJ1.out hlt _ hg).mono ?_
              rintro e WP ⟨rfl, hg9⟩
              replace hg := hg.trans hg9
              clear hg9
              go_wp2_with fail
              refine (HJ2.out (by omega) _ hg).mono ?_
              rintro e WP2 ⟨rfl, hg9⟩
              go_wp2_with fail
              go_ret
              exact ⟨rfl, hg.trans hg9⟩
          case true =>
          cases e2 : decide (m ≤ d + 300)
          case false =>
            cases k1 : decide (d < L)
            all_goals
              cases k2 : decide ((99999 : Int) < L)
            case false.true => 
              go_wp2_with fail
              go_ret
              exact ⟨rfl, hg⟩
            case false.false =>
              have hle := of_decide_eq_false k2
              go_wp2_with fail
              refine (HJ2.out (by omega) _ hg).mono ?_
              rintro e WP ⟨rfl, hg9⟩
              go_wp2_with fail
              go_ret
              exact ⟨rfl, hg.trans hg9⟩
            case true.true =>
              have hlt := of_decide_eq_true k1
              go_wp2_with fail
              refine (HJ1.out hlt _ hg).mono ?_
              rintro e WP ⟨rfl, hg9⟩
              go_wp2_with fail
              go_ret
              exact ⟨rfl, hg.trans hg9⟩
            case true.false =>
              have hlt := of_decide_eq_true k1
              have hle := of_decide_eq_false k2
              go_wp2_with fail
              refine (HJ1.out hlt _ hg).mono ?_
              rintro e WP ⟨rfl, hg9⟩
              replace hg := hg.trans hg9
              clear hg9
              go_wp2_with fail
              refine (HJ2.out (by omega) _ hg).mono ?_
              rintro e WP2 ⟨rfl, hg9⟩
              go_wp2_with fail
              go_ret
              exact ⟨rfl, hg.trans hg9⟩
          case true =>
          go_wp2_with fail
          go_loopg [17, 19, 145] k (fun gk hv pv iv wr2 => ∃ i : Nat, iv = .int .i64 i ∧ gk + i = k ∧ hv = .bool ((xs.take i).any (mineH nm m)) ∧ Gr wr wr2)
          case atStart => exact ⟨0, rfl, by omega, by simp, Gr.refl _⟩
          case round =>
            obtain ⟨i, rfl, hig, rfl, hg2⟩ := hrel
            by_cases hlt : i < k
            · obtain ⟨x, hx⟩ : ∃ x, xs[i]? = some x := ⟨xs[i]'(by have := HN.out; omega), List.getElem?_eq_getElem _⟩
              obtain ⟨b, off, hpe, c0, c1, c2⟩ : ∃ b off, ad = ⟨b, off, none⟩ ∧ wr.cell? ⟨b, off + i * 3, none⟩ = some (.string x.nm) ∧ wr.cell? ⟨b, off + i * 3 + 1, none⟩ = some (.int .i64 x.lo) ∧ wr.cell? ⟨b, off + i * 3 + 2, none⟩ = some (.int .i64 x.hi) := by
                obtain ⟨⟨p', cap', e, _, hh⟩⟩ := HV.out.gr (hg.trans hg2)
                simp only [Value.slice.injEq] at e
                obtain ⟨rfl, _, rfl⟩ := e
                obtain ⟨b, off, e9, hc⟩ := hh (by have := HN.out; omega)
                simp only [Option.some.injEq] at e9
                obtain ⟨c0, c1, c2⟩ := hc i x hx
                exact ⟨b, off, e9, c0, c1, c2⟩
              subst hpe
              have hst := any_take (mineH nm m) hx
              rw [show mineH nm m x = ((x.nm.toList == nm.toList) && (decide (x.lo ≤ m) && decide (m ≤ x.hi))) from rfl] at hst
              have hi2 : (i : Int) < k := by omega
              generalize (xs.take i).any (mineH nm m) = an at *
              clear hx
              cases an
              case true =>
                rw [Bool.true_or] at hst
                have HST := Lib.hid hst
                clear hst
                go_wp2_with fail
                go_roundg (gk - 1)
                case measure => omega
                case rel => exact ⟨i + 1, by go_num, by omega, by rw [HST.out], hg2.alloc _⟩
              case false =>
                cases e4 : (x.nm.toList == nm.toList) <;> cases e5 : decide (x.lo ≤ m) <;> cases e6 : decide (m ≤ x.hi)
                all_goals
                  simp only [e4, e5, e6, Bool.false_and, Bool.and_false, Bool.and_true, Bool.false_or] at hst
                  have HST := Lib.hid hst
                  clear hst
                  go_wp2_with fail
                  go_roundg (gk - 1)
                  case measure => omega
                  case rel => exact ⟨i + 1, by go_num, by omega, by rw [HST.out], hg2.alloc _⟩
            · have hany : (xs.take i).any (mineH nm m) = decide (m < L) := by
                rw [List.take_of_length_le (by have := HN.out; omega)]
                exact HF3.out m m1 (of_decide_eq_true e1)
              have hmL := of_decide_eq_true e1
              have hi9 : i = k := by omega
              rw [hany]
              clear hany
              subst hi9
              cases e3 : decide (m < L)
              all_goals
                go_wp2_with fail
                go_roundw
                case rel => exact ⟨m + 1, rfl, by omega, by omega, hg.trans hg2⟩
                case measure => simp [intOf]; omega
end Go.Proofs.YtmlmbgifkmkmgaaGreat
