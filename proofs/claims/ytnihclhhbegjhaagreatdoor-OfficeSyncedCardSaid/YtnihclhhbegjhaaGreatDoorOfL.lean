/- Sheets (chapter 10): the reference: CheckEntry, ShortSheet; the law's copy; numbers compared. -/
import Derived.Test.YtnihclhhbegjhaaGreatDoorOfK
import Derived.Test.YtnihclhhbegjhaaGreatDoorGOwA
namespace Go.Proofs.YtnihclhhbegjhaaGreatDoor
open Go.RowKit Go.Lib
set_option linter.unusedSimpArgs false
set_option linter.unusedVariables false
theorem entryE_eq (de : ByteArray) (nu ck : Int) (ro : ByteArray) (va : Int) (st : ByteArray) (xs : List RowR) : entryE de nu ck ro va st xs = if decide (Nm de) = true then (if outB nu 1 1000 = true then 3 else if outB ck 1 1000000 = true then 3 else sheetE ro va st xs) else 8 := by
  unfold entryE nmE outE
  by_cases h1 : Nm de <;> cases outB nu 1 1000 <;> cases outB ck 1 1000000 <;> by_cases h4 : sheetE ro va st xs = 0 <;> simp [firstE, h1, h4]
set_option maxHeartbeats 4000000 in
set_option maxRecDepth 100000 in
theorem refEntry_c {w : World} {xs : List RowR} {p : Option Addr} {n cap : Nat} (de : ByteArray) (nu ck : Int) (ro st : ByteArray) (va : Int) (hv : RowsV w (.slice p n cap) xs) :
    Calls Tryz.prog 49 #[.agg #[.string de, .int .i64 nu, .int .i64 ck, .string ro, .int .i64 va, .string st, .slice p n cap]] w fun e w' => e = .returned (.int .i64 (entryE de nu ck ro va st xs)) ∧ Gr w w' := by
  obtain ⟨W, hW, g, a0, a1, a2, a3, a4, a5, a6⟩ := bx7 w (.string de) (.int .i64 nu) (.int .i64 ck) (.string ro) (.int .i64 va) (.string st) (.slice p n cap) 65
  have HW := Lib.hid hW
  have HN := Lib.hid (fun W => refIsName_c de W)
  have HO1 := Lib.hid (fun W => refOut10_c nu 1 1000 W)
  have HO2 := Lib.hid (fun W => refOut10_c ck 1 1000000 W)
  have HSh := Lib.hid (refSheet_all ro st va (hv.gr g))
  have hE := entryE_eq de nu ck ro va st xs
  generalize sheetE ro va st xs = S at *
  generalize entryE de nu ck ro va st xs = E at *
  clear hW hv
  cases h1 : decide (Nm de)
  · rw [h1] at hE HN
    have HE := Lib.hid hE
    clear hE h1 HSh HO1 HO2
    go_enter Tryz.func49, Tryz.ntmps49
    go_wp2_with fail
    rw [HW.out]
    clear HW
    generalize w.heap.size = L at *
    go_wp2_with fail
    refine (HN.out _).mono ?_
    rintro e w4 ⟨rfl, rfl⟩
    go_wp2_with fail
    go_ret
    exact ⟨by rw [HE.out]; rfl, g⟩
  rw [h1] at hE HN
  clear h1
  cases h2 : outB nu 1 1000
  case true =>
    rw [h2] at hE HO1
    have HE := Lib.hid hE
    clear hE h2 HSh HO2
    go_enter Tryz.func49, Tryz.ntmps49
    go_wp2_with fail
    rw [HW.out]
    clear HW
    generalize w.heap.size = L at *
    go_wp2_with fail
    refine (HN.out _).mono ?_
    rintro e w4 ⟨rfl, rfl⟩
    go_wp2_with fail
    refine (HO1.out _).mono ?_
    rintro e w4 ⟨rfl, rfl⟩
    go_wp2_with fail
    go_ret
    exact ⟨by rw [HE.out]; rfl, g⟩
  rw [h2] at hE HO1
  clear h2
  cases h3 : outB ck 1 1000000
  case true =>
    rw [h3] at hE HO2
    have HE := Lib.hid hE
    clear hE h3 HSh
    go_enter Tryz.func49, Tryz.ntmps49
    go_wp2_with fail
    rw [HW.out]
    clear HW
    generalize w.heap.size = L at *
    go_wp2_with fail
    refine (HN.out _).mono ?_
    rintro e w4 ⟨rfl, rfl⟩
    go_wp2_with fail
    refine (HO1.out _).mono ?_
    rintro e w4 ⟨rfl, rfl⟩
    go_wp2_with fail
    refine (HO2.out _).mono ?_
    rintro e w4 ⟨rfl, rfl⟩
    go_wp2_with fail
    go_ret
    exact ⟨by rw [HE.out]; rfl, g⟩
  rw [h3] at hE HO2
  have HE := Lib.hid hE
  clear hE h3
  go_enter Tryz.func49, Tryz.ntmps49
  go_wp2_with fail
  rw [HW.out]
  clear HW
  generalize w.heap.size = L at *
  go_wp2_with fail
  refine (HN.out _).mono ?_
  rintro e w4 ⟨rfl, rfl⟩
  go_wp2_with fail
  refine (HO1.out _).mono ?_
  rintro e w4 ⟨rfl, rfl⟩
  go_wp2_with fail
  refine (HO2.out _).mono ?_
  rintro e w4 ⟨rfl, rfl⟩
  go_wp2_with fail
  refine HSh.out.mono ?_
  rintro e w5 ⟨rfl, hg⟩
  go_wp2_with fail
  go_ret
  exact ⟨by rw [HE.out]; rfl, g.trans hg⟩
inductive ShortX (c s : ByteArray) (n : Nat) : Prop where
  | name (h : 60 < c.size)
  | state (h : c.size ≤ 60) (h2 : 60 < s.size)
  | values (h : c.size ≤ 60) (h2 : s.size ≤ 60) (h3 : 19 < n)
  | yes (h : c.size ≤ 60) (h2 : s.size ≤ 60) (h3 : n ≤ 19)
theorem shortX (c s : ByteArray) (n : Nat) : ShortX c s n := by
  rcases Nat.lt_or_ge 60 c.size with h | h
  · exact .name h
  rcases Nat.lt_or_ge 60 s.size with h2 | h2
  · exact .state h h2
  rcases Nat.lt_or_ge 19 n with h3 | h3
  · exact .values h h2 h3
  · exact .yes h h2 h3
structure ShoX (e : Ending) (xs : List RowR) : Prop where
  out : ∃ r, e = .returned (.bool r) ∧ (r = true → ∀ x ∈ xs, x.xs.length ≤ 19)
theorem row_shortX {xs : List RowR} (h : ∀ (j : Nat) (x : RowR), j < xs.length → xs[j]? = some x → x.xs.length ≤ 19) : ∀ x ∈ xs, x.xs.length ≤ 19 := fun x hx => by
  obtain ⟨j, hj⟩ := List.mem_iff_getElem?.1 hx
  exact h j x (List.getElem?_eq_some_iff.1 hj).1 hj
set_option maxHeartbeats 4000000 in
set_option maxRecDepth 100000 in
theorem shortSh_c {w : World} {xs : List RowR} {p : Option Addr} {n cap : Nat} (ro st : ByteArray) (va : Int) (hn : xs.length = n) (hmx : n ≤ maxLen) (hh : 0 < n → ∃ b off, p = some ⟨b, off, none⟩ ∧ ∀ i x, xs[i]? = some x → Row0 w b (off + i * 3) x) :
    Calls Tryz.prog 9 #[.agg #[.string ro, .int .i64 va, .string st, .slice p n cap]] w fun e w' => ShoX e xs ∧ Gr w w' := by
  have HX := Lib.hid (fun k (h : k < n) => (show ∃ x, xs[k]? = some x from ⟨xs[k]'(by omega), List.getElem?_eq_getElem _⟩))
  have HN := Lib.hid hn
  have HH := Lib.hid hh
  unfold maxLen at hmx
  obtain ⟨W, hW, g, s0, s1, s2, s3⟩ := box4 w (.string ro) (.int .i64 va) (.string st) (.slice p n cap) 32
  have HW := Lib.hid hW
  clear hh hn hW
  rcases Nat.lt_or_ge 60 ro.size with q1 | q1
  · go_enter Tryz.func9, Tryz.ntmps9
    go_wp2_with fail
    rw [HW.out]
    clear HW
    generalize w.heap.size = L at *
    go_wp2_with fail
    go_ret
    exact ⟨⟨false, rfl, fun h => (by cases h)⟩, g⟩
  rcases Nat.lt_or_ge 60 st.size with q2 | q2
  · go_enter Tryz.func9, Tryz.ntmps9
    go_wp2_with fail
    rw [HW.out]
    clear HW
    generalize w.heap.size = L at *
    go_wp2_with fail
    go_ret
    exact ⟨⟨false, rfl, fun h => (by cases h)⟩, g⟩
  have hA : (decide ((8 : Int) < (n : Int)) = true ∧ decide ((n : Int) ≤ 160) = true) ∨ (decide ((8 : Int) < (n : Int)) = true ∧ decide ((n : Int) ≤ 160) = false ∧ decide ((163 : Int) < n) = true) ∨ (decide ((8 : Int) < (n : Int)) = true ∧ decide ((n : Int) ≤ 160) = false ∧ decide ((163 : Int) < n) = false) ∨ (decide ((8 : Int) < (n : Int)) = false ∧ decide ((163 : Int) < n) = false) := by
    cases h1 : decide ((8 : Int) < (n : Int)) <;> cases h2 : decide ((n : Int) ≤ 160) <;> cases h3 : decide ((163 : Int) < n) <;> simp
    all_goals (simp at h1 h3; omega)
  rcases hA with ⟨h1, h2⟩ | ⟨h1, h2, h3⟩ | ⟨h1, h2, h3⟩ | ⟨h1, h3⟩
  · go_enter Tryz.func9, Tryz.ntmps9
    go_wp2_with fail
    rw [HW.out]
    clear HW
    generalize w.heap.size = L at *
    go_wp2_with fail
    go_ret
    exact ⟨⟨false, rfl, fun h => (by cases h)⟩, g⟩
  · go_enter Tryz.func9, Tryz.ntmps9
    go_wp2_with fail
    rw [HW.out]
    clear HW
    generalize w.heap.size = L at *
    go_wp2_with fail
    go_ret
    exact ⟨⟨false, rfl, fun h => (by cases h)⟩, g⟩
  · obtain ⟨b, off, rfl, hc⟩ := HH.out (by simp at h1; omega)
    have HC := Lib.hid hc
    clear hc
    go_enter Tryz.func9, Tryz.ntmps9
    go_wp2_with fail
    rw [HW.out]
    clear HW
    generalize w.heap.size = L at *
    go_wp2_with fail
    go_loopg [3] n (fun gk s3' wr => ∃ i : Nat, s3' = .int .i64 i ∧ gk + i = n ∧ Gr W wr ∧ Hid (∀ (j : Nat) (x : RowR), j < i → xs[j]? = some x → x.xs.length ≤ 19))
    case atStart => exact ⟨0, rfl, by omega, Gr.refl _, fun j x h => absurd h (Nat.not_lt_zero _)⟩
    case round =>
      obtain ⟨i, rfl, hi, hg, HF⟩ := hrel
      have s3 := hg.cell s3
      by_cases hlt : i < n
      · obtain ⟨x, hx⟩ := HX.out i hlt
        obtain ⟨y0, y1, y2, hv⟩ := (HC.out i x hx).gr (g.trans hg)
        obtain ⟨⟨pu, cu, hu, _⟩⟩ := hv
        rw [hu] at y2
        have c0 := cell_new wr #[.string x.nm, .string x.st, .slice pu x.xs.length cu] 91 0 (by simp)
        have c1 := cell_new wr #[.string x.nm, .string x.st, .slice pu x.xs.length cu] 91 1 (by simp)
        have c2 := cell_new wr #[.string x.nm, .string x.st, .slice pu x.xs.length cu] 91 2 (by simp)
        simp only [List.getElem_toArray, List.getElem_cons_zero, List.getElem_cons_succ] at c0 c1 c2
        have HG2 := Lib.hid ((g.trans hg).alloc (.cells #[.string x.nm, .string x.st, .slice pu x.xs.length cu] 91))
        have HG3 := Lib.hid (hg.alloc (.cells #[.string x.nm, .string x.st, .slice pu x.xs.length cu] 91))
        have hr := shortX x.nm x.st x.xs.length
        have hi2 : (i : Int) < n := by omega
        have HNX := Lib.hid (fun (h : x.xs.length ≤ 19) (j : Nat) (y : RowR) (hj : j < i + 1) (hy : xs[j]? = some y) => (show y.xs.length ≤ 19 from by
          by_cases hji : j = i
          · subst hji; rw [hx] at hy; cases hy; exact h
          · exact HF.out j y (by omega) hy))
        clear hx hu hg
        generalize x.xs.length = xn at *
        cases hr with
        | name h =>
          go_wp2_with fail
          go_ret
          exact ⟨⟨false, rfl, fun h => (by cases h)⟩, HG2.out⟩
        | state h h2 =>
          go_wp2_with fail
          go_ret
          exact ⟨⟨false, rfl, fun h => (by cases h)⟩, HG2.out⟩
        | values h h2 h3 =>
          go_wp2_with fail
          go_ret
          exact ⟨⟨false, rfl, fun h => (by cases h)⟩, HG2.out⟩
        | yes h h2 h3 =>
          go_wp2_with fail
          go_roundg (gk - 1)
          case measure => omega
          case rel => exact ⟨i + 1, by go_num, by omega, HG3.out, fun j y hj hy => HNX.out h3 j y hj hy⟩
      · have hin : i = n := by omega
        have hi2 : ¬ (i : Int) < n := by omega
        have HFin := Lib.hid (row_shortX (xs := xs) (fun j x hj hx => HF.out j x (by have := HN.out; omega) hx))
        go_wp2_with fail
        go_ret
        exact ⟨⟨true, rfl, fun _ => HFin.out⟩, g.trans hg⟩
  · by_cases h0 : 0 < n
    · obtain ⟨b, off, rfl, hc⟩ := HH.out h0
      have HC := Lib.hid hc
      clear hc
      go_enter Tryz.func9, Tryz.ntmps9
      go_wp2_with fail
      rw [HW.out]
      clear HW
      generalize w.heap.size = L at *
      go_wp2_with fail
      go_loopg [3] n (fun gk s3' wr => ∃ i : Nat, s3' = .int .i64 i ∧ gk + i = n ∧ Gr W wr ∧ Hid (∀ (j : Nat) (x : RowR), j < i → xs[j]? = some x → x.xs.length ≤ 19))
      case atStart => exact ⟨0, rfl, by omega, Gr.refl _, fun j x h => absurd h (Nat.not_lt_zero _)⟩
      case round =>
        obtain ⟨i, rfl, hi, hg, HF⟩ := hrel
        have s3 := hg.cell s3
        by_cases hlt : i < n
        · obtain ⟨x, hx⟩ := HX.out i hlt
          obtain ⟨y0, y1, y2, hv⟩ := (HC.out i x hx).gr (g.trans hg)
          obtain ⟨⟨pu, cu, hu, _⟩⟩ := hv
          rw [hu] at y2
          have c0 := cell_new wr #[.string x.nm, .string x.st, .slice pu x.xs.length cu] 91 0 (by simp)
          have c1 := cell_new wr #[.string x.nm, .string x.st, .slice pu x.xs.length cu] 91 1 (by simp)
          have c2 := cell_new wr #[.string x.nm, .string x.st, .slice pu x.xs.length cu] 91 2 (by simp)
          simp only [List.getElem_toArray, List.getElem_cons_zero, List.getElem_cons_succ] at c0 c1 c2
          have HG2 := Lib.hid ((g.trans hg).alloc (.cells #[.string x.nm, .string x.st, .slice pu x.xs.length cu] 91))
          have HG3 := Lib.hid (hg.alloc (.cells #[.string x.nm, .string x.st, .slice pu x.xs.length cu] 91))
          have hr := shortX x.nm x.st x.xs.length
          have hi2 : (i : Int) < n := by omega
          have HNX := Lib.hid (fun (h : x.xs.length ≤ 19) (j : Nat) (y : RowR) (hj : j < i + 1) (hy : xs[j]? = some y) => (show y.xs.length ≤ 19 from by
            by_cases hji : j = i
            · subst hji; rw [hx] at hy; cases hy; exact h
            · exact HF.out j y (by omega) hy))
          clear hx hu hg
          generalize x.xs.length = xn at *
          cases hr with
          | name h =>
            go_wp2_with fail
            go_ret
            exact ⟨⟨false, rfl, fun h => (by cases h)⟩, HG2.out⟩
          | state h h2 =>
            go_wp2_with fail
            go_ret
            exact ⟨⟨false, rfl, fun h => (by cases h)⟩, HG2.out⟩
          | values h h2 h3 =>
            go_wp2_with fail
            go_ret
            exact ⟨⟨false, rfl, fun h => (by cases h)⟩, HG2.out⟩
          | yes h h2 h3 =>
            go_wp2_with fail
            go_roundg (gk - 1)
            case measure => omega
            case rel => exact ⟨i + 1, by go_num, by omega, HG3.out, fun j y hj hy => HNX.out h3 j y hj hy⟩
        · have hin : i = n := by omega
          have hi2 : ¬ (i : Int) < n := by omega
          have HFin := Lib.hid (row_shortX (xs := xs) (fun j x hj hx => HF.out j x (by have := HN.out; omega) hx))
          go_wp2_with fail
          go_ret
          exact ⟨⟨true, rfl, fun _ => HFin.out⟩, g.trans hg⟩
    · obtain rfl : n = 0 := by omega
      have hx : xs = [] := List.eq_nil_of_length_eq_zero HN.out
      have HFin : Hid (∀ x ∈ xs, x.xs.length ≤ 19) := by unfold Hid; rw [hx]; intro x h; cases h
      clear hx
      go_enter Tryz.func9, Tryz.ntmps9
      go_wp2_with fail
      rw [HW.out]
      clear HW
      generalize w.heap.size = L at *
      go_wp2_with fail
      refine wp_loop_rounds 1 ?_
      rw [rounds_succ]
      go_wp2_with fail
      go_ret
      exact ⟨⟨true, rfl, fun _ => HFin.out⟩, g⟩
set_option maxHeartbeats 4000000 in
set_option maxRecDepth 100000 in
theorem own10_c (de : ByteArray) (nu ck : Int) (ro st : ByteArray) (va : Int) (p : Option Addr) (n cap : Nat) (w : World) :
    Calls Tryz.prog 37 #[.agg #[.string de, .int .i64 nu, .int .i64 ck, .string ro, .int .i64 va, .string st, .slice p n cap]] w fun e w' => e = .returned (.agg #[.string de, .int .i64 nu, .int .i64 ck, .string ro, .int .i64 va, .string st, .slice p n cap]) ∧ Gr w w' := by
  obtain ⟨W, hW, g, a0, a1, a2, a3, a4, a5, a6⟩ := bx7 w (.string de) (.int .i64 nu) (.int .i64 ck) (.string ro) (.int .i64 va) (.string st) (.slice p n cap) 77
  have HW := Lib.hid hW
  clear hW
  go_enter Tryz.func37, Tryz.ntmps37
  go_wp2_with fail
  rw [HW.out]
  have hsz : W.heap.size = w.heap.size + 1 := by rw [← HW.out]; simp
  have z0 := cell_new W #[.string de, .int .i64 nu, .int .i64 ck, .string ro, .int .i64 va, .string st, .slice p n cap] 65 0 (by simp)
  have z1 := cell_new W #[.string de, .int .i64 nu, .int .i64 ck, .string ro, .int .i64 va, .string st, .slice p n cap] 65 1 (by simp)
  have z2 := cell_new W #[.string de, .int .i64 nu, .int .i64 ck, .string ro, .int .i64 va, .string st, .slice p n cap] 65 2 (by simp)
  have z3 := cell_new W #[.string de, .int .i64 nu, .int .i64 ck, .string ro, .int .i64 va, .string st, .slice p n cap] 65 3 (by simp)
  have z4 := cell_new W #[.string de, .int .i64 nu, .int .i64 ck, .string ro, .int .i64 va, .string st, .slice p n cap] 65 4 (by simp)
  have z5 := cell_new W #[.string de, .int .i64 nu, .int .i64 ck, .string ro, .int .i64 va, .string st, .slice p n cap] 65 5 (by simp)
  have z6 := cell_new W #[.string de, .int .i64 nu, .int .i64 ck, .string ro, .int .i64 va, .string st, .slice p n cap] 65 6 (by simp)
  rw [hsz] at z0 z1 z2 z3 z4 z5 z6
  simp only [List.getElem_toArray, List.getElem_cons_zero, List.getElem_cons_succ] at z0 z1 z2 z3 z4 z5 z6
  exact bodyPost_ret (v := .agg #[.string de, .int .i64 nu, .int .i64 ck, .string ro, .int .i64 va, .string st, .slice p n cap]) (by simp [results, Tryz.results37, go_sem, z0, z1, z2, z3, z4, z5, z6]) rfl ⟨rfl, g.alloc _⟩
set_option maxHeartbeats 1000000 in
set_option maxRecDepth 100000 in
theorem sameIO_c {zs : List Int} {n : Nat} {q1 q2 : Option Addr} {c c2 : Nat} {w : World} (h : IntS w q1 n zs) (h2 : IntS w q2 n zs) (hs : n ≤ 1000) :
    Calls Tryz.prog 43 #[.slice q1 n c, .slice q2 n c2] w fun e w' => e = .returned (.bool true) ∧ Gr w w' := by
  have HA := Lib.hid h.out
  have HB := Lib.hid h2.out
  have HN := Lib.hid h.len
  clear h h2
  go_enter Tryz.func43, Tryz.ntmps43
  go_wp2_with fail
  go_loopg [5] n (fun gk s5 wr => ∃ k : Nat, s5 = .int .i64 k ∧ gk + k = n ∧ Gr w wr)
  case atStart => exact ⟨0, rfl, by omega, Gr.refl _⟩
  case round =>
    obtain ⟨k, rfl, hk, hg⟩ := hrel
    by_cases hlt : k < n
    · obtain ⟨x, hx⟩ : ∃ x, zs[k]? = some x := ⟨zs[k]'(by have := HN.out; omega), List.getElem?_eq_getElem _⟩
      obtain ⟨b1, o1, rfl, ha⟩ := HA.out (by omega)
      obtain ⟨b2, o2, rfl, hb⟩ := HB.out (by omega)
      have a0 := hg.cell (ha k x hx)
      have b0 := hg.cell (hb k x hx)
      have hi : (k : Int) < (n : Int) := by omega
      clear hx ha hb
      go_wp2_with fail
      go_quiet (fail)
      go_wp2_with fail
      go_roundg (gk - 1)
      case measure => omega
      case rel => exact ⟨k + 1, by go_num, by omega, hg.drewN _⟩
    · obtain rfl : k = n := by omega
      have hi : (k : Int) ≤ k := by omega
      go_wp2_with fail
      go_ret
      exact ⟨rfl, hg⟩
end Go.Proofs.YtnihclhhbegjhaaGreatDoor
