/- Results read, however many values they have. -/
import Derived.Test.YtenhodepaoaiiaaGreatDoorGCmp
import Derived.Test.YtenhodepaoaiiaaGreatDoorGStG
import Derived.Test.YtenhodepaoaiiaaGreatDoorGRkR
import Derived.Test.YtenhodepaoaiiaaGreatDoorGRoC
namespace Go.Proofs.YtenhodepaoaiiaaGreatDoor
open Go.RowKit Go.Lib
set_option linter.unusedSimpArgs false
set_option linter.unusedVariables false
/-- the three cells of a result at a place, and its values, however many -/
structure Row0 (w : World) (b off : Nat) (x : RowR) : Prop where
  nm : w.cell? ⟨b, off, none⟩ = some (.string x.nm)
  st : w.cell? ⟨b, off + 1, none⟩ = some (.string x.st)
  u : w.cell? ⟨b, off + 2, none⟩ = some x.u
  val : IntsV w x.u x.xs
theorem Row0.at {w : World} {b off : Nat} {x : RowR} (h : Row0 w b off x) (hl : x.xs.length ≤ 1000) : RowAt w b off x := ⟨h.nm, h.st, h.u, h.val, hl⟩
theorem Row0.gr {w w' : World} {b off : Nat} {x : RowR} (h : Row0 w b off x) (k : Gr w w') : Row0 w' b off x := ⟨k.cell h.nm, k.cell h.st, k.cell h.u, h.val.gr k⟩
end Go.Proofs.YtenhodepaoaiiaaGreatDoor
namespace Go.Proofs.YtenhodepaoaiiaaGreatDoor
open Go.RowKit Go.Lib
set_option linter.unusedSimpArgs false
set_option linter.unusedVariables false
inductive ShortS (c s : ByteArray) (n : Nat) : Prop where
  | name (h : 40 < c.size)
  | state (h : c.size ≤ 40) (h2 : 20 < s.size)
  | values (h : c.size ≤ 40) (h2 : s.size ≤ 20) (h3 : 10 < n)
  | yes (h : c.size ≤ 40) (h2 : s.size ≤ 20) (h3 : n ≤ 10)
theorem shortS (c s : ByteArray) (n : Nat) : ShortS c s n := by
  rcases Nat.lt_or_ge 40 c.size with h | h
  · exact .name h
  rcases Nat.lt_or_ge 20 s.size with h2 | h2
  · exact .state h h2
  rcases Nat.lt_or_ge 10 n with h3 | h3
  · exact .values h h2 h3
  · exact .yes h h2 h3
/-- what ShortResults returns -/
structure ShoRet (e : Ending) (xs : List RowR) : Prop where
  out : ∃ r, e = .returned (.bool r) ∧ (r = true → ∀ x ∈ xs, x.xs.length ≤ 10)
set_option maxHeartbeats 1000000 in
set_option maxRecDepth 100000 in
theorem shortRs_pos (xs : List RowR) (n b off cap : Nat) (m : Int) (w : World) (hn : xs.length = n) (hnm : n ≤ maxLen) (hc : ∀ i x, xs[i]? = some x → Row0 w b (off + i * 3) x) :
    Calls Tryz.prog 6 #[.slice (some ⟨b, off, none⟩) n cap, .int .i64 m] w fun e w' => ShoRet e xs ∧ w = w' := by
  have HX := Lib.hid (fun k (h : k < n) => (show ∃ x, xs[k]? = some x from ⟨xs[k]'(by omega), List.getElem?_eq_getElem _⟩))
  have HC := Lib.hid hc
  have HN := Lib.hid hn
  unfold maxLen at hnm
  clear hc hn
  have hA : (decide (m < (n : Int)) = true ∧ decide ((n : Int) ≤ 160) = true) ∨ (decide (m < (n : Int)) = true ∧ decide ((n : Int) ≤ 160) = false ∧ decide ((162 : Int) < n) = true) ∨ (decide (m < (n : Int)) = false ∧ decide ((162 : Int) < n) = true) ∨ (decide (m < (n : Int)) = true ∧ decide ((n : Int) ≤ 160) = false ∧ decide ((162 : Int) < n) = false) ∨ (decide (m < (n : Int)) = false ∧ decide ((162 : Int) < n) = false) := by
    cases h1 : decide (m < (n : Int)) <;> cases h2 : decide ((n : Int) ≤ 160) <;> cases h3 : decide ((162 : Int) < n) <;> simp
  rcases hA with ⟨h1, h2⟩ | ⟨h1, h2, h3⟩ | ⟨h1, h3⟩ | ⟨h1, h2, h3⟩ | ⟨h1, h3⟩
  iterate 3
    · go_enter Tryz.func6, Tryz.ntmps6
      go_wp2_with fail
      go_ret
      exact ⟨⟨false, rfl, fun h => (by cases h)⟩, rfl⟩
  all_goals
    go_enter Tryz.func6, Tryz.ntmps6
    go_wp2_with fail
    go_loopg [5] n (fun gk s5 wr => ∃ i : Nat, s5 = .int .i64 i ∧ gk + i = n ∧ wr = w ∧ Hid (∀ (j : Nat) (x : RowR), j < i → xs[j]? = some x → x.xs.length ≤ 10))
    case atStart => exact ⟨0, rfl, by omega, rfl, fun j x h => absurd h (Nat.not_lt_zero _)⟩
    case round =>
      obtain ⟨i, rfl, hi, rfl, HF⟩ := hrel
      by_cases hlt : i < n
      · obtain ⟨x, hx⟩ := HX.out i hlt
        obtain ⟨c0, c1, c2, hv⟩ := HC.out i x hx
        obtain ⟨⟨pu, cu, hu, _⟩⟩ := hv
        rw [hu] at c2
        have hr := shortS x.nm x.st x.xs.length
        have hi2 : (i : Int) < n := by omega
        have HNX := Lib.hid (fun (h : x.xs.length ≤ 10) (j : Nat) (y : RowR) (hj : j < i + 1) (hy : xs[j]? = some y) => (show y.xs.length ≤ 10 from by
          by_cases hji : j = i
          · subst hji; rw [hx] at hy; cases hy; exact h
          · exact HF.out j y (by omega) hy))
        clear hx hu
        cases hr with
        | name h =>
          go_wp2_with fail
          go_ret
          exact ⟨⟨false, rfl, fun h => (by cases h)⟩, rfl⟩
        | state h h2 =>
          go_wp2_with fail
          go_ret
          exact ⟨⟨false, rfl, fun h => (by cases h)⟩, rfl⟩
        | values h h2 h3 =>
          go_wp2_with fail
          go_ret
          exact ⟨⟨false, rfl, fun h => (by cases h)⟩, rfl⟩
        | yes h h2 h3 =>
          go_wp2_with fail
          go_roundg (gk - 1)
          case measure => omega
          case rel => exact ⟨i + 1, by go_num, by omega, rfl, fun j y hj hy => HNX.out h3 j y hj hy⟩
      · obtain rfl : i = n := by omega
        go_wp2_with fail
        go_ret
        refine ⟨⟨true, rfl, fun _ x hx => ?_⟩, rfl⟩
        obtain ⟨j, hj⟩ := List.mem_iff_getElem?.1 hx
        have := (List.getElem?_eq_some_iff.1 hj).1
        have hN := HN.out
        exact HF.out j x (by omega) hj
theorem shortRs_nil (p : Option Addr) (cap : Nat) (m : Int) (hm : 0 ≤ m) (w : World) :
    Calls Tryz.prog 6 #[.slice p 0 cap, .int .i64 m] w fun e w' => e = .returned (.bool true) ∧ w = w' := by
  have h1 : decide (m < (0 : Int)) = false := decide_eq_false (by omega)
  go_enter Tryz.func6, Tryz.ntmps6
  go_wp2_with fail
  refine wp_loop_rounds 2 ?_
  rw [rounds_succ]
  go_wp2_with fail
  go_ret
  exact ⟨rfl, rfl⟩
theorem hasS_succ {ns : List ByteArray} {k : Nat} {t : ByteArray} (h : ns[k]? = some t) (s : ByteArray) : hasS (ns.take (k + 1)) s = (hasS (ns.take k) s || (s.toList == t.toList)) := by
  rw [List.take_add_one, h]; unfold hasS; simp
theorem dupR_step {xs : List RowR} {k : Nat} {y : RowR} (h : xs[k]? = some y) (s : ByteArray) : dupR xs (k + 1) s = (dupR xs k s || (y.nm.toList == s.toList)) := by
  unfold dupR; rw [List.take_add_one, h]; simp
theorem hasS_le {ns : List ByteArray} {s : ByteArray} {j n : Nat} (hj : j ≤ n) (h : hasS (ns.take j) s = true) : hasS (ns.take n) s = true := by
  unfold hasS at *
  rw [List.any_eq_true] at *
  obtain ⟨t, ht, he⟩ := h
  exact ⟨t, (List.take_subset_take_left ns hj) ht, he⟩
set_option maxHeartbeats 1000000 in
set_option maxRecDepth 100000 in
theorem hasWord_c {ns : List ByteArray} {q : Option Addr} {n c : Nat} {w : World} (ho : WordsV w (.slice q n c) ns) (h1 : n ≤ 1000) (s : ByteArray) :
    Calls Tryz.prog 17 #[.slice q n c, .string s] w fun e w' => e = .returned (.bool (hasS ns s)) ∧ w = w' := by
  obtain ⟨hn, _, hh⟩ := ho.at
  have HS := Lib.hid (fun k (h : k < n) => (show ∃ x, ns[k]? = some x from ⟨ns[k]'(by omega), List.getElem?_eq_getElem _⟩))
  have HH := Lib.hid hh
  have HE : Hid (hasS (ns.take n) s = hasS ns s) := by unfold Hid; rw [List.take_of_length_le (by omega)]
  have HL := Lib.hid (fun j (h : hasS (ns.take j) s = true) (hj : j ≤ n) => hasS_le hj h)
  clear hh ho hn
  go_enter Tryz.func17, Tryz.ntmps17
  go_wp2_with fail
  go_loopg [5] n (fun gk s5 wr => ∃ i : Nat, s5 = .int .i64 i ∧ gk + i = n ∧ wr = w ∧ Hid (hasS (ns.take i) s = false))
  case atStart => exact ⟨0, rfl, by omega, rfl, by simp [Hid, hasS]⟩
  case round =>
    obtain ⟨i, rfl, hi, rfl, HF⟩ := hrel
    by_cases hlt : i < n
    · obtain ⟨t, ht⟩ := HS.out i hlt
      obtain ⟨b, off, rfl, hc⟩ := HH.out (by omega)
      have c0 := hc i t ht
      have hst := hasS_succ ht s
      rw [HF.out, Bool.false_or] at hst
      have hi2 : (i : Int) < n := by omega
      clear ht hc
      by_cases hne : t.toList = s.toList
      · have hb : (s.toList == t.toList) = true := by rw [hne]; simp
        have hb2 : (t.toList == s.toList) = true := by rw [hne]; simp
        rw [hb] at hst
        have HQ : Hid (hasS ns s = true) := by unfold Hid; rw [← HE.out]; exact HL.out _ hst (by omega)
        clear hst hb
        go_wp2_with fail
        go_ret
        exact ⟨by rw [HQ.out]; rfl, rfl⟩
      · have hb : (s.toList == t.toList) = false := beq_eq_false_iff_ne.2 (fun e => hne e.symm)
        have hb2 : (t.toList == s.toList) = false := beq_eq_false_iff_ne.2 hne
        rw [hb] at hst
        have HST := Lib.hid hst
        clear hst hb
        go_wp2_with fail
        go_roundg (gk - 1)
        case measure => omega
        case rel => exact ⟨i + 1, by go_num, by omega, rfl, HST⟩
    · obtain rfl : i = n := by omega
      have HQ : Hid (hasS ns s = false) := by unfold Hid; rw [← HE.out]; exact HF.out
      go_wp2_with fail
      go_ret
      exact ⟨by rw [HQ.out]; rfl, rfl⟩
/-- what CheckOut returns -/
structure OutRet (e : Ending) (xs : List RowR) (ns : List ByteArray) : Prop where
  out : ∃ z : Int, e = .returned (.int .i64 z) ∧ (z = 0 → OutOK xs ns)
set_option maxHeartbeats 2000000 in
set_option maxRecDepth 100000 in
theorem refOut_c {xs : List RowR} {ns : List ByteArray} {p : Option Addr} {N c : Nat} {q : Option Addr} {n k0 : Nat} {w : World} (hx : RowsV w (.slice p N c) xs) (ho : WordsV w (.slice q n k0) ns) (h1 : N ≤ 160) (h2 : n ≤ 160) :
    Calls Tryz.prog 15 #[.slice p N c, .slice q n k0] w fun e w' => OutRet e xs ns ∧ Gr w w' := by
  obtain ⟨hN, _, hh⟩ := hx.at
  obtain ⟨hn, _, hw⟩ := ho.at
  have HX := Lib.hid (fun k (h : k < N) => (show ∃ x, xs[k]? = some x from ⟨xs[k]'(by omega), List.getElem?_eq_getElem _⟩))
  have HS := Lib.hid (fun k (h : k < n) => (show ∃ x, ns[k]? = some x from ⟨ns[k]'(by omega), List.getElem?_eq_getElem _⟩))
  have HH := Lib.hid hh
  have HW := Lib.hid hw
  have HNn := Lib.hid hn
  have HNN := Lib.hid hN
  have hz2 : decide ((160 : Int) < n) = false := decide_eq_false (by omega)
  clear hh hw hn hN hx ho
  go_enter Tryz.func15, Tryz.ntmps15
  go_wp2_with fail
  go_loopg [5] n (fun gk s5 wr => ∃ i : Nat, s5 = .int .i64 i ∧ gk + i = n ∧ Gr w wr ∧ Hid (∀ (j : Nat) (s : ByteArray), j < i → ns[j]? = some s → dupR xs N s = true ∧ hasS (ns.take j) s = false))
  case atStart => exact ⟨0, rfl, by omega, Gr.refl _, fun j s h => absurd h (Nat.not_lt_zero _)⟩
  case round =>
    obtain ⟨i, rfl, hi, hg, HF⟩ := hrel
    obtain ⟨gO, rfl⟩ : ∃ q, q = gk := ⟨gk, rfl⟩
    by_cases hlt : i < n
    · obtain ⟨s, hs⟩ := HS.out i hlt
      obtain ⟨b, off, rfl, hc⟩ := HW.out (by omega)
      have HSs := Lib.hid hs
      have HCs := Lib.hid hc
      have hi2 : (i : Int) < n := by omega
      clear hs hc
      go_wp2_with fail
      go_loopg [6, 7] N (fun g2 s6 s7 wr2 => ∃ k : Nat, s7 = .int .i64 k ∧ s6 = .bool (dupR xs k s) ∧ g2 + k = N ∧ Gr w wr2)
      case atStart => exact ⟨0, rfl, by simp [dupR], by omega, hg⟩
      case round =>
        obtain ⟨k, rfl, rfl, hk, hg2⟩ := hrel
        by_cases hkN : k < N
        · obtain ⟨y, hy⟩ := HX.out k hkN
          obtain ⟨b1, off1, rfl, hc1⟩ := HH.out (by omega)
          have d0 := ((hc1 k y hy).gr hg2).nm
          have e0 := hg2.cell (HCs.out i s HSs.out)
          have hk2 : (k : Int) < N := by omega
          have hdp := dupR_step hy s
          cases hd : dupR xs k s
          · rw [hd, Bool.false_or] at hdp
            cases e2 : (y.nm.toList == s.toList)
            all_goals
              rw [e2] at hdp
              have HD2 := Lib.hid hdp
              clear hdp hy hc1
              go_wp2_with fail
              go_big_quiet (fail)
              go_wp2_with fail
              go_roundg (gk - 1)
              case measure => omega
              case rel => exact ⟨k + 1, by go_num, by rw [HD2.out], by omega, hg2.drewN _⟩
          · rw [hd, Bool.true_or] at hdp
            have HD2 := Lib.hid hdp
            clear hdp hy hc1
            go_wp2_with fail
            go_big_quiet (fail)
            go_wp2_with fail
            go_roundg (gk - 1)
            case measure => omega
            case rel => exact ⟨k + 1, by go_num, by rw [HD2.out], by omega, hg2.drewN _⟩
        · have hkN2 : k = N := by omega
          have hk3 : ¬ (k : Int) < N := by omega
          cases hd : dupR xs k s
          · go_wp2_with fail
            go_ret
            exact ⟨⟨10, rfl, fun h => absurd h (by omega)⟩, hg2⟩
          · rw [hkN2] at hd
            have HD := Lib.hid hd
            clear hd
            go_wp2_with fail
            go_loopg [8] i (fun g3 s8 wr3 => ∃ j : Nat, s8 = .int .i64 j ∧ g3 + j = i ∧ Gr w wr3 ∧ Hid (hasS (ns.take j) s = false))
            case atStart => exact ⟨0, rfl, by omega, hg2, by simp [Hid, hasS]⟩
            case round =>
              obtain ⟨j, rfl, hj, hg3, HA⟩ := hrel
              by_cases hji : j < i
              · obtain ⟨t, ht⟩ := HS.out j (by omega)
                have d0 := hg3.cell (HCs.out j t ht)
                have d1 := hg3.cell (HCs.out i s HSs.out)
                have hj2 : (j : Int) < i := by omega
                have hj3 : (j : Int) < n := by omega
                have hst := hasS_succ ht s
                rw [HA.out, Bool.false_or] at hst
                clear ht
                cases e2 : (t.toList == s.toList)
                · have hb : (s.toList == t.toList) = false := beq_eq_false_iff_ne.2 (fun e => (beq_eq_false_iff_ne.1 e2) e.symm)
                  rw [hb] at hst
                  have HST := Lib.hid hst
                  clear hst hb
                  go_wp2_with fail
                  go_big_quiet (fail)
                  go_wp2_with fail
                  go_roundg (gk - 1)
                  case measure => omega
                  case rel => exact ⟨j + 1, by go_num, by omega, hg3.drewN _, HST⟩
                · clear hst
                  go_wp2_with fail
                  go_big_quiet (fail)
                  go_wp2_with fail
                  go_ret
                  exact ⟨⟨9, rfl, fun h => absurd h (by omega)⟩, hg3.drewN _⟩
              · have hji2 : j = i := by omega
                have hj3 : ¬ (j : Int) < i := by omega
                go_wp2_with fail
                go_roundg (gO - 1)
                case measure => omega
                case rel => exact ⟨i + 1, by go_num, by omega, hg3, fun j' s' hj' hs' => by
                  by_cases h : j' = i
                  · subst h
                    have := HSs.out
                    rw [this] at hs'
                    cases hs'
                    subst hji2
                    exact ⟨HD.out, HA.out⟩
                  · exact HF.out j' s' (by omega) hs'⟩
    · have hin : i = n := by omega
      have hi2 : ¬ (i : Int) < n := by omega
      go_wp2_with fail
      go_ret
      refine ⟨⟨0, rfl, fun _ => ⟨fun s hs => ?_, fun j s hs => ?_⟩⟩, hg⟩
      · obtain ⟨j, hj⟩ := List.mem_iff_getElem?.1 hs
        have hjl := (List.getElem?_eq_some_iff.1 hj).1
        have := HNn.out
        rw [HNN.out]
        exact (HF.out j s (by omega) hj).1
      · have hjl := (List.getElem?_eq_some_iff.1 hs).1
        have := HNn.out
        exact (HF.out j s (by omega) hs).2
end Go.Proofs.YtenhodepaoaiiaaGreatDoor
namespace Go.Proofs.YtenhodepaoaiiaaGreatDoor
open Go.RowKit Go.Lib
set_option linter.unusedSimpArgs false
set_option linter.unusedVariables false
/-- some integer is returned -/
structure SomeI (e : Ending) : Prop where
  out : ∃ z : Int, e = .returned (.int .i64 z)
theorem outside_c (n l h : Int) (w : World) :
    Calls Tryz.prog 12 #[.int .i64 n, .int .i64 l, .int .i64 h] w fun e w' => (e = .returned (.int .i64 3) ∨ e = .returned (.int .i64 0)) ∧ w = w' := by
  cases h1 : decide (n < l) <;> cases h2 : decide (h < n)
  all_goals
    go_enter Tryz.func12, Tryz.ntmps12
    go_wp2_with fail
    go_ret
    first
      | exact ⟨.inl rfl, rfl⟩
      | exact ⟨.inr rfl, rfl⟩
set_option maxHeartbeats 1000000 in
set_option maxRecDepth 100000 in
theorem refOne_c (c s : ByteArray) (v : Value) (xs : List Int) (w : World) (h : IntsV w v xs) :
    Calls Tryz.prog 38 #[.agg #[.string c, .string s, v]] w fun e w' => SomeI e ∧ Gr w w' := by
  obtain ⟨p, cap, rfl, hh⟩ := h.out
  rcases grade_of s.toList with h1 | h1 | h1 | h1 | ⟨h0, h1, h2, h3⟩
  case other =>
    clear hh h
    go_enter Tryz.func38, Tryz.ntmps38
    go_wp2_with fail
    go_ret
    exact ⟨⟨13, rfl⟩, (Gr.refl w).alloc _⟩
  case none =>
    rcases Nat.lt_or_ge 8 xs.length with hl | hl
    · have hl2 : decide ((8 : Int) < xs.length) = true := decide_eq_true (by omega)
      clear hh h
      go_enter Tryz.func38, Tryz.ntmps38
      go_wp2_with fail
      go_ret
      exact ⟨⟨5, rfl⟩, (Gr.refl w).alloc _⟩
    · have hl2 : decide ((8 : Int) < xs.length) = false := decide_eq_false (by omega)
      obtain ⟨W, hW, g, a0, a1, a2⟩ := box3 w (.string c) (.string s) (.slice p xs.length cap) 42
      have HW := Lib.hid hW
      have HX := Lib.hid (fun k (h : k < xs.length) => (show ∃ x, xs[k]? = some x from ⟨xs[k]'(by omega), List.getElem?_eq_getElem _⟩))
      have HH := Lib.hid hh
      have HO := Lib.hid (fun n W => outside_c n (-999999999) 999999999 W)
      clear hh h hW
      generalize xs.length = n at *
      go_enter Tryz.func38, Tryz.ntmps38
      go_wp2_with fail
      rw [HW.out]
      generalize w.heap.size = B at *
      clear HW
      go_loopg [3] n (fun gk s3 wr => ∃ k : Nat, s3 = .int .i64 k ∧ gk + k = n ∧ wr = W)
      case atStart => exact ⟨0, rfl, by omega, rfl⟩
      case round =>
        obtain ⟨k, rfl, hk, rfl⟩ := hrel
        by_cases hlt : k < n
        · obtain ⟨x, hx⟩ := HX.out k hlt
          obtain ⟨b, off, rfl, hc⟩ := HH.out (by omega)
          have d0 := g.cell (hc k x hx)
          have hk2 : (k : Int) < n := by omega
          clear hx hc
          go_wp2_with fail
          refine (HO.out _ _).mono ?_
          rintro e w4 ⟨rfl | rfl, rfl⟩
          · go_wp2_with fail
            go_ret
            exact ⟨⟨3, rfl⟩, g⟩
          · go_wp2_with fail
            go_roundg (gk - 1)
            case measure => omega
            case rel => exact ⟨k + 1, by go_num, by omega, rfl⟩
        · have hk2 : ¬ (k : Int) < n := by omega
          go_wp2_with fail
          go_ret
          exact ⟨⟨0, rfl⟩, g⟩
  all_goals
    by_cases hl : 0 < xs.length
    · have hl2 : decide ((0 : Int) < xs.length) = true := decide_eq_true (by omega)
      clear hh h
      go_enter Tryz.func38, Tryz.ntmps38
      go_wp2_with fail
      go_ret
      exact ⟨⟨1, rfl⟩, (Gr.refl w).alloc _⟩
    · rw [show xs.length = 0 by omega]
      clear hh h hl
      go_enter Tryz.func38, Tryz.ntmps38
      go_wp2_with fail
      refine wp_loop_rounds 1 ?_
      rw [rounds_succ]
      go_wp2_with fail
      go_ret
      exact ⟨⟨0, rfl⟩, (Gr.refl w).alloc _⟩
set_option maxHeartbeats 2000000 in
set_option maxRecDepth 100000 in
theorem refRes_c {xs : List RowR} {p : Option Addr} {N c : Nat} {w : World} (hx : RowsV w (.slice p N c) xs) (h1 : N ≤ 160) :
    Calls Tryz.prog 7 #[.slice p N c] w fun e w' => SomeI e ∧ Gr w w' := by
  obtain ⟨hN, _, hh⟩ := hx.at
  have HX := Lib.hid (fun k (h : k < N) => (show ∃ x, xs[k]? = some x from ⟨xs[k]'(by omega), List.getElem?_eq_getElem _⟩))
  have HH := Lib.hid hh
  have hz2 : decide ((160 : Int) < N) = false := decide_eq_false (by omega)
  clear hh hN hx
  go_enter Tryz.func7, Tryz.ntmps7
  go_wp2_with fail
  go_loopg [3, 4] N (fun gk s3 s4 wr => ∃ (i : Nat) (z : Int), s4 = .int .i64 i ∧ s3 = .int .i64 z ∧ gk + i = N ∧ Gr w wr)
  case atStart => exact ⟨0, -1, rfl, rfl, by omega, Gr.refl _⟩
  case round =>
    obtain ⟨i, z, rfl, rfl, hi, hg⟩ := hrel
    obtain ⟨gO, rfl⟩ : ∃ q, q = gk := ⟨gk, rfl⟩
    by_cases hlt : i < N
    · obtain ⟨x, hx⟩ := HX.out i hlt
      obtain ⟨b, off, rfl, hc⟩ := HH.out (by omega)
      have HRx := Lib.hid (hc i x hx)
      have HC := Lib.hid hc
      have c0 := (HRx.out.gr hg).nm
      have hi2 : (i : Int) < N := by omega
      have hN := Lib.hid (fun W => refIsName_c x.nm W)
      clear hx hc
      cases e1 : decide (Nm x.nm)
      · rw [e1] at hN
        go_wp2_with fail
        refine (hN.out _).mono ?_
        rintro e w4 ⟨rfl, rfl⟩
        go_wp2_with fail
        go_ret
        exact ⟨⟨8, rfl⟩, hg⟩
      · rw [e1] at hN
        go_wp2_with fail
        refine (hN.out _).mono ?_
        rintro e w4 ⟨rfl, rfl⟩
        clear e1
        go_wp2_with fail
        go_loopg [5] i (fun g2 s5 wr2 => ∃ k : Nat, s5 = .int .i64 k ∧ g2 + k = i ∧ Gr w wr2)
        case atStart => exact ⟨0, rfl, by omega, hg⟩
        case round =>
          obtain ⟨k, rfl, hk, hg2⟩ := hrel
          obtain ⟨c0, c1, c2, hv, hvl⟩ := HRx.out.gr hg2
          obtain ⟨⟨pu, cu, hu, _⟩⟩ := id hv
          rw [hu] at c2
          by_cases hlk : k < i
          · obtain ⟨y, hy⟩ := HX.out k (by omega)
            have d0 := ((HC.out k y hy).gr hg2).nm
            have hk2 : (k : Int) < i := by omega
            have hk3 : (k : Int) < N := by omega
            clear hy hu hv
            cases e2 : (y.nm.toList == x.nm.toList)
            · go_wp2_with fail
              go_big_quiet (fail)
              go_wp2_with fail
              go_roundg (gk - 1)
              case measure => omega
              case rel => exact ⟨k + 1, by go_num, by omega, hg2.drewN _⟩
            · go_wp2_with fail
              go_big_quiet (fail)
              go_wp2_with fail
              go_ret
              exact ⟨⟨9, rfl⟩, hg2.drewN _⟩
          · have hk2 : ¬ (k : Int) < i := by omega
            have hki : k = i := by omega
            have HK := Lib.hid (refOne_c x.nm x.st x.u x.xs _ hv)
            rw [hu] at HK
            clear hu hv
            generalize x.xs.length = xl at *
            go_wp2_with fail
            refine HK.out.mono ?_
            rintro e wq ⟨⟨z6, rfl⟩, gq⟩
            replace c0 := gq.cell c0
            replace c1 := gq.cell c1
            replace c2 := gq.cell c2
            have hg3 := hg2.trans gq
            clear gq HK
            by_cases h6 : z6 = 0
            · subst h6
              cases hE : x.st.toList.isEmpty
              · have hE2 : ¬ x.st.toList = [] := by intro e; rw [e] at hE; cases hE
                go_wp2_with fail
                go_roundg (gO - 1)
                case measure => omega
                case rel => exact ⟨i + 1, z, by go_num, rfl, by omega, hg3⟩
              · have hE2 : x.st.toList = [] := by simpa using hE
                cases h0 : decide (z < 0)
                · cases h2 : ((xl : Int) != z)
                  · go_wp2_with fail
                    go_roundg (gO - 1)
                    case measure => omega
                    case rel => exact ⟨i + 1, z, by go_num, rfl, by omega, hg3⟩
                  · go_wp2_with fail
                    go_ret
                    exact ⟨⟨2, rfl⟩, hg3⟩
                · go_wp2_with fail
                  go_roundg (gO - 1)
                  case measure => omega
                  case rel => exact ⟨i + 1, (xl : Int), by go_num, rfl, by omega, hg3⟩
            · have h7 : (z6 != 0) = true := bne_iff_ne.2 h6
              go_wp2_with fail
              go_ret
              exact ⟨⟨z6, rfl⟩, hg3⟩
    · have hi2 : ¬ (i : Int) < N := by omega
      go_wp2_with fail
      go_ret
      exact ⟨⟨0, rfl⟩, hg⟩
end Go.Proofs.YtenhodepaoaiiaaGreatDoor
namespace Go.Proofs.YtenhodepaoaiiaaGreatDoor
open Go.RowKit Go.Lib
set_option linter.unusedSimpArgs false
set_option linter.unusedVariables false
/-- the slice v reads as the results xs, however many values they have -/
structure Rows0V (w : World) (v : Value) (xs : List RowR) : Prop where
  mk' ::
  out : ∃ p cap, v = .slice p xs.length cap ∧ (xs.length ≤ cap ∧ cap ≤ maxLen) ∧ (0 < xs.length → ∃ b off, p = some ⟨b, off, none⟩ ∧ ∀ i x, xs[i]? = some x → Row0 w b (off + i * 3) x)
theorem Rows0V.rows {w : World} {v : Value} {xs : List RowR} (h : Rows0V w v xs) (hl : ∀ x ∈ xs, x.xs.length ≤ 10) : RowsV w v xs := by
  obtain ⟨⟨p, cap, rfl, hcap, hh⟩⟩ := h
  refine ⟨p, cap, rfl, hcap, fun h0 => ?_⟩
  obtain ⟨b, off, e, hc⟩ := hh h0
  exact ⟨b, off, e, fun i x hx => (hc i x hx).at (by have := hl x (List.mem_of_getElem? hx); omega)⟩
theorem valid_round {xs : List RowR} (h : roundE xs = 0) (h1 : xs.length ≤ 160) : ValidB (xs.map bare) := by
  unfold roundE at h
  rw [if_neg (by omega)] at h
  exact valid_of_zero h
/-- results of which more is asked -/
structure Good (xs : List RowR) (n : Nat) : Prop where
  few : n ≤ 10
  short : ∀ x ∈ xs, x.xs.length ≤ 10
  valid : ValidB (xs.map bare)
/-! ## who goes on -/
theorem ValidB.sub {bs cs : List Bare} (h : ValidB bs) (hs : cs.Sublist bs) : ValidB cs where
  each := fun b hb => h.each b (hs.subset hb)
  apart := h.apart.sublist (hs.map _)
  even := fun b hb c hc => h.even b (hs.subset hb) c (hs.subset hc)
def restB (ns : List ByteArray) (bs : List Bare) : List Bare := bs.filter fun b => !hasS ns b.nm
theorem rest_bare (ns : List ByteArray) (xs : List RowR) : (rest ns xs).map bare = restB ns (xs.map bare) := by
  unfold rest restB
  rw [List.filter_map]
  rfl
theorem restB_sub (ns : List ByteArray) (bs : List Bare) : (restB ns bs).Sublist bs := List.filter_sublist
theorem thruB_mem {bs : List Bare} {m : Int} {s : ByteArray} : s ∈ thruB bs m ↔ ∃ b ∈ fineB bs, b.nm = s ∧ rankB (fineB bs) b ≤ m := by
  unfold thruB goOn ranksB
  rw [pls_map, List.mem_map]
  constructor
  · rintro ⟨p, hp, rfl⟩
    rw [List.mem_filter] at hp
    obtain ⟨h1, h2⟩ := hp
    rw [(srtP_spec _).1.mem_iff, List.mem_map] at h1
    obtain ⟨b, hb, rfl⟩ := h1
    exact ⟨b, hb, rfl, by simpa using h2⟩
  · rintro ⟨b, hb, rfl, h⟩
    refine ⟨⟨b.nm, rankB (fineB bs) b⟩, ?_, rfl⟩
    rw [List.mem_filter, (srtP_spec _).1.mem_iff, List.mem_map]
    exact ⟨⟨b, hb, rfl⟩, by simpa using h⟩
theorem rankB_sub {bs cs : List Bare} (h : cs.Sublist bs) (b : Bare) : rankB cs b ≤ rankB bs b := by
  unfold rankB
  have := h.countP_le (p := fun c => decide (cmpB c b < 0))
  omega
/-- who goes on and is not out goes on without those who are out -/
theorem goes_on {ns : List ByteArray} {bs : List Bare} {m : Int} {s : ByteArray} (h : s ∈ thruB bs m) (hs : hasS ns s = false) : hasS (thruB (restB ns bs) m) s = true := by
  obtain ⟨b, hb, rfl, hr⟩ := thruB_mem.1 h
  unfold hasS
  rw [List.any_eq_true]
  refine ⟨b.nm, thruB_mem.2 ⟨b, ?_, rfl, ?_⟩, by simp⟩
  · unfold fineB restB at *
    rw [List.mem_filter] at hb ⊢
    exact ⟨List.mem_filter.2 ⟨hb.1, by simp [hs]⟩, hb.2⟩
  · have : (fineB (restB ns bs)).Sublist (fineB bs) := (restB_sub ns bs).filter _
    have := rankB_sub this b
    omega
theorem StrsV.words {w : World} {v : Value} {ns : List ByteArray} (h : StrsV w v ns) : WordsV w v ns := by
  obtain ⟨⟨p, cap, rfl, hc, hh⟩⟩ := h
  refine ⟨p, cap, rfl, hc, fun h0 => ?_⟩
  rcases hh with ⟨rfl, _⟩ | ⟨b, rfl, hb⟩
  · cases h0
  · exact ⟨b, 0, rfl, fun i t ht => by rw [Nat.zero_add]; exact hb i t ht⟩
end Go.Proofs.YtenhodepaoaiiaaGreatDoor
