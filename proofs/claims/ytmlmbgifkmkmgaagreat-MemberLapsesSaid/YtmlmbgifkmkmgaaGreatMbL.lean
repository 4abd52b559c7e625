/- Members: tests of sizes, and copies, of licences and climbers. -/
import Derived.Test.YtmlmbgifkmkmgaaGreatGMbK
import Derived.Test.YtmlmbgifkmkmgaaGreatGMbA
namespace Go.Proofs.YtmlmbgifkmkmgaaGreat
open Go.RowKit Go.Lib
set_option linter.unusedSimpArgs false
set_option linter.unusedVariables false
set_option maxHeartbeats 1000000 in
set_option maxRecDepth 100000 in
theorem shortLics_c {v : Value} {xs : List CatR} {w : World} (h : CatAts w v xs) :
    Calls Tryz.prog 27 #[v] w fun e w' => ShortRet e xs.length 259 ∧ w = w' := by
  obtain ⟨⟨p, cap, rfl, ⟨hcap, hmx⟩, hh⟩⟩ := h
  rcases Nat.eq_zero_or_pos xs.length with h0 | h0
  · have hx : xs = [] := List.eq_nil_of_length_eq_zero h0
    subst hx
    go_enter Tryz.func27, Tryz.ntmps27
    go_wp2_with fail
    refine wp_loop_rounds 2 ?_
    rw [rounds_succ]
    go_wp2_with fail
    go_ret
    exact ⟨⟨true, rfl, fun _ => by simp⟩, rfl⟩
  obtain ⟨b, off, rfl, hc⟩ := hh h0
  have HX := Lib.hid (fun k (h : k < xs.length) => (show ∃ x, xs[k]? = some x from ⟨xs[k]'(by omega), List.getElem?_eq_getElem _⟩))
  have HC := Lib.hid hc
  clear hc hh
  have hnm := Nat.le_trans hcap hmx
  unfold maxLen at hnm
  clear hmx
  generalize xs.length = n at *
  cases hr : decide ((n : Int) ≤ 259)
  all_goals
    go_enter Tryz.func27, Tryz.ntmps27
    go_wp2_with fail
    go_loopg [3] n (fun gk s5 wr => ∃ i : Nat, s5 = .int .i64 i ∧ gk + i = n ∧ wr = w)
    case atStart => exact ⟨0, rfl, by omega, rfl⟩
    case round =>
      obtain ⟨i, rfl, hi, rfl⟩ := hrel
      by_cases hlt : i < n
      · obtain ⟨x, hx⟩ := HX.out i hlt
        obtain ⟨c0, c1, c2⟩ := HC.out i x hx
        have hi2 : (i : Int) < n := by omega
        clear hx
        rcases Nat.lt_or_ge 40 x.nm.size with hs0 | hs0
        · go_wp2_with fail
          go_ret
          exact ⟨⟨false, rfl, fun h => (by cases h)⟩, rfl⟩
        go_wp2_with fail
        go_roundg (gk - 1)
        case measure => omega
        case rel => exact ⟨i + 1, by go_num, by omega, rfl⟩
      · obtain rfl : i = n := by omega
        go_wp2_with fail
        go_ret
        first
          | exact ⟨⟨false, rfl, fun h => (by cases h)⟩, rfl⟩
          | exact ⟨⟨true, rfl, fun _ => by have := of_decide_eq_true hr; omega⟩, rfl⟩
theorem infoLic : (Tryz.prog.info? 114).map (fun i => (i.zero, i.size, i.bytes)) = some (some (.agg #[.string ⟨#[]⟩, .int .i64 0, .int .i64 0]), 3, 32) := by kernel_rfl
set_option maxHeartbeats 1000000 in
set_option maxRecDepth 100000 in
theorem lics_pos (xs : List CatR) (n b off cap : Nat) (w : World) (hn : xs.length = n) (hb : n * 32 ≤ 140737488355328) (hc : ∀ i x, xs[i]? = some x → CatAt w b (off + i * 3) x) :
    Calls Tryz.prog 26 #[.slice (some ⟨b, off, none⟩) n cap] w fun e w' => ∃ v, e = .returned v ∧ w'.ownsRow w.heap.size 114 3 v n (catCs xs) ∧ Gr w w' := by
  obtain ⟨i0, hi, hz0, hz1, hz2⟩ := info_parts infoLic
  have HC := Lib.hid hc
  have HN := Lib.hid hn
  have HB := Lib.hid hb
  have hnm : n ≤ 9223372036854775807 := by omega
  clear hc hn hb
  go_enter Tryz.func26, Tryz.ntmps26
  go_wp2_with fail
  go_loopw [3, 4] (fun v i wr => ∃ k : Nat, k ≤ n ∧ i = .int .i64 k ∧ wr.ownsRow w.heap.size 114 3 v k (catCs (xs.take k)) ∧ Below w.heap.size w wr) (fun _ i _ => n - (intOf i).toNat)
  case atStart => exact ⟨0, Nat.zero_le _, rfl, World.ownsRow_nil _ _ _ _, Below.refl _ _⟩
  case round =>
    obtain ⟨k, hk, rfl, hown, hnx⟩ := hrel
    have hsize := hnx.size
    by_cases hkN : k < n
    · obtain ⟨x, hx⟩ : ∃ x, xs[k]? = some x := ⟨xs[k]'(by have := HN.out; omega), List.getElem?_eq_getElem _⟩
      obtain ⟨c0, c1, c2⟩ := (HC.out k x hx).gr hnx
      have HQ := Lib.hid (catCs_take hx)
      have HLn := Lib.hid (catCs_len (xs.take k))
      have HT := Lib.hid (show (xs.take k).length = k by rw [List.length_take]; have := HN.out; omega)
      have hi2 : (k : Int) < n := by omega
      clear hx
      go_wp2_with (first
        | (at_builtin; refine wpList_append_own _ rfl _ _ 54 rfl w.heap.size 114 i0 (.agg #[.string ⟨#[]⟩, .int .i64 0, .int .i64 0]) 3 32 Tryz.underlying54 hi hz0 hz1 hz2 rfl (by decide) _ _ _ rfl (hown.alloc _) ⟨wr.heap.size, 0, none⟩ 1 1 (catC x) rfl rfl (cell_catC _ _ _) (by intro u hu; simp [catC] at hu; rcases hu with rfl | rfl | rfl <;> rfl) (by have := HB.out; unfold maxLen; omega) (by have := HB.out; omega) (by simp; omega) ?_; intro v1 w1 hown1 hgrow1 hnil1))
      go_roundw
      case rel =>
        exact ⟨k + 1, by omega, by go_num, by rw [HQ.out]; exact hown1, (hnx.alloc hsize _).grown hgrow1 (by simp; omega) (fun j hj => (hown.lt j hj).1)⟩
      case measure => simp [intOf]; omega
    · have hkk : k = n := by omega
      subst hkk
      rw [List.take_of_length_le (by have := HN.out; omega)] at hown
      go_wp2_with fail
      go_ret
      exact ⟨_, rfl, hown, hnx⟩
theorem lics_c {v : Value} {xs : List CatR} {w : World} (h : CatAts w v xs) (hb : xs.length * 32 ≤ 140737488355328) :
    Calls Tryz.prog 26 #[v] w fun e w' => ∃ v, e = .returned v ∧ CatAts w' v xs ∧ Gr w w' := by
  obtain ⟨⟨p, cap, rfl, _, hh⟩⟩ := h
  rcases Nat.eq_zero_or_pos xs.length with h0 | h0
  · have hx : xs = [] := List.eq_nil_of_length_eq_zero h0
    subst hx
    go_enter Tryz.func26, Tryz.ntmps26
    go_wp2_with fail
    refine wp_loop_rounds 2 ?_
    rw [rounds_succ]
    go_wp2_with fail
    go_ret
    exact ⟨_, rfl, ⟨none, 0, rfl, ⟨by simp, by unfold maxLen; omega⟩, fun h => absurd h (by simp)⟩, Gr.refl _⟩
  · obtain ⟨b, off, rfl, hc⟩ := hh h0
    refine (lics_pos xs _ b off cap w rfl hb hc).mono ?_
    rintro e w' ⟨v, rfl, ho, hg⟩
    exact ⟨v, rfl, CatAts_of_owns rfl ho, hg⟩
set_option maxHeartbeats 1000000 in
set_option maxRecDepth 100000 in
theorem shortClis_c {v : Value} {xs : List CliR} {w : World} (h : CliAts w v xs) :
    Calls Tryz.prog 9 #[v] w fun e w' => ShortRet e xs.length 163 ∧ w = w' := by
  obtain ⟨⟨p, cap, rfl, ⟨hcap, hmx⟩, hh⟩⟩ := h
  rcases Nat.eq_zero_or_pos xs.length with h0 | h0
  · have hx : xs = [] := List.eq_nil_of_length_eq_zero h0
    subst hx
    go_enter Tryz.func9, Tryz.ntmps9
    go_wp2_with fail
    refine wp_loop_rounds 2 ?_
    rw [rounds_succ]
    go_wp2_with fail
    go_ret
    exact ⟨⟨true, rfl, fun _ => by simp⟩, rfl⟩
  obtain ⟨b, off, rfl, hc⟩ := hh h0
  have HX := Lib.hid (fun k (h : k < xs.length) => (show ∃ x, xs[k]? = some x from ⟨xs[k]'(by omega), List.getElem?_eq_getElem _⟩))
  have HC := Lib.hid hc
  clear hc hh
  have hnm := Nat.le_trans hcap hmx
  unfold maxLen at hnm
  clear hmx
  generalize xs.length = n at *
  cases hr : decide ((n : Int) ≤ 163)
  all_goals
    go_enter Tryz.func9, Tryz.ntmps9
    go_wp2_with fail
    go_loopg [3] n (fun gk s5 wr => ∃ i : Nat, s5 = .int .i64 i ∧ gk + i = n ∧ wr = w)
    case atStart => exact ⟨0, rfl, by omega, rfl⟩
    case round =>
      obtain ⟨i, rfl, hi, rfl⟩ := hrel
      by_cases hlt : i < n
      · obtain ⟨x, hx⟩ := HX.out i hlt
        obtain ⟨c0, c1, c2, c3⟩ := HC.out i x hx
        have hi2 : (i : Int) < n := by omega
        clear hx
        rcases Nat.lt_or_ge 40 x.nm.size with hs0 | hs0
        · go_wp2_with fail
          go_ret
          exact ⟨⟨false, rfl, fun h => (by cases h)⟩, rfl⟩
        rcases Nat.lt_or_ge 40 x.na.size with hs1 | hs1
        · go_wp2_with fail
          go_ret
          exact ⟨⟨false, rfl, fun h => (by cases h)⟩, rfl⟩
        rcases Nat.lt_or_ge 40 x.ct.size with hs2 | hs2
        · go_wp2_with fail
          go_ret
          exact ⟨⟨false, rfl, fun h => (by cases h)⟩, rfl⟩
        go_wp2_with fail
        go_roundg (gk - 1)
        case measure => omega
        case rel => exact ⟨i + 1, by go_num, by omega, rfl⟩
      · obtain rfl : i = n := by omega
        go_wp2_with fail
        go_ret
        first
          | exact ⟨⟨false, rfl, fun h => (by cases h)⟩, rfl⟩
          | exact ⟨⟨true, rfl, fun _ => by have := of_decide_eq_true hr; omega⟩, rfl⟩
end Go.Proofs.YtmlmbgifkmkmgaaGreat
