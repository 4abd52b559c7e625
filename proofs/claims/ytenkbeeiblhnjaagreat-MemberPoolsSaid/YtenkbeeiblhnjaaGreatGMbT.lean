/- MemberAges: the reference's gaps; pairs and words compared; the law's small tests. -/
import Derived.Test.YtenkbeeiblhnjaaGreatGMbQ
namespace Go.Proofs.YtenkbeeiblhnjaaGreat
open Go.RowKit Go.Lib
set_option linter.unusedSimpArgs false
set_option linter.unusedVariables false
set_option maxRecDepth 100000 in
theorem pair2_same (a b : Int) (w : World) : (Op.equal 52 (.agg #[.int .i64 a, .int .i64 b]) (.agg #[.int .i64 a, .int .i64 b])).run Tryz.prog w = .ok true w := by
  have hu : (underlying 52).run Tryz.prog w = .ok (.array 2 3) w := run_underlying Tryz.underlying52 w
  have hs : (sizeOf 3).run Tryz.prog w = .ok 1 w := by kernel_rfl
  have hp0 : (part 3 #[.int .i64 a, .int .i64 b] 0).run Tryz.prog w = .ok (.int .i64 a) w := by kernel_rfl
  have hp1 : (part 3 #[.int .i64 a, .int .i64 b] 1).run Tryz.prog w = .ok (.int .i64 b) w := by kernel_rfl
  have he : ∀ x : Int, (Op.equalIn (9998 + 1) 3 (.int .i64 x) (.int .i64 x)).run Tryz.prog w = .ok true w := fun x => by
    have hi : (underlying 3).run Tryz.prog w = .ok (.int .i64) w := run_underlying Tryz.underlying3 w
    generalize 9998 = q
    simp [Op.equalIn, hi]
  show (Op.equalIn ((9998 + 1) + 1) 52 _ _).run Tryz.prog w = _
  generalize 9998 + 1 = d at *
  unfold Op.equalIn
  simp only [Sem.run_bind, hu, Result.andThen_ok, hs]
  simp [Std.Legacy.Range.forIn_eq_forIn_range', Std.Legacy.Range.size, List.range', hp0, hp1, he]
theorem pair2_neq (a b : Int) (w : World) : (binOp .neq 52 (.agg #[.int .i64 a, .int .i64 b]) (.agg #[.int .i64 a, .int .i64 b])).run Tryz.prog w = .ok (.bool false) w := by
  unfold binOp
  simp [pair2_same]
theorem pair2_guard (x y : Operand) (a b : Int) (w : World) : (eqGuard .neq 52 x y (.agg #[.int .i64 a, .int .i64 b]) (.agg #[.int .i64 a, .int .i64 b])).run Tryz.prog w = .ok () w := by
  have h : Tryz.prog.eqGuardType Tryz.prog.depth 52 = false := by kernel_rfl
  unfold eqGuard
  simp [h]
set_option maxHeartbeats 1000000 in
set_option maxRecDepth 100000 in
theorem samePairs_pos (gs : List GapR) (n b off cap b2 off2 cap2 : Nat) (w : World) (hn : gs.length = n) (h1 : n ≤ 1000) (ha : ∀ i q, gs[i]? = some q → GapAt w b (off + i * 2) q) (hb : ∀ i q, gs[i]? = some q → GapAt w b2 (off2 + i * 2) q) :
    Calls Tryz.prog 37 #[.slice (some ⟨b, off, none⟩) n cap, .slice (some ⟨b2, off2, none⟩) n cap2] w fun e w' => e = .returned (.bool true) ∧ Gr w w' := by
  have HX := Lib.hid (fun k (h : k < n) => (show ∃ x, gs[k]? = some x from ⟨gs[k]'(by omega), List.getElem?_eq_getElem _⟩))
  have HPN := Lib.hid pair2_neq
  have HPG := Lib.hid pair2_guard
  have HA := Lib.hid ha
  have HB := Lib.hid hb
  clear ha hb hn
  go_enter Tryz.func37, Tryz.ntmps37
  go_wp2_with fail
  go_loopg [5] n (fun gk s5 wr => ∃ i : Nat, s5 = .int .i64 i ∧ gk + i = n ∧ Gr w wr)
  case atStart => exact ⟨0, rfl, by omega, Gr.refl _⟩
  case round =>
    obtain ⟨i, rfl, hi, hnx⟩ := hrel
    by_cases hlt : i < n
    · obtain ⟨q, hq⟩ := HX.out i hlt
      obtain ⟨c0, c1⟩ := (HA.out i q hq).gr hnx
      obtain ⟨d0, d1⟩ := (HB.out i q hq).gr hnx
      have hi2 : (i : Int) < n := by omega
      have hpn := fun W => HPN.out q.a q.b W
      have hpg := fun x y W => HPG.out x y q.a q.b W
      generalize q.a = x at *
      generalize q.b = y at *
      clear hq
      go_wp2_with fail
      go_quiet (fail)
      go_wp2_with fail
      go_roundg (gk - 1)
      case measure => omega
      case rel => exact ⟨i + 1, by go_num, by omega, hnx.drewN _⟩
    · obtain rfl : i = n := by omega
      go_wp2_with fail
      go_ret
      exact ⟨rfl, hnx⟩
theorem samePairs_nil (p p2 : Option Addr) (cap cap2 : Nat) (w : World) :
    Calls Tryz.prog 37 #[.slice p 0 cap, .slice p2 0 cap2] w fun e w' => e = .returned (.bool true) ∧ Gr w w' := by
  go_enter Tryz.func37, Tryz.ntmps37
  go_wp2_with fail
  refine wp_loop_rounds 2 ?_
  rw [rounds_succ]
  go_wp2_with fail
  go_ret
  exact ⟨rfl, Gr.refl _⟩
theorem samePairs_c {v v2 : Value} {gs : List GapR} {w : World} (h : GapAts w v gs) (h2 : GapAts w v2 gs) (hs : gs.length ≤ 1000) :
    Calls Tryz.prog 37 #[v, v2] w fun e w' => e = .returned (.bool true) ∧ Gr w w' := by
  obtain ⟨⟨p, cap, rfl, _, ha⟩⟩ := h
  obtain ⟨⟨p2, cap2, rfl, _, hb⟩⟩ := h2
  rcases Nat.eq_zero_or_pos gs.length with h0 | h0
  · rw [h0]; exact samePairs_nil p p2 cap cap2 w
  · obtain ⟨b, off, rfl, h3⟩ := ha h0
    obtain ⟨b2, off2, rfl, h4⟩ := hb h0
    exact samePairs_pos gs _ b off cap b2 off2 cap2 w rfl hs h3 h4
theorem sameWds_c {v v2 : Value} {ns : List ByteArray} {w : World} (h : WdsV w v ns) (h2 : WdsV w v2 ns) (hs : ns.length ≤ 1000) :
    Calls Tryz.prog 36 #[v, v2] w fun e w' => e = .returned (.bool true) ∧ Gr w w' := by
  obtain ⟨⟨p, cap, rfl, _, ha⟩⟩ := h
  obtain ⟨⟨p2, cap2, rfl, _, hb⟩⟩ := h2
  rcases Nat.eq_zero_or_pos ns.length with h0 | h0
  · rw [h0]; exact sameWds_nil p p2 cap cap2 w
  · obtain ⟨b, off, rfl, h3⟩ := ha h0
    obtain ⟨b2, off2, rfl, h4⟩ := hb h0
    exact sameWds_pos ns _ b off b2 off2 cap cap2 w rfl hs h3 h4
theorem words_bad (z : Int) (u : Value) (h : z ≠ 0) (w : World) :
    Calls Tryz.prog 17 #[.slice none 0 0, .int .i64 z, .int .i64 z, u] w fun e w' => e = .returned (.bool true) ∧ Gr w w' := by
  have q1 : (z == 0) = false := by simpa using h
  have q2 : (z != 0) = true := by simpa [bne] using q1
  go_enter Tryz.func17, Tryz.ntmps17
  go_wp2_with fail
  go_ret
  exact ⟨rfl, Gr.refl _⟩
theorem words_good {v v2 : Value} {ns : List ByteArray} {w : World} (h : WdsV w v ns) (h2 : WdsV w v2 ns) (hs : ns.length ≤ 1000) :
    Calls Tryz.prog 17 #[v, .int .i64 0, .int .i64 0, v2] w fun e w' => e = .returned (.bool true) ∧ Gr w w' := by
  have HS := Lib.hid (sameWds_c h h2 hs)
  obtain ⟨⟨p, cap, rfl, _, ha⟩⟩ := h
  obtain ⟨⟨p2, cap2, rfl, _, hb⟩⟩ := h2
  clear ha hb
  go_enter Tryz.func17, Tryz.ntmps17
  go_wp2_with fail
  refine HS.out.mono ?_
  rintro e w4 ⟨rfl, hg⟩
  go_wp2_with fail
  go_ret
  exact ⟨rfl, hg⟩
set_option maxHeartbeats 1000000 in
set_option maxRecDepth 100000 in
theorem lawFirst_c0 (b n cap : Nat) (es : List Int) (w : World) (hn : es.length = n) (hc : ∀ i x, es[i]? = some x → w.cell? ⟨b, i, none⟩ = some (.int .i64 x)) (hs : n ≤ 1000) :
    Calls Tryz.prog 11 #[.slice (some ⟨b, 0, none⟩) n cap] w fun e w' => e = .returned (.int .i64 (firstE es)) ∧ w = w' := by
  have HN := Lib.hid hn
  have HC := Lib.hid hc
  clear hc
  go_enter Tryz.func11, Tryz.ntmps11
  go_wp2_with fail
  go_loopg [3] n (fun g s7 wr => ∃ k : Nat, s7 = .int .i64 k ∧ g + k = n ∧ wr = w ∧ Hid (firstE (es.drop k) = firstE es))
  case atStart => exact ⟨0, rfl, by omega, rfl, by simp [Hid]⟩
  case round =>
    obtain ⟨k, rfl, hk, rfl, HF⟩ := hrel
    by_cases hlt : k < n
    · obtain ⟨x, hx⟩ : ∃ x, es[k]? = some x := ⟨es[k]'(by omega), List.getElem?_eq_getElem (by omega)⟩
      have hcell := HC.out k x hx
      have hf := firstE_drop hx
      have hi2 : (k : Int) < n := by omega
      by_cases h0 : x = 0
      · subst h0
        rw [if_pos rfl] at hf
        have HF2 := Lib.hid hf
        clear hf hx
        go_wp2_with fail
        go_roundg (gk - 1)
        case measure => omega
        case rel => exact ⟨k + 1, by go_num, by omega, rfl, by unfold Hid; rw [← HF2.out, HF.out]⟩
      · rw [if_neg h0] at hf
        have HF2 := Lib.hid hf
        have h1 : (x == 0) = false := by simpa using h0
        have h2 : (x != 0) = true := by simpa [bne] using h1
        clear hf hx h0
        go_wp2_with fail
        go_ret
        exact ⟨by rw [← HF.out, HF2.out]; rfl, rfl⟩
    · have : es.drop k = [] := List.drop_of_length_le (by omega)
      have HE : Hid (firstE es = 0) := by unfold Hid; rw [← HF.out, this]; rfl
      clear this
      go_wp2_with fail
      go_ret
      exact ⟨by rw [HE.out]; rfl, rfl⟩
theorem lawFirst_two (x y : Int) (b cap : Nat) (w : World) (hx : w.cell? ⟨b, 0, none⟩ = some (.int .i64 x)) (hy : w.cell? ⟨b, 1, none⟩ = some (.int .i64 y)) :
    Calls Tryz.prog 11 #[.slice (some ⟨b, 0, none⟩) 2 cap] w fun e w' => e = .returned (.int .i64 (firstE [x, y])) ∧ w = w' :=
  lawFirst_c0 b 2 cap [x, y] w rfl (fun i v h => by
    rcases i with _ | _ | i <;> simp at h <;> subst h <;> assumption) (by omega)
end Go.Proofs.YtenkbeeiblhnjaaGreat
namespace Go.Proofs.YtenkbeeiblhnjaaGreat
open Go.RowKit Go.Lib
set_option linter.unusedSimpArgs false
set_option linter.unusedVariables false
theorem bx2 (w : World) (a0 a1 : Value) (T : Nat) : ∃ W, w.alloc (.cells #[a0, a1] T) = W ∧ Gr w W ∧ W.cell? ⟨w.heap.size, 0, none⟩ = some a0 ∧ W.cell? ⟨w.heap.size, 1, none⟩ = some a1 :=
  ⟨_, rfl, (Gr.refl w).alloc _, cell_new w #[a0, a1] T 0 (by simp), cell_new w #[a0, a1] T 1 (by simp)⟩
theorem when_c (b : Bool) (n : Int) (w : World) :
    Calls Tryz.prog 25 #[.bool b, .int .i64 n] w fun e w' => e = .returned (.int .i64 (if b then n else 0)) ∧ w = w' := by
  cases b
  all_goals
    go_enter Tryz.func25, Tryz.ntmps25
    go_wp2_with fail
    go_ret
    exact ⟨rfl, rfl⟩
theorem when_e (b : Bool) (n : Int) : ∃ z, z = (if b then n else 0) ∧ ∀ W, Calls Tryz.prog 25 #[.bool b, .int .i64 n] W fun e w' => e = .returned (.int .i64 z) ∧ W = w' :=
  ⟨_, rfl, fun W => when_c b n W⟩
theorem lawDay_e (d : Int) : ∃ z, z = outE d 0 99999 ∧ ∀ W, Calls Tryz.prog 16 #[.int .i64 d] W fun e w' => e = .returned (.int .i64 z) ∧ W = w' := by
  refine ⟨_, rfl, fun W => ?_⟩
  have HO := Lib.hid (fun W => refOutside_c d 0 99999 W)
  have HE : Hid (outE d 0 99999 = if outB d 0 99999 then 3 else 0) := rfl
  have HWh := Lib.hid (fun b W => when_c b 3 W)
  generalize outB d 0 99999 = o at *
  cases o
  all_goals
    go_enter Tryz.func16, Tryz.ntmps16
    go_wp2_with fail
    refine (HO.out _).mono ?_
    rintro e W1 ⟨rfl, rfl⟩
    go_wp2_with fail
    refine (HWh.out _ _).mono ?_
    rintro e W1 ⟨rfl, rfl⟩
    go_wp2_with fail
    go_ret
    exact ⟨by rw [HE.out]; rfl, rfl⟩
theorem lawFirst_three (x y z : Int) (b cap : Nat) (w : World) (hx : w.cell? ⟨b, 0, none⟩ = some (.int .i64 x)) (hy : w.cell? ⟨b, 1, none⟩ = some (.int .i64 y)) (hz : w.cell? ⟨b, 2, none⟩ = some (.int .i64 z)) :
    Calls Tryz.prog 11 #[.slice (some ⟨b, 0, none⟩) 3 cap] w fun e w' => e = .returned (.int .i64 (firstE [x, y, z])) ∧ w = w' :=
  lawFirst_c0 b 3 cap [x, y, z] w rfl (fun i v h => by
    rcases i with _ | _ | _ | i <;> simp at h <;> subst h <;> assumption) (by omega)
theorem truth_bad (z : Int) (b : Bool) (h : z ≠ 0) (w : World) :
    Calls Tryz.prog 28 #[.bool false, .int .i64 z, .int .i64 z, .bool b] w fun e w' => e = .returned (.bool true) ∧ w = w' := by
  have q1 : (z == 0) = false := by simpa using h
  have q2 : (z != 0) = true := by simpa [bne] using q1
  go_enter Tryz.func28, Tryz.ntmps28
  go_wp2_with fail
  go_ret
  exact ⟨rfl, rfl⟩
theorem truth_good (b : Bool) (w : World) :
    Calls Tryz.prog 28 #[.bool b, .int .i64 0, .int .i64 0, .bool b] w fun e w' => e = .returned (.bool true) ∧ w = w' := by
  cases b
  all_goals
    go_enter Tryz.func28, Tryz.ntmps28
    go_wp2_with fail
    go_ret
    exact ⟨rfl, rfl⟩
end Go.Proofs.YtenkbeeiblhnjaaGreat
