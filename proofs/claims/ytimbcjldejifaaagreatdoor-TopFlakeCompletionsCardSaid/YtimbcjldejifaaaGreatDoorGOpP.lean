/- Open values: (question).isPossible. -/
import Derived.Test.YtimbcjldejifaaaGreatDoorOpO
import Derived.Test.YtimbcjldejifaaaGreatDoorGOpH
import Derived.Test.YtimbcjldejifaaaGreatDoorGOpB
namespace Go.Proofs.YtimbcjldejifaaaGreatDoor
open Go.RowKit Go.Lib
set_option linter.unusedSimpArgs false
set_option linter.unusedVariables false
set_option maxHeartbeats 1000000 in
set_option maxRecDepth 100000 in
theorem isPossible_c (hS : SortOK) {u : Value} {ys : List OpR} (x : OpR) {r : Int} {w : World} (h : OpsV w u ys) (h1 : ys.length ≤ 1000) (hr0 : 1 ≤ r) (hr1 : r ≤ 1000) :
    Calls Tryz.prog 23 #[qV x u r] w fun e w' => e = .returned (.bool (isPoss x.lo x.hi ys r)) ∧ Gr w w' := by
  obtain ⟨p, cap, rfl⟩ := opsV_slice h
  have HH := Lib.hid h
  have HE : Hid (isPoss x.lo x.hi ys r = (decide (turnV x.lo ys r ≤ x.hi) && decide (r - 1 ≤ cntV (fun y => y.hi) (turnV x.lo ys r) ys))) := rfl
  obtain ⟨W, hW, g, hQ⟩ := boxQ w (.string x.nm) (.int .i64 x.lo) (.int .i64 x.hi) (.slice p ys.length cap) (.int .i64 r) 67
  have HT := Lib.hid (turn_c hS x (h.gr g) h1 hr0 hr1)
  have HA := Lib.hid (fun (T : Int) (W' : World) (hg : Gr w W') => above_hi_c x r T (h.gr hg) h1)
  generalize turnV x.lo ys r = T at *
  unfold qV at HT HA ⊢
  have HG := Lib.hid g
  have HQ := Lib.hid hQ
  obtain ⟨r0, r1, r2, r3, r4, _⟩ := row5 hQ
  have hw1 : IntKind.i64.wrap (r - 1) = r - 1 := by rw [IntKind.wrap_i64]; omega
  have HW := Lib.hid hW
  clear h hQ g hW
  generalize ys.length = n at *
  generalize isPoss x.lo x.hi ys r = res at *
  go_enter Tryz.func23, Tryz.ntmps23
  go_wp2_with fail
  rw [HW.out]
  refine HT.out.mono ?_
  rintro e w1 ⟨rfl, hg⟩
  have g := HG.out.trans hg
  replace r0 := hg.cell r0
  replace r1 := hg.cell r1
  replace r2 := hg.cell r2
  replace r3 := hg.cell r3
  replace r4 := hg.cell r4
  clear hg HQ HT HG HW
  go_wp2_with fail
  generalize w.heap.size = B at *
  by_cases hle : T ≤ x.hi
  · have HA2 : Hid (res = decide (r - 1 ≤ cntV (fun y => y.hi) T ys)) := by unfold Hid; rw [HE.out, decide_eq_true hle, Bool.true_and]
    replace HA := Lib.hid (HA.out T)
    clear HE
    generalize cntV (fun y => y.hi) T ys = A at *
    have gd := (Gr.refl w1).drew
    replace r0 := gd.cell r0
    replace r1 := gd.cell r1
    replace r2 := gd.cell r2
    replace r3 := gd.cell r3
    replace r4 := gd.cell r4
    replace g := g.trans gd
    clear gd
    refine wp_region_held_drew (S := (fun w' => w'.cell? ⟨B, 0, none⟩ = some (.string x.nm) ∧ w'.cell? ⟨B, 1, none⟩ = some (.int .i64 x.lo) ∧ w'.cell? ⟨B, 2, none⟩ = some (.int .i64 x.hi) ∧ w'.cell? ⟨B, 3, none⟩ = some (.slice p n cap) ∧ w'.cell? ⟨B, 4, none⟩ = some (.int .i64 r))) (by kernel_rfl) ⟨r0, r1, r2, r3, r4⟩ (fun hHeld => ?_)
    generalize w1.drew = V at *
    refine wpAnyH_take (i := 0) (v := (.int .i64 T)) (op_at rfl) (by kernel_rfl) (by kernel_rfl) (by kernel_rfl) (fun _ _ _ h => h) (Or.inl ⟨rfl, fun w hSw => ?_⟩) (by assumption) ?_
    · (try dsimp only at hSw); go_simp; try with_reducible rfl
    (try simp only [Act.put, List.setIfInBounds_toArray, List.set_cons_zero, List.set_cons_succ])
    refine wpAnyH_take (i := 1) (v := (.pointer (some ⟨B, 0, none⟩))) (op_at rfl) (by kernel_rfl) (by kernel_rfl) (by kernel_rfl) (fun _ _ _ h => h) (Or.inl ⟨rfl, fun w hSw => ?_⟩) (by assumption) ?_
    · (try dsimp only at hSw); go_simp; try with_reducible rfl
    (try simp only [Act.put, List.setIfInBounds_toArray, List.set_cons_zero, List.set_cons_succ])
    refine wpAnyH_take (i := 2) (v := (.pointer (some ⟨B, 2, none⟩))) (op_at rfl) (by kernel_rfl) (by kernel_rfl) (by kernel_rfl) (fun _ _ _ h => h) (Or.inl ⟨rfl, fun w hSw => ?_⟩) (by assumption) ?_
    · (try dsimp only at hSw); go_simp; try with_reducible rfl
    (try simp only [Act.put, List.setIfInBounds_toArray, List.set_cons_zero, List.set_cons_succ])
    refine wpAnyH_take (i := 3) (v := (.int .i64 x.hi)) (op_at rfl) (by kernel_rfl) (by kernel_rfl) (by kernel_rfl) (fun _ _ _ h => h) (Or.inl ⟨rfl, fun w hSw => ?_⟩) (by assumption) ?_
    · (try dsimp only at hSw); go_simp; try with_reducible rfl
    (try simp only [Act.put, List.setIfInBounds_toArray, List.set_cons_zero, List.set_cons_succ])
    refine wpAnyH_take (i := 4) (v := (.bool true)) (op_at rfl) (by kernel_rfl) (by kernel_rfl) (by kernel_rfl) (fun _ _ _ h => h) (Or.inl ⟨rfl, fun w hSw => ?_⟩) (by assumption) ?_
    · (try dsimp only at hSw); go_simp; try with_reducible rfl
    (try simp only [Act.put, List.setIfInBounds_toArray, List.set_cons_zero, List.set_cons_succ])
    refine wpAnyH_take (i := 5) (v := (.bool true)) (op_at rfl) (by kernel_rfl) (by kernel_rfl) (by kernel_rfl) (fun _ _ _ h => h) (Or.inl ⟨rfl, fun w hSw => ?_⟩) (by assumption) ?_
    · (try dsimp only at hSw); go_simp; try with_reducible rfl
    (try simp only [Act.put, List.setIfInBounds_toArray, List.set_cons_zero, List.set_cons_succ])
    refine wpAnyH_take (i := 6) (v := (.agg #[.string x.nm, .int .i64 x.lo, .int .i64 x.hi, .slice p n cap, .int .i64 r])) (op_at rfl) (by kernel_rfl) (by kernel_rfl) (by kernel_rfl) (fun _ _ _ h => h) (Or.inl ⟨rfl, fun w hSw => ?_⟩) (by assumption) ?_
    · (try dsimp only at hSw); go_simp; try with_reducible rfl
    (try simp only [Act.put, List.setIfInBounds_toArray, List.set_cons_zero, List.set_cons_succ])
    refine wpAnyH_take (i := 7) (v := (.int .i64 T)) (op_at rfl) (by kernel_rfl) (by kernel_rfl) (by kernel_rfl) (fun _ _ _ h => h) (Or.inl ⟨rfl, fun w hSw => ?_⟩) (by assumption) ?_
    · (try dsimp only at hSw); go_simp; try with_reducible rfl
    (try simp only [Act.put, List.setIfInBounds_toArray, List.set_cons_zero, List.set_cons_succ])
    refine wpAnyH_take (i := 9) (v := (.pointer (some ⟨B, 4, none⟩))) (op_at rfl) (by kernel_rfl) (by kernel_rfl) (by kernel_rfl) (fun _ _ _ h => h) (Or.inl ⟨rfl, fun w hSw => ?_⟩) (by assumption) ?_
    · (try dsimp only at hSw); go_simp; try with_reducible rfl
    (try simp only [Act.put, List.setIfInBounds_toArray, List.set_cons_zero, List.set_cons_succ])
    refine wpAnyH_take (i := 10) (v := (.int .i64 r)) (op_at rfl) (by kernel_rfl) (by kernel_rfl) (by kernel_rfl) (fun _ _ _ h => h) (Or.inl ⟨rfl, fun w hSw => ?_⟩) (by assumption) ?_
    · (try dsimp only at hSw); go_simp; try with_reducible rfl
    (try simp only [Act.put, List.setIfInBounds_toArray, List.set_cons_zero, List.set_cons_succ])
    refine wpAnyH_take (i := 11) (v := (.int .i64 (r - 1))) (op_at rfl) (by kernel_rfl) (by kernel_rfl) (by kernel_rfl) (fun _ _ _ h => h) (Or.inl ⟨rfl, fun w hSw => ?_⟩) (by assumption) ?_
    · (try dsimp only at hSw); go_simp; try with_reducible rfl
    (try simp only [Act.put, List.setIfInBounds_toArray, List.set_cons_zero, List.set_cons_succ])
    refine wpAnyH_ready (rs := [8]) (by kernel_rfl) (by simp) (AllReadyH.cons (op_at rfl) (fun K hK => ?_) AllReadyH.nil)
    go_simp
    (refine (HA.out _ g).mono ?_; rintro e W1 ⟨rfl, hg⟩; replace r0 := hg.cell r0; replace r1 := hg.cell r1; replace r2 := hg.cell r2; replace r3 := hg.cell r3; replace r4 := hg.cell r4; replace g := g.trans hg; clear hg)
    go_wp2_with fail
    refine hK.out _ _ ⟨r0, r1, r2, r3, r4⟩ (fun hHeld => ?_)
    clear hK K
    (try simp only [Act.put, List.setIfInBounds_toArray, List.set_cons_zero, List.set_cons_succ])
    refine wpAnyH_take (i := 12) (v := (.bool (decide (r - 1 ≤ A)))) (op_at rfl) (by kernel_rfl) (by kernel_rfl) (by kernel_rfl) (fun _ _ _ h => h) (Or.inl ⟨rfl, fun w hSw => ?_⟩) (by assumption) ?_
    · (try dsimp only at hSw); go_simp; try with_reducible rfl
    (try simp only [Act.put, List.setIfInBounds_toArray, List.set_cons_zero, List.set_cons_succ])
    refine wpAnyH_take (i := 13) (v := (.bool (decide (r - 1 ≤ A)))) (op_at rfl) (by kernel_rfl) (by kernel_rfl) (by kernel_rfl) (fun _ _ _ h => h) (Or.inl ⟨rfl, fun w hSw => ?_⟩) (by assumption) ?_
    · (try dsimp only at hSw); go_simp; try with_reducible rfl
    (try simp only [Act.put, List.setIfInBounds_toArray, List.set_cons_zero, List.set_cons_succ])
    refine wpAnyH_take (i := 14) (v := (.bool (decide (r - 1 ≤ A)))) (op_at rfl) (by kernel_rfl) (by kernel_rfl) (by kernel_rfl) (fun _ _ _ h => h) (Or.inl ⟨rfl, fun w hSw => ?_⟩) (by assumption) ?_
    · (try dsimp only at hSw); go_simp; try with_reducible rfl
    (try simp only [Act.put, List.setIfInBounds_toArray, List.set_cons_zero, List.set_cons_succ])
    refine wpAnyH_done (by kernel_rfl) ?_ _
    go_wp2_with fail
    go_ret
    exact ⟨by rw [HA2.out]; rfl, g⟩
  · have HA2 : Hid (res = false) := by unfold Hid; rw [HE.out, decide_eq_false hle, Bool.false_and]
    clear HE HA
    have gd := (Gr.refl w1).drew
    replace r0 := gd.cell r0
    replace r1 := gd.cell r1
    replace r2 := gd.cell r2
    replace r3 := gd.cell r3
    replace r4 := gd.cell r4
    replace g := g.trans gd
    clear gd
    refine wp_region_held_drew (S := (fun w' => w'.cell? ⟨B, 0, none⟩ = some (.string x.nm) ∧ w'.cell? ⟨B, 1, none⟩ = some (.int .i64 x.lo) ∧ w'.cell? ⟨B, 2, none⟩ = some (.int .i64 x.hi) ∧ w'.cell? ⟨B, 3, none⟩ = some (.slice p n cap) ∧ w'.cell? ⟨B, 4, none⟩ = some (.int .i64 r))) (by kernel_rfl) ⟨r0, r1, r2, r3, r4⟩ (fun hHeld => ?_)
    generalize w1.drew = V at *
    refine wpAnyH_take (i := 0) (v := (.int .i64 T)) (op_at rfl) (by kernel_rfl) (by kernel_rfl) (by kernel_rfl) (fun _ _ _ h => h) (Or.inl ⟨rfl, fun w hSw => ?_⟩) (by assumption) ?_
    · (try dsimp only at hSw); go_simp; try with_reducible rfl
    (try simp only [Act.put, List.setIfInBounds_toArray, List.set_cons_zero, List.set_cons_succ])
    refine wpAnyH_take (i := 1) (v := (.pointer (some ⟨B, 0, none⟩))) (op_at rfl) (by kernel_rfl) (by kernel_rfl) (by kernel_rfl) (fun _ _ _ h => h) (Or.inl ⟨rfl, fun w hSw => ?_⟩) (by assumption) ?_
    · (try dsimp only at hSw); go_simp; try with_reducible rfl
    (try simp only [Act.put, List.setIfInBounds_toArray, List.set_cons_zero, List.set_cons_succ])
    refine wpAnyH_take (i := 2) (v := (.pointer (some ⟨B, 2, none⟩))) (op_at rfl) (by kernel_rfl) (by kernel_rfl) (by kernel_rfl) (fun _ _ _ h => h) (Or.inl ⟨rfl, fun w hSw => ?_⟩) (by assumption) ?_
    · (try dsimp only at hSw); go_simp; try with_reducible rfl
    (try simp only [Act.put, List.setIfInBounds_toArray, List.set_cons_zero, List.set_cons_succ])
    refine wpAnyH_take (i := 3) (v := (.int .i64 x.hi)) (op_at rfl) (by kernel_rfl) (by kernel_rfl) (by kernel_rfl) (fun _ _ _ h => h) (Or.inl ⟨rfl, fun w hSw => ?_⟩) (by assumption) ?_
    · (try dsimp only at hSw); go_simp; try with_reducible rfl
    (try simp only [Act.put, List.setIfInBounds_toArray, List.set_cons_zero, List.set_cons_succ])
    refine wpAnyH_take (i := 4) (v := (.bool false)) (op_at rfl) (by kernel_rfl) (by kernel_rfl) (by kernel_rfl) (fun _ _ _ h => h) (Or.inl ⟨rfl, fun w hSw => ?_⟩) (by assumption) ?_
    · (try dsimp only at hSw); go_simp; try with_reducible rfl
    (try simp only [Act.put, List.setIfInBounds_toArray, List.set_cons_zero, List.set_cons_succ])
    refine wpAnyH_take (i := 5) (v := (.bool false)) (op_at rfl) (by kernel_rfl) (by kernel_rfl) (by kernel_rfl) (fun _ _ _ h => h) (Or.inl ⟨rfl, fun w hSw => ?_⟩) (by assumption) ?_
    · (try dsimp only at hSw); go_simp; try with_reducible rfl
    (try simp only [Act.put, List.setIfInBounds_toArray, List.set_cons_zero, List.set_cons_succ])
    refine wpAnyH_take (i := 6) (v := undef) (op_at rfl) (by kernel_rfl) (by kernel_rfl) (by kernel_rfl) (fun _ _ _ h => h) (Or.inr ⟨rfl, rfl⟩) (by assumption) ?_
    (try simp only [Act.put, List.setIfInBounds_toArray, List.set_cons_zero, List.set_cons_succ])
    refine wpAnyH_take (i := 7) (v := undef) (op_at rfl) (by kernel_rfl) (by kernel_rfl) (by kernel_rfl) (fun _ _ _ h => h) (Or.inr ⟨rfl, rfl⟩) (by assumption) ?_
    (try simp only [Act.put, List.setIfInBounds_toArray, List.set_cons_zero, List.set_cons_succ])
    refine wpAnyH_take (i := 8) (v := undef) (op_at rfl) (by kernel_rfl) (by kernel_rfl) (by kernel_rfl) (fun _ _ _ h => h) (Or.inr ⟨rfl, rfl⟩) (by assumption) ?_
    (try simp only [Act.put, List.setIfInBounds_toArray, List.set_cons_zero, List.set_cons_succ])
    refine wpAnyH_take (i := 9) (v := undef) (op_at rfl) (by kernel_rfl) (by kernel_rfl) (by kernel_rfl) (fun _ _ _ h => h) (Or.inr ⟨rfl, rfl⟩) (by assumption) ?_
    (try simp only [Act.put, List.setIfInBounds_toArray, List.set_cons_zero, List.set_cons_succ])
    refine wpAnyH_take (i := 10) (v := undef) (op_at rfl) (by kernel_rfl) (by kernel_rfl) (by kernel_rfl) (fun _ _ _ h => h) (Or.inr ⟨rfl, rfl⟩) (by assumption) ?_
    (try simp only [Act.put, List.setIfInBounds_toArray, List.set_cons_zero, List.set_cons_succ])
    refine wpAnyH_take (i := 11) (v := undef) (op_at rfl) (by kernel_rfl) (by kernel_rfl) (by kernel_rfl) (fun _ _ _ h => h) (Or.inr ⟨rfl, rfl⟩) (by assumption) ?_
    (try simp only [Act.put, List.setIfInBounds_toArray, List.set_cons_zero, List.set_cons_succ])
    refine wpAnyH_take (i := 12) (v := undef) (op_at rfl) (by kernel_rfl) (by kernel_rfl) (by kernel_rfl) (fun _ _ _ h => h) (Or.inr ⟨rfl, rfl⟩) (by assumption) ?_
    (try simp only [Act.put, List.setIfInBounds_toArray, List.set_cons_zero, List.set_cons_succ])
    refine wpAnyH_take (i := 13) (v := (.bool false)) (op_at rfl) (by kernel_rfl) (by kernel_rfl) (by kernel_rfl) (fun _ _ _ h => h) (Or.inl ⟨rfl, fun w hSw => ?_⟩) (by assumption) ?_
    · (try dsimp only at hSw); go_simp; try with_reducible rfl
    (try simp only [Act.put, List.setIfInBounds_toArray, List.set_cons_zero, List.set_cons_succ])
    refine wpAnyH_take (i := 14) (v := (.bool false)) (op_at rfl) (by kernel_rfl) (by kernel_rfl) (by kernel_rfl) (fun _ _ _ h => h) (Or.inl ⟨rfl, fun w hSw => ?_⟩) (by assumption) ?_
    · (try dsimp only at hSw); go_simp; try with_reducible rfl
    (try simp only [Act.put, List.setIfInBounds_toArray, List.set_cons_zero, List.set_cons_succ])
    refine wpAnyH_done (by kernel_rfl) ?_ _
    go_wp2_with fail
    go_ret
    exact ⟨by rw [HA2.out]; rfl, g⟩
end Go.Proofs.YtimbcjldejifaaaGreatDoor
namespace Go.Proofs.YtimbcjldejifaaaGreatDoor
open Go.RowKit Go.Lib
set_option linter.unusedSimpArgs false
set_option linter.unusedVariables false
theorem errFrom_zero {xs : List OpR} : ∀ (k i : Nat), xs.length = i + k → errFrom xs k i = 0 → ∀ j x, i ≤ j → xs[j]? = some x → errAt xs j x = 0
  | 0, i, hk, _, j, x, hij, hx => by
    have := (List.getElem?_eq_some_iff.1 hx).1
    omega
  | k + 1, i, hk, h, j, x, hij, hx => by
    obtain ⟨y, hy⟩ : ∃ y, xs[i]? = some y := ⟨xs[i]'(by omega), List.getElem?_eq_getElem _⟩
    simp only [errFrom, hy] at h
    by_cases he : errAt xs i y = 0
    · rw [if_pos he] at h
      by_cases hj : j = i
      · subst hj
        rw [hy] at hx
        cases hx
        exact he
      · exact errFrom_zero k (i + 1) (by omega) h j x (by omega) hx
    · rw [if_neg he] at h
      exact absurd h he
/-- what is known of climbers without an error -/
structure OkR (xs : List OpR) : Prop where
  len0 : 0 < xs.length
  len : xs.length ≤ 160
  ends : ∀ (j : Nat) (x : OpR), xs[j]? = some x → 0 ≤ x.lo ∧ x.lo ≤ x.hi ∧ x.hi ≤ 99999
theorem ok_of {xs : List OpR} (h : openE xs = 0) : OkR xs := by
  unfold openE at h
  by_cases h0 : xs.length = 0
  · rw [if_pos h0] at h; cases h
  rw [if_neg h0] at h
  by_cases h1 : 160 < xs.length
  · rw [if_pos h1] at h; cases h
  rw [if_neg h1] at h
  refine ⟨by omega, by omega, fun j x hx => ?_⟩
  have := errFrom_zero _ 0 (by omega) h j x (Nat.zero_le _) hx
  rw [errAt_eq] at this
  split at this
  · cases this
  split at this
  · cases this
  split at this
  · cases this
  rename_i hb
  split at this
  · cases this
  rename_i ho
  simp only [Bool.or_eq_true, decide_eq_true_eq, not_or] at hb ho
  omega
/-- the error of a climber's number -/
def climbE (cl n : Int) : Int := if cl < 0 ∨ n ≤ cl then 10 else 0
theorem climb_c (cl n : Int) (w : World) : Calls Tryz.prog 21 #[.int .i64 cl, .int .i64 n] w fun e w' => e = .returned (.int .i64 (climbE cl n)) ∧ w = w' := by
  have HT := Lib.hid (fun b => if_c b 10 w)
  by_cases h0 : cl < 0
  · have HE : Hid (climbE cl n = 10) := by unfold Hid climbE; rw [if_pos (Or.inl h0)]
    go_enter Tryz.func21, Tryz.ntmps21
    go_wp2_with fail
    refine (HT.out _).mono ?_
    rintro e w1 ⟨rfl, rfl⟩
    go_wp2_with fail
    go_ret
    exact ⟨by rw [HE.out]; rfl, rfl⟩
  · by_cases h1 : n ≤ cl
    · have HE : Hid (climbE cl n = 10) := by unfold Hid climbE; rw [if_pos (Or.inr h1)]
      go_enter Tryz.func21, Tryz.ntmps21
      go_wp2_with fail
      refine (HT.out _).mono ?_
      rintro e w1 ⟨rfl, rfl⟩
      go_wp2_with fail
      go_ret
      exact ⟨by rw [HE.out]; rfl, rfl⟩
    · have HE : Hid (climbE cl n = 0) := by unfold Hid climbE; rw [if_neg (by omega)]
      go_enter Tryz.func21, Tryz.ntmps21
      go_wp2_with fail
      refine (HT.out _).mono ?_
      rintro e w1 ⟨rfl, rfl⟩
      go_wp2_with fail
      go_ret
      exact ⟨by rw [HE.out]; rfl, rfl⟩
/-- the error of a call of Ranks -/
def ranksE (xs : List OpR) (cl : Int) : Int := firstE [openE xs, climbE cl xs.length]
set_option maxHeartbeats 1000000 in
set_option maxRecDepth 100000 in
theorem ranks_err {v : Value} {xs : List OpR} {w : World} (cl : Int) (h : OpsV w v xs) (hE : ranksE xs cl ≠ 0) :
    Calls Tryz.prog 7 #[v, .int .i64 cl] w fun e w' => e = .returned (.tuple #[.slice none 0 0, .int .i64 (ranksE xs cl)]) ∧ Gr w w' := by
  obtain ⟨p, cap, rfl⟩ := opsV_slice h
  have HO := Lib.hid (checkOpen_c h)
  have HC := Lib.hid (fun W => climb_c cl xs.length W)
  have HF := Lib.hid (fun b cap W => first_pair (openE xs) (climbE cl xs.length) b cap W)
  have HR : Hid (ranksE xs cl = firstE [openE xs, climbE cl xs.length]) := rfl
  rw [← HR.out] at HF
  clear HR h
  generalize ranksE xs cl = E at *
  generalize openE xs = e1 at *
  generalize climbE cl xs.length = e2 at *
  generalize xs.length = n at *
  have hz : (E == 0) = false := beq_eq_false_iff_ne.2 hE
  go_enter Tryz.func7, Tryz.ntmps7
  go_wp2_with fail
  refine HO.out.mono ?_
  rintro e w1 ⟨rfl, g⟩
  go_wp2_with fail
  refine (HC.out _).mono ?_
  rintro e w2 ⟨rfl, rfl⟩
  obtain ⟨W, hW, g2, a0, a1⟩ := box2 w1 (.int .i64 e1) (.int .i64 e2) 34
  have HT := Lib.hid (HF.out w1.heap.size 2 W a0 a1)
  have HW := Lib.hid hW
  clear HF hW a0 a1
  go_wp2_with fail
  rw [HW.out]
  refine HT.out.mono ?_
  rintro e w3 ⟨rfl, rfl⟩
  go_wp2_with fail
  exact bodyPost_ret (v := .tuple #[.slice none 0 0, .int .i64 E]) (by simp [results, Tryz.results7, go_sem]) rfl ⟨rfl, g.trans g2⟩
/-- what is owned stays so -/
theorem own_gr {w w' : World} {base n size : Nat} {T : TypeId} {v : Value} {l : List Value} (h : w.ownsRow base T size v n l) (g : Gr w w') : w'.ownsRow base T size v n l :=
  h.kept (row := none) ⟨g.os, g.tape, g.output, g.size, fun k hk _ => Below.block g k hk⟩ (Classical.em _)
set_option maxHeartbeats 1000000 in
set_option maxRecDepth 100000 in
theorem ranks_ok (hS : SortOK) {v : Value} {xs : List OpR} {w : World} (cl : Nat) (x : OpR) (h : OpsV w v xs) (hx : xs[cl]? = some x) (hE : ranksE xs cl = 0) (h1 : xs.length ≤ 160) (hlh : x.lo ≤ x.hi) :
    Calls Tryz.prog 7 #[v, .int .i64 cl] w fun e w' => ∃ u, e = .returned (.tuple #[u, .int .i64 0]) ∧ w'.ownsRow w.heap.size 3 1 u (ranksK xs cl x xs.length).length (ints (ranksK xs cl x xs.length)) ∧ Gr w w' := by
  have HAsk := Lib.hid (fun (r : Int) (W : World) (hW : Gr w W) => ask_c r (h.gr hW) (by omega) hx)
  have HIs := Lib.hid (fun (u : Value) (r : Int) (W : World) (hu : OpsV W u (others xs cl)) (h0 : 1 ≤ r) (h9 : r ≤ 1000) => isPossible_c hS x hu (by unfold others; rw [List.length_append, List.length_take, List.length_drop]; omega) h0 h9)
  have HQ := Lib.hid (fun (r : Int) (h0 : 1 ≤ r) => poss_same xs cl x h0 hlh)
  obtain ⟨p, cap, rfl⟩ := opsV_slice h
  have HO := Lib.hid (checkOpen_c h)
  have HC := Lib.hid (fun W => climb_c cl xs.length W)
  have HF := Lib.hid (fun b cap W => first_pair (openE xs) (climbE cl xs.length) b cap W)
  have HR : Hid (ranksE xs cl = firstE [openE xs, climbE cl xs.length]) := rfl
  rw [← HR.out, hE] at HF
  unfold qV at HIs
  obtain ⟨i0, hi, hz0, hz1, hz2⟩ := info_parts info3
  clear HR h hE hx hlh
  generalize openE xs = e1 at *
  generalize climbE cl xs.length = e2 at *
  generalize hn : xs.length = n at *
  go_enter Tryz.func7, Tryz.ntmps7
  go_wp2_with fail
  refine HO.out.mono ?_
  rintro e w1 ⟨rfl, g⟩
  go_wp2_with fail
  refine (HC.out _).mono ?_
  rintro e w2 ⟨rfl, rfl⟩
  obtain ⟨W, hW, g2, a0, a1⟩ := box2 w1 (.int .i64 e1) (.int .i64 e2) 34
  have HT := Lib.hid (HF.out w1.heap.size 2 W a0 a1)
  have HW := Lib.hid hW
  have G0 := g.trans g2
  clear HF hW a0 a1 HO HC g g2
  go_wp2_with fail
  rw [HW.out]
  refine HT.out.mono ?_
  rintro e w3 ⟨rfl, rfl⟩
  clear HT HW
  go_wp2_with fail
  go_loopw [7, 23] (fun v i wr => ∃ k : Nat, k ≤ n ∧ i = .int .i64 k ∧ wr.ownsRow w.heap.size 3 1 v (ranksK xs cl x k).length (ints (ranksK xs cl x k)) ∧ Below w.heap.size w wr) (fun _ i _ => n - (intOf i).toNat)
  case atStart => exact ⟨0, Nat.zero_le _, rfl, World.ownsRow_nil _ _ _ _, G0⟩
  case round =>
    obtain ⟨k, hk, rfl, hown, hnx⟩ := hrel
    have hsize := hnx.size
    have hlen := ranksK_len xs cl x k
    have hq : ranksK xs cl x (k + 1) = ranksK xs cl x k ++ (if possB xs cl (k + 1) x then [((k + 1 : Nat) : Int)] else []) := rfl
    by_cases hkN : k < n
    · have hp := HAsk.out ((k : Int) + 1) wr hnx
      have hps := HQ.out ((k : Int) + 1) (by omega)
      have hkI : (k : Int) < n := by omega
      have hw : IntKind.i64.wrap ((k : Int) + 1) = k + 1 := by rw [IntKind.wrap_i64]; omega
      have HI2 := Lib.hid (fun u W hu => HIs.out u ((k : Int) + 1) W hu (by omega) (by omega))
      rw [← hps] at HI2
      clear hps
      have HPP := Lib.hid hp
      clear hp
      cases hb : possB xs cl ((k : Int) + 1) x
      · rw [hb] at hq HI2
        simp only [Bool.false_eq_true, if_false, List.append_nil] at hq
        have HQQ := Lib.hid hq
        clear hq hb
        go_wp2_with fail
        refine HPP.out.mono ?_
        rintro e w4 ⟨u, rfl, hu, hg⟩
        go_wp2_with fail
        refine (HI2.out u w4 hu).mono ?_
        rintro e w5 ⟨rfl, hg5⟩
        have hg6 := hg.trans hg5
        go_wp2_with fail
        go_roundw
        case rel => exact ⟨k + 1, by omega, by go_num, by rw [HQQ.out]; exact own_gr hown hg6, Below.trans hnx (Below.mono hg6 (by omega))⟩
        case measure => simp [intOf]; omega
      · rw [hb] at hq HI2
        simp only [if_true] at hq
        have HQQ := Lib.hid hq
        clear hq hb
        go_wp2_with fail
        refine HPP.out.mono ?_
        rintro e w4 ⟨u, rfl, hu, hg⟩
        go_wp2_with fail
        refine (HI2.out u w4 hu).mono ?_
        rintro e w5 ⟨rfl, hg5⟩
        have hg6 := hg.trans hg5
        have hown5 := own_gr hown hg6
        have hnx5 : Below w.heap.size w w5 := Below.trans hnx (Below.mono hg6 (by omega))
        have hsize5 := hnx5.size
        go_wp2_with (first
          | (at_builtin; refine wpList_append_own _ rfl _ _ 31 rfl w.heap.size 3 i0 (.int .i64 0) 1 8 Tryz.underlying31 hi hz0 hz1 hz2 rfl (by decide) _ _ _ rfl (hown5.alloc _) ⟨w5.heap.size, 0, none⟩ 1 1 [.int .i64 ((k : Int) + 1)] rfl rfl (cell_one_new _ _ _) (by intro u hu; simp at hu; subst hu; rfl) (by unfold maxLen; omega) (by omega) (by simp; omega) ?_; intro v1 w9 hown1 hgrow1 hnil1))
        go_roundw
        case rel =>
          exact ⟨k + 1, by omega, by go_num, by rw [HQQ.out]; simpa [ints] using hown1, (hnx5.alloc hsize5 _).grown hgrow1 (by simp; omega) (fun j hj => (hown5.lt j hj).1)⟩
        case measure => simp [intOf]; omega
    · have hkk : k = n := by omega
      subst hkk
      have hi2 : (k : Int) ≤ k := by omega
      go_wp2_with fail
      exact bodyPost_ret (v := .tuple #[_, .int .i64 0]) (by simp [results, Tryz.results7, go_sem]) rfl ⟨_, rfl, hown, hnx⟩
end Go.Proofs.YtimbcjldejifaaaGreatDoor
namespace Go.Proofs.YtimbcjldejifaaaGreatDoor
open Go.RowKit Go.Lib
set_option linter.unusedSimpArgs false
set_option linter.unusedVariables false
/-- how many are above a value -/
def cntI (v : Int) (ys : List Int) : Int := (ys.countP fun y => decide (v < y) : Nat)
theorem cntI_drop {v : Int} {ys : List Int} {i : Nat} {y : Int} (h : ys[i]? = some y) : cntI v (ys.drop i) = (if v < y then 1 else 0) + cntI v (ys.drop (i + 1)) := by
  obtain ⟨h1, rfl⟩ := List.getElem?_eq_some_iff.1 h
  unfold cntI
  rw [List.drop_eq_getElem_cons h1, List.countP_cons]
  split <;> simp_all <;> omega
/-- a value at a place is out of bounds -/
def outAt (xs : List OpR) (ys : List Int) (i : Nat) : Bool :=
  match xs[i]?, ys[i]? with
  | some x, some y => decide (y < x.lo) || decide (x.hi < y)
  | _, _ => false
/-- one of them is, from a place on -/
def outFrom (xs : List OpR) (ys : List Int) : Nat → Nat → Bool
  | 0, _ => false
  | k + 1, i => outAt xs ys i || outFrom xs ys k (i + 1)
/-- the error of witnesses, where their number is right -/
def witE (xs : List OpR) (ys : List Int) (v r : Int) : Int := if outFrom xs ys xs.length 0 then 3 else if 1 + cntI v ys = r then 0 else 21
theorem outFrom_step {xs : List OpR} {ys : List Int} {n i : Nat} {x : OpR} {y : Int} (hi : i < n) (hx : xs[i]? = some x) (hy : ys[i]? = some y) : outFrom xs ys (n - i) i = ((decide (y < x.lo) || decide (x.hi < y)) || outFrom xs ys (n - (i + 1)) (i + 1)) := by
  obtain ⟨k, hk⟩ : ∃ k, n - i = k + 1 := ⟨n - i - 1, by omega⟩
  rw [hk, show n - (i + 1) = k by omega]
  simp only [outFrom, outAt, hx, hy]
end Go.Proofs.YtimbcjldejifaaaGreatDoor
namespace Go.Proofs.YtimbcjldejifaaaGreatDoor
open Go.RowKit Go.Lib
set_option linter.unusedSimpArgs false
set_option linter.unusedVariables false
/-- the values that are made: the climber has T; as many others as asked have their high end, if that is above T and the low end is not -/
def witL (c : Nat) (T : Int) : List OpR → Nat → Int → List Int
  | [], _, _ => []
  | x :: xs, i, b => if i = c then T :: witL c T xs (i + 1) b else if (x.lo ≤ T ∧ T < x.hi) ∧ 0 < b then x.hi :: witL c T xs (i + 1) (b - 1) else x.lo :: witL c T xs (i + 1) b
theorem witL_len (c : Nat) (T : Int) : ∀ (xs : List OpR) (i : Nat) (b : Int), (witL c T xs i b).length = xs.length
  | [], _, _ => rfl
  | x :: xs, i, b => by
    unfold witL
    split
    · simp [witL_len c T xs (i + 1) b]
    · split
      · simp [witL_len c T xs (i + 1) (b - 1)]
      · simp [witL_len c T xs (i + 1) b]
/-- each lies within its bounds -/
theorem witL_in (c : Nat) (T : Int) : ∀ (xs : List OpR) (i : Nat) (b : Int) (j : Nat) (x : OpR) (y : Int), (∀ x ∈ xs, x.lo ≤ x.hi) → (∀ j x, xs[j]? = some x → i + j = c → x.lo ≤ T ∧ T ≤ x.hi) →
    xs[j]? = some x → (witL c T xs i b)[j]? = some y → x.lo ≤ y ∧ y ≤ x.hi
  | [], i, b, j, x, y, _, _, hx, _ => by simp at hx
  | x0 :: xs, i, b, j, x, y, hle, hT, hx, hy => by
    have hr : ∀ b', ∀ j', j = j' + 1 → (witL c T xs (i + 1) b')[j']? = some y → x.lo ≤ y ∧ y ≤ x.hi := fun b' j' hj hy' => by
      subst hj
      refine witL_in c T xs (i + 1) b' j' x y (fun z hz => hle z (by simp [hz])) (fun k z hz hk => hT (k + 1) z (by simpa using hz) (by omega)) (by simpa using hx) hy'
    have h0 := hle x0 (by simp)
    unfold witL at hy
    split at hy
    · rename_i hc
      rcases j with _ | j
      · simp at hx hy
        subst hx hy
        exact hT 0 _ rfl (by omega)
      · exact hr b j rfl (by simpa using hy)
    · split at hy
      · rcases j with _ | j
        · simp at hx hy
          subst hx hy
          omega
        · exact hr (b - 1) j rfl (by simpa using hy)
      · rcases j with _ | j
        · simp at hx hy
          subst hx hy
          omega
        · exact hr b j rfl (by simpa using hy)
theorem witL_at (c : Nat) (T : Int) : ∀ (xs : List OpR) (i : Nat) (b : Int) (j : Nat), j < xs.length → i + j = c → (witL c T xs i b)[j]? = some T
  | [], i, b, j, h, _ => by simp at h
  | x0 :: xs, i, b, j, h, hc => by
    unfold witL
    rcases j with _ | j
    · rw [if_pos (by omega)]; rfl
    · have h1 := fun b' => witL_at c T xs (i + 1) b' j (by simpa using h) (by omega)
      rw [if_neg (by omega)]
      split <;> simp [h1]
/-- others that may be above or not -/
def freP (c T : Int) (i : Nat) (x : OpR) : Bool := !((i : Int) == c) && (decide (x.lo ≤ T) && decide (T < x.hi))
theorem per_split (c T : Int) : ∀ (xs : List OpR) (i : Nat), (∀ x ∈ xs, x.lo ≤ x.hi) → cnt (perP c T) xs i = cnt (surP c T) xs i + cnt (freP c T) xs i
  | [], _, _ => rfl
  | x :: xs, i, h => by
    have h1 := per_split c T xs (i + 1) (fun z hz => h z (by simp [hz]))
    have h0 := h x (by simp)
    have h2 : (if perP c T i x = true then (1 : Int) else 0) = (if surP c T i x = true then 1 else 0) + (if freP c T i x = true then 1 else 0) := by
      unfold perP surP freP
      rcases Bool.eq_false_or_eq_true ((i : Int) == c) with e | e
      · simp [e]
      · simp only [e, Bool.not_false, Bool.true_and]
        by_cases a1 : T < x.lo
        · rw [decide_eq_true a1, decide_eq_true (show T < x.hi by omega), decide_eq_false (show ¬ x.lo ≤ T by omega)]; rfl
        · rw [decide_eq_false a1, decide_eq_true (show x.lo ≤ T by omega)]
          by_cases a2 : T < x.hi
          · rw [decide_eq_true a2]; rfl
          · rw [decide_eq_false a2]; rfl
    simp only [cnt]
    omega
theorem cntI_cons (v y : Int) (ys : List Int) : cntI v (y :: ys) = (if v < y then 1 else 0) + cntI v ys := by
  unfold cntI
  rw [List.countP_cons]
  split <;> simp_all <;> omega
theorem witL_count (c : Nat) (T : Int) : ∀ (xs : List OpR) (i : Nat) (b : Int), 0 ≤ b → b ≤ cnt (freP c T) xs i → cntI T (witL c T xs i b) = cnt (surP c T) xs i + b
  | [], i, b, h0, h1 => by
    simp only [cnt] at h1
    simp [witL, cnt, cntI]
    omega
  | x :: xs, i, b, h0, h1 => by
    have hf := (cnt_le (freP c T) xs (i + 1)).1
    have ih := witL_count c T xs (i + 1)
    simp only [cnt] at h1 ⊢
    unfold witL
    by_cases hc : i = c
    · rw [if_pos hc, cntI_cons, if_neg (by omega)]
      have e : ((i : Int) == (c : Int)) = true := by simp [hc]
      have e1 : surP c T i x = false := by simp [surP, e]
      have e2 : freP c T i x = false := by simp [freP, e]
      rw [e2] at h1
      rw [e1, ih b h0 (by simpa using h1)]
      simp
    · have e : ((i : Int) == (c : Int)) = false := beq_eq_false_iff_ne.2 (by omega)
      rw [if_neg hc]
      by_cases hq : (x.lo ≤ T ∧ T < x.hi) ∧ 0 < b
      · have e1 : surP c T i x = false := by simp [surP, e]; omega
        have e2 : freP c T i x = true := by simp [freP, e, hq.1.1, hq.1.2]
        rw [e2] at h1
        simp only [if_true] at h1
        rw [if_pos hq, cntI_cons, if_pos hq.1.2, e1, ih (b - 1) (by omega) (by omega)]
        simp
        omega
      · rw [if_neg hq, cntI_cons]
        by_cases hl : T < x.lo
        · have e1 : surP c T i x = true := by simp [surP, e, hl]
          have e2 : freP c T i x = false := by simp [freP, e]; omega
          rw [e2] at h1
          rw [if_pos hl, e1, ih b h0 (by simpa using h1)]
          simp
          omega
        · have e1 : surP c T i x = false := by simp [surP, e]; omega
          have hb : freP c T i x = true → b = 0 := fun hp => by
            simp [freP, e] at hp
            omega
          rw [if_neg hl, e1]
          rcases Bool.eq_false_or_eq_true (freP c T i x) with e2 | e2
          · have := hb e2
            rw [ih b h0 (by omega)]
            simp
          · rw [e2] at h1
            rw [ih b h0 (by simpa using h1)]
            simp
theorem outFrom_none {xs : List OpR} {ys : List Int} (h : ∀ (j : Nat) (x : OpR) (y : Int), xs[j]? = some x → ys[j]? = some y → x.lo ≤ y ∧ y ≤ x.hi) : ∀ (k i : Nat), outFrom xs ys k i = false
  | 0, _ => rfl
  | k + 1, i => by
    simp only [outFrom]
    rw [outFrom_none h k (i + 1), Bool.or_false]
    unfold outAt
    split
    · rename_i x y hx hy
      have := h i x y hx hy
      rw [decide_eq_false (by omega), decide_eq_false (by omega)]; rfl
    · rfl
/-- the values that are made are witnesses -/
theorem wit_good (xs : List OpR) (cl : Nat) (x : OpR) (r : Int) (hx : xs[cl]? = some x) (hle : ∀ (j : Nat) (x : OpR), xs[j]? = some x → x.lo ≤ x.hi) (hr : 1 ≤ r) (hp : possB xs cl r x = true) :
    witE xs (witL cl (turnV x.lo (others xs cl) r) xs 0 (r - 1 - cntV (fun y => y.lo) (turnV x.lo (others xs cl) r) (others xs cl))) (turnV x.lo (others xs cl) r) r = 0 := by
  have hl0 := hle cl x hx
  rw [poss_same xs cl x hr hl0] at hp
  unfold isPoss at hp
  simp only [Bool.and_eq_true, decide_eq_true_eq] at hp
  obtain ⟨hp1, hp2⟩ := hp
  have ht := turn_ge x.lo (others xs cl) r
  have hs := (turn_iff (ys := others xs cl) hr ht).2 (Int.le_refl _)
  generalize turnV x.lo (others xs cl) r = T at *
  have hmem : ∀ z ∈ xs, z.lo ≤ z.hi := fun z hz => by
    obtain ⟨j, hj, rfl⟩ := List.getElem_of_mem hz
    exact hle j _ (List.getElem?_eq_getElem hj)
  have hsp := per_split cl T xs 0 hmem
  rw [sur_others, per_others] at hsp
  have hcount := witL_count cl T xs 0 (r - 1 - cntV (fun y => y.lo) T (others xs cl)) (by omega) (by omega)
  rw [sur_others] at hcount
  unfold witE
  rw [outFrom_none (fun j x' y hx' hy => witL_in cl T xs 0 _ j x' y hmem (fun k z hz hk => by
    have : k = cl := by omega
    subst this
    rw [hx] at hz
    cases hz
    exact ⟨ht, hp1⟩) hx' hy), hcount]
  simp
  omega
end Go.Proofs.YtimbcjldejifaaaGreatDoor
