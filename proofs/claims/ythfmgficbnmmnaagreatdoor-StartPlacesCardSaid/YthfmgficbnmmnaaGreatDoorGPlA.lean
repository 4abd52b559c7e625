/- Places: duels. -/
import Derived.Test.YthfmgficbnmmnaaGreatDoorRdM
import Derived.Laws.RangeAny
import Derived.Deep.LoopGhost
import Derived.Deep.DrawnRows
import Derived.Deep.RegionHeld3
import Derived.BigRegion
import Derived.BigQuiet
namespace Go.Proofs.YthfmgficbnmmnaaGreatDoor
open Go.RowKit Go.Lib
set_option linter.unusedSimpArgs false
set_option linter.unusedVariables false
theorem outside_c (n l h : Int) (w : World) :
    Calls Tryz.prog 44 #[.int .i64 n, .int .i64 l, .int .i64 h] w fun e w' => e = .returned (.int .i64 (outE n l h)) ∧ w = w' := by
  cases h1 : decide (n < l)
  · cases h2 : decide (h < n)
    · have HE : Hid (outE n l h = 0) := by unfold Hid outE outB; rw [h1, h2]; rfl
      go_enter Tryz.func44, Tryz.ntmps44
      go_wp2_with fail
      go_ret
      exact ⟨by rw [HE.out]; rfl, rfl⟩
    · have HE : Hid (outE n l h = 3) := by unfold Hid outE outB; rw [h1, h2]; rfl
      go_enter Tryz.func44, Tryz.ntmps44
      go_wp2_with fail
      go_ret
      exact ⟨by rw [HE.out]; rfl, rfl⟩
  · have HE : Hid (outE n l h = 3) := by unfold Hid outE outB; rw [h1]; rfl
    go_enter Tryz.func44, Tryz.ntmps44
    go_wp2_with fail
    go_ret
    exact ⟨by rw [HE.out]; rfl, rfl⟩
theorem checkTime_c (n : Int) (w : World) :
    Calls Tryz.prog 83 #[.int .i64 n] w fun e w' => e = .returned (.int .i64 (outE n 0 86399999)) ∧ w = w' := by
  have HR := Lib.hid (fun W => range_c n 0 86399999 W)
  go_enter Tryz.func83, Tryz.ntmps83
  go_wp2_with fail
  refine (HR.out _).mono ?_
  rintro e w4 ⟨rfl, rfl⟩
  go_wp2_with fail
  go_ret
  exact ⟨rfl, rfl⟩
theorem isFalse_c (r t : Int) (w : World) :
    Calls Tryz.prog 84 #[.agg #[.int .i64 r, .int .i64 t]] w fun e w' => e = .returned (.bool (decide (r < 100))) ∧ Gr w w' := by
  go_enter Tryz.func84, Tryz.ntmps84
  go_wp2_with fail
  go_ret
  exact ⟨rfl, by repeat first | exact Gr.refl _ | refine Gr.alloc ?_ _⟩
theorem isFall_c (r t : Int) (w : World) :
    Calls Tryz.prog 85 #[.agg #[.int .i64 r, .int .i64 t]] w fun e w' => e = .returned (.bool (t == 0)) ∧ Gr w w' := by
  go_enter Tryz.func85, Tryz.ntmps85
  go_wp2_with fail
  go_ret
  exact ⟨rfl, by repeat first | exact Gr.refl _ | refine Gr.alloc ?_ _⟩
/-- whether a run is one -/
def runOk (r t : Int) : Bool := outE r 0 86399999 == 0 && outE t 0 86399999 == 0
set_option maxHeartbeats 1000000 in
set_option maxRecDepth 100000 in
theorem checkRun_c (r t : Int) (w : World) :
    Calls Tryz.prog 10 #[.agg #[.int .i64 r, .int .i64 t]] w fun e w' => e = .returned (.int .i64 (if runOk r t then 0 else 3)) ∧ Gr w w' := by
  have H1 : ∀ W, _ := fun W => outside_c r 0 86399999 W
  have H2 : ∀ W, _ := fun W => outside_c t 0 86399999 W
  obtain ⟨W, hW, g, a0, a1⟩ := box2 w (.int .i64 r) (.int .i64 t) 36
  have HW := Lib.hid hW
  clear hW
  have hR : runOk r t = (outE r 0 86399999 == 0 && outE t 0 86399999 == 0) := rfl
  rcases outE_or r 0 86399999 with h1 | h1 <;> rcases outE_or t 0 86399999 with h2 | h2
  all_goals
    rw [h1] at H1 hR
    rw [h2] at H2 hR
    rw [hR]
    replace H1 := Lib.hid H1
    replace H2 := Lib.hid H2
    clear hR h1 h2
    go_enter Tryz.func10, Tryz.ntmps10
    go_wp2_with fail
    rw [HW.out]
    go_quiet ((go_at_call 44; first | with_reducible exact quietE (H1.out _) | with_reducible exact quietE (H2.out _)))
    go_wp2_with fail
    go_ret
    exact ⟨rfl, g.drewN _⟩
theorem first_two (x y : Int) (b cap : Nat) (w : World) (hx : w.cell? ⟨b, 0, none⟩ = some (.int .i64 x)) (hy : w.cell? ⟨b, 1, none⟩ = some (.int .i64 y)) :
    Calls Tryz.prog 41 #[.slice (some ⟨b, 0, none⟩) 2 cap] w fun e w' => e = .returned (.int .i64 (if x = 0 then y else x)) ∧ w = w' := by
  have := first_c0 b 2 cap [x, y] w rfl (fun i v h => by
    rcases i with _ | _ | i <;> simp at h <;> subst h <;> assumption) (by omega)
  simp only [firstE] at this
  have e : (if y = 0 then (0 : Int) else y) = y := by split <;> simp_all
  rw [e] at this
  exact this
set_option maxHeartbeats 1000000 in
set_option maxRecDepth 100000 in
theorem runCheck_ok (r t : Int) (w : World) (hr : outE r 0 86399999 = 0) (ht : outE t 0 86399999 = 0) :
    Calls Tryz.prog 42 #[.agg #[.int .i64 r, .int .i64 t]] w fun e w' => e = .returned (.int .i64 0) ∧ Gr w w' := by
  have H1 : ∀ W, _ := fun W => checkTime_c r W
  have H2 : ∀ W, _ := fun W => checkTime_c t W
  rw [hr] at H1
  rw [ht] at H2
  replace H1 := Lib.hid H1
  replace H2 := Lib.hid H2
  obtain ⟨W, hW, g, a0, a1⟩ := box2 w (.int .i64 r) (.int .i64 t) 24
  have HW := Lib.hid hW
  clear hW hr ht
  go_enter Tryz.func42, Tryz.ntmps42
  go_wp2_with fail
  rw [HW.out]
  go_region_held3 (fun w' => w'.cell? ⟨w.heap.size, 0, none⟩ = some (.int .i64 r) ∧ w'.cell? ⟨w.heap.size, 1, none⟩ = some (.int .i64 t))
    ((first | exact ⟨a0, a1⟩ | exact ⟨Gr.cell ((Gr.refl W).drew.alloc _) a0, Gr.cell ((Gr.refl W).drew.alloc _) a1⟩))
    ((first
    | (go_at_call 83; with_reducible refine (H1.out _).mono ?_; rintro e w' ⟨rfl, rfl⟩)
    | (go_at_call 83; with_reducible refine (H2.out _).mono ?_; rintro e w' ⟨rfl, rfl⟩)
    | (go_at_call 41; refine (first_two 0 0 _ _ _ (by exact cell_new W.drew #[.int .i64 0, .int .i64 0] _ 0 (by simp)) (by exact cell_new W.drew #[.int .i64 0, .int .i64 0] _ 1 (by simp))).mono ?_; rintro e w' ⟨rfl, rfl⟩)))
  go_wp2_with fail
  go_ret
  exact ⟨rfl, (g.alloc _).drew⟩
theorem isNaN_c (x : Int) (w : World) :
    Calls Tryz.prog 118 #[.int .i64 x] w fun e w' => e = .returned (.bool false) ∧ w = w' := by
  go_enter Tryz.func118, Tryz.ntmps118
  go_wp2_with fail
  go_ret
  exact ⟨by simp, rfl⟩
/-- the order of two integers -/
def cmpE (x y : Int) : Int := if x < y then -1 else if y < x then 1 else 0
set_option maxHeartbeats 1000000 in
theorem compare_c (x y : Int) (w : World) :
    Calls Tryz.prog 74 #[.int .i64 x, .int .i64 y] w fun e w' => e = .returned (.int .i64 (cmpE x y)) ∧ w = w' := by
  have HX := Lib.hid (fun W => isNaN_c x W)
  have HY := Lib.hid (fun W => isNaN_c y W)
  by_cases h1 : x < y
  · have HE : Hid (cmpE x y = -1) := if_pos h1
    have hd : decide (x < y) = true := by simpa using h1
    go_enter Tryz.func74, Tryz.ntmps74
    go_wp2_with fail
    refine (HX.out _).mono ?_
    rintro e w4 ⟨rfl, rfl⟩
    go_wp2_with fail
    refine (HY.out _).mono ?_
    rintro e w4 ⟨rfl, rfl⟩
    go_wp2_with fail
    go_ret
    exact ⟨by rw [HE.out]; rfl, rfl⟩
  · have hd : decide (x < y) = false := by simpa using h1
    by_cases h2 : y < x
    · have HE : Hid (cmpE x y = 1) := by unfold Hid cmpE; rw [if_neg h1, if_pos h2]
      have hd2 : decide (y < x) = true := by simpa using h2
      go_enter Tryz.func74, Tryz.ntmps74
      go_wp2_with fail
      refine (HX.out _).mono ?_
      rintro e w4 ⟨rfl, rfl⟩
      go_wp2_with fail
      refine (HY.out _).mono ?_
      rintro e w4 ⟨rfl, rfl⟩
      go_wp2_with fail
      go_ret
      exact ⟨by rw [HE.out]; rfl, rfl⟩
    · have HE : Hid (cmpE x y = 0) := by unfold Hid cmpE; rw [if_neg h1, if_neg h2]
      have hd2 : decide (y < x) = false := by simpa using h2
      go_enter Tryz.func74, Tryz.ntmps74
      go_wp2_with fail
      refine (HX.out _).mono ?_
      rintro e w4 ⟨rfl, rfl⟩
      go_wp2_with fail
      refine (HY.out _).mono ?_
      rintro e w4 ⟨rfl, rfl⟩
      go_wp2_with fail
      go_ret
      exact ⟨by rw [HE.out]; rfl, rfl⟩
theorem or_c0 (b n cap : Nat) (es : List Int) (w : World) (hn : es.length = n) (hc : ∀ i x, es[i]? = some x → w.cell? ⟨b, i, none⟩ = some (.int .i64 x)) (hs : n ≤ 1000) :
    Calls Tryz.prog 86 #[.slice (some ⟨b, 0, none⟩) n cap] w fun e w' => e = .returned (.int .i64 (firstE es)) ∧ w = w' := by
  have HN := Lib.hid hn
  have HC := Lib.hid hc
  clear hc
  go_enter Tryz.func86, Tryz.ntmps86
  go_wp2_with fail
  go_loopg [8] n (fun g s7 wr => ∃ k : Nat, s7 = .int .i64 k ∧ g + k = n ∧ wr = w ∧ Hid (firstE (es.drop k) = firstE es))
  case atStart => exact ⟨0, rfl, by omega, rfl, by simp [Hid]⟩
  case round =>
    obtain ⟨k, rfl, hk, rfl, HF⟩ := hrel
    by_cases hlt : k < n
    · obtain ⟨x, hx⟩ : ∃ x, es[k]? = some x := ⟨es[k]'(by omega), List.getElem?_eq_getElem (by omega)⟩
      have hcell := HC.out k x hx
      have hf := firstE_drop hx
      by_cases h0 : x = 0
      · subst h0
        rw [if_pos rfl] at hf
        have HF2 := Lib.hid hf
        clear hf hx
        go_wp2_with fail
        go_roundg (gk - 1)
        case measure => omega
        case rel => exact ⟨k + 1, by go_num, by omega, rfl, by unfold Hid; rw [← HF2.out, HF.out]⟩
      · rw [if_neg h0] at hf
        have HF2 := Lib.hid hf
        have h1 : (x == 0) = false := by simpa using h0
        have h2 : (x != 0) = true := by simpa [bne] using h1
        clear hf hx h0
        go_wp2_with fail
        go_ret
        exact ⟨by rw [← HF.out, HF2.out]; rfl, rfl⟩
    · have : es.drop k = [] := List.drop_of_length_le (by omega)
      have HE : Hid (firstE es = 0) := by unfold Hid; rw [← HF.out, this]; rfl
      clear this
      go_wp2_with fail
      go_ret
      exact ⟨by rw [HE.out]; rfl, rfl⟩
theorem or_two (x y : Int) (b cap : Nat) (w : World) (hx : w.cell? ⟨b, 0, none⟩ = some (.int .i64 x)) (hy : w.cell? ⟨b, 1, none⟩ = some (.int .i64 y)) :
    Calls Tryz.prog 86 #[.slice (some ⟨b, 0, none⟩) 2 cap] w fun e w' => e = .returned (.int .i64 (firstE [x, y])) ∧ w = w' :=
  or_c0 b 2 cap [x, y] w rfl (fun i v h => by
    rcases i with _ | _ | i <;> simp at h <;> subst h <;> assumption) (by omega)
theorem two_new0 (W : World) (x y : Value) (T : Nat) : ((W.alloc (.cells #[x, y] T)).drew).cell? ⟨W.heap.size, 0, none⟩ = some x := cell_new W #[x, y] T 0 (by simp)
theorem two_new1 (W : World) (x y : Value) (T : Nat) : ((W.alloc (.cells #[x, y] T)).drew).cell? ⟨W.heap.size, 1, none⟩ = some y := cell_new W #[x, y] T 1 (by simp)
theorem two_newD0 (W : World) (x y : Value) (T : Nat) : (W.drew.alloc (.cells #[x, y] T)).cell? ⟨W.heap.size, 0, none⟩ = some x := cell_new W.drew #[x, y] T 0 (by simp)
theorem two_newD1 (W : World) (x y : Value) (T : Nat) : (W.drew.alloc (.cells #[x, y] T)).cell? ⟨W.heap.size, 1, none⟩ = some y := cell_new W.drew #[x, y] T 1 (by simp)
theorem box22 (w : World) (a0 a1 b0 b1 : Value) (T U : Nat) : ∃ W, (w.alloc (.cells #[a0, a1] T)).alloc (.cells #[b0, b1] U) = W ∧ Gr w W ∧ W.cell? ⟨w.heap.size, 0, none⟩ = some a0 ∧ W.cell? ⟨w.heap.size, 1, none⟩ = some a1 ∧
    W.cell? ⟨w.heap.size + 1, 0, none⟩ = some b0 ∧ W.cell? ⟨w.heap.size + 1, 1, none⟩ = some b1 := by
  obtain ⟨W, rfl, g, a, b⟩ := box2 w a0 a1 T
  obtain ⟨W2, h2, g2, c, d⟩ := box2 (w.alloc (.cells #[a0, a1] T)) b0 b1 U
  have e : (w.alloc (.cells #[a0, a1] T)).heap.size = w.heap.size + 1 := by simp
  rw [e] at c d
  exact ⟨W2, h2, g.trans g2, g2.cell a, g2.cell b, c, d⟩
/-- who wins -/
def duelB (fa fb la lb : Bool) (c : Int) : Int :=
  match fa, fb, la, lb with
  | true, true, _, _ => 3
  | true, false, _, _ => 2
  | false, true, _, _ => 1
  | false, false, true, true => 0
  | false, false, true, false => 2
  | false, false, false, true => 1
  | false, false, false, false => if c = -1 then 1 else if c = 1 then 2 else 0
def duelE (r t r2 t2 : Int) : Int := duelB (decide (r < 100)) (decide (r2 < 100)) (t == 0) (t2 == 0) (firstE [cmpE t t2, cmpE r r2])
set_option maxHeartbeats 4000000 in
set_option maxRecDepth 100000 in
theorem duel_c (r t r2 t2 : Int) (w : World) :
    Calls Tryz.prog 43 #[.agg #[.int .i64 r, .int .i64 t], .agg #[.int .i64 r2, .int .i64 t2]] w fun e w' => e = .returned (.int .i64 (duelE r t r2 t2)) ∧ Gr w w' := by
  obtain ⟨W, hW, g, a0, a1, b0, b1⟩ := box22 w (.int .i64 r) (.int .i64 t) (.int .i64 r2) (.int .i64 t2) 24 24
  have HW := Lib.hid hW
  have HA : ∀ W, _ := fun W => isFalse_c r t W
  have HB : ∀ W, _ := fun W => isFalse_c r2 t2 W
  have HC : ∀ W, _ := fun W => isFall_c r t W
  have HD : ∀ W, _ := fun W => isFall_c r2 t2 W
  have HT := Lib.hid (fun W => compare_c t t2 W)
  have HR := Lib.hid (fun W => compare_c r r2 W)
  have hE : duelE r t r2 t2 = duelB (decide (r < 100)) (decide (r2 < 100)) (t == 0) (t2 == 0) (firstE [cmpE t t2, cmpE r r2]) := rfl
  rw [hE]
  generalize decide (r < 100) = fa at *
  generalize decide (r2 < 100) = fb at *
  generalize (t == 0) = la at *
  generalize (t2 == 0) = lb at *
  clear hE hW
  replace HA := Lib.hid HA
  replace HB := Lib.hid HB
  replace HC := Lib.hid HC
  replace HD := Lib.hid HD
  cases fa
  case true =>
    cases fb
    all_goals
      go_enter Tryz.func43, Tryz.ntmps43
      go_wp2_with fail
      rw [HW.out]
      repeat (first
        | (with_reducible refine (HA.out _).mono ?_; rintro e w4 ⟨rfl, hg⟩; replace g := g.trans hg; replace a0 := hg.cell a0; replace a1 := hg.cell a1; replace b0 := hg.cell b0; replace b1 := hg.cell b1; clear hg; go_wp2_with fail)
        | (with_reducible refine (HB.out _).mono ?_; rintro e w4 ⟨rfl, hg⟩; replace g := g.trans hg; replace a0 := hg.cell a0; replace a1 := hg.cell a1; replace b0 := hg.cell b0; replace b1 := hg.cell b1; clear hg; go_wp2_with fail))
      go_ret
      exact ⟨rfl, g⟩
  case false =>
    cases fb
    case true =>
      go_enter Tryz.func43, Tryz.ntmps43
      go_wp2_with fail
      rw [HW.out]
      repeat (first
        | (with_reducible refine (HA.out _).mono ?_; rintro e w4 ⟨rfl, hg⟩; replace g := g.trans hg; replace a0 := hg.cell a0; replace a1 := hg.cell a1; replace b0 := hg.cell b0; replace b1 := hg.cell b1; clear hg; go_wp2_with fail)
        | (with_reducible refine (HB.out _).mono ?_; rintro e w4 ⟨rfl, hg⟩; replace g := g.trans hg; replace a0 := hg.cell a0; replace a1 := hg.cell a1; replace b0 := hg.cell b0; replace b1 := hg.cell b1; clear hg; go_wp2_with fail)
        | (with_reducible refine (HC.out _).mono ?_; rintro e w4 ⟨rfl, hg⟩; replace g := g.trans hg; replace a0 := hg.cell a0; replace a1 := hg.cell a1; replace b0 := hg.cell b0; replace b1 := hg.cell b1; clear hg; go_wp2_with fail)
        | (with_reducible refine (HD.out _).mono ?_; rintro e w4 ⟨rfl, hg⟩; replace g := g.trans hg; replace a0 := hg.cell a0; replace a1 := hg.cell a1; replace b0 := hg.cell b0; replace b1 := hg.cell b1; clear hg; go_wp2_with fail))
      go_ret
      exact ⟨rfl, g⟩
    case false =>
      by_cases hl : la = true ∨ lb = true
      · cases la <;> cases lb <;> simp at hl
        all_goals
          go_enter Tryz.func43, Tryz.ntmps43
          go_wp2_with fail
          rw [HW.out]
          repeat (first
        | (with_reducible refine (HA.out _).mono ?_; rintro e w4 ⟨rfl, hg⟩; replace g := g.trans hg; replace a0 := hg.cell a0; replace a1 := hg.cell a1; replace b0 := hg.cell b0; replace b1 := hg.cell b1; clear hg; go_wp2_with fail)
        | (with_reducible refine (HB.out _).mono ?_; rintro e w4 ⟨rfl, hg⟩; replace g := g.trans hg; replace a0 := hg.cell a0; replace a1 := hg.cell a1; replace b0 := hg.cell b0; replace b1 := hg.cell b1; clear hg; go_wp2_with fail)
        | (with_reducible refine (HC.out _).mono ?_; rintro e w4 ⟨rfl, hg⟩; replace g := g.trans hg; replace a0 := hg.cell a0; replace a1 := hg.cell a1; replace b0 := hg.cell b0; replace b1 := hg.cell b1; clear hg; go_wp2_with fail)
        | (with_reducible refine (HD.out _).mono ?_; rintro e w4 ⟨rfl, hg⟩; replace g := g.trans hg; replace a0 := hg.cell a0; replace a1 := hg.cell a1; replace b0 := hg.cell b0; replace b1 := hg.cell b1; clear hg; go_wp2_with fail))
          go_ret
          exact ⟨rfl, g⟩
      · obtain ⟨rfl, rfl⟩ : la = false ∧ lb = false := by cases la <;> cases lb <;> simp at hl ⊢
        clear hl
        generalize cmpE t t2 = x at *
        generalize cmpE r r2 = y at *
        have HO := Lib.hid (or_two x y)
        generalize firstE [x, y] = c at *
        have tok : True := trivial
        go_enter Tryz.func43, Tryz.ntmps43
        go_wp2_with fail
        rw [HW.out]
        repeat (first
        | (with_reducible refine (HA.out _).mono ?_; rintro e w4 ⟨rfl, hg⟩; replace g := g.trans hg; replace a0 := hg.cell a0; replace a1 := hg.cell a1; replace b0 := hg.cell b0; replace b1 := hg.cell b1; clear hg; go_wp2_with fail)
        | (with_reducible refine (HB.out _).mono ?_; rintro e w4 ⟨rfl, hg⟩; replace g := g.trans hg; replace a0 := hg.cell a0; replace a1 := hg.cell a1; replace b0 := hg.cell b0; replace b1 := hg.cell b1; clear hg; go_wp2_with fail)
        | (with_reducible refine (HC.out _).mono ?_; rintro e w4 ⟨rfl, hg⟩; replace g := g.trans hg; replace a0 := hg.cell a0; replace a1 := hg.cell a1; replace b0 := hg.cell b0; replace b1 := hg.cell b1; clear hg; go_wp2_with fail)
        | (with_reducible refine (HD.out _).mono ?_; rintro e w4 ⟨rfl, hg⟩; replace g := g.trans hg; replace a0 := hg.cell a0; replace a1 := hg.cell a1; replace b0 := hg.cell b0; replace b1 := hg.cell b1; clear hg; go_wp2_with fail))
        go_region_held3 (fun w' => w'.cell? ⟨w.heap.size, 0, none⟩ = some (.int .i64 r) ∧ w'.cell? ⟨w.heap.size, 1, none⟩ = some (.int .i64 t) ∧ w'.cell? ⟨w.heap.size + 1, 0, none⟩ = some (.int .i64 r2) ∧ w'.cell? ⟨w.heap.size + 1, 1, none⟩ = some (.int .i64 t2))
          ((first | exact ⟨a0, a1, b0, b1⟩ | exact ⟨Gr.cell ((Gr.refl _).drew.alloc _) a0, Gr.cell ((Gr.refl _).drew.alloc _) a1, Gr.cell ((Gr.refl _).drew.alloc _) b0, Gr.cell ((Gr.refl _).drew.alloc _) b1⟩))
          ((first
          | (go_at_call 74; with_reducible refine (HT.out _).mono ?_; rintro e w' ⟨rfl, rfl⟩)
          | (go_at_call 74; with_reducible refine (HR.out _).mono ?_; rintro e w' ⟨rfl, rfl⟩)
          | (go_at_call 86; refine (HO.out _ _ _ (by first | exact two_new0 _ _ _ _ | exact two_newD0 _ _ _ _) (by first | exact two_new1 _ _ _ _ | exact two_newD1 _ _ _ _)).mono ?_; rintro e w' ⟨rfl, rfl⟩)))
        have hq : c = -1 ∨ c = 1 ∨ ((c == -1) = false ∧ (c == 1) = false) := by
          by_cases h1 : c = -1
          · exact .inl h1
          · by_cases h2 : c = 1
            · exact .inr (.inl h2)
            · exact .inr (.inr ⟨by simpa using h1, by simpa using h2⟩)
        rcases hq with rfl | rfl | ⟨h1, h2⟩
        · go_wp2_with fail
          go_ret
          exact ⟨rfl, (g.alloc _).drew⟩
        · go_wp2_with fail
          go_ret
          exact ⟨rfl, (g.alloc _).drew⟩
        · have HE : Hid (duelB false false false false c = 0) := by
            unfold Hid duelB
            rw [if_neg (by simpa using h1), if_neg (by simpa using h2)]
          go_wp2_with fail
          go_ret
          exact ⟨by rw [HE.out]; rfl, (g.alloc _).drew⟩
structure RunOk (r t : Int) : Prop where
  r : outE r 0 86399999 = 0
  t : outE t 0 86399999 = 0
set_option maxHeartbeats 4000000 in
set_option maxRecDepth 100000 in
theorem Duel_c (r t r2 t2 : Int) (h : RunOk r t) (h2 : RunOk r2 t2) (w : World) :
    Calls Tryz.prog 8 #[.agg #[.int .i64 r, .int .i64 t], .agg #[.int .i64 r2, .int .i64 t2]] w fun e w' => e = .returned (.tuple #[.int .i64 (duelE r t r2 t2), .int .i64 0]) ∧ Gr w w' := by
  obtain ⟨W, hW, g, a0, a1, b0, b1⟩ := box22 w (.int .i64 r) (.int .i64 t) (.int .i64 r2) (.int .i64 t2) 24 24
  have HW := Lib.hid hW
  have HA := Lib.hid (fun W => runCheck_ok r t W h.r h.t)
  have HB := Lib.hid (fun W => runCheck_ok r2 t2 W h2.r h2.t)
  have HD := Lib.hid (fun W => duel_c r t r2 t2 W)
  generalize duelE r t r2 t2 = d at *
  clear hW
  go_enter Tryz.func8, Tryz.ntmps8
  go_wp2_with fail
  rw [HW.out]
  go_region_held3 (fun w' => w'.cell? ⟨w.heap.size, 0, none⟩ = some (.int .i64 r) ∧ w'.cell? ⟨w.heap.size, 1, none⟩ = some (.int .i64 t) ∧ w'.cell? ⟨w.heap.size + 1, 0, none⟩ = some (.int .i64 r2) ∧ w'.cell? ⟨w.heap.size + 1, 1, none⟩ = some (.int .i64 t2))
    ((first | exact ⟨a0, a1, b0, b1⟩ | exact ⟨Gr.cell hgY a0, Gr.cell hgY a1, Gr.cell hgY b0, Gr.cell hgY b1⟩ | exact ⟨Gr.cell hgX a0, Gr.cell hgX a1, Gr.cell hgX b0, Gr.cell hgX b1⟩ | exact ⟨Gr.cell (hgY.drew.alloc _) a0, Gr.cell (hgY.drew.alloc _) a1, Gr.cell (hgY.drew.alloc _) b0, Gr.cell (hgY.drew.alloc _) b1⟩))
    ((first
    | (go_at_call 42; with_reducible refine (HA.out _).mono ?_; rintro e w' ⟨rfl, hgX⟩; replace hgX : Gr W w' := (Gr.refl W).drew.trans hgX)
    | (go_at_call 42; with_reducible refine (HB.out _).mono ?_; rintro e w' ⟨rfl, hgZ⟩; have hgY : Gr W w' := hgX.trans hgZ)
    | (go_at_call 41; refine (first_two 0 0 _ _ _ (by first | exact two_new0 _ _ _ _ | exact two_newD0 _ _ _ _) (by first | exact two_new1 _ _ _ _ | exact two_newD1 _ _ _ _)).mono ?_; rintro e w' ⟨rfl, rfl⟩)))
  obtain ⟨q0, q1, q2, q3⟩ : _ ∧ _ ∧ _ ∧ _ := by assumption
  have HG := Lib.hid (g.trans (hgY.alloc (.cells #[.int .i64 0, .int .i64 0] 31)))
  go_wp2_with fail
  with_reducible refine (HD.out _).mono ?_
  rintro e w4 ⟨rfl, hg4⟩
  go_wp2_with fail
  exact bodyPost_ret (v := .tuple #[.int .i64 d, .int .i64 0]) (by simp [results, Tryz.results8, go_sem]) rfl ⟨rfl, HG.out.trans hg4⟩
/-! ### what the law says of the winner -/
theorem runOk_iff {r t : Int} : runOk r t = true ↔ RunOk r t := by
  unfold runOk
  simp only [Bool.and_eq_true, beq_iff_eq]
  exact ⟨fun h => ⟨h.1, h.2⟩, fun h => ⟨h.r, h.t⟩⟩
theorem cmpE_cases (x y : Int) : (x < y ∧ cmpE x y = -1) ∨ (x = y ∧ cmpE x y = 0) ∨ (y < x ∧ cmpE x y = 1) := by
  unfold cmpE
  by_cases h1 : x < y
  · exact .inl ⟨h1, if_pos h1⟩
  · by_cases h2 : y < x
    · exact .inr (.inr ⟨h2, by rw [if_neg h1, if_pos h2]⟩)
    · exact .inr (.inl ⟨by omega, by rw [if_neg h1, if_neg h2]⟩)
end Go.Proofs.YthfmgficbnmmnaaGreatDoor
namespace Go.Proofs.YthfmgficbnmmnaaGreatDoor
open Go.RowKit Go.Lib
set_option linter.unusedSimpArgs false
set_option linter.unusedVariables false
/-- the error of a run -/
def runE (r t : Int) : Int := if runOk r t then 0 else 3
theorem runE_two (r t : Int) : (if outE r 0 86399999 = 0 then outE t 0 86399999 else outE r 0 86399999) = runE r t := by
  unfold runE runOk
  rcases outE_or r 0 86399999 with h1 | h1 <;> rcases outE_or t 0 86399999 with h2 | h2 <;> rw [h1, h2] <;> rfl
theorem runE_zero {r t : Int} (h : runE r t = 0) : RunOk r t := by
  unfold runE at h
  split at h
  · rename_i hk; exact runOk_iff.1 hk
  · cases h
set_option maxHeartbeats 1000000 in
set_option maxRecDepth 100000 in
theorem runCheck_e (r t : Int) (w : World) :
    Calls Tryz.prog 42 #[.agg #[.int .i64 r, .int .i64 t]] w fun e w' => e = .returned (.int .i64 (runE r t)) ∧ Gr w w' := by
  have H1 : ∀ W, _ := fun W => checkTime_c r W
  have H2 : ∀ W, _ := fun W => checkTime_c t W
  have HE := Lib.hid (runE_two r t)
  generalize outE r 0 86399999 = x at *
  generalize outE t 0 86399999 = y at *
  generalize runE r t = z at *
  replace H1 := Lib.hid H1
  replace H2 := Lib.hid H2
  have HF : Hid (∀ b cap V, V.cell? ⟨b, 0, none⟩ = some (.int .i64 x) → V.cell? ⟨b, 1, none⟩ = some (.int .i64 y) → Calls Tryz.prog 41 #[.slice (some ⟨b, 0, none⟩) 2 cap] V fun e w' => e = .returned (.int .i64 z) ∧ V = w') := fun b cap V h0 h1 => by rw [← HE.out]; exact first_two x y b cap V h0 h1
  obtain ⟨W, hW, g, a0, a1⟩ := box2 w (.int .i64 r) (.int .i64 t) 24
  have HW := Lib.hid hW
  clear hW
  go_enter Tryz.func42, Tryz.ntmps42
  go_wp2_with fail
  rw [HW.out]
  go_region_held3 (fun w' => w'.cell? ⟨w.heap.size, 0, none⟩ = some (.int .i64 r) ∧ w'.cell? ⟨w.heap.size, 1, none⟩ = some (.int .i64 t))
    ((first | exact ⟨a0, a1⟩ | exact ⟨Gr.cell ((Gr.refl W).drew.alloc _) a0, Gr.cell ((Gr.refl W).drew.alloc _) a1⟩))
    ((first
    | (go_at_call 83; with_reducible refine (H1.out _).mono ?_; rintro e w' ⟨rfl, rfl⟩)
    | (go_at_call 83; with_reducible refine (H2.out _).mono ?_; rintro e w' ⟨rfl, rfl⟩)
    | (go_at_call 41; refine (HF.out _ _ _ (by exact cell_new W.drew #[.int .i64 x, .int .i64 y] _ 0 (by simp)) (by exact cell_new W.drew #[.int .i64 x, .int .i64 y] _ 1 (by simp))).mono ?_; rintro e w' ⟨rfl, rfl⟩)))
  go_wp2_with fail
  go_ret
  exact ⟨rfl, (g.alloc _).drew⟩
set_option maxHeartbeats 4000000 in
set_option maxRecDepth 100000 in
theorem Duel_bad (r t r2 t2 : Int) (h : (if runE r t = 0 then runE r2 t2 else runE r t) ≠ 0) (w : World) :
    Calls Tryz.prog 8 #[.agg #[.int .i64 r, .int .i64 t], .agg #[.int .i64 r2, .int .i64 t2]] w fun e w' => e = .returned (.tuple #[.int .i64 0, .int .i64 (if runE r t = 0 then runE r2 t2 else runE r t)]) ∧ Gr w w' := by
  obtain ⟨W, hW, g, a0, a1, b0, b1⟩ := box22 w (.int .i64 r) (.int .i64 t) (.int .i64 r2) (.int .i64 t2) 24 24
  have HW := Lib.hid hW
  have HA := Lib.hid (fun W => runCheck_e r t W)
  have HB := Lib.hid (fun W => runCheck_e r2 t2 W)
  obtain ⟨x, hx⟩ : ∃ x, x = runE r t := ⟨_, rfl⟩
  obtain ⟨y, hy⟩ : ∃ y, y = runE r2 t2 := ⟨_, rfl⟩
  obtain ⟨z, hz⟩ : ∃ z, z = (if x = 0 then y else x) := ⟨_, rfl⟩
  rw [← hx, ← hy, ← hz] at h ⊢
  rw [← hx] at HA
  rw [← hy] at HB
  have HF : Hid (∀ b cap V, V.cell? ⟨b, 0, none⟩ = some (.int .i64 x) → V.cell? ⟨b, 1, none⟩ = some (.int .i64 y) → Calls Tryz.prog 41 #[.slice (some ⟨b, 0, none⟩) 2 cap] V fun e w' => e = .returned (.int .i64 z) ∧ V = w') := fun b cap V h0 h1 => by rw [hz]; exact first_two x y b cap V h0 h1
  have q1 : (z != 0) = true := bne_iff_ne.2 h
  clear hW hx hy hz h
  go_enter Tryz.func8, Tryz.ntmps8
  go_wp2_with fail
  rw [HW.out]
  go_region_held3 (fun w' => w'.cell? ⟨w.heap.size, 0, none⟩ = some (.int .i64 r) ∧ w'.cell? ⟨w.heap.size, 1, none⟩ = some (.int .i64 t) ∧ w'.cell? ⟨w.heap.size + 1, 0, none⟩ = some (.int .i64 r2) ∧ w'.cell? ⟨w.heap.size + 1, 1, none⟩ = some (.int .i64 t2))
    ((first | exact ⟨a0, a1, b0, b1⟩ | exact ⟨Gr.cell hgY a0, Gr.cell hgY a1, Gr.cell hgY b0, Gr.cell hgY b1⟩ | exact ⟨Gr.cell hgX a0, Gr.cell hgX a1, Gr.cell hgX b0, Gr.cell hgX b1⟩ | exact ⟨Gr.cell (hgY.drew.alloc _) a0, Gr.cell (hgY.drew.alloc _) a1, Gr.cell (hgY.drew.alloc _) b0, Gr.cell (hgY.drew.alloc _) b1⟩))
    ((first
    | (go_at_call 42; with_reducible refine (HA.out _).mono ?_; rintro e w' ⟨rfl, hgX⟩; replace hgX : Gr W w' := (Gr.refl W).drew.trans hgX)
    | (go_at_call 42; with_reducible refine (HB.out _).mono ?_; rintro e w' ⟨rfl, hgZ⟩; have hgY : Gr W w' := hgX.trans hgZ)
    | (go_at_call 41; refine (HF.out _ _ _ (by first | exact two_new0 _ _ _ _ | exact two_newD0 _ _ _ _) (by first | exact two_new1 _ _ _ _ | exact two_newD1 _ _ _ _)).mono ?_; rintro e w' ⟨rfl, rfl⟩)))
  obtain ⟨q0, q1, q2, q3⟩ : _ ∧ _ ∧ _ ∧ _ := by assumption
  have HG := Lib.hid (g.trans (hgY.alloc (.cells #[.int .i64 x, .int .i64 y] 31)))
  go_wp2_with fail
  exact bodyPost_ret (v := .tuple #[.int .i64 0, .int .i64 z]) (by simp [results, Tryz.results8, go_sem]) rfl ⟨rfl, HG.out⟩
set_option maxHeartbeats 4000000 in
set_option maxRecDepth 100000 in
theorem refDuel_c (r t r2 t2 : Int) (w : World) :
    Calls Tryz.prog 12 #[.agg #[.int .i64 r, .int .i64 t], .agg #[.int .i64 r2, .int .i64 t2]] w fun e w' => e = .returned (.int .i64 (duelE r t r2 t2)) ∧ Gr w w' := by
  obtain ⟨W, hW, g, a0, a1, b0, b1⟩ := box22 w (.int .i64 r) (.int .i64 t) (.int .i64 r2) (.int .i64 t2) 36 36
  have HW := Lib.hid hW
  have hE : duelE r t r2 t2 = duelB (decide (r < 100)) (decide (r2 < 100)) (t == 0) (t2 == 0) (firstE [cmpE t t2, cmpE r r2]) := rfl
  rw [hE]
  have hor : (decide (t < t2) = true ∧ (t != t2) = true ∧ cmpE t t2 = -1) ∨ (decide (t < t2) = false ∧ (t != t2) = true ∧ cmpE t t2 = 1) ∨ ((t != t2) = false ∧ cmpE t t2 = 0) := by
    rcases cmpE_cases t t2 with ⟨h, e⟩ | ⟨h, e⟩ | ⟨h, e⟩
    · exact .inl ⟨decide_eq_true h, bne_iff_ne.2 (by omega), e⟩
    · exact .inr (.inr ⟨by rw [h]; simp, e⟩)
    · exact .inr (.inl ⟨decide_eq_false (by omega), bne_iff_ne.2 (by omega), e⟩)
  have hrr : (decide (r < r2) = true ∧ cmpE r r2 = -1) ∨ (decide (r < r2) = false ∧ decide (r2 < r) = true ∧ cmpE r r2 = 1) ∨ (decide (r < r2) = false ∧ decide (r2 < r) = false ∧ cmpE r r2 = 0) := by
    rcases cmpE_cases r r2 with ⟨h, e⟩ | ⟨h, e⟩ | ⟨h, e⟩
    · exact .inl ⟨decide_eq_true h, e⟩
    · exact .inr (.inr ⟨decide_eq_false (by omega), decide_eq_false (by omega), e⟩)
    · exact .inr (.inl ⟨decide_eq_false (by omega), decide_eq_true h, e⟩)
  have HG := Lib.hid g
  clear hW g
  cases hfa : decide (r < 100) <;> cases hfb : decide (r2 < 100)
  rotate_left
  all_goals
    try
      go_enter Tryz.func12, Tryz.ntmps12
      go_wp2_with fail
      rw [HW.out]
      go_big_quiet (fail)
      go_wp2_with fail
      go_ret
      exact ⟨rfl, HG.out.drewN _⟩
      done
  cases hla : (t == 0) <;> cases hlb : (t2 == 0)
  rotate_left
  all_goals
    try
      go_enter Tryz.func12, Tryz.ntmps12
      go_wp2_with fail
      rw [HW.out]
      go_big_quiet (fail)
      go_wp2_with fail
      go_ret
      exact ⟨rfl, HG.out.drewN _⟩
      done
  rcases hor with ⟨o1, o2, o3⟩ | ⟨o1, o2, o3⟩ | ⟨o2, o3⟩
  rotate_left 2
  rcases hrr with ⟨p1, p3⟩ | ⟨p1, p2, p3⟩ | ⟨p1, p2, p3⟩
  all_goals
    first
      | rw [o3, p3]
      | rw [o3]
    go_enter Tryz.func12, Tryz.ntmps12
    go_wp2_with fail
    rw [HW.out]
    go_big_quiet (fail)
    go_wp2_with fail
    go_ret
    exact ⟨by first | rfl | (generalize cmpE r r2 = q; rfl) | simp [duelB, firstE], HG.out.drewN _⟩
end Go.Proofs.YthfmgficbnmmnaaGreatDoor
namespace Go.Proofs.YthfmgficbnmmnaaGreatDoor
open Go.RowKit Go.Lib
set_option linter.unusedSimpArgs false
set_option linter.unusedVariables false
/-- the first races are alike, but for the winners -/
def allR (l m : List RaR) : Nat → Bool
  | 0 => true
  | k + 1 => allR l m k && (match l[k]?, m[k]? with
    | some x, some y => x.a.toList == y.a.toList && x.b.toList == y.b.toList
    | _, _ => true)
theorem allR_step {l m : List RaR} {k : Nat} {x y : RaR} (hx : l[k]? = some x) (hy : m[k]? = some y) : allR l m (k + 1) = (allR l m k && (x.a.toList == y.a.toList && x.b.toList == y.b.toList)) := by
  rw [allR, hx, hy]
theorem allR_false {l m : List RaR} {i n : Nat} (hi : i < n) (h : allR l m (i + 1) = false) : allR l m n = false := by
  induction n with
  | zero => omega
  | succ n ih =>
    by_cases e : i = n
    · subst e; exact h
    · rw [allR, ih (by omega), Bool.false_and]
/-- races are alike, but for the winners -/
def sameR (l m : List RaR) : Bool := (l.length == m.length) && allR l m l.length
theorem struct_same (xa xb ya yb : ByteArray) : (xa.toList == ya.toList && xb.toList == yb.toList) = true → xa.toList = ya.toList ∧ xb.toList = yb.toList := by
  intro h
  rw [Bool.and_eq_true, beq_iff_eq, beq_iff_eq] at h
  exact h
theorem walk_same {xa xb ya yb : ByteArray} (h1 : xa.toList = ya.toList) (h2 : xb.toList = yb.toList) : walkW xa xb = walkW ya yb := by
  unfold walkW; rw [h1, h2]
set_option maxHeartbeats 4000000 in
set_option maxRecDepth 100000 in
theorem isBegun_c (xa xb ya yb : ByteArray) (xw : Int) (w : World) :
    Calls Tryz.prog 129 #[.agg #[.string xa, .string xb, .int .i64 xw], .agg #[.string ya, .string yb, .int .i64 (walkW ya yb)]] w fun e w' => e = .returned (.bool (xa.toList == ya.toList && xb.toList == yb.toList)) ∧ Gr w w' := by
  obtain ⟨W1, hW1, g, a0, a1, a2⟩ := box3 w (.string xa) (.string xb) (.int .i64 xw) 55
  obtain ⟨W2, hW2, g2, d0, d1, d2⟩ := box3 W1 (.string ya) (.string yb) (.int .i64 (walkW ya yb)) 55
  have hs1 : W1.heap.size = w.heap.size + 1 := by rw [← hW1]; simp
  have HRO : Hid (∀ V, Calls Tryz.prog 55 #[.string xa, .string xb] V fun e w' => e = .returned (.agg #[.string xa, .string xb, .int .i64 (walkW xa xb)]) ∧ Gr V w') := fun V => by have := raceOf_c xa xb V; unfold raV raB at this; exact this
  have hd : (xa.toList == ya.toList && xb.toList == yb.toList) = ((xa.toList == ya.toList) && ((xb.toList == yb.toList) && (walkW xa xb == walkW ya yb))) := by
    cases h : (xa.toList == ya.toList && xb.toList == yb.toList)
    · cases h1 : (xa.toList == ya.toList)
      · rfl
      · cases h2 : (xb.toList == yb.toList)
        · rfl
        · rw [h1, h2] at h; cases h
    · obtain ⟨h1, h2⟩ := struct_same _ _ _ _ h
      rw [walk_same h1 h2, h1, h2]; simp
  generalize walkW xa xb = ww at *
  generalize walkW ya yb = yw at *
  generalize (xa.toList == ya.toList && xb.toList == yb.toList) = d at *
  replace a0 := g2.cell a0
  replace a1 := g2.cell a1
  replace a2 := g2.cell a2
  replace g := g.trans g2
  rw [hs1] at d0 d1 d2
  have HW1 := Lib.hid hW1
  have HW2 := Lib.hid hW2
  have HS1 := Lib.hid hs1
  clear hW1 hW2 g2 hs1
  go_enter Tryz.func129, Tryz.ntmps129
  go_wp2_with fail
  rw [HW1.out, HW2.out]
  obtain ⟨Ba, hBa⟩ : ∃ x, x = w.heap.size := ⟨_, rfl⟩
  obtain ⟨Bb, hBb⟩ : ∃ x, x = w.heap.size + 1 := ⟨_, rfl⟩
  rw [← hBa] at a0 a1 a2
  rw [← hBb] at d0 d1 d2
  rw [← hBb, ← hBa]
  clear hBa hBb
  have gd := (Gr.refl W2).drew
  replace a0 := gd.cell a0
  replace a1 := gd.cell a1
  replace a2 := gd.cell a2
  replace d0 := gd.cell d0
  replace d1 := gd.cell d1
  replace d2 := gd.cell d2
  replace g := g.trans gd
  clear gd
  refine wp_region_held_drew (S := (fun w' => w'.cell? ⟨Ba, 0, none⟩ = some (.string xa) ∧ w'.cell? ⟨Ba, 1, none⟩ = some (.string xb) ∧ w'.cell? ⟨Ba, 2, none⟩ = some (.int .i64 xw) ∧ w'.cell? ⟨Bb, 0, none⟩ = some (.string ya) ∧ w'.cell? ⟨Bb, 1, none⟩ = some (.string yb) ∧ w'.cell? ⟨Bb, 2, none⟩ = some (.int .i64 yw))) (by kernel_rfl) ⟨a0, a1, a2, d0, d1, d2⟩ (fun hHeld => ?_)
  generalize W2.drew = V at *
  refine wpAnyH_take (i := 0) (v := (.pointer (some ⟨Ba, 0, none⟩))) (op_at rfl) (by kernel_rfl) (by kernel_rfl) (by kernel_rfl) (fun _ _ _ h => h) (Or.inl ⟨rfl, fun w hSw => ?_⟩) (by assumption) ?_
  · (try dsimp only at hSw); go_simp; try with_reducible rfl
  (try simp only [Act.put, List.setIfInBounds_toArray, List.set_cons_zero, List.set_cons_succ])
  refine wpAnyH_take (i := 1) (v := (.string xa)) (op_at rfl) (by kernel_rfl) (by kernel_rfl) (by kernel_rfl) (fun _ _ _ h => h) (Or.inl ⟨rfl, fun w hSw => ?_⟩) (by assumption) ?_
  · (try dsimp only at hSw); go_simp; try with_reducible rfl
  (try simp only [Act.put, List.setIfInBounds_toArray, List.set_cons_zero, List.set_cons_succ])
  refine wpAnyH_take (i := 2) (v := (.pointer (some ⟨Ba, 1, none⟩))) (op_at rfl) (by kernel_rfl) (by kernel_rfl) (by kernel_rfl) (fun _ _ _ h => h) (Or.inl ⟨rfl, fun w hSw => ?_⟩) (by assumption) ?_
  · (try dsimp only at hSw); go_simp; try with_reducible rfl
  (try simp only [Act.put, List.setIfInBounds_toArray, List.set_cons_zero, List.set_cons_succ])
  refine wpAnyH_take (i := 3) (v := (.string xb)) (op_at rfl) (by kernel_rfl) (by kernel_rfl) (by kernel_rfl) (fun _ _ _ h => h) (Or.inl ⟨rfl, fun w hSw => ?_⟩) (by assumption) ?_
  · (try dsimp only at hSw); go_simp; try with_reducible rfl
  (try simp only [Act.put, List.setIfInBounds_toArray, List.set_cons_zero, List.set_cons_succ])
  refine wpAnyH_take (i := 5) (v := (.agg #[.string ya, .string yb, .int .i64 yw])) (op_at rfl) (by kernel_rfl) (by kernel_rfl) (by kernel_rfl) (fun _ _ _ h => h) (Or.inl ⟨rfl, fun w hSw => ?_⟩) (by assumption) ?_
  · (try dsimp only at hSw); go_simp; try with_reducible rfl
  (try simp only [Act.put, List.setIfInBounds_toArray, List.set_cons_zero, List.set_cons_succ])
  refine wpAnyH_ready (rs := [4]) (by kernel_rfl) (by simp) (AllReadyH.cons (op_at rfl) (fun K hK => ?_) AllReadyH.nil)
  go_simp
  (refine (HRO.out _).mono ?_; rintro e V1 ⟨rfl, hg⟩; replace a0 := hg.cell a0; replace a1 := hg.cell a1; replace a2 := hg.cell a2; replace d0 := hg.cell d0; replace d1 := hg.cell d1; replace d2 := hg.cell d2; replace g := g.trans hg; clear hg)
  go_wp2_with fail
  refine hK.out _ _ ⟨a0, a1, a2, d0, d1, d2⟩ (fun hHeld => ?_)
  clear hK K
  (try simp only [Act.put, List.setIfInBounds_toArray, List.set_cons_zero, List.set_cons_succ])
  refine wpAnyH_take (i := 6) (v := (.bool d)) (op_at rfl) (by kernel_rfl) (by kernel_rfl) (by kernel_rfl) (fun _ _ _ h => h) (Or.inl ⟨rfl, fun w hSw => ?_⟩) (by assumption) ?_
  · (try dsimp only at hSw); go_simp; by_cases q1 : xa.toList = ya.toList <;> by_cases q2 : xb.toList = yb.toList <;> by_cases q3 : ww = yw <;> simp [q1, q2, q3]
  (try simp only [Act.put, List.setIfInBounds_toArray, List.set_cons_zero, List.set_cons_succ])
  refine wpAnyH_take (i := 7) (v := (.bool d)) (op_at rfl) (by kernel_rfl) (by kernel_rfl) (by kernel_rfl) (fun _ _ _ h => h) (Or.inl ⟨rfl, fun w hSw => ?_⟩) (by assumption) ?_
  · (try dsimp only at hSw); go_simp; try with_reducible rfl
  (try simp only [Act.put, List.setIfInBounds_toArray, List.set_cons_zero, List.set_cons_succ])
  refine wpAnyH_done (by kernel_rfl) ?_ _
  go_wp2_with fail
  go_ret
  exact ⟨rfl, g⟩
theorem boxes_race2 (w : World) (xa xb ya yb : ByteArray) (xw yw : Int) : ∃ W, (w.alloc (.cells #[.string xa, .string xb, .int .i64 xw] 55)).alloc (.cells #[.string ya, .string yb, .int .i64 yw] 55) = W ∧ Gr w W ∧ W.cell? ⟨w.heap.size, 0, none⟩ = some (.string xa) ∧ W.cell? ⟨w.heap.size, 1, none⟩ = some (.string xb) ∧ W.cell? ⟨w.heap.size, 2, none⟩ = some (.int .i64 xw) ∧ W.cell? ⟨w.heap.size + 1, 0, none⟩ = some (.string ya) ∧ W.cell? ⟨w.heap.size + 1, 1, none⟩ = some (.string yb) ∧ W.cell? ⟨w.heap.size + 1, 2, none⟩ = some (.int .i64 yw) := by
  obtain ⟨W1, hW1, g, a0, a1, a2⟩ := box3 w (.string xa) (.string xb) (.int .i64 xw) 55
  obtain ⟨W2, hW2, g2, d0, d1, d2⟩ := box3 W1 (.string ya) (.string yb) (.int .i64 yw) 55
  have hs1 : W1.heap.size = w.heap.size + 1 := by rw [← hW1]; simp
  rw [hs1] at d0 d1 d2
  exact ⟨W2, by rw [hW1]; exact hW2, g.trans g2, g2.cell a0, g2.cell a1, g2.cell a2, d0, d1, d2⟩
set_option maxHeartbeats 4000000 in
set_option maxRecDepth 100000 in
theorem equalRa_c (l m : List RaR) (p q : Option Addr) (n k c c2 : Nat) (w : World) (hl : RaS w p l) (hm : RaS w q m) (hln : l.length = n) (hmk : m.length = k) (hn : n ≤ 1000) (hw : ∀ r ∈ m, r.w = walkW r.a r.b) :
    Calls Tryz.prog 130 #[.slice p n c, .slice q k c2, .func (.func 129) #[] #[]] w fun e w' => e = .returned (.bool (sameR l m)) ∧ Gr w w' := by
  have HL := Lib.hid hl.out
  have HM := Lib.hid hm.out
  have HB := Lib.hid isBegun_c
  have HWM := Lib.hid hw
  have HLN := Lib.hid hln
  have HMK := Lib.hid hmk
  clear hl hm hw hln hmk
  by_cases hnk : n = k
  · subst hnk
    have HS : Hid (sameR l m = allR l m n) := by rw [Hid, sameR, HLN.out, HMK.out, beq_self_eq_true, Bool.true_and]
    have t0 : ((n : Int) != (n : Int)) = false := bne_self_eq_false _
    go_enter Tryz.func130, Tryz.ntmps130
    go_wp2_with fail
    go_loopg [17] n (fun gk s17 wr => ∃ i : Nat, s17 = .int .i64 (i : Int) ∧ gk + i = n ∧ Hid (Gr w wr) ∧ Hid (allR l m i = true))
    case atStart => exact ⟨0, rfl, by omega, Gr.refl _, rfl⟩
    case round =>
      obtain ⟨i, rfl, hgk, HG, HA⟩ := hrel
      by_cases hlt : i < n
      · obtain ⟨x, hx⟩ : ∃ x, l[i]? = some x := ⟨l[i]'(by have := HLN.out; omega), List.getElem?_eq_getElem _⟩
        obtain ⟨y, hy⟩ : ∃ y, m[i]? = some y := ⟨m[i]'(by have := HMK.out; omega), List.getElem?_eq_getElem _⟩
        obtain ⟨b, off, rfl, hc⟩ := HL.out (by have := HLN.out; omega)
        obtain ⟨b2, off2, rfl, hc2⟩ := HM.out (by have := HMK.out; omega)
        obtain ⟨a0, a1, a2⟩ := hc i x hx
        obtain ⟨d0, d1, d2⟩ := hc2 i y hy
        replace a0 := Gr.cell HG.out a0
        replace a1 := Gr.cell HG.out a1
        replace a2 := Gr.cell HG.out a2
        replace d0 := Gr.cell HG.out d0
        replace d1 := Gr.cell HG.out d1
        replace d2 := Gr.cell HG.out d2
        have hlt2 : (i : Int) < (n : Int) := by omega
        have hyw := HWM.out y (List.mem_of_getElem? hy)
        have HST := Lib.hid (allR_step hx hy)
        have HAL := Lib.hid (fun h => allR_false (n := n) (i := i) (l := l) (m := m) hlt h)
        obtain ⟨xa, xb, xw⟩ := x
        obtain ⟨ya, yb, yw⟩ := y
        have HBX := Lib.hid (fun V => HB.out xa xb ya yb xw V)
        simp only at a0 a1 a2 d0 d1 d2 hyw
        subst hyw
        generalize walkW ya yb = yw at *
        have e0 : ∀ o, (wr.alloc o).cell? _ = _ := fun o => Gr.cell ((Gr.refl wr).alloc o) d0
        have e1 : ∀ o, (wr.alloc o).cell? _ = _ := fun o => Gr.cell ((Gr.refl wr).alloc o) d1
        have e2 : ∀ o, (wr.alloc o).cell? _ = _ := fun o => Gr.cell ((Gr.refl wr).alloc o) d2
        clear hx hy hc hc2
        cases hq : (xa.toList == ya.toList && xb.toList == yb.toList)
        · rw [hq] at HST
          have HF : Hid (allR l m n = false) := HAL.out (by rw [HST.out, Bool.and_false])
          have HBQ : Hid (∀ V, Calls Tryz.prog 129 #[.agg #[.string xa, .string xb, .int .i64 xw], .agg #[.string ya, .string yb, .int .i64 yw]] V fun e w' => e = .returned (.bool false) ∧ Gr V w') := fun V => by have := HBX.out V; rw [hq] at this; exact this
          clear hq
          go_wp2_with fail
          obtain ⟨W1, hW1, g1, z0, z1, z2, y0, y1, y2⟩ := boxes_race2 wr xa xb ya yb xw yw
          rw [hW1]
          have gW := HG.out.trans g1
          refine (HBQ.out _).mono ?_
          rintro e w9 ⟨rfl, g9⟩
          go_wp2_with fail
          go_ret
          exact ⟨by rw [HS.out, HF.out]; rfl, gW.trans g9⟩
        · rw [hq] at HST
          have HT : Hid (allR l m (i + 1) = true) := by rw [Hid, HST.out, HA.out]; rfl
          have HBQ : Hid (∀ V, Calls Tryz.prog 129 #[.agg #[.string xa, .string xb, .int .i64 xw], .agg #[.string ya, .string yb, .int .i64 yw]] V fun e w' => e = .returned (.bool true) ∧ Gr V w') := fun V => by have := HBX.out V; rw [hq] at this; exact this
          clear hq
          go_wp2_with fail
          obtain ⟨W1, hW1, g1, z0, z1, z2, y0, y1, y2⟩ := boxes_race2 wr xa xb ya yb xw yw
          rw [hW1]
          have gW := HG.out.trans g1
          refine (HBQ.out _).mono ?_
          rintro e w9 ⟨rfl, g9⟩
          have G9 := Lib.hid (gW.trans g9)
          go_wp2_with fail
          go_roundg (gk - 1)
          case measure => omega
          case rel => exact ⟨i + 1, by go_num, by omega, G9.out, HT⟩
      · obtain rfl : n = i := by omega
        have hlt2 : ¬ (n : Int) < (n : Int) := by omega
        go_wp2_with fail
        go_ret
        exact ⟨by rw [HS.out, HA.out]; rfl, HG.out⟩
  · have HS : Hid (sameR l m = false) := by
      unfold Hid sameR
      rw [show (l.length == m.length) = false from beq_eq_false_iff_ne.2 (by rw [HLN.out, HMK.out]; exact hnk), Bool.false_and]
    have t0 : ((n : Int) != (k : Int)) = true := bne_iff_ne.2 (by omega)
    go_enter Tryz.func130, Tryz.ntmps130
    go_wp2_with fail
    go_ret
    exact ⟨by rw [HS.out]; rfl, Gr.refl _⟩
end Go.Proofs.YthfmgficbnmmnaaGreatDoor
