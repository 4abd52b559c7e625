/- start: Duel and what it calls; the reference's CheckRun. -/
import Derived.Test.YtdpdbgcdmpdaoaaGreatDoorBase
import Derived.Laws.RangeAny
import Derived.Deep.LoopGhost
import Derived.Deep.DrawnRows
import Derived.Deep.RegionHeld3
namespace Go.Proofs.YtdpdbgcdmpdaoaaGreatDoor
open Go.RowKit Go.Lib
/-- out of a range -/
def outB (n l h : Int) : Bool := decide (n < l) || decide (h < n)
def outE (n l h : Int) : Int := if outB n l h then 3 else 0
theorem outside_c (n l h : Int) (w : World) :
    Calls Tryz.prog 10 #[.int .i64 n, .int .i64 l, .int .i64 h] w fun e w' => e = .returned (.int .i64 (outE n l h)) ∧ w = w' := by
  cases h1 : decide (n < l)
  · cases h2 : decide (h < n)
    · have HE : Hid (outE n l h = 0) := by unfold Hid outE outB; rw [h1, h2]; rfl
      go_enter Tryz.func10, Tryz.ntmps10
      go_wp2_with fail
      go_ret
      exact ⟨by rw [HE.out]; rfl, rfl⟩
    · have HE : Hid (outE n l h = 3) := by unfold Hid outE outB; rw [h1, h2]; rfl
      go_enter Tryz.func10, Tryz.ntmps10
      go_wp2_with fail
      go_ret
      exact ⟨by rw [HE.out]; rfl, rfl⟩
  · have HE : Hid (outE n l h = 3) := by unfold Hid outE outB; rw [h1]; rfl
    go_enter Tryz.func10, Tryz.ntmps10
    go_wp2_with fail
    go_ret
    exact ⟨by rw [HE.out]; rfl, rfl⟩
theorem if_c (b : Bool) (n : Int) (w : World) :
    Calls Tryz.prog 52 #[.bool b, .int .i64 n] w fun e w' => e = .returned (.int .i64 (if b then n else 0)) ∧ w = w' := by
  cases b
  · go_enter Tryz.func52, Tryz.ntmps52
    go_wp2_with fail
    go_ret
    exact ⟨rfl, rfl⟩
  · go_enter Tryz.func52, Tryz.ntmps52
    go_wp2_with fail
    go_ret
    exact ⟨rfl, rfl⟩
theorem range_c (n l h : Int) (w : World) :
    Calls Tryz.prog 41 #[.int .i64 n, .int .i64 l, .int .i64 h] w fun e w' => e = .returned (.int .i64 (outE n l h)) ∧ w = w' := by
  have HI := Lib.hid (fun b W => if_c b 3 W)
  cases h1 : decide (n < l)
  · cases h2 : decide (h < n)
    · have HE : Hid (outE n l h = 0) := by unfold Hid outE outB; rw [h1, h2]; rfl
      go_enter Tryz.func41, Tryz.ntmps41
      go_wp2_with fail
      refine (HI.out _ _).mono ?_
      rintro e w4 ⟨rfl, rfl⟩
      go_wp2_with fail
      go_ret
      exact ⟨by rw [HE.out]; rfl, rfl⟩
    · have HE : Hid (outE n l h = 3) := by unfold Hid outE outB; rw [h1, h2]; rfl
      go_enter Tryz.func41, Tryz.ntmps41
      go_wp2_with fail
      refine (HI.out _ _).mono ?_
      rintro e w4 ⟨rfl, rfl⟩
      go_wp2_with fail
      go_ret
      exact ⟨by rw [HE.out]; rfl, rfl⟩
  · have HE : Hid (outE n l h = 3) := by unfold Hid outE outB; rw [h1]; rfl
    go_enter Tryz.func41, Tryz.ntmps41
    go_wp2_with fail
    refine (HI.out _ _).mono ?_
    rintro e w4 ⟨rfl, rfl⟩
    go_wp2_with fail
    go_ret
    exact ⟨by rw [HE.out]; rfl, rfl⟩
theorem checkTime_c (n : Int) (w : World) :
    Calls Tryz.prog 70 #[.int .i64 n] w fun e w' => e = .returned (.int .i64 (outE n 0 86399999)) ∧ w = w' := by
  have HR := Lib.hid (fun W => range_c n 0 86399999 W)
  go_enter Tryz.func70, Tryz.ntmps70
  go_wp2_with fail
  refine (HR.out _).mono ?_
  rintro e w4 ⟨rfl, rfl⟩
  go_wp2_with fail
  go_ret
  exact ⟨rfl, rfl⟩
/-- the first error that is not 0 -/
def firstE : List Int → Int
  | [] => 0
  | e :: r => if e = 0 then firstE r else e
theorem firstE_drop {es : List Int} {k : Nat} {x : Int} (h : es[k]? = some x) : firstE (es.drop k) = if x = 0 then firstE (es.drop (k + 1)) else x := by
  have hk : k < es.length := by
    rcases Nat.lt_or_ge k es.length with h2 | h2
    · exact h2
    · rw [List.getElem?_eq_none h2] at h; cases h
  rw [List.drop_eq_getElem_cons hk]
  rw [List.getElem?_eq_getElem hk] at h
  simp only [Option.some.injEq] at h
  rw [h]; rfl
set_option maxHeartbeats 1000000 in
set_option maxRecDepth 100000 in
theorem first_c0 (b n cap : Nat) (es : List Int) (w : World) (hn : es.length = n) (hc : ∀ i x, es[i]? = some x → w.cell? ⟨b, i, none⟩ = some (.int .i64 x)) (hs : n ≤ 1000) :
    Calls Tryz.prog 36 #[.slice (some ⟨b, 0, none⟩) n cap] w fun e w' => e = .returned (.int .i64 (firstE es)) ∧ w = w' := by
  have HN := Lib.hid hn
  have HC := Lib.hid hc
  clear hc
  go_enter Tryz.func36, Tryz.ntmps36
  go_wp2_with fail
  go_loopg [7] n (fun g s7 wr => ∃ k : Nat, s7 = .int .i64 k ∧ g + k = n ∧ wr = w ∧ Hid (firstE (es.drop k) = firstE es))
  case atStart => exact ⟨0, rfl, by omega, rfl, by simp [Hid]⟩
  case round =>
    obtain ⟨k, rfl, hk, rfl, HF⟩ := hrel
    by_cases hlt : k < n
    · obtain ⟨x, hx⟩ : ∃ x, es[k]? = some x := ⟨es[k]'(by omega), List.getElem?_eq_getElem (by omega)⟩
      have hcell := HC.out k x hx
      have hf := firstE_drop hx
      by_cases h0 : x = 0
      · subst h0
        rw [if_pos rfl] at hf
        have HF2 := Lib.hid hf
        clear hf hx
        go_wp2_with fail
        go_roundg (gk - 1)
        case measure => omega
        case rel => exact ⟨k + 1, by go_num, by omega, rfl, by unfold Hid; rw [← HF2.out, HF.out]⟩
      · rw [if_neg h0] at hf
        have HF2 := Lib.hid hf
        have h1 : (x == 0) = false := by simpa using h0
        have h2 : (x != 0) = true := by simpa [bne] using h1
        clear hf hx h0
        go_wp2_with fail
        go_ret
        exact ⟨by rw [← HF.out, HF2.out]; rfl, rfl⟩
    · have : es.drop k = [] := List.drop_of_length_le (by omega)
      have HE : Hid (firstE es = 0) := by unfold Hid; rw [← HF.out, this]; rfl
      clear this
      go_wp2_with fail
      go_ret
      exact ⟨by rw [HE.out]; rfl, rfl⟩
/-- a call that changes nothing, in a region that draws -/
theorem quietE {P : Program} {f : FuncId} {args : Array Value} {w : World} {n : Nat} {v : Value} (h : Calls P f args (w.drewN n) fun e w' => e = .returned v ∧ w.drewN n = w') : Calls P f args (w.drewN n) fun e w'' => e = .returned v ∧ ∃ m, w'' = w.drewN m :=
  h.mono fun _ _ ⟨he, hm⟩ => ⟨he, n, hm.symm⟩
theorem cell_new (W : World) (C : Array Value) (T j : Nat) (hj : j < C.size) : (W.alloc (.cells C T)).cell? ⟨W.heap.size, j, none⟩ = some C[j] := by
  simp only [World.cell?, heap_alloc_new]
  simp [hj]
theorem box2 (w : World) (a0 a1 : Value) (T : Nat) : ∃ W, w.alloc (.cells #[a0, a1] T) = W ∧ Gr w W ∧ W.cell? ⟨w.heap.size, 0, none⟩ = some a0 ∧ W.cell? ⟨w.heap.size, 1, none⟩ = some a1 :=
  ⟨_, rfl, (Gr.refl w).alloc _, cell_new w #[a0, a1] T 0 (by simp), cell_new w #[a0, a1] T 1 (by simp)⟩
theorem isFalse_c (r t : Int) (w : World) :
    Calls Tryz.prog 73 #[.agg #[.int .i64 r, .int .i64 t]] w fun e w' => e = .returned (.bool (decide (r < 100))) ∧ Gr w w' := by
  go_enter Tryz.func73, Tryz.ntmps73
  go_wp2_with fail
  go_ret
  exact ⟨rfl, by repeat first | exact Gr.refl _ | refine Gr.alloc ?_ _⟩
theorem isFall_c (r t : Int) (w : World) :
    Calls Tryz.prog 74 #[.agg #[.int .i64 r, .int .i64 t]] w fun e w' => e = .returned (.bool (t == 0)) ∧ Gr w w' := by
  go_enter Tryz.func74, Tryz.ntmps74
  go_wp2_with fail
  go_ret
  exact ⟨rfl, by repeat first | exact Gr.refl _ | refine Gr.alloc ?_ _⟩
theorem outE_zero {n l h : Int} : outE n l h = 0 ↔ l ≤ n ∧ n ≤ h := by
  unfold outE outB
  by_cases h1 : n < l
  · simp [h1] <;> omega
  · by_cases h2 : h < n
    · simp [h2] <;> omega
    · simp [h1, h2] <;> omega
theorem outE_or (n l h : Int) : outE n l h = 0 ∨ outE n l h = 3 := by
  unfold outE
  split
  · exact .inr rfl
  · exact .inl rfl
/-- whether a run is one -/
def runOk (r t : Int) : Bool := outE r 0 86399999 == 0 && outE t 0 86399999 == 0
set_option maxHeartbeats 1000000 in
set_option maxRecDepth 100000 in
theorem checkRun_c (r t : Int) (w : World) :
    Calls Tryz.prog 15 #[.agg #[.int .i64 r, .int .i64 t]] w fun e w' => e = .returned (.int .i64 (if runOk r t then 0 else 3)) ∧ Gr w w' := by
  have H1 : ∀ W, _ := fun W => outside_c r 0 86399999 W
  have H2 : ∀ W, _ := fun W => outside_c t 0 86399999 W
  obtain ⟨W, hW, g, a0, a1⟩ := box2 w (.int .i64 r) (.int .i64 t) 43
  have HW := Lib.hid hW
  clear hW
  have hR : runOk r t = (outE r 0 86399999 == 0 && outE t 0 86399999 == 0) := rfl
  rcases outE_or r 0 86399999 with h1 | h1 <;> rcases outE_or t 0 86399999 with h2 | h2
  all_goals
    rw [h1] at H1 hR
    rw [h2] at H2 hR
    rw [hR]
    replace H1 := Lib.hid H1
    replace H2 := Lib.hid H2
    clear hR h1 h2
    go_enter Tryz.func15, Tryz.ntmps15
    go_wp2_with fail
    rw [HW.out]
    go_quiet ((go_at_call 10; first | with_reducible exact quietE (H1.out _) | with_reducible exact quietE (H2.out _)))
    go_wp2_with fail
    go_ret
    exact ⟨rfl, g.drewN _⟩
theorem first_two (x y : Int) (b cap : Nat) (w : World) (hx : w.cell? ⟨b, 0, none⟩ = some (.int .i64 x)) (hy : w.cell? ⟨b, 1, none⟩ = some (.int .i64 y)) :
    Calls Tryz.prog 36 #[.slice (some ⟨b, 0, none⟩) 2 cap] w fun e w' => e = .returned (.int .i64 (if x = 0 then y else x)) ∧ w = w' := by
  have := first_c0 b 2 cap [x, y] w rfl (fun i v h => by
    rcases i with _ | _ | i <;> simp at h <;> subst h <;> assumption) (by omega)
  simp only [firstE] at this
  have e : (if y = 0 then (0 : Int) else y) = y := by split <;> simp_all
  rw [e] at this
  exact this
set_option maxHeartbeats 1000000 in
set_option maxRecDepth 100000 in
theorem runCheck_ok (r t : Int) (w : World) (hr : outE r 0 86399999 = 0) (ht : outE t 0 86399999 = 0) :
    Calls Tryz.prog 37 #[.agg #[.int .i64 r, .int .i64 t]] w fun e w' => e = .returned (.int .i64 0) ∧ Gr w w' := by
  have H1 : ∀ W, _ := fun W => checkTime_c r W
  have H2 : ∀ W, _ := fun W => checkTime_c t W
  rw [hr] at H1
  rw [ht] at H2
  replace H1 := Lib.hid H1
  replace H2 := Lib.hid H2
  obtain ⟨W, hW, g, a0, a1⟩ := box2 w (.int .i64 r) (.int .i64 t) 40
  have HW := Lib.hid hW
  clear hW hr ht
  go_enter Tryz.func37, Tryz.ntmps37
  go_wp2_with fail
  rw [HW.out]
  go_region_held3 (fun w' => w'.cell? ⟨w.heap.size, 0, none⟩ = some (.int .i64 r) ∧ w'.cell? ⟨w.heap.size, 1, none⟩ = some (.int .i64 t))
    ((first | exact ⟨a0, a1⟩ | exact ⟨Gr.cell ((Gr.refl W).drew.alloc _) a0, Gr.cell ((Gr.refl W).drew.alloc _) a1⟩))
    ((first
    | (go_at_call 70; with_reducible refine (H1.out _).mono ?_; rintro e w' ⟨rfl, rfl⟩)
    | (go_at_call 70; with_reducible refine (H2.out _).mono ?_; rintro e w' ⟨rfl, rfl⟩)
    | (go_at_call 36; refine (first_two 0 0 _ _ _ (by exact cell_new W.drew #[.int .i64 0, .int .i64 0] _ 0 (by simp)) (by exact cell_new W.drew #[.int .i64 0, .int .i64 0] _ 1 (by simp))).mono ?_; rintro e w' ⟨rfl, rfl⟩)))
  go_wp2_with fail
  go_ret
  exact ⟨rfl, (g.alloc _).drew⟩
theorem isNaN_c (x : Int) (w : World) :
    Calls Tryz.prog 90 #[.int .i64 x] w fun e w' => e = .returned (.bool false) ∧ w = w' := by
  go_enter Tryz.func90, Tryz.ntmps90
  go_wp2_with fail
  go_ret
  exact ⟨by simp, rfl⟩
/-- the order of two integers -/
def cmpE (x y : Int) : Int := if x < y then -1 else if y < x then 1 else 0
set_option maxHeartbeats 1000000 in
theorem compare_c (x y : Int) (w : World) :
    Calls Tryz.prog 49 #[.int .i64 x, .int .i64 y] w fun e w' => e = .returned (.int .i64 (cmpE x y)) ∧ w = w' := by
  have HX := Lib.hid (fun W => isNaN_c x W)
  have HY := Lib.hid (fun W => isNaN_c y W)
  by_cases h1 : x < y
  · have HE : Hid (cmpE x y = -1) := if_pos h1
    have hd : decide (x < y) = true := by simpa using h1
    go_enter Tryz.func49, Tryz.ntmps49
    go_wp2_with fail
    refine (HX.out _).mono ?_
    rintro e w4 ⟨rfl, rfl⟩
    go_wp2_with fail
    refine (HY.out _).mono ?_
    rintro e w4 ⟨rfl, rfl⟩
    go_wp2_with fail
    go_ret
    exact ⟨by rw [HE.out]; rfl, rfl⟩
  · have hd : decide (x < y) = false := by simpa using h1
    by_cases h2 : y < x
    · have HE : Hid (cmpE x y = 1) := by unfold Hid cmpE; rw [if_neg h1, if_pos h2]
      have hd2 : decide (y < x) = true := by simpa using h2
      go_enter Tryz.func49, Tryz.ntmps49
      go_wp2_with fail
      refine (HX.out _).mono ?_
      rintro e w4 ⟨rfl, rfl⟩
      go_wp2_with fail
      refine (HY.out _).mono ?_
      rintro e w4 ⟨rfl, rfl⟩
      go_wp2_with fail
      go_ret
      exact ⟨by rw [HE.out]; rfl, rfl⟩
    · have HE : Hid (cmpE x y = 0) := by unfold Hid cmpE; rw [if_neg h1, if_neg h2]
      have hd2 : decide (y < x) = false := by simpa using h2
      go_enter Tryz.func49, Tryz.ntmps49
      go_wp2_with fail
      refine (HX.out _).mono ?_
      rintro e w4 ⟨rfl, rfl⟩
      go_wp2_with fail
      refine (HY.out _).mono ?_
      rintro e w4 ⟨rfl, rfl⟩
      go_wp2_with fail
      go_ret
      exact ⟨by rw [HE.out]; rfl, rfl⟩
theorem or_c0 (b n cap : Nat) (es : List Int) (w : World) (hn : es.length = n) (hc : ∀ i x, es[i]? = some x → w.cell? ⟨b, i, none⟩ = some (.int .i64 x)) (hs : n ≤ 1000) :
    Calls Tryz.prog 75 #[.slice (some ⟨b, 0, none⟩) n cap] w fun e w' => e = .returned (.int .i64 (firstE es)) ∧ w = w' := by
  have HN := Lib.hid hn
  have HC := Lib.hid hc
  clear hc
  go_enter Tryz.func75, Tryz.ntmps75
  go_wp2_with fail
  go_loopg [8] n (fun g s7 wr => ∃ k : Nat, s7 = .int .i64 k ∧ g + k = n ∧ wr = w ∧ Hid (firstE (es.drop k) = firstE es))
  case atStart => exact ⟨0, rfl, by omega, rfl, by simp [Hid]⟩
  case round =>
    obtain ⟨k, rfl, hk, rfl, HF⟩ := hrel
    by_cases hlt : k < n
    · obtain ⟨x, hx⟩ : ∃ x, es[k]? = some x := ⟨es[k]'(by omega), List.getElem?_eq_getElem (by omega)⟩
      have hcell := HC.out k x hx
      have hf := firstE_drop hx
      by_cases h0 : x = 0
      · subst h0
        rw [if_pos rfl] at hf
        have HF2 := Lib.hid hf
        clear hf hx
        go_wp2_with fail
        go_roundg (gk - 1)
        case measure => omega
        case rel => exact ⟨k + 1, by go_num, by omega, rfl, by unfold Hid; rw [← HF2.out, HF.out]⟩
      · rw [if_neg h0] at hf
        have HF2 := Lib.hid hf
        have h1 : (x == 0) = false := by simpa using h0
        have h2 : (x != 0) = true := by simpa [bne] using h1
        clear hf hx h0
        go_wp2_with fail
        go_ret
        exact ⟨by rw [← HF.out, HF2.out]; rfl, rfl⟩
    · have : es.drop k = [] := List.drop_of_length_le (by omega)
      have HE : Hid (firstE es = 0) := by unfold Hid; rw [← HF.out, this]; rfl
      clear this
      go_wp2_with fail
      go_ret
      exact ⟨by rw [HE.out]; rfl, rfl⟩
theorem or_two (x y : Int) (b cap : Nat) (w : World) (hx : w.cell? ⟨b, 0, none⟩ = some (.int .i64 x)) (hy : w.cell? ⟨b, 1, none⟩ = some (.int .i64 y)) :
    Calls Tryz.prog 75 #[.slice (some ⟨b, 0, none⟩) 2 cap] w fun e w' => e = .returned (.int .i64 (firstE [x, y])) ∧ w = w' :=
  or_c0 b 2 cap [x, y] w rfl (fun i v h => by
    rcases i with _ | _ | i <;> simp at h <;> subst h <;> assumption) (by omega)
theorem two_new0 (W : World) (x y : Value) (T : Nat) : ((W.alloc (.cells #[x, y] T)).drew).cell? ⟨W.heap.size, 0, none⟩ = some x := cell_new W #[x, y] T 0 (by simp)
theorem two_new1 (W : World) (x y : Value) (T : Nat) : ((W.alloc (.cells #[x, y] T)).drew).cell? ⟨W.heap.size, 1, none⟩ = some y := cell_new W #[x, y] T 1 (by simp)
theorem two_newD0 (W : World) (x y : Value) (T : Nat) : (W.drew.alloc (.cells #[x, y] T)).cell? ⟨W.heap.size, 0, none⟩ = some x := cell_new W.drew #[x, y] T 0 (by simp)
theorem two_newD1 (W : World) (x y : Value) (T : Nat) : (W.drew.alloc (.cells #[x, y] T)).cell? ⟨W.heap.size, 1, none⟩ = some y := cell_new W.drew #[x, y] T 1 (by simp)
theorem box22 (w : World) (a0 a1 b0 b1 : Value) (T U : Nat) : ∃ W, (w.alloc (.cells #[a0, a1] T)).alloc (.cells #[b0, b1] U) = W ∧ Gr w W ∧ W.cell? ⟨w.heap.size, 0, none⟩ = some a0 ∧ W.cell? ⟨w.heap.size, 1, none⟩ = some a1 ∧
    W.cell? ⟨w.heap.size + 1, 0, none⟩ = some b0 ∧ W.cell? ⟨w.heap.size + 1, 1, none⟩ = some b1 := by
  obtain ⟨W, rfl, g, a, b⟩ := box2 w a0 a1 T
  obtain ⟨W2, h2, g2, c, d⟩ := box2 (w.alloc (.cells #[a0, a1] T)) b0 b1 U
  have e : (w.alloc (.cells #[a0, a1] T)).heap.size = w.heap.size + 1 := by simp
  rw [e] at c d
  exact ⟨W2, h2, g.trans g2, g2.cell a, g2.cell b, c, d⟩
/-- who wins -/
def duelB (fa fb la lb : Bool) (c : Int) : Int :=
  match fa, fb, la, lb with
  | true, true, _, _ => 3
  | true, false, _, _ => 2
  | false, true, _, _ => 1
  | false, false, true, true => 0
  | false, false, true, false => 2
  | false, false, false, true => 1
  | false, false, false, false => if c = -1 then 1 else if c = 1 then 2 else 0
def duelE (r t r2 t2 : Int) : Int := duelB (decide (r < 100)) (decide (r2 < 100)) (t == 0) (t2 == 0) (firstE [cmpE t t2, cmpE r r2])
set_option maxHeartbeats 4000000 in
set_option maxRecDepth 100000 in
theorem duel_c (r t r2 t2 : Int) (w : World) :
    Calls Tryz.prog 38 #[.agg #[.int .i64 r, .int .i64 t], .agg #[.int .i64 r2, .int .i64 t2]] w fun e w' => e = .returned (.int .i64 (duelE r t r2 t2)) ∧ Gr w w' := by
  obtain ⟨W, hW, g, a0, a1, b0, b1⟩ := box22 w (.int .i64 r) (.int .i64 t) (.int .i64 r2) (.int .i64 t2) 40 40
  have HW := Lib.hid hW
  have HA : ∀ W, _ := fun W => isFalse_c r t W
  have HB : ∀ W, _ := fun W => isFalse_c r2 t2 W
  have HC : ∀ W, _ := fun W => isFall_c r t W
  have HD : ∀ W, _ := fun W => isFall_c r2 t2 W
  have HT := Lib.hid (fun W => compare_c t t2 W)
  have HR := Lib.hid (fun W => compare_c r r2 W)
  have hE : duelE r t r2 t2 = duelB (decide (r < 100)) (decide (r2 < 100)) (t == 0) (t2 == 0) (firstE [cmpE t t2, cmpE r r2]) := rfl
  rw [hE]
  generalize decide (r < 100) = fa at *
  generalize decide (r2 < 100) = fb at *
  generalize (t == 0) = la at *
  generalize (t2 == 0) = lb at *
  clear hE hW
  replace HA := Lib.hid HA
  replace HB := Lib.hid HB
  replace HC := Lib.hid HC
  replace HD := Lib.hid HD
  cases fa
  case true =>
    cases fb
    all_goals
      go_enter Tryz.func38, Tryz.ntmps38
      go_wp2_with fail
      rw [HW.out]
      repeat (first
        | (with_reducible refine (HA.out _).mono ?_; rintro e w4 ⟨rfl, hg⟩; replace g := g.trans hg; replace a0 := hg.cell a0; replace a1 := hg.cell a1; replace b0 := hg.cell b0; replace b1 := hg.cell b1; clear hg; go_wp2_with fail)
        | (with_reducible refine (HB.out _).mono ?_; rintro e w4 ⟨rfl, hg⟩; replace g := g.trans hg; replace a0 := hg.cell a0; replace a1 := hg.cell a1; replace b0 := hg.cell b0; replace b1 := hg.cell b1; clear hg; go_wp2_with fail))
      go_ret
      exact ⟨rfl, g⟩
  case false =>
    cases fb
    case true =>
      go_enter Tryz.func38, Tryz.ntmps38
      go_wp2_with fail
      rw [HW.out]
      repeat (first
        | (with_reducible refine (HA.out _).mono ?_; rintro e w4 ⟨rfl, hg⟩; replace g := g.trans hg; replace a0 := hg.cell a0; replace a1 := hg.cell a1; replace b0 := hg.cell b0; replace b1 := hg.cell b1; clear hg; go_wp2_with fail)
        | (with_reducible refine (HB.out _).mono ?_; rintro e w4 ⟨rfl, hg⟩; replace g := g.trans hg; replace a0 := hg.cell a0; replace a1 := hg.cell a1; replace b0 := hg.cell b0; replace b1 := hg.cell b1; clear hg; go_wp2_with fail)
        | (with_reducible refine (HC.out _).mono ?_; rintro e w4 ⟨rfl, hg⟩; replace g := g.trans hg; replace a0 := hg.cell a0; replace a1 := hg.cell a1; replace b0 := hg.cell b0; replace b1 := hg.cell b1; clear hg; go_wp2_with fail)
        | (with_reducible refine (HD.out _).mono ?_; rintro e w4 ⟨rfl, hg⟩; replace g := g.trans hg; replace a0 := hg.cell a0; replace a1 := hg.cell a1; replace b0 := hg.cell b0; replace b1 := hg.cell b1; clear hg; go_wp2_with fail))
      go_ret
      exact ⟨rfl, g⟩
    case false =>
      by_cases hl : la = true ∨ lb = true
      · cases la <;> cases lb <;> simp at hl
        all_goals
          go_enter Tryz.func38, Tryz.ntmps38
          go_wp2_with fail
          rw [HW.out]
          repeat (first
        | (with_reducible refine (HA.out _).mono ?_; rintro e w4 ⟨rfl, hg⟩; replace g := g.trans hg; replace a0 := hg.cell a0; replace a1 := hg.cell a1; replace b0 := hg.cell b0; replace b1 := hg.cell b1; clear hg; go_wp2_with fail)
        | (with_reducible refine (HB.out _).mono ?_; rintro e w4 ⟨rfl, hg⟩; replace g := g.trans hg; replace a0 := hg.cell a0; replace a1 := hg.cell a1; replace b0 := hg.cell b0; replace b1 := hg.cell b1; clear hg; go_wp2_with fail)
        | (with_reducible refine (HC.out _).mono ?_; rintro e w4 ⟨rfl, hg⟩; replace g := g.trans hg; replace a0 := hg.cell a0; replace a1 := hg.cell a1; replace b0 := hg.cell b0; replace b1 := hg.cell b1; clear hg; go_wp2_with fail)
        | (with_reducible refine (HD.out _).mono ?_; rintro e w4 ⟨rfl, hg⟩; replace g := g.trans hg; replace a0 := hg.cell a0; replace a1 := hg.cell a1; replace b0 := hg.cell b0; replace b1 := hg.cell b1; clear hg; go_wp2_with fail))
          go_ret
          exact ⟨rfl, g⟩
      · obtain ⟨rfl, rfl⟩ : la = false ∧ lb = false := by cases la <;> cases lb <;> simp at hl ⊢
        clear hl
        generalize cmpE t t2 = x at *
        generalize cmpE r r2 = y at *
        have HO := Lib.hid (or_two x y)
        generalize firstE [x, y] = c at *
        have tok : True := trivial
        go_enter Tryz.func38, Tryz.ntmps38
        go_wp2_with fail
        rw [HW.out]
        repeat (first
        | (with_reducible refine (HA.out _).mono ?_; rintro e w4 ⟨rfl, hg⟩; replace g := g.trans hg; replace a0 := hg.cell a0; replace a1 := hg.cell a1; replace b0 := hg.cell b0; replace b1 := hg.cell b1; clear hg; go_wp2_with fail)
        | (with_reducible refine (HB.out _).mono ?_; rintro e w4 ⟨rfl, hg⟩; replace g := g.trans hg; replace a0 := hg.cell a0; replace a1 := hg.cell a1; replace b0 := hg.cell b0; replace b1 := hg.cell b1; clear hg; go_wp2_with fail)
        | (with_reducible refine (HC.out _).mono ?_; rintro e w4 ⟨rfl, hg⟩; replace g := g.trans hg; replace a0 := hg.cell a0; replace a1 := hg.cell a1; replace b0 := hg.cell b0; replace b1 := hg.cell b1; clear hg; go_wp2_with fail)
        | (with_reducible refine (HD.out _).mono ?_; rintro e w4 ⟨rfl, hg⟩; replace g := g.trans hg; replace a0 := hg.cell a0; replace a1 := hg.cell a1; replace b0 := hg.cell b0; replace b1 := hg.cell b1; clear hg; go_wp2_with fail))
        go_region_held3 (fun w' => w'.cell? ⟨w.heap.size, 0, none⟩ = some (.int .i64 r) ∧ w'.cell? ⟨w.heap.size, 1, none⟩ = some (.int .i64 t) ∧ w'.cell? ⟨w.heap.size + 1, 0, none⟩ = some (.int .i64 r2) ∧ w'.cell? ⟨w.heap.size + 1, 1, none⟩ = some (.int .i64 t2))
          ((first | exact ⟨a0, a1, b0, b1⟩ | exact ⟨Gr.cell ((Gr.refl _).drew.alloc _) a0, Gr.cell ((Gr.refl _).drew.alloc _) a1, Gr.cell ((Gr.refl _).drew.alloc _) b0, Gr.cell ((Gr.refl _).drew.alloc _) b1⟩))
          ((first
          | (go_at_call 49; with_reducible refine (HT.out _).mono ?_; rintro e w' ⟨rfl, rfl⟩)
          | (go_at_call 49; with_reducible refine (HR.out _).mono ?_; rintro e w' ⟨rfl, rfl⟩)
          | (go_at_call 75; refine (HO.out _ _ _ (by first | exact two_new0 _ _ _ _ | exact two_newD0 _ _ _ _) (by first | exact two_new1 _ _ _ _ | exact two_newD1 _ _ _ _)).mono ?_; rintro e w' ⟨rfl, rfl⟩)))
        have hq : c = -1 ∨ c = 1 ∨ ((c == -1) = false ∧ (c == 1) = false) := by
          by_cases h1 : c = -1
          · exact .inl h1
          · by_cases h2 : c = 1
            · exact .inr (.inl h2)
            · exact .inr (.inr ⟨by simpa using h1, by simpa using h2⟩)
        rcases hq with rfl | rfl | ⟨h1, h2⟩
        · go_wp2_with fail
          go_ret
          exact ⟨rfl, (g.alloc _).drew⟩
        · go_wp2_with fail
          go_ret
          exact ⟨rfl, (g.alloc _).drew⟩
        · have HE : Hid (duelB false false false false c = 0) := by
            unfold Hid duelB
            rw [if_neg (by simpa using h1), if_neg (by simpa using h2)]
          go_wp2_with fail
          go_ret
          exact ⟨by rw [HE.out]; rfl, (g.alloc _).drew⟩
end Go.Proofs.YtdpdbgcdmpdaoaaGreatDoor
