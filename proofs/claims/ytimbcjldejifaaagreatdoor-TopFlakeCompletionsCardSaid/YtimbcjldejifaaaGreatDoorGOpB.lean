/- Open values: the reference's CheckOpen, walked. -/
import Derived.Test.YtimbcjldejifaaaGreatDoorGNamesB
namespace Go.Proofs.YtimbcjldejifaaaGreatDoor
open Go.RowKit Go.Lib
set_option linter.unusedSimpArgs false
set_option linter.unusedVariables false
/-- what the tests of both ends say -/
inductive Ends5 (lo hi : Int) : Int → Prop where
  | a (h1 : decide (lo < 0) = true) : Ends5 lo hi 3
  | b (h1 : decide (lo < 0) = false) (h2 : decide (99999 < lo) = true) : Ends5 lo hi 3
  | c (h1 : decide (lo < 0) = false) (h2 : decide (99999 < lo) = false) (h3 : decide (hi < 0) = true) : Ends5 lo hi 3
  | d (h1 : decide (lo < 0) = false) (h2 : decide (99999 < lo) = false) (h3 : decide (hi < 0) = false) (h4 : decide (99999 < hi) = true) : Ends5 lo hi 3
  | e (h1 : decide (lo < 0) = false) (h2 : decide (99999 < lo) = false) (h3 : decide (hi < 0) = false) (h4 : decide (99999 < hi) = false) (h5 : decide (hi < lo) = true) : Ends5 lo hi 11
  | f (h1 : decide (lo < 0) = false) (h2 : decide (99999 < lo) = false) (h3 : decide (hi < 0) = false) (h4 : decide (99999 < hi) = false) (h5 : decide (hi < lo) = false) : Ends5 lo hi 0
theorem ends5 (lo hi : Int) : Ends5 lo hi (if (decide (lo < 0) || decide (99999 < lo) || decide (hi < 0) || decide (99999 < hi)) = true then 3 else if decide (hi < lo) = true then 11 else 0) := by
  cases h1 : decide (lo < 0) <;> cases h2 : decide (99999 < lo) <;> cases h3 : decide (hi < 0) <;> cases h4 : decide (99999 < hi) <;> cases h5 : decide (hi < lo)
  all_goals first
    | exact .a h1
    | exact .b h1 h2
    | exact .c h1 h2 h3
    | exact .d h1 h2 h3 h4
    | exact .e h1 h2 h3 h4 h5
    | exact .f h1 h2 h3 h4 h5
set_option maxHeartbeats 2000000 in
set_option maxRecDepth 100000 in
theorem refOpen_pos (xs : List OpR) (n b off cap : Nat) (w : World) (hn : xs.length = n) (h0 : 0 < n) (h1 : n ≤ 160) (hc : ∀ i x, xs[i]? = some x → OpAt w b (off + i * 3) x) :
    Calls Tryz.prog 4 #[.slice (some ⟨b, off, none⟩) n cap] w fun e w' => e = .returned (.int .i64 (openE xs)) ∧ Gr w w' := by
  have HE : Hid (openE xs = errFrom xs (xs.length - 0) 0) := by unfold Hid openE; rw [if_neg (by omega), if_neg (by omega)]
  have HC := Lib.hid hc
  have HN := Lib.hid hn
  clear hc hn
  have hz1 : ((n : Int) == 0) = false := by simp; omega
  have hz2 : decide ((160 : Int) < n) = false := by simp; omega
  go_enter Tryz.func4, Tryz.ntmps4
  go_wp2_with fail
  go_loopg [3] n (fun gk s3 wr => ∃ i : Nat, s3 = .int .i64 i ∧ gk + i = n ∧ Gr w wr ∧ Hid (errFrom xs (xs.length - i) i = errFrom xs (xs.length - 0) 0))
  case atStart => exact ⟨0, rfl, by omega, Gr.refl _, by simp [Hid]⟩
  case round =>
    obtain ⟨i, rfl, hi, hg, HF⟩ := hrel
    obtain ⟨gO, rfl⟩ : ∃ q, q = gk := ⟨gk, rfl⟩
    by_cases hlt : i < n
    · obtain ⟨x, hx⟩ : ∃ x, xs[i]? = some x := ⟨xs[i]'(by have := HN.out; omega), List.getElem?_eq_getElem _⟩
      have hcell := HC.out i x hx
      obtain ⟨c0, c1, c2⟩ := hcell.gr hg
      have hf := errFrom_step hx
      rw [errAt_eq] at hf
      have hi2 : (i : Int) < n := by omega
      have HX := Lib.hid hx
      have hN := fun W => refIsName_c x.nm W
      clear hx hcell
      cases e1 : decide (Nm x.nm)
      · rw [e1] at hf hN
        rw [if_pos rfl, if_neg (by decide)] at hf
        have HF2 := Lib.hid hf
        have HNm := Lib.hid hN
        clear hf hN e1
        go_wp2_with fail
        refine (HNm.out _).mono ?_
        rintro e w4 ⟨rfl, rfl⟩
        go_wp2_with fail
        go_ret
        exact ⟨by rw [HE.out, ← HF.out, HF2.out]; rfl, hg.alloc _⟩
      · rw [e1] at hf hN
        simp only [Bool.true_eq_false, if_false] at hf
        have HNm := Lib.hid hN
        have HF2 := Lib.hid hf
        clear hf hN e1
        have hz := ends5 x.lo x.hi
        generalize (if (decide (x.lo < 0) || decide (99999 < x.lo) || decide (x.hi < 0) || decide (99999 < x.hi)) = true then (3 : Int) else if decide (x.hi < x.lo) = true then 11 else 0) = z at *
        have HZ := Lib.hid hz
        clear hz
        obtain ⟨W, hW, g, a0, a1, a2⟩ := box3 wr (.string x.nm) (.int .i64 x.lo) (.int .i64 x.hi) 27
        have HW := Lib.hid hW
        clear hW
        go_wp2_with fail
        rw [HW.out]
        refine (HNm.out _).mono ?_
        rintro e w4 ⟨rfl, rfl⟩
        replace hg := hg.trans g
        generalize wr.heap.size = B at *
        clear HW g c0 c1 c2
        go_wp2_with fail
        go_loopg [5] i (fun g2 s5 wr2 => ∃ k : Nat, s5 = .int .i64 k ∧ g2 + k = i ∧ Gr W wr2 ∧ Hid (dupB xs k x.nm = false))
        case atStart => exact ⟨0, rfl, by omega, Gr.refl _, by simp [Hid, dupB]⟩
        case round =>
          obtain ⟨k, rfl, hk, hg2, HD⟩ := hrel
          replace a0 := hg2.cell a0
          replace a1 := hg2.cell a1
          replace a2 := hg2.cell a2
          replace hg := hg.trans hg2
          by_cases hlk : k < i
          · obtain ⟨y, hy⟩ : ∃ y, xs[k]? = some y := ⟨xs[k]'(by have := HN.out; omega), List.getElem?_eq_getElem _⟩
            have c0 := ((HC.out k y hy).gr hg).nm
            have hk2 : (k : Int) < i := by omega
            have hk3 : (k : Int) < n := by omega
            have hdp := dupB_succ hy x.nm
            rw [HD.out, Bool.false_or] at hdp
            clear hy
            cases e2 : (y.nm.toList == x.nm.toList)
            · rw [e2] at hdp
              have HD2 := Lib.hid hdp
              clear hdp
              go_wp2_with fail
              go_big_quiet (fail)
              go_wp2_with fail
              go_roundg (gk - 1)
              case measure => omega
              case rel => exact ⟨k + 1, by go_num, by omega, hg2.drewN _, HD2⟩
            · rw [e2] at hdp
              have HD2 := Lib.hid (dupB_le (i := i) (by omega) hdp)
              clear hdp
              rw [if_pos HD2.out, if_neg (by decide)] at HF2
              go_wp2_with fail
              go_big_quiet (fail)
              go_wp2_with fail
              go_ret
              exact ⟨by rw [HE.out, ← HF.out, HF2.out]; rfl, hg.drewN _⟩
          · have hki : k = i := by omega
            subst hki
            have HF3 := HF2.out
            rw [HD.out] at HF3
            simp only [Bool.false_eq_true, if_false] at HF3
            clear HF2
            have HF2 := Lib.hid HF3
            clear HF3
            cases HZ.out with
            | a d1 =>
              rw [if_neg (by decide)] at HF2
              go_wp2_with fail
              go_ret
              exact ⟨by rw [HE.out, ← HF.out, HF2.out]; rfl, hg⟩
            | b d1 d2 =>
              rw [if_neg (by decide)] at HF2
              go_wp2_with fail
              go_ret
              exact ⟨by rw [HE.out, ← HF.out, HF2.out]; rfl, hg⟩
            | c d1 d2 d3 =>
              rw [if_neg (by decide)] at HF2
              go_wp2_with fail
              go_ret
              exact ⟨by rw [HE.out, ← HF.out, HF2.out]; rfl, hg⟩
            | d d1 d2 d3 d4 =>
              rw [if_neg (by decide)] at HF2
              go_wp2_with fail
              go_ret
              exact ⟨by rw [HE.out, ← HF.out, HF2.out]; rfl, hg⟩
            | e d1 d2 d3 d4 d5 =>
              rw [if_neg (by decide)] at HF2
              go_wp2_with fail
              go_ret
              exact ⟨by rw [HE.out, ← HF.out, HF2.out]; rfl, hg⟩
            | f d1 d2 d3 d4 d5 =>
              rw [if_pos rfl] at HF2
              go_wp2_with fail
              go_roundg (gO - 1)
              case measure => omega
              case rel => exact ⟨k + 1, by go_num, by omega, hg, by unfold Hid; rw [← HF2.out, HF.out]⟩
    · have HE2 := Lib.hid (errFrom_end (xs := xs) (i := i) (by have := HN.out; omega))
      have hi2 : (n : Int) ≤ i := by omega
      go_wp2_with fail
      go_ret
      exact ⟨by rw [HE.out, ← HF.out, HE2.out]; rfl, hg⟩
theorem refOpen_c {v : Value} {xs : List OpR} {w : World} (h : OpsV w v xs) :
    Calls Tryz.prog 4 #[v] w fun e w' => e = .returned (.int .i64 (openE xs)) ∧ Gr w w' := by
  obtain ⟨⟨p, cap, rfl, _, hh⟩⟩ := h
  by_cases h0 : 0 < xs.length
  · obtain ⟨b, off, rfl, hc⟩ := hh h0
    by_cases h1 : xs.length ≤ 160
    · exact refOpen_pos xs _ b off cap w rfl h0 h1 hc
    · have HE : Hid (openE xs = 5) := by unfold Hid openE; rw [if_neg (show ¬ xs.length = 0 by omega), if_pos (show 160 < xs.length by omega)]
      have hz1 : ((xs.length : Int) == 0) = false := beq_eq_false_iff_ne.2 (by omega)
      have hz2 : decide ((160 : Int) < xs.length) = true := decide_eq_true (by omega)
      clear hh hc
      go_enter Tryz.func4, Tryz.ntmps4
      go_wp2_with fail
      go_ret
      exact ⟨by rw [HE.out]; rfl, Gr.refl _⟩
  · have hx : xs = [] := List.eq_nil_of_length_eq_zero (by omega)
    subst hx
    have HE : Hid (openE ([] : List OpR) = 12) := rfl
    go_enter Tryz.func4, Tryz.ntmps4
    go_wp2_with fail
    go_ret
    exact ⟨by rw [HE.out]; rfl, Gr.refl _⟩
end Go.Proofs.YtimbcjldejifaaaGreatDoor
namespace Go.Proofs.YtimbcjldejifaaaGreatDoor
open Go.RowKit Go.Lib
set_option linter.unusedSimpArgs false
set_option linter.unusedVariables false
/-- how many of a list, from a number on, pass a test -/
def cnt (p : Nat → OpR → Bool) : List OpR → Nat → Int
  | [], _ => 0
  | x :: xs, i => (if p i x then 1 else 0) + cnt p xs (i + 1)
theorem cnt_drop {p : Nat → OpR → Bool} {xs : List OpR} {i : Nat} {x : OpR} (h : xs[i]? = some x) : cnt p (xs.drop i) i = (if p i x then 1 else 0) + cnt p (xs.drop (i + 1)) (i + 1) := by
  obtain ⟨h1, rfl⟩ := List.getElem?_eq_some_iff.1 h
  rw [List.drop_eq_getElem_cons h1]; rfl
theorem cnt_le (p : Nat → OpR → Bool) : ∀ (xs : List OpR) (i : Nat), 0 ≤ cnt p xs i ∧ cnt p xs i ≤ xs.length
  | [], _ => by simp [cnt]
  | x :: xs, i => by
    have := cnt_le p xs (i + 1)
    simp only [cnt, List.length_cons]
    split <;> omega
/-- others with a low end above a value -/
def surP (c v : Int) (i : Nat) (x : OpR) : Bool := !((i : Int) == c) && decide (v < x.lo)
/-- others with a high end above a value -/
def perP (c v : Int) (i : Nat) (x : OpR) : Bool := !((i : Int) == c) && decide (v < x.hi)
/-- with this value neither too many others are above it, nor too few can be -/
def okV (xs : List OpR) (c r v : Int) : Bool := decide (cnt (surP c v) xs 0 < r) && decide (r - 1 ≤ cnt (perP c v) xs 0)
/-- one of so many values, from one on, will do -/
def someV (xs : List OpR) (c r : Int) : Nat → Int → Bool
  | 0, _ => false
  | k + 1, v => okV xs c r v || someV xs c r k (v + 1)
/-- the rank is possible -/
def possB (xs : List OpR) (c r : Int) (x : OpR) : Bool := someV xs c r (x.hi + 1 - x.lo).toNat x.lo
theorem someV_step {xs : List OpR} {c r v hi : Int} (h : v ≤ hi) : someV xs c r (hi + 1 - v).toNat v = (okV xs c r v || someV xs c r (hi + 1 - (v + 1)).toNat (v + 1)) := by
  obtain ⟨k, hk⟩ : ∃ k, (hi + 1 - v).toNat = k + 1 := ⟨(hi - v).toNat, by omega⟩
  rw [hk, show (hi + 1 - (v + 1)).toNat = k by omega]; rfl
theorem someV_end {xs : List OpR} {c r v hi : Int} (h : hi < v) : someV xs c r (hi + 1 - v).toNat v = false := by
  rw [show (hi + 1 - v).toNat = 0 by omega]; rfl
/-- the possible ranks up to one -/
def ranksK (xs : List OpR) (c : Int) (x : OpR) : Nat → List Int
  | 0 => []
  | k + 1 => ranksK xs c x k ++ (if possB xs c (k + 1) x then [((k + 1 : Nat) : Int)] else [])
theorem ranksK_len (xs : List OpR) (c : Int) (x : OpR) : ∀ k, (ranksK xs c x k).length ≤ k
  | 0 => Nat.le_refl _
  | k + 1 => by
    have := ranksK_len xs c x k
    simp only [ranksK, List.length_append]
    split <;> simp <;> omega
end Go.Proofs.YtimbcjldejifaaaGreatDoor
namespace Go.Proofs.YtimbcjldejifaaaGreatDoor
open Go.RowKit Go.Lib
set_option linter.unusedSimpArgs false
set_option linter.unusedVariables false
theorem info75 : (Tryz.prog.info? 28).map (fun i => (i.zero, i.size, i.bytes)) = some (some (.agg #[.string ⟨#[]⟩, .int .i64 0, .int .i64 0]), 3, 32) := by kernel_rfl
/-- the cells of a climber, of climbers -/
def opC (x : OpR) : List Value := [.string x.nm, .int .i64 x.lo, .int .i64 x.hi]
def opCs (xs : List OpR) : List Value := xs.flatMap opC
theorem opCs_len (xs : List OpR) : (opCs xs).length = xs.length * 3 := by
  induction xs with
  | nil => rfl
  | cons x xs ih => simp only [opCs, List.flatMap_cons, List.length_append, List.length_cons] at *; rw [ih]; simp [opC]; omega
theorem opCs_take {xs : List OpR} {k : Nat} {x : OpR} (h : xs[k]? = some x) : opCs (xs.take (k + 1)) = opCs (xs.take k) ++ opC x := by
  rw [List.take_add_one, h]
  simp [opCs]
theorem opCs_at {xs : List OpR} {i : Nat} {x : OpR} (h : xs[i]? = some x) (j : Nat) (hj : j < 3) : (opCs xs)[i * 3 + j]? = (opC x)[j]? := by
  induction xs generalizing i with
  | nil => simp at h
  | cons y ys ih =>
    have e : opCs (y :: ys) = opC y ++ opCs ys := rfl
    rw [e]
    cases i with
    | zero =>
      simp only [List.getElem?_cons_zero, Option.some.injEq] at h
      subst h
      rw [show 0 * 3 + j = j by omega, List.getElem?_append_left (by simp [opC]; omega)]
    | succ i =>
      rw [List.getElem?_append_right (by simp [opC]; omega)]
      have := ih (i := i) (by simpa using h)
      rw [← this]
      congr 1
      simp [opC]; omega
theorem opsV_of_owns {w : World} {base : Nat} {v : Value} {xs : List OpR} {T : TypeId} (h : w.ownsRow base T 3 v xs.length (opCs xs)) : OpsV w v xs := by
  rcases h.2 with ⟨rfl, h0⟩ | ⟨g, cap, cur, rfl, _, _, hle, hmx, _, _⟩
  · exact ⟨none, 0, by rw [h0], ⟨by omega, by unfold maxLen; omega⟩, fun h => by omega⟩
  · refine ⟨some ⟨g, 0, none⟩, cap, rfl, ⟨hle, hmx⟩, fun _ => ⟨g, 0, rfl, fun i x hx => ?_⟩⟩
    have e : ∀ j, (⟨g, 0, none⟩ : Addr).add j = ⟨g, j, none⟩ := fun j => by unfold Addr.add; split <;> simp_all
    have c0 := h.cells (g := g) rfl (i * 3 + 0) (.string x.nm) (by rw [opCs_at hx 0 (by omega)]; rfl)
    have c1 := h.cells (g := g) rfl (i * 3 + 1) (.int .i64 x.lo) (by rw [opCs_at hx 1 (by omega)]; rfl)
    have c2 := h.cells (g := g) rfl (i * 3 + 2) (.int .i64 x.hi) (by rw [opCs_at hx 2 (by omega)]; rfl)
    rw [e] at c0 c1 c2
    exact ⟨by simpa using c0, by simpa using c1, by simpa using c2⟩
theorem cell_three_new (w : World) (A : Obj) (a b c : Value) (T : TypeId) : ∀ (j : Nat) (u : Value), [a, b, c][j]? = some u → ((w.alloc A).alloc (.cells #[a, b, c] T)).cell? ((⟨w.heap.size + 1, 0, none⟩ : Addr).add j) = some u := by
  intro j u h
  have hs : (w.alloc A).heap.size = w.heap.size + 1 := World.size_alloc _ _
  have e : (⟨w.heap.size + 1, 0, none⟩ : Addr).add j = ⟨(w.alloc A).heap.size, j, none⟩ := by unfold Addr.add; split <;> simp_all
  rw [e]
  rcases j with _ | _ | _ | j
  · simp at h; subst h; exact cell_new (w.alloc A) #[a, b, c] T 0 (by simp)
  · simp at h; subst h; exact cell_new (w.alloc A) #[a, b, c] T 1 (by simp)
  · simp at h; subst h; exact cell_new (w.alloc A) #[a, b, c] T 2 (by simp)
  · simp at h
end Go.Proofs.YtimbcjldejifaaaGreatDoor
namespace Go.Proofs.YtimbcjldejifaaaGreatDoor
open Go.RowKit Go.Lib
set_option linter.unusedSimpArgs false
set_option linter.unusedVariables false
/-- a climber's value -/
def opV (x : OpR) : Value := .agg #[.string x.nm, .int .i64 x.lo, .int .i64 x.hi]
theorem same1_c (y : OpR) (B : Nat) (nm : ByteArray) (w : World) (h : w.cell? ⟨B, 0, none⟩ = some (.string nm)) :
    Calls Tryz.prog 54 #[opV y, .pointer (some ⟨B, 0, none⟩)] w fun e w' => e = .returned (.bool (y.nm.toList == nm.toList)) ∧ Gr w w' := by
  unfold opV
  obtain ⟨W, hW, g, a0, a1, a2⟩ := box3 w (.string y.nm) (.int .i64 y.lo) (.int .i64 y.hi) 28
  have hB := g.cell h
  rw [← hW] at hB
  have HG := Lib.hid (show Gr w (w.alloc (.cells #[.string y.nm, .int .i64 y.lo, .int .i64 y.hi] 28)) from (Gr.refl w).alloc _)
  clear hW h g a0 a1 a2
  go_enter Tryz.func54, Tryz.ntmps54
  go_wp2_with fail
  go_ret
  exact ⟨rfl, HG.out⟩
/-- the first place of the name, from a place on -/
def firstAt (xs : List OpR) (nm : ByteArray) : Nat → Nat → Int
  | 0, _ => -1
  | k + 1, i => match xs[i]? with
    | some x => if x.nm.toList == nm.toList then i else firstAt xs nm k (i + 1)
    | none => -1
theorem firstAt_step {xs : List OpR} {nm : ByteArray} {i n : Nat} {x : OpR} (h : xs[i]? = some x) (hi : i < n) : firstAt xs nm (n - i) i = if x.nm.toList == nm.toList then (i : Int) else firstAt xs nm (n - (i + 1)) (i + 1) := by
  obtain ⟨k, hk⟩ : ∃ k, n - i = k + 1 := ⟨n - i - 1, by omega⟩
  rw [hk, show n - (i + 1) = k by omega]
  simp only [firstAt, h]
theorem firstAt_end {xs : List OpR} {nm : ByteArray} {i n : Nat} (h : n ≤ i) : firstAt xs nm (n - i) i = -1 := by
  rw [show n - i = 0 by omega]; rfl
theorem firstAt_any (xs : List OpR) (nm : ByteArray) : ∀ (k i : Nat), i + k ≤ xs.length → decide (0 ≤ firstAt xs nm k i) = ((xs.drop i).take k).any fun y => y.nm.toList == nm.toList
  | 0, i, h => by simp [firstAt]
  | k + 1, i, h => by
    have hi : i < xs.length := by omega
    rw [List.drop_eq_getElem_cons hi, List.take_succ_cons, List.any_cons, ← firstAt_any xs nm k (i + 1) (by omega)]
    simp only [firstAt, List.getElem?_eq_getElem hi]
    cases xs[i].nm.toList == nm.toList <;> simp
set_option maxHeartbeats 1000000 in
set_option maxRecDepth 100000 in
theorem indexFunc_pos (xs : List OpR) (n b off cap B : Nat) (nm : ByteArray) (w : World) (hn : n ≤ xs.length) (h1 : n ≤ 1000) (hc : ∀ i x, xs[i]? = some x → OpAt w b (off + i * 3) x) (hB : w.cell? ⟨B, 0, none⟩ = some (.string nm)) :
    Calls Tryz.prog 84 #[.slice (some ⟨b, off, none⟩) n cap, .func (.func 54) #[] #[.pointer (some ⟨B, 0, none⟩)]] w fun e w' => e = .returned (.int .i64 (firstAt xs nm n 0)) ∧ Gr w w' := by
  have HC := Lib.hid hc
  have HN := Lib.hid hn
  have HE : Hid (firstAt xs nm n 0 = firstAt xs nm (n - 0) 0) := rfl
  clear hc hn
  go_enter Tryz.func84, Tryz.ntmps84
  go_wp2_with fail
  go_loopg [8] n (fun gk s8 wr => ∃ i : Nat, s8 = .int .i64 i ∧ gk + i = n ∧ Gr w wr ∧ Hid (firstAt xs nm (n - i) i = firstAt xs nm (n - 0) 0))
  case atStart => exact ⟨0, rfl, by omega, Gr.refl _, rfl⟩
  case round =>
    obtain ⟨i, rfl, hi, hg, HF⟩ := hrel
    by_cases hlt : i < n
    · obtain ⟨x, hx⟩ : ∃ x, xs[i]? = some x := ⟨xs[i]'(by have := HN.out; omega), List.getElem?_eq_getElem _⟩
      obtain ⟨c0, c1, c2⟩ := (HC.out i x hx).gr hg
      have hf := firstAt_step (nm := nm) hx hlt
      have hi2 : (i : Int) < n := by omega
      have HT := Lib.hid (same1_c x B nm wr (hg.cell hB))
      clear hx
      unfold opV at HT
      cases e1 : (x.nm.toList == nm.toList)
      · rw [e1] at hf HT
        simp only [Bool.false_eq_true, if_false] at hf
        have HF2 := Lib.hid hf
        clear hf e1
        go_wp2_with (refine HT.out.mono ?_; rintro e w4 ⟨rfl, hg2⟩)
        go_roundg (gk - 1)
        case measure => omega
        case rel => exact ⟨i + 1, by go_num, by omega, hg.trans hg2, by unfold Hid; rw [← HF2.out, HF.out]⟩
      · rw [e1] at hf HT
        simp only [if_true] at hf
        have HF2 := Lib.hid hf
        clear hf e1
        go_wp2_with (refine HT.out.mono ?_; rintro e w4 ⟨rfl, hg2⟩)
        go_ret
        exact ⟨by rw [HE.out, ← HF.out, HF2.out]; rfl, hg.trans hg2⟩
    · have HE2 := Lib.hid (firstAt_end (xs := xs) (nm := nm) (i := i) (n := n) (by omega))
      have hi2 : (n : Int) ≤ i := by omega
      go_wp2_with fail
      go_ret
      exact ⟨by rw [HE.out, ← HF.out, HE2.out]; rfl, hg⟩
end Go.Proofs.YtimbcjldejifaaaGreatDoor
