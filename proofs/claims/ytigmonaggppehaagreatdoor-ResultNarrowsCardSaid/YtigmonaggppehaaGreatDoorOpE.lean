/- Open values: the reference's Surely, Perhaps, Possible. Open values: the reference's Possible. Open values: the reference's Ranks; lists of integers that are made. -/
import Derived.Test.YtigmonaggppehaaGreatDoorOpB
namespace Go.Proofs.YtigmonaggppehaaGreatDoor
open Go.RowKit Go.Lib
set_option linter.unusedSimpArgs false
set_option linter.unusedVariables false
/-- how many of a list, from a number on, pass a test -/
def cnt (p : Nat → OpR → Bool) : List OpR → Nat → Int
  | [], _ => 0
  | x :: xs, i => (if p i x then 1 else 0) + cnt p xs (i + 1)
theorem cnt_drop {p : Nat → OpR → Bool} {xs : List OpR} {i : Nat} {x : OpR} (h : xs[i]? = some x) : cnt p (xs.drop i) i = (if p i x then 1 else 0) + cnt p (xs.drop (i + 1)) (i + 1) := by
  obtain ⟨h1, rfl⟩ := List.getElem?_eq_some_iff.1 h
  rw [List.drop_eq_getElem_cons h1]; rfl
theorem cnt_le (p : Nat → OpR → Bool) : ∀ (xs : List OpR) (i : Nat), 0 ≤ cnt p xs i ∧ cnt p xs i ≤ xs.length
  | [], _ => by simp [cnt]
  | x :: xs, i => by
    have := cnt_le p xs (i + 1)
    simp only [cnt, List.length_cons]
    split <;> omega
/-- others with a low end above a value -/
def surP (c v : Int) (i : Nat) (x : OpR) : Bool := !((i : Int) == c) && decide (v < x.lo)
/-- others with a high end above a value -/
def perP (c v : Int) (i : Nat) (x : OpR) : Bool := !((i : Int) == c) && decide (v < x.hi)
set_option maxHeartbeats 1000000 in
set_option maxRecDepth 100000 in
theorem sur_pos (xs : List OpR) (n b off cap : Nat) (c v : Int) (w : World) (hn : xs.length = n) (h1 : n ≤ 1000) (hc : ∀ i x, xs[i]? = some x → OpAt w b (off + i * 3) x) :
    Calls Tryz.prog 40 #[.slice (some ⟨b, off, none⟩) n cap, .int .i64 c, .int .i64 v] w fun e w' => e = .returned (.int .i64 (cnt (surP c v) xs 0)) ∧ w = w' := by
  have HC := Lib.hid hc
  have HN := Lib.hid hn
  have HP : Hid (∀ (i : Nat) (x : OpR), surP c v i x = (!((i : Int) == c) && decide (v < x.lo))) := fun i x => rfl
  have HB := Lib.hid (fun ys i => cnt_le (surP c v) ys i)
  clear hc
  generalize surP c v = p at *
  go_enter Tryz.func40, Tryz.ntmps40
  go_wp2_with fail
  go_loopg [7, 8] n (fun gk s7 s8 wr => ∃ (i : Nat) (a : Int), s8 = .int .i64 i ∧ s7 = .int .i64 a ∧ 0 ≤ a ∧ a ≤ i ∧ gk + i = n ∧ wr = w ∧ Hid (a + cnt p (xs.drop i) i = cnt p xs 0))
  case atStart => exact ⟨0, 0, rfl, rfl, by omega, by omega, by omega, rfl, by simp [Hid]⟩
  case round =>
    obtain ⟨i, a, rfl, rfl, ha0, ha1, hi, rfl, HF⟩ := hrel
    by_cases hlt : i < n
    · obtain ⟨x, hx⟩ : ∃ x, xs[i]? = some x := ⟨xs[i]'(by omega), List.getElem?_eq_getElem (by omega)⟩
      obtain ⟨c0, c1, c2⟩ := HC.out i x hx
      have hf := cnt_drop (p := p) hx
      have hp := HP.out i x
      have hi2 : (i : Int) < n := by omega
      have hw : IntKind.i64.wrap (a + 1) = a + 1 := by rw [IntKind.wrap_i64]; omega
      clear hx
      cases e1 : ((i : Int) == c) <;> cases e2 : decide (v < x.lo)
      all_goals
        rw [e1, e2] at hp
        simp only [Bool.not_true, Bool.not_false, Bool.false_and, Bool.true_and] at hp
        rw [hp] at hf
        simp only [Bool.false_eq_true, if_false, if_true] at hf
        have HF2 := Lib.hid hf
        have e3 : ((i : Int) != c) = _ := congrArg not e1
        clear hf hp
        go_wp2_with fail
        first
          | (go_roundg (gk - 1)
             case measure => omega
             case rel => exact ⟨i + 1, a, by go_num, rfl, by omega, by omega, by omega, rfl, by unfold Hid; rw [← HF.out, HF2.out]; omega⟩)
          | (go_roundg (gk - 1)
             case measure => omega
             case rel => exact ⟨i + 1, a + 1, by go_num, by go_num, by omega, by omega, by omega, rfl, by unfold Hid; rw [← HF.out, HF2.out]; omega⟩)
    · have : xs.drop i = [] := List.drop_of_length_le (by omega)
      have HE : Hid (cnt p xs 0 = a) := by unfold Hid; rw [← HF.out, this]; simp [cnt]
      have hi2 : (n : Int) ≤ i := by omega
      clear this
      go_wp2_with fail
      go_ret
      exact ⟨by rw [HE.out]; rfl, rfl⟩
set_option maxHeartbeats 1000000 in
set_option maxRecDepth 100000 in
theorem per_pos (xs : List OpR) (n b off cap : Nat) (c v : Int) (w : World) (hn : xs.length = n) (h1 : n ≤ 1000) (hc : ∀ i x, xs[i]? = some x → OpAt w b (off + i * 3) x) :
    Calls Tryz.prog 41 #[.slice (some ⟨b, off, none⟩) n cap, .int .i64 c, .int .i64 v] w fun e w' => e = .returned (.int .i64 (cnt (perP c v) xs 0)) ∧ w = w' := by
  have HC := Lib.hid hc
  have HN := Lib.hid hn
  have HP : Hid (∀ (i : Nat) (x : OpR), perP c v i x = (!((i : Int) == c) && decide (v < x.hi))) := fun i x => rfl
  have HB := Lib.hid (fun ys i => cnt_le (perP c v) ys i)
  clear hc
  generalize perP c v = p at *
  go_enter Tryz.func41, Tryz.ntmps41
  go_wp2_with fail
  go_loopg [7, 8] n (fun gk s7 s8 wr => ∃ (i : Nat) (a : Int), s8 = .int .i64 i ∧ s7 = .int .i64 a ∧ 0 ≤ a ∧ a ≤ i ∧ gk + i = n ∧ wr = w ∧ Hid (a + cnt p (xs.drop i) i = cnt p xs 0))
  case atStart => exact ⟨0, 0, rfl, rfl, by omega, by omega, by omega, rfl, by simp [Hid]⟩
  case round =>
    obtain ⟨i, a, rfl, rfl, ha0, ha1, hi, rfl, HF⟩ := hrel
    by_cases hlt : i < n
    · obtain ⟨x, hx⟩ : ∃ x, xs[i]? = some x := ⟨xs[i]'(by omega), List.getElem?_eq_getElem (by omega)⟩
      obtain ⟨c0, c1, c2⟩ := HC.out i x hx
      have hf := cnt_drop (p := p) hx
      have hp := HP.out i x
      have hi2 : (i : Int) < n := by omega
      have hw : IntKind.i64.wrap (a + 1) = a + 1 := by rw [IntKind.wrap_i64]; omega
      clear hx
      cases e1 : ((i : Int) == c) <;> cases e2 : decide (v < x.hi)
      all_goals
        rw [e1, e2] at hp
        simp only [Bool.not_true, Bool.not_false, Bool.false_and, Bool.true_and] at hp
        rw [hp] at hf
        simp only [Bool.false_eq_true, if_false, if_true] at hf
        have HF2 := Lib.hid hf
        have e3 : ((i : Int) != c) = _ := congrArg not e1
        clear hf hp
        go_wp2_with fail
        first
          | (go_roundg (gk - 1)
             case measure => omega
             case rel => exact ⟨i + 1, a, by go_num, rfl, by omega, by omega, by omega, rfl, by unfold Hid; rw [← HF.out, HF2.out]; omega⟩)
          | (go_roundg (gk - 1)
             case measure => omega
             case rel => exact ⟨i + 1, a + 1, by go_num, by go_num, by omega, by omega, by omega, rfl, by unfold Hid; rw [← HF.out, HF2.out]; omega⟩)
    · have : xs.drop i = [] := List.drop_of_length_le (by omega)
      have HE : Hid (cnt p xs 0 = a) := by unfold Hid; rw [← HF.out, this]; simp [cnt]
      have hi2 : (n : Int) ≤ i := by omega
      clear this
      go_wp2_with fail
      go_ret
      exact ⟨by rw [HE.out]; rfl, rfl⟩
/-- with this value neither too many others are above it, nor too few can be -/
def okV (xs : List OpR) (c r v : Int) : Bool := decide (cnt (surP c v) xs 0 < r) && decide (r - 1 ≤ cnt (perP c v) xs 0)
/-- one of so many values, from one on, will do -/
def someV (xs : List OpR) (c r : Int) : Nat → Int → Bool
  | 0, _ => false
  | k + 1, v => okV xs c r v || someV xs c r k (v + 1)
/-- the rank is possible -/
def possB (xs : List OpR) (c r : Int) (x : OpR) : Bool := someV xs c r (x.hi + 1 - x.lo).toNat x.lo
theorem someV_step {xs : List OpR} {c r v hi : Int} (h : v ≤ hi) : someV xs c r (hi + 1 - v).toNat v = (okV xs c r v || someV xs c r (hi + 1 - (v + 1)).toNat (v + 1)) := by
  obtain ⟨k, hk⟩ : ∃ k, (hi + 1 - v).toNat = k + 1 := ⟨(hi - v).toNat, by omega⟩
  rw [hk, show (hi + 1 - (v + 1)).toNat = k by omega]; rfl
theorem someV_end {xs : List OpR} {c r v hi : Int} (h : hi < v) : someV xs c r (hi + 1 - v).toNat v = false := by
  rw [show (hi + 1 - v).toNat = 0 by omega]; rfl
set_option maxHeartbeats 1000000 in
set_option maxRecDepth 100000 in
theorem possible_c (xs : List OpR) (n b off cap cl : Nat) (r : Int) (x : OpR) (w : World) (hn : xs.length = n) (h1 : n ≤ 1000) (hc : ∀ i x, xs[i]? = some x → OpAt w b (off + i * 3) x)
    (hx : xs[cl]? = some x) (hl : 0 ≤ x.lo) (hlh : x.lo ≤ x.hi) (hh : x.hi ≤ 99999) (hr0 : -1000 ≤ r) (hr1 : r ≤ 1000) :
    Calls Tryz.prog 12 #[.slice (some ⟨b, off, none⟩) n cap, .int .i64 cl, .int .i64 r] w fun e w' => e = .returned (.bool (possB xs cl r x)) ∧ w = w' := by
  have HS := Lib.hid (fun v W (hW : w = W) => sur_pos xs n b off cap cl v W hn h1 (by subst hW; exact hc))
  have HP := Lib.hid (fun v W (hW : w = W) => per_pos xs n b off cap cl v W hn h1 (by subst hW; exact hc))
  obtain ⟨c0, c1, c2⟩ := hc cl x hx
  have hcl : (cl : Int) < n := by
    have := (List.getElem?_eq_some_iff.1 hx).1
    omega
  have HE : Hid (possB xs cl r x = someV xs cl r (x.hi + 1 - x.lo).toNat x.lo) := rfl
  clear hc hx
  have hw2 : IntKind.i64.wrap (r - 1) = r - 1 := by rw [IntKind.wrap_i64]; omega
  go_enter Tryz.func12, Tryz.ntmps12
  go_wp2_with fail
  go_loopg [7] (x.hi + 1 - x.lo).toNat (fun gk s7 wr => ∃ v : Int, s7 = .int .i64 v ∧ gk = (x.hi + 1 - v).toNat ∧ x.lo ≤ v ∧ v ≤ 100000 ∧ wr = w ∧ Hid (someV xs cl r (x.hi + 1 - v).toNat v = someV xs cl r (x.hi + 1 - x.lo).toNat x.lo))
  case atStart =>
    exact ⟨x.lo, rfl, rfl, by omega, by omega, rfl, rfl⟩
  case round =>
    obtain ⟨v, rfl, hg, hv0, hv1, rfl, HF⟩ := hrel
    by_cases hle : v ≤ x.hi
    · have hf := someV_step (xs := xs) (c := cl) (r := r) hle
      rw [HF.out] at hf
      have hw : IntKind.i64.wrap (v + 1) = v + 1 := by rw [IntKind.wrap_i64]; omega
      have hO : okV xs cl r v = (decide (cnt (surP cl v) xs 0 < r) && decide (r - 1 ≤ cnt (perP cl v) xs 0)) := rfl
      have hS := HS.out v wr rfl
      have hP := HP.out v wr rfl
      generalize cnt (surP cl v) xs 0 = a at *
      generalize cnt (perP cl v) xs 0 = d at *
      have HS2 := Lib.hid hS
      have HP2 := Lib.hid hP
      clear hS hP HS HP
      cases e1 : decide (a < r) <;> cases e2 : decide (r - 1 ≤ d)
      all_goals
        rw [e1, e2] at hO
        rw [hO] at hf
        simp only [Bool.false_and, Bool.true_and, Bool.false_or, Bool.true_or] at hf
        have HF2 := Lib.hid hf
        clear hf hO
        go_wp2_with fail
        refine HS2.out.mono ?_
        rintro e w4 ⟨rfl, rfl⟩
        go_wp2_with fail
        repeat (first | (with_reducible refine HP2.out.mono ?_; rintro e w4 ⟨rfl, rfl⟩; go_wp2_with fail))
        first
          | (go_ret
             exact ⟨by rw [HE.out, HF2.out]; rfl, rfl⟩)
          | (go_roundg (x.hi + 1 - (v + 1)).toNat
             case measure => omega
             case rel => exact ⟨v + 1, by go_num, rfl, by omega, by omega, rfl, HF2.out.symm⟩)
    · have hf := someV_end (xs := xs) (c := cl) (r := r) (v := v) (hi := x.hi) (by omega)
      rw [HF.out] at hf
      have HF2 := Lib.hid hf
      have hi2 : x.hi < v := by omega
      clear hf
      go_wp2_with fail
      go_ret
      exact ⟨by rw [HE.out, HF2.out]; rfl, rfl⟩
theorem info3 : (Tryz.prog.info? 3).map (fun i => (i.zero, i.size, i.bytes)) = some (some (.int .i64 0), 1, 8) := by kernel_rfl
def ints (xs : List Int) : List Value := xs.map (Value.int .i64)
theorem cell_one_new (w : World) (a : Value) (T : TypeId) : ∀ (j : Nat) (u : Value), [a][j]? = some u → (w.alloc (.cells #[a] T)).cell? ((⟨w.heap.size, 0, none⟩ : Addr).add j) = some u := by
  intro j u h
  have e : (⟨w.heap.size, 0, none⟩ : Addr).add j = ⟨w.heap.size, j, none⟩ := by unfold Addr.add; split <;> simp_all
  rw [e]
  rcases j with _ | j
  · simp at h; subst h; exact cell_new w #[a] T 0 (by simp)
  · simp at h
/-- the possible ranks up to one -/
def ranksK (xs : List OpR) (c : Int) (x : OpR) : Nat → List Int
  | 0 => []
  | k + 1 => ranksK xs c x k ++ (if possB xs c (k + 1) x then [((k + 1 : Nat) : Int)] else [])
theorem ranksK_len (xs : List OpR) (c : Int) (x : OpR) : ∀ k, (ranksK xs c x k).length ≤ k
  | 0 => Nat.le_refl _
  | k + 1 => by
    have := ranksK_len xs c x k
    simp only [ranksK, List.length_append]
    split <;> simp <;> omega
end Go.Proofs.YtigmonaggppehaaGreatDoor
