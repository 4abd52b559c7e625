/- Comparisons: cmp.Compare, cmp.Or, slices.Compare of integers, the reference's order. -/
import Derived.Test.YtjhgjlgoigpgnaaGreatDoorResB
namespace Go.Proofs.YtjhgjlgoigpgnaaGreatDoor
open Go.RowKit Go.Lib
set_option linter.unusedSimpArgs false
/-- -1, 0 or 1 -/
def cmpZ (a b : Int) : Int := if decide (a < b) then -1 else if decide (b < a) then 1 else 0
theorem cmpZ_self (a : Int) : cmpZ a a = 0 := by unfold cmpZ; simp
theorem cmpZ_zero {a b : Int} (h : cmpZ a b = 0) : a = b := by
  unfold cmpZ at h
  split at h
  · cases h
  split at h
  · cases h
  · rename_i h1 h2
    simp at h1 h2; omega
theorem isNaN_c (x : Int) (w : World) :
    Calls Tryz.prog 145 #[.int .i64 x] w fun e w' => e = .returned (.bool false) ∧ w = w' := by
  go_enter Tryz.func145, Tryz.ntmps145
  go_wp2_with fail
  go_ret
  exact ⟨by simp, rfl⟩
theorem cmpInt_c (x y : Int) (w : World) :
    Calls Tryz.prog 93 #[.int .i64 x, .int .i64 y] w fun e w' => e = .returned (.int .i64 (cmpZ x y)) ∧ w = w' := by
  have HX := Lib.hid (fun W => isNaN_c x W)
  have HY := Lib.hid (fun W => isNaN_c y W)
  have HE : Hid (cmpZ x y = if decide (x < y) then -1 else if decide (y < x) then 1 else 0) := rfl
  cases h1 : decide (x < y) <;> cases h2 : decide (y < x)
  all_goals
    rw [h1, h2] at HE
    go_enter Tryz.func93, Tryz.ntmps93
    go_wp2_with fail
    repeat (first
      | (with_reducible refine (HX.out _).mono ?_; rintro e w4 ⟨rfl, rfl⟩; go_wp2_with fail)
      | (with_reducible refine (HY.out _).mono ?_; rintro e w4 ⟨rfl, rfl⟩; go_wp2_with fail))
    go_ret
    exact ⟨by rw [HE.out]; rfl, rfl⟩
theorem order_c (x y : Int) (w : World) :
    Calls Tryz.prog 43 #[.int .i64 x, .int .i64 y] w fun e w' => e = .returned (.int .i64 (cmpZ x y)) ∧ w = w' := by
  have HE : Hid (cmpZ x y = if decide (x < y) then -1 else if decide (y < x) then 1 else 0) := rfl
  cases h1 : decide (x < y) <;> cases h2 : decide (y < x)
  all_goals
    rw [h1, h2] at HE
    go_enter Tryz.func43, Tryz.ntmps43
    go_wp2_with fail
    go_ret
    exact ⟨by rw [HE.out]; rfl, rfl⟩
set_option maxRecDepth 100000 in
theorem or_c (x y : Int) (b cap : Nat) (w : World) (hx : w.cell? ⟨b, 0, none⟩ = some (.int .i64 x)) (hy : w.cell? ⟨b, 1, none⟩ = some (.int .i64 y)) :
    Calls Tryz.prog 92 #[.slice (some ⟨b, 0, none⟩) 2 cap] w fun e w' => e = .returned (.int .i64 (firstE [x, y])) ∧ Gr w w' := by
  have HE : Hid (firstE [x, y] = if x = 0 then (if y = 0 then 0 else y) else x) := rfl
  go_enter Tryz.func92, Tryz.ntmps92
  go_wp2_with fail
  refine wp_loop_rounds 3 ?_
  rw [rounds_succ]
  by_cases h1 : x = 0
  · subst h1
    rw [if_pos rfl] at HE
    go_wp2_with fail
    rw [rounds_succ]
    by_cases h2 : y = 0
    · subst h2
      go_wp2_with fail
      rw [rounds_succ]
      go_wp2_with fail
      go_ret
      exact ⟨by rw [HE.out]; rfl, Gr.refl _⟩
    · have hd : (y == 0) = false := by simpa using h2
      have hd2 : (y != 0) = true := by simpa [bne] using hd
      rw [if_neg h2] at HE
      clear h2
      go_wp2_with fail
      go_ret
      exact ⟨by rw [HE.out]; rfl, Gr.refl _⟩
  · have hd : (x == 0) = false := by simpa using h1
    have hd2 : (x != 0) = true := by simpa [bne] using hd
    rw [if_neg h1] at HE
    clear h1
    go_wp2_with fail
    go_ret
    exact ⟨by rw [HE.out]; rfl, Gr.refl _⟩
/-- lists, one against the other -/
def cmpL : List Int → List Int → Int
  | [], [] => 0
  | [], _ :: _ => -1
  | _ :: _, [] => 1
  | x :: xs, y :: ys => if cmpZ x y = 0 then cmpL xs ys else cmpZ x y
theorem cmpL_drop {xs ys : List Int} {k : Nat} {x y : Int} (hx : xs[k]? = some x) (hy : ys[k]? = some y) : cmpL (xs.drop k) (ys.drop k) = if cmpZ x y = 0 then cmpL (xs.drop (k + 1)) (ys.drop (k + 1)) else cmpZ x y := by
  obtain ⟨h1, rfl⟩ := List.getElem?_eq_some_iff.1 hx
  obtain ⟨h2, rfl⟩ := List.getElem?_eq_some_iff.1 hy
  rw [List.drop_eq_getElem_cons h1, List.drop_eq_getElem_cons h2]; rfl
theorem cmpL_more {xs ys : List Int} {k : Nat} (hx : k < xs.length) (hy : ys.length ≤ k) : cmpL (xs.drop k) (ys.drop k) = 1 := by
  rw [List.drop_eq_getElem_cons hx, List.drop_of_length_le hy]; rfl
theorem cmpL_end {xs ys : List Int} {k : Nat} (hx : xs.length ≤ k) : cmpL (xs.drop k) (ys.drop k) = if decide (k < ys.length) then -1 else 0 := by
  rw [List.drop_of_length_le hx]
  by_cases h : k < ys.length
  · rw [List.drop_eq_getElem_cons h, decide_eq_true h]; rfl
  · rw [List.drop_of_length_le (by omega), decide_eq_false h]; rfl
end Go.Proofs.YtjhgjlgoigpgnaaGreatDoor
