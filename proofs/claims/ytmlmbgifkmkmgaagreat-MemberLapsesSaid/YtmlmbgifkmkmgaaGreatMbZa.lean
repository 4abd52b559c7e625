/- MemberLapses: what the law asks of the day of lapse. -/
import Derived.Test.YtmlmbgifkmkmgaaGreatMbYh
namespace Go.Proofs.YtmlmbgifkmkmgaaGreat
open Go.RowKit Go.Lib
set_option linter.unusedSimpArgs false
set_option linter.unusedVariables false
theorem lapseZ_ge {h : Int → Bool} : ∀ (k : Nat) (d : Int), d ≤ lapseZ h k d
  | 0, d => Int.le_refl _
  | k + 1, d => by
    have := lapseZ_ge (h := h) k (d + 1)
    unfold lapseZ
    split <;> omega
theorem lapseZ_holds {h : Int → Bool} : ∀ (k : Nat) (d n : Int), d ≤ n → n < lapseZ h k d → h n = true
  | 0, d, n, h1, h2 => by unfold lapseZ at h2; omega
  | k + 1, d, n, h1, h2 => by
    unfold lapseZ at h2
    split at h2
    · rename_i hd
      rcases Int.lt_or_le d n with h3 | h3
      · exact lapseZ_holds k (d + 1) n (by omega) h2
      · obtain rfl : d = n := by omega
        exact hd
    · omega
theorem lapseZ_stop {h : Int → Bool} : ∀ (k : Nat) (d : Int), lapseZ h k d < d + k → h (lapseZ h k d) = false
  | 0, d, h1 => by unfold lapseZ at h1; omega
  | k + 1, d, h1 => by
    unfold lapseZ at h1 ⊢
    split at h1
    · rename_i hd
      rw [if_pos hd]
      exact lapseZ_stop k (d + 1) (by omega)
    · rename_i hd
      rw [if_neg hd]
      simpa using hd
theorem lapseZ_le {h : Int → Bool} {M : Int} (hM : ∀ n, h n = true → n ≤ M) : ∀ (k : Nat) (d : Int), d ≤ M + 1 → lapseZ h k d ≤ M + 1
  | 0, d, h1 => h1
  | k + 1, d, h1 => by
    unfold lapseZ
    split
    · rename_i hd
      exact lapseZ_le hM k (d + 1) (by have := hM d hd; omega)
    · exact h1
theorem lapseZ_mono {h h' : Int → Bool} (hh : ∀ n, h n = true → h' n = true) : ∀ (k : Nat) (d : Int), lapseZ h k d ≤ lapseZ h' k d
  | 0, d => Int.le_refl _
  | k + 1, d => by
    unfold lapseZ
    split
    · rename_i hd
      rw [if_pos (hh d hd)]
      exact lapseZ_mono hh k (d + 1)
    · have := lapseZ_ge (h := h') k (d + 1)
      split <;> omega
theorem holds_any (nm : ByteArray) (xs : List CatR) (n : Int) : holdsB (mineL nm xs) n = xs.any (mineH nm n) := by
  unfold holdsB mineL otherQ isN
  rw [List.any_filter]
  congr 1
  funext x
  unfold holdB mineH
  simp
/-- a licence without an error -/
def LicOK (x : CatR) : Prop := nmE x.nm = 0 ∧ (0 ≤ x.lo ∧ x.lo ≤ 99999) ∧ (0 ≤ x.hi ∧ x.hi ≤ 99999) ∧ x.lo ≤ x.hi
theorem licE_ok {xs : List CatR} {i : Nat} {x : CatR} (h : LicOK x) : licE xs i x = 0 := by
  obtain ⟨h1, h2, h3, h4⟩ := h
  unfold licE
  rw [h1, outE_zero.2 h2, outE_zero.2 h3, if_neg (by simp; omega)]
  rfl
theorem licOK_of {xs : List CatR} {i : Nat} {x : CatR} (h : licE xs i x = 0) : LicOK x := by
  unfold licE at h
  refine ⟨firstE_zero h _ (by simp), outE_zero.1 (firstE_zero h (outE x.lo 0 99999) (by simp)), outE_zero.1 (firstE_zero h (outE x.hi 0 99999) (by simp)), ?_⟩
  have h3 := firstE_zero h (if decide (x.hi < x.lo) then 11 else 0) (by simp)
  rcases Int.lt_or_le x.hi x.lo with h4 | h4
  · rw [if_pos (by simpa using h4)] at h3
    cases h3
  · exact h4
theorem errG_all {α : Type} {E : Nat → α → Int} {xs : List α} (h : ∀ j x, xs[j]? = some x → E j x = 0) : ∀ (k i : Nat), errG E xs k i = 0
  | 0, i => rfl
  | k + 1, i => by
    unfold errG
    split
    · rename_i x hx
      rw [if_pos (h i x hx)]
      exact errG_all h k (i + 1)
    · rfl
theorem list_ok {xs : List CatR} (h1 : xs.length ≤ 256) (h : ∀ x ∈ xs, LicOK x) : listE 256 (licE xs) xs = 0 := by
  unfold listE
  rw [if_neg (by omega)]
  exact errG_all (fun j x hx => licE_ok (h x (List.mem_of_getElem? hx))) _ _
theorem ok_of_list {xs : List CatR} (h : listE 256 (licE xs) xs = 0) : ∀ x ∈ xs, LicOK x := by
  unfold listE at h
  split at h
  · cases h
  · intro x hm
    obtain ⟨i, hi, hx⟩ := List.mem_iff_getElem.1 hm
    exact licOK_of (errG_zero xs.length 0 h (by omega) i x (by omega) (by omega) (by rw [List.getElem?_eq_getElem hi, hx]))
/-- what the law asks of the day of lapse -/
structure LapF (xs : List CatR) (nm : ByteArray) (d L : Int) : Prop where
  ge : d ≤ L
  le : L ≤ 100000
  holds : ∀ n, d ≤ n → n ≤ L → xs.any (mineH nm n) = decide (n < L)
theorem lapF {xs : List CatR} {nm : ByteArray} {d : Int} (h : lapE xs nm d = 0) : LapF xs nm d (lapD xs nm d) := by
  obtain ⟨h1, _, h2, h3⟩ := lapE_zero h
  have hr := (lic_range h1).2
  have hle : lapD xs nm d ≤ 99999 + 1 := lapseZ_le (fun n hn => by
    unfold holdsB at hn
    rw [List.any_eq_true] at hn
    obtain ⟨y, hy, hb⟩ := hn
    have := (hr y (mine_mem hy)).2.2
    unfold holdB at hb
    rw [Bool.and_eq_true, decide_eq_true_eq, decide_eq_true_eq] at hb
    omega) _ _ (by omega)
  have hge : d ≤ lapD xs nm d := lapseZ_ge _ _
  refine ⟨hge, by omega, fun n hn1 hn2 => ?_⟩
  rw [← holds_any]
  rcases Int.lt_or_le n (lapD xs nm d) with h4 | h4
  · rw [decide_eq_true h4]
    exact lapseZ_holds 100001 d n hn1 h4
  · rw [decide_eq_false (by omega)]
    obtain rfl : n = lapD xs nm d := by omega
    exact lapseZ_stop 100001 d (by show lapD xs nm d < _; omega)
theorem lapE_of {xs : List CatR} {nm : ByteArray} {d : Int} (h1 : xs.length ≤ 256) (h : ∀ x ∈ xs, LicOK x) (hn : nmE nm = 0) (h0 : 0 ≤ d) (h9 : d ≤ 99999) : lapE xs nm d = 0 := by
  unfold lapE
  rw [list_ok h1 h, hn, outE_zero.2 ⟨h0, h9⟩]
  rfl
theorem back_err {xs : List CatR} {nm : ByteArray} {d : Int} (h : lapE xs nm d = 0) : lapE xs.reverse nm d = 0 := by
  obtain ⟨h1, h2, h3, h4⟩ := lapE_zero h
  exact lapE_of (by rw [List.length_reverse]; exact (lic_range h1).1) (fun x hx => ok_of_list h1 x (List.mem_reverse.1 hx)) h2 h3 h4
theorem back_day (xs : List CatR) (nm : ByteArray) (d : Int) : lapD xs.reverse nm d = lapD xs nm d := by
  unfold lapD
  congr 1
  funext n
  rw [holds_any, holds_any, List.any_reverse]
theorem more_err {xs : List CatR} {nm : ByteArray} {d : Int} (h : lapE xs nm d = 0) (h12 : xs.length ≤ 12) (h9 : d ≤ 90000) : lapE (xs ++ [⟨nm, d + 3, d + 9⟩]) nm d = 0 := by
  obtain ⟨h1, h2, h3, h4⟩ := lapE_zero h
  refine lapE_of (by simp; omega) (fun x hx => ?_) h2 h3 h4
  rcases List.mem_append.1 hx with hx | hx
  · exact ok_of_list h1 x hx
  · simp at hx
    subst hx
    exact ⟨h2, ⟨by show 0 ≤ d + 3; omega, by show d + 3 ≤ 99999; omega⟩, ⟨by show 0 ≤ d + 9; omega, by show d + 9 ≤ 99999; omega⟩, by show d + 3 ≤ d + 9; omega⟩
theorem more_day (xs : List CatR) (nm : ByteArray) (d : Int) (x : CatR) : lapD xs nm d ≤ lapD (xs ++ [x]) nm d := by
  unfold lapD
  refine lapseZ_mono (fun n hn => ?_) _ _
  rw [holds_any] at hn ⊢
  rw [List.any_append, hn]
  rfl
theorem licd_zero {xs : List CatR} {nm : ByteArray} {d t : Int} (h : lapE xs nm d = 0) (h1 : d ≤ t) (h2 : t ≤ 99999) : licdE xs nm d t = 0 := by
  obtain ⟨a1, a2, a3, a4⟩ := lapE_zero h
  unfold licdE
  rw [a1, a2, outE_zero.2 ⟨a3, a4⟩, outE_zero.2 ⟨by omega, h2⟩, if_neg (by simp; omega)]
  rfl
theorem any_take {α : Type} (f : α → Bool) {xs : List α} {i : Nat} {x : α} (h : xs[i]? = some x) : (xs.take (i + 1)).any f = ((xs.take i).any f || f x) := by
  rw [List.take_add_one, h]
  simp
end Go.Proofs.YtmlmbgifkmkmgaaGreat
