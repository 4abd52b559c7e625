/- Comparisons of results: a total preorder. Plain. -/
import Derived.Test.YtjkiidkacpffnaaGreatDoorGNames
import Derived.Test.YtjkiidkacpffnaaGreatDoorOfM
namespace Go.Proofs.YtjkiidkacpffnaaGreatDoor
open Go.RowKit Go.Lib
set_option linter.unusedSimpArgs false
set_option linter.unusedVariables false
theorem cmpZ_cases (a b : Int) : (a < b ∧ cmpZ a b = -1) ∨ (a = b ∧ cmpZ a b = 0) ∨ (b < a ∧ cmpZ a b = 1) := by
  unfold cmpZ
  by_cases h1 : a < b
  · exact .inl ⟨h1, by rw [decide_eq_true h1]; rfl⟩
  · by_cases h2 : b < a
    · exact .inr (.inr ⟨h2, by rw [decide_eq_false h1, decide_eq_true h2]; rfl⟩)
    · exact .inr (.inl ⟨by omega, by rw [decide_eq_false h1, decide_eq_false h2]; rfl⟩)
theorem cmpZ_flip (a b : Int) : cmpZ b a = - cmpZ a b := by
  rcases cmpZ_cases a b with ⟨h, e⟩ | ⟨h, e⟩ | ⟨h, e⟩ <;> rcases cmpZ_cases b a with ⟨h', e'⟩ | ⟨h', e'⟩ | ⟨h', e'⟩ <;> omega
theorem cmpL_flip : ∀ xs ys : List Int, cmpL ys xs = - cmpL xs ys
  | [], [] => rfl
  | [], _ :: _ => rfl
  | _ :: _, [] => rfl
  | x :: xs, y :: ys => by
    have h := cmpZ_flip x y
    have ih := cmpL_flip xs ys
    show (if cmpZ y x = 0 then cmpL ys xs else cmpZ y x) = - (if cmpZ x y = 0 then cmpL xs ys else cmpZ x y)
    by_cases h0 : cmpZ x y = 0
    · rw [if_pos h0, if_pos (by omega), ih]
    · rw [if_neg h0, if_neg (by omega), h]
theorem cmpL_trans : ∀ xs ys zs : List Int, cmpL xs ys ≤ 0 → cmpL ys zs ≤ 0 → cmpL xs zs ≤ 0
  | [], [], [], _, _ => by decide
  | [], [], _ :: _, _, _ => by show (-1 : Int) ≤ 0; decide
  | [], _ :: _, [], _, _ => by show (0 : Int) ≤ 0; decide
  | [], _ :: _, _ :: _, _, _ => by show (-1 : Int) ≤ 0; decide
  | _ :: _, [], _, h, _ => absurd (show (1 : Int) ≤ 0 from h) (by decide)
  | _ :: _, _ :: _, [], _, h => absurd (show (1 : Int) ≤ 0 from h) (by decide)
  | x :: xs, y :: ys, z :: zs, h1, h2 => by
    replace h1 : (if cmpZ x y = 0 then cmpL xs ys else cmpZ x y) ≤ 0 := h1
    replace h2 : (if cmpZ y z = 0 then cmpL ys zs else cmpZ y z) ≤ 0 := h2
    show (if cmpZ x z = 0 then cmpL xs zs else cmpZ x z) ≤ 0
    have ih := cmpL_trans xs ys zs
    rcases cmpZ_cases x y with ⟨a, e⟩ | ⟨a, e⟩ | ⟨a, e⟩ <;> rcases cmpZ_cases y z with ⟨b, f⟩ | ⟨b, f⟩ | ⟨b, f⟩ <;> rcases cmpZ_cases x z with ⟨c, k⟩ | ⟨c, k⟩ | ⟨c, k⟩ <;>
      rw [e] at h1 <;> rw [f] at h2 <;> rw [k] <;> simp at h1 h2 ⊢ <;> first | omega | exact ih h1 h2
end Go.Proofs.YtjkiidkacpffnaaGreatDoor
namespace Go.Proofs.YtjkiidkacpffnaaGreatDoor
open Go.RowKit Go.Lib
set_option linter.unusedSimpArgs false
set_option linter.unusedVariables false
theorem gradeZ_inj {a b : List UInt8} (h : gradeZ a = gradeZ b) (h1 : gradeZ a ≠ -1) : a = b := by
  rcases grade_of a with e | e | e | e | ⟨q0, q1, q2, q3⟩
  case other => exact absurd (gradeZ_other q0 q1 q2 q3) h1
  all_goals
    rcases grade_of b with f | f | f | f | ⟨p0, p1, p2, p3⟩
    case other => rw [gradeZ_other p0 p1 p2 p3] at h; exact absurd h h1
    all_goals (subst e; subst f; first | rfl | (exfalso; revert h; decide))
theorem betO_iff {y x : RowR} (hy : gradeZ y.st.toList ≠ -1) : betO y x = true ↔ gradeZ y.st.toList < gradeZ x.st.toList ∨ (gradeZ y.st.toList = gradeZ x.st.toList ∧ 0 < cmpL y.xs x.xs) := by
  unfold betO
  by_cases h : y.st.toList = x.st.toList
  · have h' : (y.st.toList == x.st.toList) = true := beq_iff_eq.2 h
    rw [if_pos h', h]
    simp
  · have h' : ¬ (y.st.toList == x.st.toList) = true := by simpa using h
    rw [if_neg h']
    have hne : gradeZ y.st.toList ≠ gradeZ x.st.toList := fun e => h (gradeZ_inj e hy)
    simp [hne]
theorem betO_neg {y x : RowR} (hy : gradeZ y.st.toList ≠ -1) : betO y x = false ↔ gradeZ x.st.toList ≤ gradeZ y.st.toList ∧ (gradeZ y.st.toList = gradeZ x.st.toList → cmpL y.xs x.xs ≤ 0) := by
  have := betO_iff (x := x) hy
  cases hb : betO y x
  · rw [hb] at this
    simp only [Bool.false_eq_true, false_iff, not_or, not_and] at this
    simp only [true_iff]
    exact ⟨by omega, fun e => by have := this.2 e; omega⟩
  · rw [hb] at this
    simp only [true_iff] at this
    simp only [Bool.true_eq_false, false_iff, not_and]
    intro h1 h2
    rcases this with h3 | ⟨h3, h4⟩
    · omega
    · have := h2 h3; omega
theorem betO_negtrans {z y x : RowR} (hz : gradeZ z.st.toList ≠ -1) (hy : gradeZ y.st.toList ≠ -1) (h1 : betO z y = false) (h2 : betO y x = false) : betO z x = false := by
  rw [betO_neg hz] at h1 ⊢
  rw [betO_neg hy] at h2
  refine ⟨by omega, fun e => ?_⟩
  exact cmpL_trans z.xs y.xs x.xs (h1.2 (by omega)) (h2.2 (by omega))
theorem betO_asym {y x : RowR} (hy : gradeZ y.st.toList ≠ -1) (hx : gradeZ x.st.toList ≠ -1) (h : betO y x = true) : betO x y = false := by
  rw [betO_iff hy] at h
  rw [betO_neg hx]
  refine ⟨by omega, fun e => ?_⟩
  rcases h with h | ⟨_, h⟩
  · omega
  · have := cmpL_flip y.xs x.xs; omega
theorem cntO_sub {xs : List RowR} {x y : RowR} (h : ∀ z ∈ xs, betO z x = true → betO z y = true) : ∀ q, q ≤ xs.length → cntO xs x q ≤ cntO xs y q
  | 0, _ => by simp [cntO]
  | q + 1, hq => by
    have ih := cntO_sub h q (by omega)
    obtain ⟨z, hz⟩ : ∃ z, xs[q]? = some z := ⟨_, List.getElem?_eq_getElem (by omega)⟩
    rw [cntO_step hz, cntO_step hz]
    have := h z (List.mem_of_getElem? hz)
    cases h1 : betO z x
    · split <;> split <;> first | omega | simp_all
    · rw [this h1]; simp; exact ih
theorem cntO_lt {xs : List RowR} {x y z : RowR} (h : ∀ z ∈ xs, betO z x = true → betO z y = true) {j : Nat} (hj : xs[j]? = some z) (h1 : betO z y = true) (h2 : betO z x = false) : ∀ q, q ≤ xs.length → j < q → cntO xs x q < cntO xs y q
  | 0, _, hq => by omega
  | q + 1, hl, hq => by
    obtain ⟨u, hu⟩ : ∃ u, xs[q]? = some u := ⟨_, List.getElem?_eq_getElem (by omega)⟩
    rw [cntO_step hu, cntO_step hu]
    by_cases hjq : j = q
    · subst hjq
      rw [hj] at hu; cases hu
      rw [h1, h2]
      have := cntO_sub h j (by omega)
      simp; omega
    · have ih := cntO_lt h hj h1 h2 q (by omega) (by omega)
      have := h u (List.mem_of_getElem? hu)
      cases h3 : betO u x
      · split <;> split <;> first | omega | simp_all
      · rw [this h3]; simp; exact ih
/-- lesser ranks are those of better results -/
theorem rank_iff {xs : List RowR} (hv : ∀ z ∈ xs, gradeZ z.st.toList ≠ -1) {k : Nat} {x y : RowR} (hx : x ∈ xs) (hy : xs[k]? = some y) : decide (rankO xs y < rankO xs x) = betO y x := by
  have hym := List.mem_of_getElem? hy
  have hk := (List.getElem?_eq_some_iff.1 hy).1
  unfold rankO
  cases hb : betO y x
  · have hs := cntO_sub (xs := xs) (x := x) (y := y) (fun z hz h => by
      cases hzy : betO z y
      · rw [betO_negtrans (hv z hz) (hv y hym) hzy hb] at h; cases h
      · rfl) xs.length (Nat.le_refl _)
    exact decide_eq_false (by omega)
  · have hs := cntO_lt (xs := xs) (x := y) (y := x) (z := y) (fun z hz h => by
      cases hzx : betO z x
      · rw [betO_negtrans (hv z hz) (hv x hx) hzx (betO_asym (hv y hym) (hv x hx) hb)] at h; cases h
      · rfl) hy hb (by
        cases hyy : betO y y
        · rfl
        · have := betO_asym (hv y hym) (hv y hym) hyy; rw [hyy] at this; cases this) xs.length (Nat.le_refl _) hk
    exact decide_eq_true (by omega)
theorem grades_of_zero {ro st : ByteArray} {va : Int} {xs : List RowR} (h : sheetE ro va st xs = 0) : ∀ z ∈ xs, gradeZ z.st.toList ≠ -1 := by
  have h0 : errG (oneShE va xs) xs xs.length 0 = 0 := by
    unfold sheetE at h
    split at h
    · exact h
    · rename_i h1; exact absurd h h1
  intro z hz
  obtain ⟨j, hj⟩ := List.mem_iff_getElem?.1 hz
  have := errG_zero xs.length 0 h0 (by omega) j z (by omega) (by have := (List.getElem?_eq_some_iff.1 hj).1; omega) hj
  rw [oneShE_eq] at this
  intro hg
  rw [hg] at this
  split at this
  · cases this
  split at this
  · cases this
  · simp at this
end Go.Proofs.YtjkiidkacpffnaaGreatDoor
