/- A region whose order is drawn: the state when some of its operations have been run. -/
import Derived.Test.YtnihclhhbegjhaaGreatDoorEvTrace
set_option linter.unusedSectionVars false
set_option linter.unusedSimpArgs false
set_option linter.unusedVariables false
namespace Go.Ev
variable {P : Program} {call : CallB} {all : List Oper} {masks : List Nat} {rsv : List (Nat × Nat)} {m lm : Nat} {C : Nat → Ctx} {T : Nat → S} {V : Nat → Value} {L L' : Nat → Bool} {i j k r x y : Nat} {o : Oper} {ov : OV} {s1 : S}

theorem Trace.get (ht : Trace P call all masks rsv m C T V) (hi : i < m) : ∃ o s1, all[i]? = some o ∧ At P call all masks rsv (ivsOf T i) rsv i (C i) (C (i + 1)) (T i) (T (i + 1)) (V i) o s1 := by
  have ho := List.getElem?_eq_getElem (Nat.lt_of_lt_of_le hi ht.le)
  obtain ⟨s1, h⟩ := ht.at_ i _ hi ho
  exact ⟨_, s1, ho, h⟩
theorem Trace.kp1 (ht : Trace P call all masks rsv m C T V) (hc : CallKp call) (hi : i < m) : Kp (T i) (T (i + 1)) := by
  obtain ⟨o, s1, _, h⟩ := ht.get hi
  rw [h.next]
  exact entry_kp h.ok (op1B_kp hc h.run)
theorem Trace.kp (ht : Trace P call all masks rsv m C T V) (hc : CallKp call) (hij : i ≤ j) (hj : j ≤ m) : Kp (T i) (T j) := by
  induction j with
  | zero => rw [Nat.le_zero.1 hij]; exact .refl _
  | succ j ih =>
    rcases Nat.lt_or_eq_of_le hij with h | h
    · exact (ih (by omega) (by omega)).trans (ht.kp1 hc (by omega))
    · rw [h]; exact .refl _
/-- what the operation i writes to, that was there -/
def Tg (all : List Oper) (C : Nat → Ctx) (i r : Nat) : Prop := ∃ o, all[i]? = some o ∧ target (C i) o = some r
theorem Trace.seen (ht : Trace P call all masks rsv m C T V) (hc : CallKp call) (hi : i < m) (r : Nat) : banned (seenBan masks rsv i (ivsOf T i) (T i)) r = true ↔
    banned (T 0).ban r = true ∨ (∃ k, k < i ∧ bit (masks.getD i 0) k = false ∧ (T k).nx ≤ r ∧ r < (T (k + 1)).nx) ∨ (r < (T i).nx ∧ ∃ k, (k, r) ∈ rsv ∧ orderedB masks k i = false) := by
  unfold seenBan
  rw [rsvBan_spec, banOf_spec, (ht.kp hc (Nat.zero_le i) (Nat.le_of_lt hi)).ban]
  constructor
  · rintro ((h | ⟨k, iv, h1, h2, h3⟩) | h)
    · exact .inl h
    · rw [ivsOf_get] at h1
      obtain ⟨h1, rfl⟩ := h1
      exact .inr (.inl ⟨k, h1, by simpa using h2, h3⟩)
    · exact .inr (.inr h)
  · rintro (h | ⟨k, h1, h2, h3⟩ | h)
    · exact .inl (.inl h)
    · exact .inl (.inr ⟨k, _, (ivsOf_get T).2 ⟨h1, rfl⟩, by simpa using h2, h3⟩)
    · exact .inr h
structure TgF (masks : List Nat) (rsv : List (Nat × Nat)) (T : Nat → S) (i r : Nat) : Prop where
  note : (i, r) ∈ rsv
  wr : (T 0).wr r = true
  lt : r < (T i).nx
  free : banned (seenBan masks rsv i (ivsOf T i) (T i)) r = false
theorem Trace.tg (ht : Trace P call all masks rsv m C T V) (hc : CallKp call) (hi : i < m) (h : Tg all C i r) : TgF masks rsv T i r := by
  obtain ⟨o, ho, h1⟩ := h
  obtain ⟨s1, h2⟩ := ht.at_ i o hi ho
  have h3 := h2.ok
  have k := ht.kp hc (Nat.zero_le i) (Nat.le_of_lt hi)
  rw [h1] at h3
  simp only [targetOK, Bool.and_eq_true, Bool.not_eq_true', blt_nat] at h3
  exact ⟨h2.noted r h1, by rw [← wr_congr k.lock k.ext]; exact h3.1.1, h3.2, h3.1.2⟩
theorem ordered_cases (h : orderedB masks i j = true) : i = j ∨ bit (masks.getD j 0) i = true ∨ bit (masks.getD i 0) j = true := by
  unfold orderedB at h
  simp only [Bool.or_eq_true, beq_nat] at h
  rcases h with (h | h) | h
  · exact .inl h
  · exact .inr (.inl h)
  · exact .inr (.inr h)
/-- k writes what i may see: one of them comes behind the other -/
theorem Trace.ord (ht : Trace P call all masks rsv m C T V) (hc : CallKp call) (hi : i < m) (hk : k < m) (h : Tg all C k r) (hr : r < (T i).nx) (hb : banned (seenBan masks rsv i (ivsOf T i) (T i)) r = false) :
    k = i ∨ bit (masks.getD i 0) k = true ∨ bit (masks.getD k 0) i = true := by
  have h1 := (ht.tg hc hk h).note
  cases ho : orderedB masks k i
  · rw [(ht.seen hc hi r).2 (.inr (.inr ⟨hr, k, h1, ho⟩))] at hb
    cases hb
  · exact ordered_cases ho
theorem Trace.same (ht : Trace P call all masks rsv m C T V) (hc : CallKp call) (hi : i < m) (hr : r < (T i).nx) (h : ¬ Tg all C i r) : (T (i + 1)).h.get r = (T i).h.get r := by
  obtain ⟨o, s1, ho, h2⟩ := ht.get hi
  rw [h2.next]
  have h3 := op1B_kp hc h2.run
  refine h3.low r hr (.inl ?_)
  cases hw : (entry masks rsv i (ivsOf T i) (C i) o (T i)).wr r
  · rfl
  · rcases entry_wr hw with h4 | h4
    · omega
    · exact absurd ⟨o, ho, h4⟩ h
/-- the object r is as it was at x, when those of L have been run -/
def Good (all : List Oper) (C : Nat → Ctx) (T : Nat → S) (m : Nat) (L : Nat → Bool) (r x : Nat) : Prop := x ≤ m ∧ r < (T x).nx ∧ ∀ k, k < m → Tg all C k r → (k < x ↔ L k = true)
theorem Trace.good_le (ht : Trace P call all masks rsv m C T V) (hc : CallKp call) (hx : Good all C T m L r x) (hy : Good all C T m L r y) (h : x ≤ y) : (T y).h.get r = (T x).h.get r := by
  have : ∀ z, x ≤ z → z ≤ y → (T z).h.get r = (T x).h.get r := by
    intro z
    induction z with
    | zero => intro h1 _; rw [Nat.le_zero.1 h1]
    | succ z ih =>
      intro h1 h2
      rcases Nat.lt_or_eq_of_le h1 with h3 | h3
      · have hy1 := hy.1
        rw [ht.same hc (by omega) (Nat.lt_of_lt_of_le hx.2.1 (ht.kp hc (by omega) (by omega)).nx) fun ht' => ?_]
        · exact ih (by omega) (by omega)
        · have a := (hx.2.2 z (by omega) ht')
          have b := (hy.2.2 z (by omega) ht').1 (by omega)
          have := a.2 b
          omega
      · rw [h3]
  exact this y h (Nat.le_refl _)
theorem Trace.good_eq (ht : Trace P call all masks rsv m C T V) (hc : CallKp call) (hx : Good all C T m L r x) (hy : Good all C T m L r y) : (T y).h.get r = (T x).h.get r := by
  rcases Nat.le_total x y with h | h
  · exact ht.good_le hc hx hy h
  · exact (ht.good_le hc hy hx h).symm
open Classical in
noncomputable def gL (all : List Oper) (C : Nat → Ctx) (T : Nat → S) (m : Nat) (L : Nat → Bool) (r : Nat) : Option OV := if h : ∃ x, Good all C T m L r x then (T h.choose).h.get r else none
theorem Trace.gL (ht : Trace P call all masks rsv m C T V) (hc : CallKp call) (hx : Good all C T m L r x) : gL all C T m L r = (T x).h.get r := by
  have h : ∃ x, Good all C T m L r x := ⟨x, hx⟩
  unfold Ev.gL
  rw [dif_pos h]
  exact ht.good_eq hc hx h.choose_spec
theorem gL_some (h : gL all C T m L r = some ov) : ∃ x, Good all C T m L r x ∧ (T x).h.get r = some ov := by
  unfold gL at h
  split at h
  · rename_i hx; exact ⟨_, hx.choose_spec, h⟩
  · cases h
theorem exists_ban (b : List (Nat × Nat)) (T : Nat → S) (L : Nat → Bool) : ∀ n, ∃ l, ∀ r, banned l r = true ↔ banned b r = true ∨ ∃ k, k < n ∧ L k = false ∧ (T k).nx ≤ r ∧ r < (T (k + 1)).nx
  | 0 => ⟨b, fun r => by simp⟩
  | n + 1 => by
    obtain ⟨l, hl⟩ := exists_ban b T L n
    cases hL : L n
    · refine ⟨((T n).nx, (T (n + 1)).nx) :: l, fun r => ?_⟩
      rw [banned_cons, hl]
      constructor
      · rintro (h | h | ⟨k, h1, h2⟩)
        · exact .inr ⟨n, by omega, hL, h⟩
        · exact .inl h
        · exact .inr ⟨k, by omega, h2⟩
      · rintro (h | ⟨k, h1, h2, h3⟩)
        · exact .inr (.inl h)
        · rcases Nat.lt_or_eq_of_le (Nat.le_of_lt_succ h1) with h4 | h4
          · exact .inr (.inr ⟨k, h4, h2, h3⟩)
          · subst h4; exact .inl h3
    · refine ⟨l, fun r => ?_⟩
      rw [hl]
      constructor
      · rintro (h | ⟨k, h1, h2⟩)
        · exact .inl h
        · exact .inr ⟨k, by omega, h2⟩
      · rintro (h | ⟨k, h1, h2, h3⟩)
        · exact .inl h
        · rcases Nat.lt_or_eq_of_le (Nat.le_of_lt_succ h1) with h4 | h4
          · exact .inr ⟨k, h4, h2, h3⟩
          · subst h4; rw [hL] at h2; cases h2
structure IsVS (all : List Oper) (C : Nat → Ctx) (T : Nat → S) (m : Nat) (L : Nat → Bool) (s : S) : Prop where
  nx : s.nx = (T m).nx
  lock : s.lock = (T 0).lock
  ext : s.ext = (T 0).ext
  get : ∀ r, s.h.get r = if r < (T m).nx then gL all C T m L r else none
  ban : ∀ r, banned s.ban r = true ↔ banned (T 0).ban r = true ∨ ∃ k, k < m ∧ L k = false ∧ (T k).nx ≤ r ∧ r < (T (k + 1)).nx
theorem exists_vs (all : List Oper) (C : Nat → Ctx) (T : Nat → S) (m : Nat) (L : Nat → Bool) : ∃ s, IsVS all C T m L s := by
  obtain ⟨t, ht⟩ := exists_tr (gL all C T m L) (T m).nx
  obtain ⟨b, hb⟩ := exists_ban (T 0).ban T L m
  exact ⟨⟨t, (T m).nx, (T 0).lock, (T 0).ext, b⟩, rfl, rfl, rfl, ht, hb⟩
noncomputable def VS (all : List Oper) (C : Nat → Ctx) (T : Nat → S) (m : Nat) (L : Nat → Bool) : S := (exists_vs all C T m L).choose
theorem isVS : IsVS all C T m L (VS all C T m L) := (exists_vs all C T m L).choose_spec
/-- r lies in what operations that have not been run make -/
def Gap (T : Nat → S) (m : Nat) (L : Nat → Bool) (r : Nat) : Prop := ∃ k, k < m ∧ L k = false ∧ (T k).nx ≤ r ∧ r < (T (k + 1)).nx
theorem Trace.any (ht : Trace P call all masks rsv m C T V) (hc : CallKp call) : (VS all C T m L).any r = some ov ↔
    banned (T 0).ban r = false ∧ ¬ Gap T m L r ∧ ∃ x, Good all C T m L r x ∧ (T x).h.get r = some ov := by
  have hv := isVS (all := all) (C := C) (T := T) (m := m) (L := L)
  have hb := hv.ban r
  unfold S.any
  cases hb' : banned (VS all C T m L).ban r
  · rw [hb'] at hb
    have hn : ¬ (banned (T 0).ban r = true ∨ Gap T m L r) := fun h => by have := hb.2 h; cases this
    simp only [hv.get r]
    constructor
    · intro h
      split at h
      · exact ⟨by simpa using fun h => hn (.inl h), fun h => hn (.inr h), gL_some h⟩
      · cases h
    · rintro ⟨_, _, x, hx, h⟩
      rw [if_pos (Nat.lt_of_lt_of_le hx.2.1 (ht.kp hc hx.1 (Nat.le_refl _)).nx), ht.gL hc hx, h]
  · simp only
    constructor
    · intro h; cases h
    · rintro ⟨h1, h2, _⟩
      rcases hb.1 hb' with h3 | h3
      · rw [h1] at h3; cases h3
      · exact absurd h3 h2
theorem Trace.inGap (ht : Trace P call all masks rsv m C T V) (h0 : (T 0).nx ≤ r) : ∀ n, n ≤ m → r < (T n).nx → ∃ k, k < n ∧ (T k).nx ≤ r ∧ r < (T (k + 1)).nx
  | 0, _, h => by omega
  | n + 1, hn, h => by
    rcases Nat.lt_or_ge r (T n).nx with h1 | h1
    · obtain ⟨k, h2, h3⟩ := ht.inGap h0 n (by omega) h1
      exact ⟨k, by omega, h3⟩
    · exact ⟨n, by omega, h1, h⟩
end Go.Ev
