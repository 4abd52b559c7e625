/- What the small machine keeps: code and calls. -/
import Derived.Test.YtnihclhhbegjhaaGreatDoorEvKeep
set_option linter.unusedSectionVars false
set_option linter.unusedSimpArgs false
set_option linter.unusedVariables false
namespace Go.Ev
variable {P : Program} {s s' s'' : S} {tm tm' : Ctx} {v : Value} {o : Oper}
def RecKp (rec : Code → Ctx → S → R) : Prop := ∀ c tm s x tm' s', rec c tm s = some (x, tm', s') → Kp s s'
theorem banned_cons {a b r : Nat} {l : List (Nat × Nat)} : banned ((a, b) :: l) r = true ↔ (a ≤ r ∧ r < b) ∨ banned l r = true := by
  show (match Nat.ble a r, Nat.blt r b with | true, true => true | _, _ => banned l r) = true ↔ _
  cases h1 : Nat.ble a r
  · have : ¬ a ≤ r := fun h => by rw [Nat.ble_eq_true_of_le h] at h1; cases h1
    simp [this]
  · have h1' := Nat.le_of_ble_eq_true h1
    cases h2 : Nat.blt r b
    · have : ¬ r < b := fun h => by rw [show Nat.blt r b = true by simpa [Nat.blt_eq] using h] at h2; cases h2
      simp [this]
    · have h2' : r < b := by simpa [Nat.blt_eq] using h2
      simp [h1', h2']
theorem banOf_spec (m : Nat) (r : Nat) : ∀ (ivs : List (Nat × Nat)) (j : Nat) (acc : List (Nat × Nat)), banned (banOf m ivs j acc) r = true ↔
    banned acc r = true ∨ ∃ k iv, ivs[k]? = some iv ∧ bit m (j + k) = false ∧ iv.1 ≤ r ∧ r < iv.2
  | [], j, acc => by simp [banOf]
  | iv :: ivs, j, acc => by
    unfold banOf
    cases hb : bit m j
    · simp only
      obtain ⟨a, b⟩ := iv
      rw [banned_cons, banOf_spec m r ivs (j + 1) acc]
      constructor
      · rintro (h | h | ⟨k, iv, h1, h2, h3⟩)
        · exact .inr ⟨0, (a, b), rfl, hb, h⟩
        · exact .inl h
        · exact .inr ⟨k + 1, iv, by simpa using h1, by rw [← h2]; congr 1; omega, h3⟩
      · rintro (h | ⟨k, iv, h1, h2, h3⟩)
        · exact .inr (.inl h)
        · cases k with
          | zero => simp at h1; subst h1; exact .inl h3
          | succ k => exact .inr (.inr ⟨k, iv, by simpa using h1, by rw [← h2]; congr 1; omega, h3⟩)
    · simp only
      rw [banOf_spec m r ivs (j + 1) acc]
      constructor
      · rintro (h | ⟨k, iv, h1, h2, h3⟩)
        · exact .inl h
        · exact .inr ⟨k + 1, iv, by simpa using h1, by rw [← h2]; congr 1; omega, h3⟩
      · rintro (h | ⟨k, iv', h1, h2, h3⟩)
        · exact .inl h
        · cases k with
          | zero => rw [Nat.add_zero, hb] at h2; cases h2
          | succ k => exact .inr ⟨k, iv', by simpa using h1, by rw [← h2]; congr 1; omega, h3⟩
/-- i and j come one behind the other -/
def orderedB (masks : List Nat) (i j : Nat) : Bool := Nat.beq i j || bit (masks.getD j 0) i || bit (masks.getD i 0) j
theorem rsvBan_spec (masks : List Nat) (j nx r : Nat) : ∀ (rs acc : List (Nat × Nat)), banned (rsvBan masks j nx rs acc) r = true ↔
    banned acc r = true ∨ (r < nx ∧ ∃ i, (i, r) ∈ rs ∧ orderedB masks i j = false)
  | [], acc => by simp [rsvBan]
  | (i, q) :: rs, acc => by
    unfold rsvBan
    cases hb : (Nat.beq i j || bit (masks.getD j 0) i || bit (masks.getD i 0) j)
    · cases hn : Nat.ble nx q
      · have hq : q < nx := by
          rcases Nat.lt_or_ge q nx with h | h
          · exact h
          · rw [Nat.ble_eq_true_of_le h] at hn; cases hn
        simp only [Bool.or_false]
        rw [banned_cons, rsvBan_spec masks j nx r rs acc]
        constructor
        · rintro (⟨h1, h2⟩ | h | ⟨h0, k, h1, h2⟩)
          · exact .inr ⟨by omega, i, by rw [show r = q by omega]; simp, hb⟩
          · exact .inl h
          · exact .inr ⟨h0, k, by simp [h1], h2⟩
        · rintro (h | ⟨h0, k, h1, h2⟩)
          · exact .inr (.inl h)
          · simp only [List.mem_cons, Prod.mk.injEq] at h1
            rcases h1 with ⟨rfl, rfl⟩ | h1
            · exact .inl ⟨Nat.le_refl _, Nat.lt_succ_self _⟩
            · exact .inr (.inr ⟨h0, k, h1, h2⟩)
      · have hq := Nat.le_of_ble_eq_true hn
        simp only [Bool.or_true]
        rw [rsvBan_spec masks j nx r rs acc]
        constructor
        · rintro (h | ⟨h0, k, h1, h2⟩)
          · exact .inl h
          · exact .inr ⟨h0, k, by simp [h1], h2⟩
        · rintro (h | ⟨h0, k, h1, h2⟩)
          · exact .inl h
          · simp only [List.mem_cons, Prod.mk.injEq] at h1
            rcases h1 with ⟨rfl, rfl⟩ | h1
            · omega
            · exact .inr ⟨h0, k, h1, h2⟩
    · simp only [Bool.true_or]
      rw [rsvBan_spec masks j nx r rs acc]
      constructor
      · rintro (h | ⟨h0, k, h1, h2⟩)
        · exact .inl h
        · exact .inr ⟨h0, k, by simp [h1], h2⟩
      · rintro (h | ⟨h0, k, h1, h2⟩)
        · exact .inl h
        · simp only [List.mem_cons, Prod.mk.injEq] at h1
          rcases h1 with ⟨rfl, rfl⟩ | h1
          · unfold orderedB at h2; rw [hb] at h2; cases h2
          · exact .inr ⟨h0, k, h1, h2⟩
theorem seenBan_of {masks : List Nat} {rsv : List (Nat × Nat)} {i : Nat} {ivs : List (Nat × Nat)} {r : Nat} (h : banned s.ban r = true) : banned (seenBan masks rsv i ivs s) r = true :=
  (rsvBan_spec _ _ _ _ _ _).2 (.inl ((banOf_spec _ _ _ _ _).2 (.inl h)))
/-- the state in which a free operation is run -/
noncomputable def entry (masks : List Nat) (rsv : List (Nat × Nat)) (i : Nat) (ivs : List (Nat × Nat)) (tm : Ctx) (o : Oper) (s : S) : S := ⟨s.h, s.nx, s.nx, target tm o, seenBan masks rsv i ivs s⟩
theorem entry_wr {masks : List Nat} {rsv : List (Nat × Nat)} {i : Nat} {ivs : List (Nat × Nat)} {r : Nat} (h : (entry masks rsv i ivs tm o s).wr r = true) : s.nx ≤ r ∨ target tm o = some r := by
  unfold S.wr entry at h
  simp only at h
  split at h
  · rename_i hb; exact .inl (Nat.le_of_ble_eq_true hb)
  · split at h
    · cases h
    · rename_i w hw
      rw [hw, Nat.eq_of_beq_eq_true h]
      exact .inr rfl
theorem entry_kp {masks : List Nat} {rsv : List (Nat × Nat)} {i : Nat} {ivs : List (Nat × Nat)} (hok : targetOK (seenBan masks rsv i ivs s) s (target tm o) = true) (h : Kp (entry masks rsv i ivs tm o s) s') :
    Kp s ⟨s'.h, s'.nx, s.lock, s.ext, s.ban⟩ := by
  refine ⟨h.nx, rfl, rfl, rfl, fun r h1 h2 => h.low r h1 ?_, h.dom⟩
  rcases h2 with h2 | h2
  · left
    cases hw : (entry masks rsv i ivs tm o s).wr r
    · rfl
    · rcases entry_wr hw with h3 | h3
      · omega
      · rw [h3] at hok
        simp only [targetOK, Bool.and_eq_true] at hok
        rw [h2] at hok
        cases hok.1.1
  · exact .inr (seenBan_of h2)
theorem freeB_kp {call : CallB} (hc : CallKp call) {all : List Oper} {masks : List Nat} {rsv : List (Nat × Nat)} : ∀ {l : List Oper} {i : Nat} {ivs wrs wrs' : List (Nat × Nat)} {tm tm' : Ctx} {s s' : S},
    freeB P call all masks rsv l i ivs tm s wrs = some (tm', s', wrs') → Kp s s'
  | [], i, ivs, wrs, wrs', tm, tm', s, s', h => by simp only [freeB, Option.some.injEq, Prod.mk.injEq] at h; obtain ⟨_, rfl, _⟩ := h; exact .refl _
  | o :: l, i, ivs, wrs, wrs', tm, tm', s, s', h => by
    simp only [freeB, bnd_some, guard_some] at h
    obtain ⟨g, r, h1, tm1, _, h⟩ := h
    exact (entry_kp g (op1B_kp hc h1)).trans (freeB_kp hc h)
theorem drawB_kp {call : CallB} (hc : CallKp call) {all : List Oper} {masks : List Nat} {m : Nat} (h : drawB P call all masks m tm s = some (tm', s')) : Kp s s' := by
  unfold drawB at h
  simp only [bnd_some] at h
  obtain ⟨⟨tm1, s1, wrs⟩, h1, h⟩ := h
  split at h
  · exact (freeB_kp hc h1).trans (opsB_kp hc h)
  · simp only [bnd_some, guard_some] at h
    obtain ⟨⟨tm2, s2, wrs2⟩, h2, _, h⟩ := h
    exact (freeB_kp hc h2).trans (opsB_kp hc h)
theorem stEnd_kp {rec : Code → Ctx → S → R} (hr : RecKp rec) {l : Nat} {x : X} (hl : s.wr l = true) (h : stEnd rec l tm s = some (x, tm', s')) : Kp s s' := by
  unfold stEnd at h
  simp only [bnd_some] at h
  obtain ⟨ob, h1, h⟩ := h
  split at h
  · split at h
    · cases h
    · split at h
      · simp only [Option.some.injEq, Prod.mk.injEq] at h
        obtain ⟨_, _, rfl⟩ := h
        exact .put h1 hl _
      · exact (Kp.put h1 hl _).trans (hr _ _ _ _ _ _ h)
  · cases h
theorem stepB_kp {call : CallB} (hc : CallKp call) {rec : Code → Ctx → S → R} (hr : RecKp rec) (rd : Option Nat) : RecKp (stepB P call rec rd) := by
  intro c tm s x tm' s' h
  unfold stepB at h
  split at h
  · simp only [Option.some.injEq, Prod.mk.injEq] at h; obtain ⟨_, _, rfl⟩ := h; exact .refl _
  · simp only [Option.some.injEq, Prod.mk.injEq] at h; obtain ⟨_, _, rfl⟩ := h; exact .refl _
  · unfold stRegion at h
    split at h
    · simp only [bnd_some, Option.some.injEq, Prod.mk.injEq] at h
      obtain ⟨r, h1, _, _, rfl⟩ := h
      exact opsB_kp hc h1
    · simp only [bnd_some, guard_some, Option.some.injEq, Prod.mk.injEq] at h
      obtain ⟨_, r, h1, _, _, rfl⟩ := h
      exact drawB_kp hc h1
  · unfold stSeq at h
    simp only [bnd_some] at h
    obtain ⟨⟨y, tm1, s1⟩, h1, h⟩ := h
    split at h
    · exact (hr _ _ _ _ _ _ h1).trans (hr _ _ _ _ _ _ h)
    · simp only [Option.some.injEq, Prod.mk.injEq] at h; obtain ⟨_, _, rfl⟩ := h; exact hr _ _ _ _ _ _ h1
  · unfold stCond at h
    simp only [bnd_some] at h
    obtain ⟨g, _, h⟩ := h
    cases g <;> exact hr _ _ _ _ _ _ h
  · unfold stBlock at h
    simp only [bnd_some] at h
    obtain ⟨⟨y, tm1, s1⟩, h1, h⟩ := h
    split at h
    · split at h <;> simp only [Option.some.injEq, Prod.mk.injEq] at h <;> obtain ⟨_, _, rfl⟩ := h <;> exact hr _ _ _ _ _ _ h1
    · simp only [Option.some.injEq, Prod.mk.injEq] at h; obtain ⟨_, _, rfl⟩ := h; exact hr _ _ _ _ _ _ h1
  · unfold stLoop at h
    simp only [bnd_some] at h
    obtain ⟨⟨y, tm1, s1⟩, h1, h⟩ := h
    split at h
    · exact (hr _ _ _ _ _ _ h1).trans (hr _ _ _ _ _ _ h)
    · simp only [Option.some.injEq, Prod.mk.injEq] at h; obtain ⟨_, _, rfl⟩ := h; exact hr _ _ _ _ _ _ h1
  · exact hr _ _ _ _ _ _ h
  · simp only [Option.some.injEq, Prod.mk.injEq] at h; obtain ⟨_, _, rfl⟩ := h; exact .refl _
  · simp only [Option.some.injEq, Prod.mk.injEq] at h; obtain ⟨_, _, rfl⟩ := h; exact .refl _
  · unfold stRange at h
    simp only [bnd_some, guard_some] at h
    obtain ⟨c, _, _, _, ⟨tm1, s1⟩, h1, ⟨u, s2⟩, h2, hlk, h⟩ := h
    have k1 : Kp s s1 := by
      unfold stMark at h1
      split at h1
      · simp only [Option.some.injEq, Prod.mk.injEq] at h1; obtain ⟨_, rfl⟩ := h1; exact .add _ _
      · simp only [bnd_some, guard_some, Option.some.injEq, Prod.mk.injEq] at h1; obtain ⟨_, _, _, _, rfl⟩ := h1; exact .refl _
    have k3 := hc _ _ _ _ _ h2
    have k4 := stEnd_kp hr hlk h
    exact k1.trans ((Kp.add s1 _).trans (k3.trans k4))
  · cases h
  · cases h
theorem marksB_kp : ∀ {rs : List Nat} {s s' : S}, marksB rs s = some s' → Kp s s'
  | [], s, s', h => by simp only [marksB, Option.some.injEq] at h; subst h; exact .refl _
  | r :: rs, s, s', h => by
    simp only [marksB, bnd_some] at h
    obtain ⟨ob, h1, h⟩ := h
    split at h
    · simp only [guard_some] at h
      exact (Kp.put h1 h.1 _).trans (marksB_kp h.2)
    · cases h
def OrcKp (orc : Orc) : Prop := ∀ f args s v s', orc f args s = some (some (v, s')) → Kp s s'
theorem callB_kp {orc : Orc} (ho : OrcKp orc) {rec : RecB} (hr : ∀ rd, RecKp (rec rd)) : CallKp (callB P orc rec) := by
  intro f args s v s' h
  unfold callB at h
  split at h
  · split at h
    · rename_i r hr'
      subst h
      exact ho _ _ _ _ _ hr'
    · simp only [bnd_some] at h
      obtain ⟨fn, _, h⟩ := h
      unfold enterB at h
      simp only [bnd_some, guard_some] at h
      obtain ⟨c, _, _, ⟨x, tm1, s1⟩, h1, h⟩ := h
      have k1 := hr _ _ _ _ _ _ _ h1
      unfold leaveB at h
      split at h
      · cases h
      · simp only [bnd_some, Option.some.injEq, Prod.mk.injEq] at h
        obtain ⟨s2, h2, _, _, _, rfl⟩ := h
        exact k1.trans (marksB_kp h2)
  · unfold yieldB at h
    simp only [bnd_some] at h
    obtain ⟨ob, h1, h⟩ := h
    split at h
    · simp only [bnd_some, guard_some] at h
      obtain ⟨g, tm1, _, ⟨x, tm2, s1⟩, h2, h⟩ := h
      have g' := g
      have k1 := hr _ _ _ _ _ _ _ h2
      unfold roundBody at h
      split at h
      · simp only [bnd_some] at h
        obtain ⟨ob2, h3, h⟩ := h
        split at h
        · simp only [bnd_some] at h
          obtain ⟨⟨y, tm3, s2⟩, h4, h⟩ := h
          have k2 := fun o' => Kp.put h3 (by rw [wr_congr' k1.lock k1.ext]; exact g') o'
          have k3 := hr _ _ _ _ _ _ _ h4
          unfold roundEnd at h
          simp only [bnd_some] at h
          obtain ⟨ob3, h5, h⟩ := h
          have g3 := fun r => (wr_congr' k3.lock k3.ext r).trans (wr_congr' k1.lock k1.ext r)
          split at h
          · split at h <;> simp only [Option.some.injEq, Prod.mk.injEq] at h <;> obtain ⟨_, rfl⟩ := h <;> exact k1.trans ((k2 _).trans (k3.trans (.put h5 (by rw [g3]; exact g') _)))
          · cases h
        · cases h
      · cases h
    · cases h
  · cases h
theorem run_kp {orc : Orc} (ho : OrcKp orc) : ∀ n rd, RecKp (run P orc n rd)
  | 0, rd => fun c tm s x tm' s' h => by simp [run] at h
  | n + 1, rd => by
    have ih := run_kp ho n
    exact stepB_kp (callB_kp ho ih) (ih rd) rd
end Go.Ev
