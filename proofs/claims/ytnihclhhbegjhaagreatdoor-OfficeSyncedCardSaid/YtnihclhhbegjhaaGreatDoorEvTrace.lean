/- A region whose order is drawn: what its free operations do, one by one. -/
import Derived.Test.YtnihclhhbegjhaaGreatDoorEvCongr
set_option linter.unusedSectionVars false
set_option linter.unusedSimpArgs false
set_option linter.unusedVariables false
namespace Go.Ev
variable {P : Program} {call : CallB} {all : List Oper} {masks : List Nat} {rsv : List (Nat × Nat)} {m : Nat}

theorem exists_tr {α : Type} (f : Nat → Option α) : ∀ N, ∃ t : Tr α, ∀ r, t.get r = if r < N then f r else none
  | 0 => ⟨.leaf, fun r => by simp [Tr.get]⟩
  | N + 1 => by
    obtain ⟨t, ht⟩ := exists_tr f N
    refine ⟨t.set N (f N), fun r => ?_⟩
    rw [Tr.get_set, ht]
    by_cases e : r = N
    · subst e; simp
    · rw [if_neg e]
      by_cases h : r < N
      · rw [if_pos h, if_pos (by omega)]
      · rw [if_neg h, if_neg (by omega)]

def ivsOf (T : Nat → S) (i : Nat) : List (Nat × Nat) := (List.range i).map fun j => ((T j).nx, (T (j + 1)).nx)
theorem ivsOf_get (T : Nat → S) {i k : Nat} {iv : Nat × Nat} : (ivsOf T i)[k]? = some iv ↔ k < i ∧ iv = ((T k).nx, (T (k + 1)).nx) := by
  unfold ivsOf
  rw [List.getElem?_map]
  by_cases h : k < i
  · rw [List.getElem?_range h]; simp [h, eq_comm]
  · rw [List.getElem?_eq_none (by simpa using h)]; simp [h]
theorem ivsOf_succ (T : Nat → S) (i : Nat) : ivsOf T (i + 1) = ((T 0).nx, (T 1).nx) :: ivsOf (fun j => T (j + 1)) i := by
  simp [ivsOf, List.range_succ_eq_map]
/-- what the operation i0 + k of a region does at its place -/
structure At (P : Program) (call : CallB) (all : List Oper) (masks : List Nat) (rsv ivs wrs : List (Nat × Nat)) (i : Nat) (C C' : Ctx) (T T' : S) (V : Value) (o : Oper) (s' : S) : Prop where
  ok : targetOK (seenBan masks rsv i ivs T) T (target C o) = true
  run : op1B P call all C (entry masks rsv i ivs C o T) o = some (V, s')
  put : putB C o.dst V = some C'
  next : T' = ⟨s'.h, s'.nx, T.lock, T.ext, T.ban⟩
  noted : ∀ r, target C o = some r → (i, r) ∈ wrs
theorem freeB_trace : ∀ (l : List Oper) (i0 : Nat) (ivs wrs wrs' : List (Nat × Nat)) (tm tm' : Ctx) (s s' : S), freeB P call all masks rsv l i0 ivs tm s wrs = some (tm', s', wrs') →
    (∀ x ∈ wrs, x ∈ wrs') ∧ ∃ (C : Nat → Ctx) (T : Nat → S) (V : Nat → Value), C 0 = tm ∧ T 0 = s ∧ C l.length = tm' ∧ T l.length = s' ∧
      ∀ k o, l[k]? = some o → ∃ s1, At P call all masks rsv (ivs ++ ivsOf T k) wrs' (i0 + k) (C k) (C (k + 1)) (T k) (T (k + 1)) (V k) o s1
  | [], i0, ivs, wrs, wrs', tm, tm', s, s', h => by
    simp only [freeB, Option.some.injEq, Prod.mk.injEq] at h
    obtain ⟨rfl, rfl, rfl⟩ := h
    exact ⟨fun _ h => h, fun _ => tm, fun _ => s, fun _ => undef, rfl, rfl, rfl, rfl, fun k o h => by simp at h⟩
  | o :: l, i0, ivs, wrs, wrs', tm, tm', s, s', h => by
    simp only [freeB, bnd_some, guard_some] at h
    obtain ⟨g, r, h1, tm1, h2, h⟩ := h
    obtain ⟨hw, C, T, V, hC, hT, hCl, hTl, hall⟩ := freeB_trace l _ _ _ _ _ _ _ _ h
    refine ⟨fun x hx => hw x ?_, fun k => Nat.casesOn k tm C, fun k => Nat.casesOn k s T, fun k => Nat.casesOn k r.1 V, rfl, rfl, hCl, hTl, fun k o' hk => ?_⟩
    · unfold noteB
      split
      · exact hx
      · exact List.mem_cons_of_mem _ hx
    · cases k with
      | zero =>
        simp only [List.getElem?_cons_zero, Option.some.injEq] at hk
        subst hk
        refine ⟨r.2, ?_, ?_, ?_, ?_, fun q hq => hw _ ?_⟩
        · show targetOK (seenBan masks rsv (i0 + 0) (ivs ++ []) s) s (target tm o) = true
          rw [List.append_nil]
          exact g
        · show op1B P call all tm (entry masks rsv (i0 + 0) (ivs ++ []) tm o s) o = some (r.1, r.2)
          rw [List.append_nil]
          exact h1
        · show putB tm o.dst r.1 = some (C 0)
          rw [hC]
          exact h2
        · exact hT
        · show _ ∈ noteB i0 (target tm o) wrs
          have hq' : target tm o = some q := hq
          rw [hq']
          simp [noteB]
      | succ k =>
        obtain ⟨s1, h3⟩ := hall k o' (by simpa using hk)
        refine ⟨s1, ?_⟩
        rw [ivsOf_succ, show i0 + (k + 1) = Nat.succ i0 + k by omega]
        have e : ivs ++ ((s.nx, (T 0).nx) :: ivsOf T k) = (ivs ++ [(s.nx, r.2.nx)]) ++ ivsOf T k := by rw [hT]; simp
        show At P call all masks rsv (ivs ++ ((s.nx, (T 0).nx) :: ivsOf T k)) wrs' _ _ _ _ _ _ _ _
        rw [e]
        exact h3
/-- the trace of the free operations -/
structure Trace (P : Program) (call : CallB) (all : List Oper) (masks : List Nat) (rsv : List (Nat × Nat)) (m : Nat) (C : Nat → Ctx) (T : Nat → S) (V : Nat → Value) : Prop where
  at_ : ∀ i o, i < m → all[i]? = some o → ∃ s1, At P call all masks rsv (ivsOf T i) rsv i (C i) (C (i + 1)) (T i) (T (i + 1)) (V i) o s1
  le : m ≤ all.length
theorem drawB_trace {tm tm' : Ctx} {s s' : S} (hm : m ≤ all.length) (h : drawB P call all masks m tm s = some (tm', s')) : ∃ rsv C T V, Trace P call all masks rsv m C T V ∧ C 0 = tm ∧ T 0 = s ∧
    opsB P call all (all.drop m) (C m) (T m) = some (tm', s') := by
  have hl : (all.take m).length = m := by simp [Nat.min_eq_left hm]
  have tk : ∀ i o, i < m → all[i]? = some o → (all.take m)[i]? = some o := fun i o hi ho => by rw [List.getElem?_take, if_pos hi]; exact ho
  unfold drawB at h
  simp only [bnd_some] at h
  obtain ⟨⟨tm1, s1, wrs⟩, h1, h⟩ := h
  split at h
  · rename_i hw
    simp only at hw
    subst hw
    obtain ⟨_, C, T, V, h2, h3, h4, h5, h6⟩ := freeB_trace _ _ _ _ _ _ _ _ _ h1
    rw [hl] at h4 h5
    refine ⟨[], C, T, V, ⟨fun i o hi ho => ?_, hm⟩, h2, h3, by rw [h4, h5]; exact h⟩
    obtain ⟨s1, h7⟩ := h6 i o (tk i o hi ho)
    exact ⟨s1, by simpa using h7⟩
  · simp only [bnd_some, guard_some] at h
    obtain ⟨⟨tm2, s2, wrs2⟩, h2, g, h⟩ := h
    obtain ⟨_, C, T, V, h3, h4, h5, h6, h7⟩ := freeB_trace _ _ _ _ _ _ _ _ _ h2
    rw [hl] at h5 h6
    refine ⟨wrs, C, T, V, ⟨fun i o hi ho => ?_, hm⟩, h3, h4, by rw [h5, h6]; exact h⟩
    obtain ⟨s1, h8⟩ := h7 i o (tk i o hi ho)
    have h8 : At P call all masks wrs (ivsOf T i) wrs2 i (C i) (C (i + 1)) (T i) (T (i + 1)) (V i) o s1 := by simpa using h8
    refine ⟨s1, h8.ok, h8.run, h8.put, h8.next, fun r hr => ?_⟩
    have := List.all_eq_true.1 g _ (h8.noted r hr)
    simpa using this

/-! ### What the check says -/
structure Chk (all : List Oper) (masks : List Nat) (m : Nat) : Prop where
  le : m ≤ all.length
  edge : ∀ i o e, all[i]? = some o → e ∈ o.after.toList → Region.binds .any e = true → e.on < i
  bits : ∀ i o k, i < m → all[i]? = some o → k < all.length → bit (masks.getD i 0) k = true → k < i ∧ ∃ e ∈ o.after.toList, Region.binds .any e = true ∧ (e.on = k ∨ bit (masks.getD e.on 0) k = true)
  dst : ∀ i o j oj d, i < m → all[i]? = some o → j < m → all[j]? = some oj → oj.dst = some d → o.dst = some d → i = j
  looks : ∀ i o j oj d, i < m → all[i]? = some o → j < m → all[j]? = some oj → oj.dst = some d → d ∈ o.looksAt ⟨all⟩ → bit (masks.getD i 0) j = true ∨ bit (masks.getD j 0) i = true
  suf : ∀ i o k, m ≤ i → all[i]? = some o → k < i → ∃ e ∈ o.after.toList, Region.binds .any e = true ∧ (e.on = k ∨ (k < e.on ∧ bit (masks.getD e.on 0) k = true))
theorem beq_nat {a b : Nat} : Nat.beq a b = true ↔ a = b := ⟨Nat.eq_of_beq_eq_true, fun h => by subst h; exact Nat.beq_refl a⟩
theorem blt_nat {a b : Nat} : Nat.blt a b = true ↔ a < b := by simp [Nat.blt_eq]
theorem chk (h : drawOK all masks m = true) : Chk all masks m := by
  unfold drawOK at h
  simp only [Bool.and_eq_true] at h
  obtain ⟨h0, h⟩ := h
  rw [List.all_eq_true] at h
  have hlen : ∀ {i : Nat} {o : Oper}, all[i]? = some o → i < all.length := fun ho => (List.getElem?_eq_some_iff.1 ho).1
  have h' : ∀ i o, all[i]? = some o → (o.after.toList.all fun e => !Region.binds .any e || Nat.blt e.on i) = true ∧ (match Nat.blt i m with
      | true => drawAt all masks m i o
      | false => (List.range i).all fun k => o.after.toList.any fun e => Region.binds .any e && (Nat.beq e.on k || (Nat.blt k e.on && bit (masks.getD e.on 0) k))) = true := fun i o ho => by
    have := h i (by simpa using hlen ho)
    rw [ho] at this
    simp only [Bool.and_eq_true] at this
    refine ⟨this.1, ?_⟩
    have t2 := this.2
    cases hb : Nat.blt i m <;> rw [hb] at t2 <;> exact t2
  have hA : ∀ i o, i < m → all[i]? = some o → drawAt all masks m i o = true := fun i o hi ho => by
    have := (h' i o ho).2
    rw [blt_nat.2 hi] at this
    exact this
  have hfree : ∀ i o j oj d, i < m → all[i]? = some o → j < m → all[j]? = some oj → oj.dst = some d → ((Nat.beq i j || !(o.dst == some d)) && (!((o.looksAt ⟨all⟩).contains d) || bit (masks.getD i 0) j || bit (masks.getD j 0) i)) = true := fun i o j oj d hi ho hj hoj hd => by
    have := hA i o hi ho
    unfold drawAt at this
    simp only [Bool.and_eq_true] at this
    have := List.all_eq_true.1 this.2 j (by simpa using hj)
    rw [hoj] at this
    simp only [Option.bnd, hd] at this
    simpa only [Bool.and_eq_true] using this
  refine ⟨Nat.le_of_ble_eq_true h0, fun i o e ho he hb => ?_, fun i o k hi ho hk hb => ?_, fun i o j oj d hi ho hj hoj hd hd' => ?_, fun i o j oj d hi ho hj hoj hd hl => ?_, fun i o k hi ho hk => ?_⟩
  · have := List.all_eq_true.1 (h' i o ho).1 e he
    rw [hb] at this
    simpa [Nat.blt_eq] using this
  · have := hA i o hi ho
    unfold drawAt at this
    simp only [Bool.and_eq_true] at this
    have := List.all_eq_true.1 this.1 k (by simpa using hk)
    rw [hb] at this
    simp only [Bool.not_true, Bool.false_or, Bool.and_eq_true, List.any_eq_true, Bool.or_eq_true, blt_nat, beq_nat] at this
    exact this
  · have := hfree i o j oj d hi ho hj hoj hd
    rw [hd'] at this
    simp only [Bool.and_eq_true, Bool.or_eq_true, beq_nat] at this
    simpa using this.1
  · have := hfree i o j oj d hi ho hj hoj hd
    simp only [Bool.and_eq_true, Bool.or_eq_true, Bool.not_eq_true', List.contains_eq_mem, decide_eq_false_iff_not] at this
    rcases this.2 with (h | h) | h
    · exact absurd hl h
    · exact .inl h
    · exact .inr h
  · have := (h' i o ho).2
    have hn : Nat.blt i m = false := by
      cases hb : Nat.blt i m
      · rfl
      · have := blt_nat.1 hb; omega
    rw [hn] at this
    have := List.all_eq_true.1 this k (by simpa using hk)
    simp only [List.any_eq_true, Bool.and_eq_true, Bool.or_eq_true, beq_nat, blt_nat] at this
    exact this
end Go.Ev
