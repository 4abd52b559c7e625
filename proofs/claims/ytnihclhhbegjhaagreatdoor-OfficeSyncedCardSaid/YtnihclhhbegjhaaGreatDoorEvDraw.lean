/- A region whose order is drawn, in whatever order. -/
import Derived.Test.YtnihclhhbegjhaaGreatDoorEvStep
import Derived.Test.YtnihclhhbegjhaaGreatDoorEvLoop
set_option linter.unusedSectionVars false
set_option linter.unusedSimpArgs false
set_option linter.unusedVariables false
namespace Go.Ev
variable [Ground]
variable {P : Program} {call : CallB} {all : List Oper} {masks : List Nat} {rsv : List (Nat × Nat)} {m lm n : Nat} {C : Nat → Ctx} {T : Nat → S} {V : Nat → Value} {L L' : Nat → Bool} {i j k r x y : Nat} {o : Oper} {ov : OV} {s s' s1 : S}
  {p0 p p' : Pi} {w0 w w' : World} {A : Act} {v' : Value} {tm tm' : Ctx} {F : Fence} {Q : Exit → Act → World → Prop}

/-! ### An operation looks at its temporaries alone -/
theorem op1B_congr (h : ∀ d, d ∈ o.looksAt ⟨all⟩ → tm.t.get d = tm'.t.get d) : op1B P call all tm s o = op1B P call all tm' s o := by
  have hop : opB P call tm s o = opB P call tm' s o := opB_congr fun x hx => by
    cases x with
    | tmp t => exact h t (List.mem_append_left _ (List.mem_filterMap.2 ⟨.tmp t, by simpa using hx, rfl⟩))
    | const v => rfl
    | global g => rfl
    | func f => rfl
  have hw : wantedB tm all o = wantedB tm' all o := by
    unfold wantedB
    cases hg : o.guard with
    | none => rfl
    | some g =>
      simp only
      cases ha : all[g.1]? with
      | none => rfl
      | some x =>
        simp only [Option.bnd]
        cases hd : x.dst with
        | none => rfl
        | some d =>
          simp only
          rw [h d (by
            unfold Oper.looksAt
            rw [hg]
            refine List.mem_append_right _ ?_
            simp [ha, hd])]
  unfold op1B
  rw [hw, hop]
theorem exists_lt : ∀ l : List Nat, ∃ N, ∀ d, d ∈ l → d < N
  | [] => ⟨0, fun d h => by cases h⟩
  | x :: l => by
    obtain ⟨N, hN⟩ := exists_lt l
    refine ⟨N + x + 1, fun d h => ?_⟩
    rcases List.mem_cons.1 h with h | h
    · omega
    · have := hN d h; omega
theorem exists_ctx (tm : Ctx) (l : List Nat) : ∃ tm' : Ctx, (∀ d, d ∈ l → tm'.t.get d = tm.t.get d) ∧ ∀ d v, tm'.t.get d = some v → d ∈ l ∧ tm.t.get d = some v := by
  obtain ⟨N, hN⟩ := exists_lt l
  obtain ⟨t, ht⟩ := exists_tr (fun d => if d ∈ l then tm.t.get d else none) N
  refine ⟨⟨t, tm.n, tm.marks⟩, fun d h => ?_, fun d v h => ?_⟩
  · show t.get d = _
    rw [ht, if_pos (hN d h), if_pos h]
  · have h : t.get d = some v := h
    rw [ht] at h
    split at h
    · split at h
      · rename_i hd; exact ⟨hd, h⟩
      · cases h
    · cases h

/-! ### Contexts of the trace -/
structure CtxI (all : List Oper) (C : Nat → Ctx) (V : Nat → Value) (i : Nat) : Prop where
  n : (C i).n = (C 0).n
  marks : (C i).marks = (C 0).marks
  get : ∀ d v, (C i).t.get d = some v → (∃ j o, j < i ∧ all[j]? = some o ∧ o.dst = some d ∧ v = V j) ∨ ((∀ j o, j < i → all[j]? = some o → o.dst ≠ some d) ∧ (C 0).t.get d = some v)
theorem Trace.ctx (ht : Trace P call all masks rsv m C T V) : ∀ i, i ≤ m → CtxI all C V i
  | 0, _ => ⟨rfl, rfl, fun d v h => .inr ⟨fun j o hj => by omega, h⟩⟩
  | i + 1, hi => by
    have ih := ht.ctx i (by omega)
    obtain ⟨o, s1, ho, hat⟩ := ht.get (show i < m from hi)
    have hp := hat.put
    unfold putB at hp
    have hstay : ∀ d v, o.dst ≠ some d → (C i).t.get d = some v → (∃ j o, j < i + 1 ∧ all[j]? = some o ∧ o.dst = some d ∧ v = V j) ∨ ((∀ j o, j < i + 1 → all[j]? = some o → o.dst ≠ some d) ∧ (C 0).t.get d = some v) := fun d v h1 h2 => by
      rcases ih.get d v h2 with ⟨j, oj, h3, h4⟩ | ⟨h3, h4⟩
      · exact .inl ⟨j, oj, by omega, h4⟩
      · refine .inr ⟨fun j oj hj hoj => ?_, h4⟩
        rcases Nat.lt_or_eq_of_le (Nat.le_of_lt_succ hj) with h5 | h5
        · exact h3 j oj h5 hoj
        · subst h5; rw [ho] at hoj; cases hoj; exact h1
    split at hp
    · rename_i d hd
      simp only [Ctx.set, guard_some, Option.some.injEq] at hp
      obtain ⟨g, hp⟩ := hp
      refine ⟨by rw [← hp]; exact ih.n, by rw [← hp]; exact ih.marks, fun d' v h => ?_⟩
      rw [← hp] at h
      simp only [Tr.get_set] at h
      by_cases e : d' = d
      · rw [if_pos e] at h
        simp only [Option.some.injEq] at h
        exact .inl ⟨i, o, by omega, ho, by rw [hd, e], h.symm⟩
      · rw [if_neg e] at h
        exact hstay d' v (by rw [hd]; simpa using fun h => e h.symm) h
    · rename_i hd
      simp only [Option.some.injEq] at hp
      refine ⟨by rw [← hp]; exact ih.n, by rw [← hp]; exact ih.marks, fun d' v h => ?_⟩
      rw [← hp] at h
      exact hstay d' v (by rw [hd]; simp) h
theorem Trace.dst_lt (ht : Trace P call all masks rsv m C T V) (hi : i < m) (hat : At P call all masks rsv (ivsOf T i) rsv i (C i) (C (i + 1)) (T i) (T (i + 1)) (V i) o s1) : ∀ d, o.dst = some d → d < (C 0).n := fun d hd => by
  have hp := hat.put
  unfold putB at hp
  rw [hd] at hp
  simp only [Ctx.set, guard_some] at hp
  rw [← (ht.ctx i (Nat.le_of_lt hi)).n]
  exact blt_nat.1 hp.1
/-- what the operation sees of the temporaries is there -/
theorem Rdy.tl (hcl : Closed masks all.length m L) (hr : Rdy all masks m L i o) (hk : Chk all masks m) (ht : Trace P call all masks rsv m C T V) {d : Nat} {v : Value} (hd : d ∈ o.looksAt ⟨all⟩) (h : (C i).t.get d = some v) : TL all C V m L d v := by
  have hi := hr.lt
  rcases (ht.ctx i (Nat.le_of_lt hi)).get d v h with ⟨j, oj, h1, h2, h3, h4⟩ | ⟨h1, h2⟩
  · have hj : j < m := Nat.lt_trans h1 hi
    refine .inl ⟨j, oj, hj, ?_, h2, h3, h4⟩
    rcases hk.looks i o j oj d hi hr.op hj h2 h3 hd with hh | hh
    · exact hr.dep j (hk.lt hj) hh
    · exact absurd (hk.bits j oj i hj h2 (hk.lt hi) hh).1 (by omega)
  · refine .inr ⟨fun j oj hj hLj hoj hdj => ?_, h2⟩
    rcases hk.looks i o j oj d hi hr.op hj hoj hdj hd with h | h
    · exact h1 j oj (hk.bits i o j hi hr.op (hk.lt hj) h).1 hoj hdj
    · have := hcl j hj hLj i (hk.lt hi) h
      rw [hr.new] at this
      cases this

/-! ### The start, a step, the end -/
theorem Trace.any_start (ht : Trace P call all masks rsv m C T V) (hc : CallKp call) (h0 : Start (T 0)) (hL : ∀ k, k < m → L k = false) : (VS all C T m L).any r = some ov ↔ (T 0).any r = some ov := by
  have hgood : r < (T 0).nx → Good all C T m L r 0 := fun h => ⟨Nat.zero_le _, h, fun k hk _ => by rw [hL k hk]; simp⟩
  rw [ht.any hc]
  constructor
  · rintro ⟨h1, h2, x, hx, h3⟩
    have hlt : r < (T 0).nx := by
      rcases Nat.lt_or_ge r (T 0).nx with h | h
      · exact h
      · obtain ⟨k, h4, h5⟩ := ht.inGap h m (Nat.le_refl _) (Nat.lt_of_lt_of_le hx.2.1 (ht.kp hc hx.1 (Nat.le_refl _)).nx)
        exact absurd ⟨k, h4, hL k h4, h5⟩ h2
    unfold S.any
    rw [h1, ← h3]
    exact (ht.good_eq hc hx (hgood hlt))
  · intro h
    have h1 := any_unbanned h
    have h2 : (T 0).h.get r = some ov := by
      unfold S.any at h
      rw [h1] at h
      exact h
    have hlt : r < (T 0).nx := by
      rcases Nat.lt_or_ge r (T 0).nx with h3 | h3
      · exact h3
      · rw [h0.top r h3] at h2; cases h2
    refine ⟨h1, ?_, 0, hgood hlt, h2⟩
    rintro ⟨k, h3, _, h4, _⟩
    have := (ht.kp hc (Nat.zero_le k) (Nat.le_of_lt h3)).nx
    omega
theorem Trace.init (ht : Trace P call all masks rsv m C T V) (hc : CallKp call) (hm : (T m).nx ≤ lm) (hfs : FrS lm p (C 0) (T 0) A w) (hL : ∀ k, k < m → L k = false) (d : Nat) :
    Inv lm all masks C T V m p w L p A { w with drawn := d } := by
  have hs := hfs.sim
  have h0 : Start (T 0) := ⟨hs.top, hs.ban, hs.low⟩
  have hvs := isVS (all := all) (C := C) (T := T) (m := m) (L := L)
  have hle := (ht.kp hc (Nat.zero_le m) (Nat.le_refl _)).nx
  have hany : ∀ r, ((VS all C T m L).any r).isSome = true → ((T 0).any r).isSome = true := fun r h => by
    obtain ⟨ov, h1⟩ := Option.isSome_iff_exists.1 h
    rw [(ht.any_start hc h0 hL).1 h1]
    rfl
  refine ⟨fun i hi h => by (rw [hL i hi] at h; cases h), ⟨⟨fun r x h => ?_, fun r h => ?_, fun r h => ?_, ?_, fun r ov h => hs.obj r ov ((ht.any_start hc h0 hL).1 h), fun r r' b e e' h1 h2 => hs.inj r r' b e e' (hany r h1) (hany r' h2)⟩,
      ⟨fun r b e hr h => hs.gr.own r b e hr (hany r h), (hs.drawn d).gr.below, hs.gr.glob, by rw [hvs.lock]; exact hs.gr.lock, by rw [hvs.ext]; exact hs.gr.ext⟩⟩,
    ⟨p.le_refl, fun _ _ h => .inl h, by rw [hvs.nx]; exact hle, hvs.lock, hvs.ext, Nat.le_refl _, rfl, rfl, rfl, fun _ _ => .inl rfl, fun r b e h1 h2 => .inl ⟨hany r h1, h2⟩⟩, fun r h => ?_, fun d v h => ?_, hfs.size, hfs.marks⟩
  · rw [hvs.nx]
    exact (hs.dom r x h).imp (fun h => by omega) id
  · rw [hvs.get, if_neg (by rw [hvs.nx] at h; omega)]
  · rw [hvs.nx]
    rcases (hvs.ban r).1 h with h1 | ⟨k, h1, _, _, h2⟩
    · have := h0.ban r h1; omega
    · exact Nat.lt_of_lt_of_le h2 (ht.kp hc h1 (Nat.le_refl _)).nx
  · rw [hvs.nx, hvs.lock]
    exact Nat.le_trans hs.low hle
  · obtain ⟨k, h1, _, h2, h3⟩ := h
    have h4 : (T (k + 1)).nx ≤ (T m).nx := (ht.kp hc h1 (Nat.le_refl _)).nx
    have h5 := (ht.kp hc (Nat.zero_le k) (Nat.le_of_lt h1)).nx
    cases hp : p r with
    | none => rfl
    | some y =>
      rcases hs.dom r y hp with h6 | h6 <;> omega
  · rcases h with ⟨j, oj, h1, h2, _⟩ | ⟨_, h⟩
    · rw [hL j h1] at h2; cases h2
    · exact hfs.tr d v h
theorem Inv.entry (hinv : Inv lm all masks C T V m p0 w0 L p A w) (ht : Trace P call all masks rsv m C T V) (hc : CallKp call) (hk : Chk all masks m) (h0 : Start (T 0)) (hr : Rdy all masks m L i o) :
    Sim (T (i + 1)).nx p (Ev.entry masks rsv i (ivsOf T i) (C i) o (T i)) w := by
  have hi := hr.lt
  refine ⟨⟨fun r y h => ?_, fun r h => (ht.kp hc (Nat.zero_le i) (Nat.le_of_lt hi)).dom h0.top r h, fun r h => ht.seen_lt hc h0 hi h, Nat.le_refl _, fun r ov h => hinv.sim.obj r ov (ht.any_entry hc hk h0 hinv.closed hr h).1, fun r r' b e e' h1 h2 => ?_⟩,
    ⟨fun r b e h0' h1 h2 => ?_, hinv.sim.gr.below, hinv.sim.gr.glob, ?_, fun r h => ?_⟩⟩
  · show r < (T i).nx ∨ _
    rcases Nat.lt_or_ge r (T i).nx with h1 | h1
    · exact .inl h1
    · rcases Nat.lt_or_ge r (T (i + 1)).nx with h2 | h2
      · rw [hinv.gap r ⟨i, hi, hr.new, h1, h2⟩] at h; cases h
      · exact .inr h2
  · obtain ⟨o1, h3⟩ := Option.isSome_iff_exists.1 h1
    obtain ⟨o2, h4⟩ := Option.isSome_iff_exists.1 h2
    exact hinv.sim.inj r r' b e e' (by rw [(ht.any_entry hc hk h0 hinv.closed hr h3).1]; rfl) (by rw [(ht.any_entry hc hk h0 hinv.closed hr h4).1]; rfl)
  · obtain ⟨o1, h3⟩ := Option.isSome_iff_exists.1 h1
    exact hinv.sim.gr.own r b e h0' (by rw [(ht.any_entry hc hk h0 hinv.closed hr h3).1]; rfl) h2
  · have hvs := isVS (all := all) (C := C) (T := T) (m := m) (L := L)
    have h1 := hinv.sim.gr.lock
    rw [hvs.lock] at h1
    exact Nat.le_trans (Nat.le_trans h1 h0.low) (ht.kp hc (Nat.zero_le i) (Nat.le_of_lt hi)).nx
  · have hvs := isVS (all := all) (C := C) (T := T) (m := m) (L := L)
    have h1 := (ht.tg hc hi ⟨o, hr.op, h⟩).wr
    rw [← wr_congr hvs.lock hvs.ext] at h1
    exact hinv.sim.gr.wr h1
theorem Sim.congr (h : Sim lm p s w) (h1 : s'.nx = s.nx) (h2 : s'.lock = s.lock) (h3 : ∀ r, s'.h.get r = s.h.get r) (h5 : s'.ext = s.ext) (h4 : ∀ r, banned s'.ban r = banned s.ban r) : Sim lm p s' w := by
  have ha : ∀ r, s'.any r = s.any r := fun r => by unfold S.any; rw [h3, h4]
  exact ⟨⟨by rw [h1]; exact h.dom, fun r hr => by rw [h3]; exact h.top r (by rw [← h1]; exact hr), fun r hr => by rw [h1]; exact h.ban r (by rw [← h4]; exact hr), by rw [h1, h2]; exact h.low, fun r o hr => h.obj r o (by rw [← ha]; exact hr), fun r r' b e e' a1 a2 => h.inj r r' b e e' (by rw [← ha]; exact a1) (by rw [← ha]; exact a2)⟩, ⟨fun r b e a0 a1 => h.gr.own r b e a0 (by rw [← ha]; exact a1), h.gr.below, h.gr.glob, by rw [h2]; exact h.gr.lock, by rw [h5]; exact h.gr.ext⟩⟩
theorem Stp.congr (h : Stp p s w p' s' w') (h1 : s1.nx = s'.nx) (h2 : s1.lock = s'.lock) (h5 : s1.ext = s'.ext) (h3 : ∀ r, s1.h.get r = s'.h.get r) (h4 : ∀ r, banned s1.ban r = banned s'.ban r) : Stp p s w p' s1 w' := by
  have ha : ∀ r, s1.any r = s'.any r := fun r => by unfold S.any; rw [h3, h4]
  exact ⟨h.le, fun r x hx => by rw [h1]; exact h.new r x hx, by rw [h1]; exact h.nx, h2.trans h.lock, h5.trans h.ext, h.size, h.os, h.tape, h.output, h.keep, fun r b e hr => h.born r b e (by rw [← ha]; exact hr)⟩
theorem Inv.done (hinv : Inv lm all masks C T V m p0 w0 L p A w) (ht : Trace P call all masks rsv m C T V) (hc : CallKp call) (h0 : Start (T 0)) (hL : ∀ k, k < m → L k = true) :
    FrS lm p (C m) (T m) A w ∧ Stp p0 (T 0) w0 p (T m) w := by
  have hvs := isVS (all := all) (C := C) (T := T) (m := m) (L := L)
  have hkp := ht.kp hc (Nat.zero_le m) (Nat.le_refl _)
  have hcx := ht.ctx m (Nat.le_refl _)
  have h3 : ∀ r, (T m).h.get r = (VS all C T m L).h.get r := fun r => by
    rw [hvs.get]
    rcases Nat.lt_or_ge r (T m).nx with h | h
    · rw [if_pos h, ht.gL hc (x := m) ⟨Nat.le_refl _, h, fun k hk _ => by rw [hL k hk]; simp [hk]⟩]
    · rw [if_neg (by omega)]
      exact hkp.dom h0.top r h
  have h4 : ∀ r, banned (T m).ban r = banned (VS all C T m L).ban r := fun r => by
    have := hvs.ban r
    rw [hkp.ban]
    cases hb : banned (T 0).ban r
    · cases hb' : banned (VS all C T m L).ban r
      · rfl
      · rcases this.1 hb' with h | ⟨k, h1, h2, _⟩
        · rw [hb] at h; cases h
        · rw [hL k h1] at h2; cases h2
    · exact (this.2 (.inl hb)).symm
  refine ⟨⟨hinv.sim.congr hvs.nx.symm (by rw [hvs.lock, hkp.lock]) h3 (by rw [hvs.ext, hkp.ext]) h4, fun d v h => hinv.tmp d v ?_, by rw [hcx.n]; exact hinv.size, by rw [hcx.marks]; exact hinv.marks⟩, hinv.stp.congr hvs.nx.symm (by rw [hvs.lock, hkp.lock]) (by rw [hvs.ext, hkp.ext]) h3 h4⟩
  rcases hcx.get d v h with ⟨j, oj, h1, h2⟩ | ⟨h1, h2⟩
  · exact .inl ⟨j, oj, h1, hL j h1, h2⟩
  · exact .inr ⟨fun j oj hj _ => h1 j oj hj, h2⟩
end Go.Ev
