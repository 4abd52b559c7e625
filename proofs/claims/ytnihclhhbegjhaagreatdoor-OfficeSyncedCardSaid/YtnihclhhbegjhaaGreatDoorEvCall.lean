/- Calls, and loops over functions. -/
import Derived.Test.YtnihclhhbegjhaaGreatDoorEvCode
set_option linter.unusedSectionVars false
set_option linter.unusedSimpArgs false
set_option linter.unusedVariables false
namespace Go.Ev
variable [Ground]
variable {lm : Nat} {P : Program} {p p' p'' : Pi} {s s' s'' : S} {w w' w'' : World} {tm tm' : Ctx} {A A' : Act} {v v' : Value} {o : Oper} {F : Fence} {n : Nat}

/-! ### entering and leaving a function -/
theorem argsB_ok : ∀ {vs vs' : List Value}, LR (UR p) vs vs' → ∀ (k : Nat) (t : Tr Value) (pre : List Value) (m : Nat), pre.length = k →
    (∀ i v, t.get i = some v → i < k ∧ ∃ v', pre[i]? = some v' ∧ UR p v v') → TR p (argsB vs k t) (⟨pre ++ vs'⟩ ++ Array.replicate m undef)
  | _, _, .nil, k, t, pre, m, hk, ht => by
    intro i v hv
    obtain ⟨h1, v', h2, h3⟩ := ht i v hv
    have hlt : i < pre.length := by omega
    refine ⟨v', ?_, h3⟩
    rw [Array.getElem?_append_left (by simpa using hlt)]
    simpa using h2
  | v0 :: vs, v0' :: vs', .cons hv hr, k, t, pre, m, hk, ht => by
    have := argsB_ok hr (k + 1) (t.set k (some v0)) (pre ++ [v0']) m (by simp [hk]) (fun i v hi => by
      rw [Tr.get_set] at hi
      by_cases e : i = k
      · rw [if_pos e] at hi
        simp only [Option.some.injEq] at hi
        subst hi
        exact ⟨by omega, v0', by rw [e, ← hk]; simp, hv⟩
      · rw [if_neg e] at hi
        obtain ⟨h1, v', h2, h3⟩ := ht i v hi
        exact ⟨by omega, v', by rw [List.getElem?_append_left (by omega)]; exact h2, h3⟩)
    simpa [argsB] using this
theorem mapM_run {α : Type} {g : α → Sem Value} {w : World} : ∀ {l : List α} {vs : List Value}, LR (fun x v => (g x).run P w = .ok v w) l vs → (l.mapM g).run P w = .ok vs w
  | _, _, .nil => by simp
  | _, _, .cons hx hr => by simp [List.mapM_cons, hx, mapM_run hr]
theorem varB_vr (h : UR p v v') (hv : varB v = true) : VR p v v' := by
  cases h with
  | one h => exact h
  | tup _ => simp [varB] at hv
theorem resultsB_ok {fn : Func} (hs : Sim lm p s w) (ht : TR p tm.t A.tmps) (h : resultsB P tm s fn = some v) : ∃ v', (results fn A.tmps).run P w = .ok v' w ∧ UR p v v' := by
  unfold resultsB at h
  simp only [bnd_some, guard_some, Option.some.injEq] at h
  obtain ⟨vs, h1, h2, rfl⟩ := h
  have key : ∀ {l : List ResultVar} {vs : List Value}, LR (fun x y => resultB P tm s x = some y) l vs → vs.all varB = true →
      ∃ vs', LR (fun (x : ResultVar) v => ((match x with | .tmp t => pure (A.tmps.getD t undef) | .cell a t => do loadVar t (← asAddr (A.tmps.getD a undef)) : Sem Value)).run P w = .ok v w) l vs' ∧ LR (VR p) vs vs' := by
    intro l vs h
    induction h with
    | nil => intro _; exact ⟨[], .nil, .nil⟩
    | cons hx hr ih =>
      rename_i x y l vs
      intro hall
      simp only [List.all_cons, Bool.and_eq_true] at hall
      obtain ⟨vs', h3, h4⟩ := ih hall.2
      unfold resultB at hx
      cases x with
      | tmp t =>
        obtain ⟨v', h5, h6⟩ := ht _ _ hx
        exact ⟨v' :: vs', .cons (by simp [h5]) h3, .cons (varB_vr h6 hall.1) h4⟩
      | cell a t =>
        simp only [bnd_some] at hx
        obtain ⟨⟨r, off⟩, ⟨av, h5, h6⟩, h7⟩ := hx
        obtain ⟨av', h8, h9⟩ := ht _ _ h5
        obtain ⟨b, e, rfl, h10⟩ := h9.ptrOf h6
        obtain ⟨v', h11, h12⟩ := loadB_run (P := P) hs h7 h10
        exact ⟨v' :: vs', .cons (by simp [h8, ptr, asAddr, h11]) h3, .cons h12 h4⟩
  obtain ⟨vs', h3, h4⟩ := key (optMap_spec h1) h2
  have hrun := mapM_run h3
  have hlen := h4.length
  refine ⟨if h : vs'.length = 1 then vs'[0] else .tuple ⟨vs'⟩, ?_, ?_⟩
  · unfold results
    rw [Array.mapM_eq_mapM_toList]
    simp only [Sem.run_bind, Sem.run_map]
    erw [hrun]
    simp
  · cases h4 with
    | nil => exact .tup .nil
    | cons hx hr =>
      cases hr with
      | nil => exact .one hx
      | cons hy hr => simpa [tupleB] using UR.tup (.cons hx (.cons hy hr))
theorem marksB_ok {fn : Func} {R : Ending → World → Prop} : ∀ {rs : List Nat} {ds : List Deferred} {s s' : S} {w : World}, LR (Mark p) rs ds → marksB rs s = some s' → Sim lm p s w →
    (∀ w', Stp p s w p s' w' → Sim lm p s' w' → ∃ v, (results fn A.tmps).run P w' = .ok v w' ∧ R (.returned v) w') → LeavesInM F n P fn A.tmps R ds .returning w
  | _, _, s, s', w, .nil, h, hs, hR => by
    simp only [marksB, Option.some.injEq] at h
    subst h
    exact hR w (.refl _ _ _) hs
  | r :: rs, d :: ds, s, s', w, .cons hx hr, h, hs, hR => by
    obtain ⟨b, e, h1, rfl⟩ := hx
    simp only [marksB, bnd_some] at h
    obtain ⟨ob, h2, h⟩ := h
    cases ob <;> simp only [reduceCtorEq, guard_some] at h
    obtain ⟨g, h⟩ := h
    have g' := g
    obtain ⟨b', e', o', h3, h4, h5⟩ := hs.obj _ _ h2
    rw [h1] at h3
    simp only [Option.some.injEq, Prod.mk.injEq] at h3
    obtain ⟨rfl, rfl⟩ := h3
    have h6 : o' = .deferred (some []) := by
      unfold OC at h5
      split at h5 <;> first | (simp_all; done) | rfl
    subst h6
    obtain ⟨k1, k2⟩ := hs.kill (.deferred none) h2 h1 g'
    refine ⟨by simp, .inl ⟨b, _, rfl, run_takeDeferred h4, ?_⟩⟩
    exact marksB_ok hr h k1 fun w' j1 j2 => hR w' (k2.trans j1) j2
theorem enterB_ok {rec : RecB} (hrec : CodeOK P none (rec none)) {fn : Func} {f : FuncId} (hf : P.funcs[f]? = some fn) {args args' : List Value} (h : enterB P rec fn args s = some (v, s'))
    (hm : s'.nx ≤ lm) (hs : Sim lm p s w) (ha : LR (UR p) args args') (n : Nat) : CallsIn Fence.wide n P f ⟨args'⟩ w (Ret lm p s w v s') := by
  unfold enterB at h
  simp only [bnd_some, guard_some] at h
  obtain ⟨c, hb, g, ⟨x, tm1, s1⟩, h1, h⟩ := h
  have g' := Nat.le_of_ble_eq_true g
  have hlen := ha.length
  refine callsIn_of_wp_marks hf hb trivial ?_
  have hx : ∀ id, x ≠ .exit id := by
    rintro id rfl
    simp [leaveB] at h
  have h' : ((marksB tm1.marks s1).bnd fun s => (resultsB P tm1 s fn).bnd fun v => some (v, s)) = some (v, s') := by
    cases x with
    | exit id => exact absurd rfl (hx id)
    | normal => exact h
    | ret => exact h
  simp only [bnd_some, Option.some.injEq, Prod.mk.injEq] at h'
  obtain ⟨s2, h2, v2, h3, rfl, rfl⟩ := h'
  have htr := argsB_ok (p := p) ha 0 .leaf [] (fn.ntmps - args'.length) rfl (fun i v hv => by cases hv)
  have hnx : s1.nx ≤ lm := Nat.le_trans (marksB_kp h2).nx hm
  refine hrec _ _ _ _ _ _ h1 lm p _ w Fence.wide n _ hnx ⟨hs, by simpa using htr, by simp; omega, .nil⟩ rfl (fun p' A' w' k1 k2 => ?_)
  have hleave : LeavesInM Fence.wide n P fn A'.tmps (Ret lm p s w v2 s2) A'.defers .returning w' := by
    refine marksB_ok (A := A') k2.marks h2 k2.sim fun w2 j1 j2 => ?_
    obtain ⟨v', i1, i2⟩ := resultsB_ok (P := P) (A := A') j2 k2.tr h3
    exact ⟨v', i1, p', v', rfl, k1.trans j1, j2, i2⟩
  cases x with
  | exit id => exact absurd rfl (hx id)
  | normal => exact hleave
  | ret => exact hleave
end Go.Ev
