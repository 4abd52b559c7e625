/- Runs in pieces: each piece is reckoned by itself, and between two only what is needed is kept. -/
import Derived.Test.YtnihclhhbegjhaaGreatDoorEvAny
set_option linter.unusedSectionVars false
set_option linter.unusedSimpArgs false
set_option linter.unusedVariables false
namespace Go.Ev
open Go.RowKit
variable [Ground]
variable {P : Program} {orc : Orc} {rd : Option Nat} {c a b : Code} {tm tm1 tm2 tm' : Ctx} {s s1 s2 s' : S} {x : X} {lm n : Nat} {p p' : Pi} {A : Act} {w w' : World} {Q : Exit → Act → World → Prop} {v : Value} {f : FuncId} {args : List Value}

/-- the code c, run from (tm, s), ends by x in (tm', s') -/
structure Ends (P : Program) (rd : Option Nat) (c : Code) (tm : Ctx) (s : S) (x : X) (tm' : Ctx) (s' : S) : Prop where
  nx : s.nx ≤ s'.nx
  ok : ∀ lm p A w F n Q, s'.nx ≤ lm → FrS lm p tm s A w → Fits p rd F → Post lm p s w x tm' s' Q → c.wpIn F n P Q A w
/-- the call of f ends with v in s' -/
structure EndsCall (P : Program) (f : FuncId) (args : List Value) (s : S) (v : Value) (s' : S) : Prop where
  nx : s.nx ≤ s'.nx
  ok : ∀ lm p w args', s'.nx ≤ lm → Sim lm p s w → LR (UR p) args args' → ∀ n, CallsIn Fence.wide n P f ⟨args'⟩ w (Ret lm p s w v s')

/-! ### What is kept of a state -/
noncomputable def onlyT {α : Type} (t : Tr α) : List Nat → Tr α → Tr α
  | [], acc => acc
  | n :: ns, acc => onlyT t ns (acc.set n (t.get n))
noncomputable def only (ns ts : List Nat) (r : X × Ctx × S) : X × Ctx × S := (r.1, ⟨onlyT r.2.1.t ts .leaf, r.2.1.n, r.2.1.marks⟩, ⟨onlyT r.2.2.h ns .leaf, r.2.2.nx, r.2.2.lock, r.2.2.ext, r.2.2.ban⟩)
theorem onlyT_get {α : Type} {t : Tr α} {r : Nat} {v : α} : ∀ {ns : List Nat} {acc : Tr α}, (onlyT t ns acc).get r = some v → acc.get r = some v ∨ t.get r = some v
  | [], acc, h => .inl h
  | n :: ns, acc, h => by
    rcases onlyT_get (ns := ns) h with h | h
    · rw [Tr.get_set] at h
      split at h
      · rename_i e; subst e; exact .inr h
      · exact .inl h
    · exact .inr h
theorem onlyT_leaf {α : Type} {t : Tr α} {r : Nat} {v : α} {ns : List Nat} (h : (onlyT t ns .leaf).get r = some v) : t.get r = some v := by
  rcases onlyT_get h with h | h
  · cases h
  · exact h
structure Less (tm1 : Ctx) (s1 : S) (tm2 : Ctx) (s2 : S) : Prop where
  t : ∀ d v, tm1.t.get d = some v → tm2.t.get d = some v
  n : tm1.n = tm2.n
  marks : tm1.marks = tm2.marks
  h : ∀ r o, s1.h.get r = some o → s2.h.get r = some o
  nx : s1.nx = s2.nx
  lock : s1.lock = s2.lock
  ext : s1.ext = s2.ext
  ban : s1.ban = s2.ban
theorem Less.any (h : Less tm1 s1 tm2 s2) {r : Nat} {o : OV} (ho : s1.any r = some o) : s2.any r = some o := by
  unfold S.any at *
  rw [← h.ban]
  split at ho
  · cases ho
  · exact h.h r o ho
theorem Less.any' (h : Less tm1 s1 tm2 s2) {r : Nat} (ho : (s1.any r).isSome = true) : (s2.any r).isSome = true := by
  obtain ⟨o, h1⟩ := Option.isSome_iff_exists.1 ho
  rw [h.any h1]
  rfl
theorem Less.top (h : Less tm1 s1 tm2 s2) (hs : Sim lm p s2 w) (r : Nat) (hr : s1.nx ≤ r) : s1.h.get r = none := by
  cases ho : s1.h.get r with
  | none => rfl
  | some o =>
    have := hs.top r (by rw [← h.nx]; exact hr)
    rw [h.h r o ho] at this
    cases this
theorem Less.sim (h : Less tm1 s1 tm2 s2) (hs : Sim lm p s2 w) : Sim lm p s1 w :=
  ⟨⟨by rw [h.nx]; exact hs.dom, h.top hs, by rw [h.nx, h.ban]; exact hs.ban, by rw [h.nx, h.lock]; exact hs.low, fun r o ho => hs.obj r o (h.any ho), fun r r' b e e' h1 h2 => hs.inj r r' b e e' (h.any' h1) (h.any' h2)⟩, ⟨fun r b e h0 h1 => hs.gr.own r b e h0 (h.any' h1), hs.gr.below, hs.gr.glob, by rw [h.lock]; exact hs.gr.lock, by rw [h.ext]; exact hs.gr.ext⟩⟩
theorem Less.fs (h : Less tm1 s1 tm2 s2) (hf : FrS lm p tm2 s2 A w) : FrS lm p tm1 s1 A w :=
  ⟨h.sim hf.sim, fun d v hd => hf.tr d v (h.t d v hd), by rw [h.n]; exact hf.size, by rw [h.marks]; exact hf.marks⟩
theorem Less.stp (h : Less tm1 s1 tm2 s2) (hs : Stp p s w p' s2 w') : Stp p s w p' s1 w' :=
  ⟨hs.le, by rw [h.nx]; exact hs.new, by rw [h.nx]; exact hs.nx, h.lock.trans hs.lock, h.ext.trans hs.ext, hs.size, hs.os, hs.tape, hs.output, hs.keep, fun r b e h1 => hs.born r b e (h.any' h1)⟩
theorem Ends.weak (h : Ends P rd c tm s x tm2 s2) (hl : Less tm1 s1 tm2 s2) : Ends P rd c tm s x tm1 s1 :=
  ⟨by rw [hl.nx]; exact h.nx, fun lm p A w F n Q hm hfs hF hQ => h.ok lm p A w F n Q (by rw [← hl.nx]; exact hm) hfs hF fun p' A' w' k1 k2 => hQ p' A' w' (hl.stp k1) (hl.fs k2)⟩
/-- a piece that is reckoned by the kernel -/
theorem Ends.run (hE : Env P) (horc : OrcOK P orc) (hokp : OrcKp orc) (m : Nat) (ns ts : List Nat) (h : (Ev.run P orc m rd c tm s).bnd (fun r => some (only ns ts r)) = some (x, tm1, s1)) : Ends P rd c tm s x tm1 s1 := by
  simp only [bnd_some, Option.some.injEq] at h
  obtain ⟨⟨y, tm2, s2⟩, h1, h⟩ := h
  simp only [only, Prod.mk.injEq] at h
  obtain ⟨rfl, rfl, rfl⟩ := h
  have h2 : Ends P rd c tm s y tm2 s2 := ⟨(run_kp (P := P) hokp m _ _ _ _ _ _ _ h1).nx, (run_ok hE horc hokp (fun _ h1 h2 => draw_ok hE h1 h2) m rd).1 _ _ _ _ _ _ h1⟩
  exact h2.weak ⟨fun d v => onlyT_leaf, rfl, rfl, fun r o => onlyT_leaf, rfl, rfl, rfl, rfl⟩
theorem Ends.seq (h1 : Ends P rd a tm s .normal tm1 s1) (h2 : Ends P rd b tm1 s1 x tm2 s2) : Ends P rd (.seq a b) tm s x tm2 s2 :=
  ⟨Nat.le_trans h1.nx h2.nx, fun lm p A w F n Q hm hfs hF hQ => wpIn_seq (h1.ok lm p A w F n _ (Nat.le_trans h2.nx hm) hfs hF fun p' A' w' k1 k2 =>
    h2.ok lm p' A' w' F n Q hm k2 (hF.mono k1.le) (hQ.step k1))⟩
theorem Ends.seq_out (h1 : Ends P rd a tm s x tm1 s1) (hx : x.out ≠ .normal) : Ends P rd (.seq a b) tm s x tm1 s1 :=
  ⟨h1.nx, fun lm p A w F n Q hm hfs hF hQ => wpIn_seq (h1.ok lm p A w F n _ hm hfs hF fun p' A' w' k1 k2 => by
    have := hQ p' A' w' k1 k2
    cases x with
    | normal => exact absurd rfl hx
    | exit id => exact this
    | ret => exact this)⟩
theorem Ends.cond {o : Operand} {g : Bool} (hc : (opnd tm o).bnd boolOf = some g) (h : Ends P rd (match g with | true => a | false => b) tm s x tm1 s1) : Ends P rd (.cond o a b) tm s x tm1 s1 :=
  ⟨h.nx, fun lm p A w F n Q hm hfs hF hQ => by
    simp only [bnd_some] at hc
    obtain ⟨cv, h1, h2⟩ := hc
    have h3 := ((opnd_ok hfs.sim.gr.glob hfs.tr h1).boolOf h2).2
    cases g with
    | true => exact wpIn_cond_true h3 (h.ok lm p A w F n Q hm hfs hF hQ)
    | false => exact wpIn_cond_false h3 (h.ok lm p A w F n Q hm hfs hF hQ)⟩
theorem Ends.scope (h : Ends P rd c tm s x tm1 s1) : Ends P rd (.scope c) tm s x tm1 s1 :=
  ⟨h.nx, fun lm p A w F n Q hm hfs hF hQ => wpIn_scope_straight (h.ok lm p A w F n _ hm hfs hF (fun p' A' w' k1 k2 => by cases x <;> exact hQ _ _ _ k1 k2))⟩
theorem Ends.block {id : Nat} (h : Ends P rd c tm s x tm1 s1) (hx : ∀ j, x ≠ .exit j) : Ends P rd (.block id c) tm s x tm1 s1 :=
  ⟨h.nx, fun lm p A w F n Q hm hfs hF hQ => wpIn_block (h.ok lm p A w F n _ hm hfs hF fun p' A' w' k1 k2 => by
    have := hQ p' A' w' k1 k2
    cases x with
    | normal => exact this
    | exit j => exact absurd rfl (hx j)
    | ret => exact this)⟩
theorem Ends.block_exit {id : Nat} (h : Ends P rd c tm s (.exit id) tm1 s1) : Ends P rd (.block id c) tm s .normal tm1 s1 :=
  ⟨h.nx, fun lm p A w F n Q hm hfs hF hQ => wpIn_block (h.ok lm p A w F n _ hm hfs hF fun p' A' w' k1 k2 => by
    show if id = id then Q .normal A' w' else Q (.exit id) A' w'
    rw [if_pos rfl]
    exact hQ p' A' w' k1 k2)⟩
open Classical in
theorem Ends.call {fn : Func} (hf : P.funcs[f]? = some fn) (hb : fn.body = some c) (g : Nat.ble args.length fn.ntmps = true) (h : Ends P none c ⟨argsB args (nat_lit 0) .leaf, fn.ntmps, []⟩ s x tm1 s1)
    (hl : leaveB P fn (x, tm1, s1) = some (v, s')) (hnx : s.nx ≤ s'.nx) : EndsCall P f args s v s' := by
  refine ⟨hnx, fun lm p w args' hm hs ha n => ?_⟩
  let rec' : RecB := fun _ c' tm' s0 => if c' = c ∧ tm' = ⟨argsB args (nat_lit 0) .leaf, fn.ntmps, []⟩ ∧ s0 = s then some (x, tm1, s1) else none
  have hrec : CodeOK P none (rec' none) := by
    intro c' tm' s0 x' tm2 s2 h'
    simp only [rec'] at h'
    split at h'
    · rename_i he
      obtain ⟨rfl, rfl, rfl⟩ := he
      simp only [Option.some.injEq, Prod.mk.injEq] at h'
      obtain ⟨rfl, rfl, rfl⟩ := h'
      exact h.ok
    · cases h'
  have he : enterB P rec' fn args s = some (v, s') := by
    unfold enterB
    rw [hb]
    simp only [bnd_some, guard_some, Option.some.injEq, exists_eq_left']
    refine ⟨g, (x, tm1, s1), ?_, hl⟩
    simp [rec']
  exact enterB_ok hrec hf he hm hs ha n
/-! ### At the start -/
/-- the global variables that are told hold what is told -/
def LaidIn (gs : List (Nat × Cs)) (w : World) : Prop := ∀ x ∈ gs, ∃ fr : Nat × Nat, w.heap[x.1]? = some (.cells ⟨x.2.cs⟩ x.2.elem fr) ∧ ∀ i, i < x.2.cs.length → (decide (fr.1 ≤ i) && decide (i < fr.2)) = false
/-- numbers of global variables, and cells without addresses -/
def laidB (gs : List (Nat × Cs)) : Bool := gs.all fun x => Nat.blt x.1 256 && (x.2.cs.all flat1 && x.2.more.isNone)
theorem heapG_get {r : Nat} {o : OV} : ∀ {gs : List (Nat × Cs)}, (heapG gs).get r = some o → ∃ c, (r, c) ∈ gs ∧ o = .cells c
  | [], h => by cases h
  | x :: gs, h => by
    unfold heapG at h
    rw [Tr.get_set] at h
    split at h
    · rename_i e
      simp only [Option.some.injEq] at h
      exact ⟨x.2, by rw [e]; simp, h.symm⟩
    · obtain ⟨c, h1, h2⟩ := heapG_get h
      exact ⟨c, by simp [h1], h2⟩
def pi0 : Pi := fun r => if r < 256 then some (r, none) else none
theorem start_sim {lm : Nat} (w : World) {gs : List (Nat × Cs)} (hb : laidB gs = true) (hw : LaidIn gs w) : @Sim ⟨w⟩ lm pi0 (start gs) w := by
  letI : Ground := ⟨w⟩
  have hin : ∀ r o, (start gs).any r = some o → ∃ c, (r, c) ∈ gs ∧ o = .cells c ∧ r < 256 ∧ c.cs.all flat1 = true ∧ c.more = none := fun r o h => by
    obtain ⟨c, h1, h2⟩ := heapG_get (gs := gs) (r := r) (o := o) (by simpa [S.any, start, banned] using h)
    have h3 := List.all_eq_true.1 hb _ h1
    simp only [Bool.and_eq_true, Option.isNone_iff_eq_none] at h3
    exact ⟨c, h1, h2, by simpa using h3.1, h3.2.1, h3.2.2⟩
  have hlow : ∀ r, ((start gs).any r).isSome = true → r < 256 := fun r h => by
    obtain ⟨o, h⟩ := Option.isSome_iff_exists.1 h
    obtain ⟨c, _, _, h1, _⟩ := hin r o h
    exact h1
  refine ⟨⟨fun r x hx => ?_, fun r hr => ?_, fun r hr => (by cases hr), Nat.le_refl _, fun r o ho => ?_, fun r r' b e e' h1 h2 h3 h4 => ?_⟩, ⟨fun r b e h0 h1 _ => absurd (hlow r h1) (by omega), .refl _ _, fun g hg => if_pos hg, Nat.le_refl _, fun r h => (by cases h)⟩⟩
  · unfold pi0 at hx
    split at hx
    · exact .inl (by assumption)
    · cases hx
  · cases h : (start gs).h.get r with
    | none => rfl
    | some o =>
      have hr : 256 ≤ r := hr
      have := hlow r (by simp [S.any, start, banned] at h ⊢; rw [h]; rfl)
      omega
  · obtain ⟨c, h1, rfl, h2, h3, h4⟩ := hin r o ho
    obtain ⟨fr, h5, h6⟩ := hw _ h1
    refine ⟨r, none, _, if_pos h2, h5, rfl, by rw [h4]; rfl, fun i hi => h6 i (by simpa using hi), c.cs, [], by simp, LR.refl fun x hx => .flat (List.all_eq_true.1 h3 x hx), fun _ => rfl⟩
  · unfold pi0 at h3 h4
    rw [if_pos (hlow r h1)] at h3
    rw [if_pos (hlow r' h2)] at h4
    simp only [Option.some.injEq, Prod.mk.injEq] at h3 h4
    omega
/-- **A call without arguments that the small machine brings to an end, ends so in the model, in every world, and leaves all that was there as it was.** -/
theorem EndsCall.top {v : Value} (w : World) {gs : List (Nat × Cs)} (hb : laidB gs = true) (hw : LaidIn gs w) (h : @EndsCall ⟨w⟩ P f [] (start gs) v s') (hv : flat v = true) : Calls P f #[] w fun e w' => e = .returned v ∧ Below w.heap.size w w' := by
  letI : Ground := ⟨w⟩
  have := h.ok s'.nx pi0 w [] (Nat.le_refl _) (start_sim w hb hw) .nil 0
  refine (callsIn_wide.1 this).mono ?_
  rintro e w' ⟨p', v'', rfl, k1, k2, k3⟩
  rw [k3.eq_of_flat hv]
  exact ⟨rfl, k2.gr.below⟩
theorem runCall_sound {v : Value} (w : World) {gs : List (Nat × Cs)} (hb : laidB gs = true) (hw : LaidIn gs w) (hE : Env P) (horc : @OrcOK ⟨w⟩ P orc) (hokp : OrcKp orc) {m : Nat} (h : runCall P orc gs m f [] = some v) (hv : flat v = true) :
    Calls P f #[] w fun e w' => e = .returned v ∧ Below w.heap.size w w' := by
  letI : Ground := ⟨w⟩
  unfold runCall at h
  simp only [bnd_some, Option.some.injEq] at h
  obtain ⟨⟨v', s'⟩, h1, rfl⟩ := h
  have hcall := callB_ok horc (fun rd => (run_ok hE horc hokp (fun _ h1 h2 => draw_ok hE h1 h2) m rd).1) (run_kp (P := P) hokp m)
  have hckp := callB_kp (P := P) hokp (run_kp (P := P) hokp m)
  exact EndsCall.top w hb hw ⟨(hckp _ _ _ _ _ h1).nx, fun lm p w args' hm hs ha => (hcall _ _ _ _ _ h1 lm p w args' hm hs ha).1 f rfl⟩ hv
end Go.Ev
