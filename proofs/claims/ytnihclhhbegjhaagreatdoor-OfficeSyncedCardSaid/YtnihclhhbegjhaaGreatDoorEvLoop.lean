/- Loops over functions; all of the small machine. -/
import Derived.Test.YtnihclhhbegjhaaGreatDoorEvCall
import Derived.Below
import Derived.Scope
set_option linter.unusedSectionVars false
set_option linter.unusedSimpArgs false
set_option linter.unusedVariables false
namespace Go.Ev
open Go.RowKit
variable [Ground]
variable {lm : Nat} {P : Program} {p p' p'' : Pi} {s s' s'' : S} {w w' w'' : World} {tm tm' : Ctx} {A A' : Act} {v v' : Value} {o : Oper} {F : Fence} {n : Nat}

/-- a loop's record as it lies in the model's memory -/
theorem Sim.loop (hs : Sim lm p s w) {l : Nat} {st : LoopState} {pd : Option Code} {t : Tr Value} {m : Nat} {ps : List Tmp} {as bd : Code} (h : s.any l = some (.loop st pd t m ps as bd)) {b : Nat} {e : Ex} (hp : p l = some (b, e)) :
    ∃ r : Loop, w.heap[b]? = some (.loop r) ∧ r.state = st ∧ r.pending = pd ∧ r.params.toList = ps ∧ r.assign = as ∧ r.body = bd ∧ r.tmps.size = m ∧ TR p t r.tmps := by
  obtain ⟨b', e', o', h1, h2, h3⟩ := hs.obj _ _ h
  rw [hp] at h1
  simp only [Option.some.injEq, Prod.mk.injEq] at h1
  obtain ⟨rfl, rfl⟩ := h1
  cases o' <;> simp only [OC] at h3
  exact ⟨_, h2, h3⟩
/-- a loop's record that changes its state -/
theorem Sim.putLoop (hs : Sim lm p s w) {l : Nat} {st st' : LoopState} {pd pd' : Option Code} {t : Tr Value} {m : Nat} {ps : List Tmp} {as bd : Code} (h : s.any l = some (.loop st pd t m ps as bd)) {b : Nat} {e : Ex} (hp : p l = some (b, e))
    (hl : s.wr l = true) {r : Loop} (hr : w.heap[b]? = some (.loop r)) :
    Sim lm p (s.put l (some (.loop st' pd' t m ps as bd))) (w.putObj b (.loop { r with state := st', pending := pd' })) ∧
    Stp p s w p (s.put l (some (.loop st' pd' t m ps as bd))) (w.putObj b (.loop { r with state := st', pending := pd' })) := by
  obtain ⟨r', h1, h2, h3, h4, h5, h6, h7, h8⟩ := hs.loop h hp
  rw [hr] at h1
  simp only [Option.some.injEq, Obj.loop.injEq] at h1
  subst h1
  exact hs.put (o := .loop st' pd' t m ps as bd) h hp hl ⟨rfl, rfl, h4, h5, h6, h7, h8⟩
theorem setAll_ok : ∀ {ps : List Tmp} {vs vs' : List Value} {tm tm' : Ctx} {tmps : Array Value}, setAll ps vs tm = some tm' → LR (UR p) vs vs' → TR p tm.t tmps → tmps.size = tm.n →
    vs'.length = ps.length ∧ TR p tm'.t ((ps.zip vs').foldl (fun tmps (x : Tmp × Value) => tmps.setIfInBounds x.1 x.2) tmps) ∧ ((ps.zip vs').foldl (fun tmps (x : Tmp × Value) => tmps.setIfInBounds x.1 x.2) tmps).size = tm'.n ∧ tm'.marks = tm.marks
  | [], _, _, tm, tm', tmps, h, .nil, ht, hz => by
    simp only [setAll, Option.some.injEq] at h
    subst h
    exact ⟨rfl, ht, hz, rfl⟩
  | [], _, _, tm, tm', tmps, h, .cons _ _, ht, hz => by simp [setAll] at h
  | q :: ps, _, _, tm, tm', tmps, h, .nil, ht, hz => by simp [setAll] at h
  | q :: ps, u :: vs, u' :: vs', tm, tm', tmps, h, .cons hu hr, ht, hz => by
    simp only [setAll, bnd_some] at h
    obtain ⟨tm1, h1, h⟩ := h
    simp only [Ctx.set, guard_some, Option.some.injEq] at h1
    obtain ⟨g, rfl⟩ := h1
    have g' : q < tm.n := by simpa [Nat.blt_eq] using g
    obtain ⟨k1, k2, k3, k4⟩ := setAll_ok (tmps := tmps.setIfInBounds q u') h hr (ht.set (by rw [hz]; exact g') hu) (by simp [hz])
    exact ⟨by simp [k1], k2, k3, k4⟩
theorem yieldB_ok {rec : RecB} (hrec : ∀ rd, CodeOK P rd (rec rd)) (hkp : ∀ rd, RecKp (rec rd)) {l : Nat} {args args' : List Value} (h : yieldB rec l args s = some (v, s')) (hm : s'.nx ≤ lm) (hs : Sim lm p s w) (ha : LR (UR p) args args')
    {b : Nat} {e : Ex} (hp : p l = some (b, e)) : ∃ r : Loop, w.heap[b]? = some (.loop r) ∧ args'.length = r.params.size ∧ ∀ n, RoundIn Fence.wide n P b r.fn (laid r args') r.assign r.body w (Ret lm p s w v s') := by
  unfold yieldB at h
  simp only [bnd_some] at h
  obtain ⟨ob, h1, h⟩ := h
  cases ob <;> simp only [reduceCtorEq, bnd_some, guard_some] at h
  rename_i st pd t m ps as bd
  obtain ⟨g, tm1, h2, ⟨x, tm2, s1⟩, h3, h⟩ := h
  have g' := g
  obtain ⟨r, h4, h5, h6, h7, rfl, rfl, h10, h11⟩ := hs.loop h1 hp
  obtain ⟨k1, k2, k3, k4⟩ := setAll_ok (tmps := r.tmps) h2 ha h11 h10
  refine ⟨r, h4, by rw [k1, ← h7]; simp, fun n => roundIn_of_wpIn trivial ?_⟩
  unfold roundBody at h
  cases x with
  | exit id => cases h
  | ret => cases h
  | normal =>
    simp only [bnd_some] at h
    obtain ⟨ob2, h12, h⟩ := h
    split at h
    rotate_left
    · cases h
    rename_i pd2 t2 m2 ps2 as2 bd2
    simp only [bnd_some] at h
    obtain ⟨⟨y, tm3, s2⟩, h13, h⟩ := h
    have hk1 := hkp _ _ _ _ _ _ _ h3
    have hk2 := hkp _ _ _ _ _ _ _ h13
    -- the round's end
    unfold roundEnd at h
    simp only [bnd_some] at h
    obtain ⟨ob3, h14, h⟩ := h
    split at h
    rotate_left
    · cases h
    rename_i st3 pd3 t3 m3 ps3 as3 bd3
    have hlk2 := fun r => (wr_congr' hk2.lock hk2.ext r).trans (wr_congr' hk1.lock hk1.ext r)
    have hnx : s2.nx ≤ lm := by
      split at h <;> simp only [Option.some.injEq, Prod.mk.injEq] at h <;> obtain ⟨_, rfl⟩ := h <;> exact hm
    have hnx1 : s1.nx ≤ lm := Nat.le_trans hk2.nx hnx
    have hzip : laid r args' = (ps.zip args').foldl (fun tmps (x : Tmp × Value) => tmps.setIfInBounds x.1 x.2) r.tmps := by
      unfold laid
      rw [← h7, ← Array.foldl_toList]
      simp
    refine hrec _ _ _ _ _ _ _ h3 lm p _ w _ n _ hnx1 ⟨hs, by rw [hzip]; exact k2, by rw [hzip]; exact k3, by rw [k4]; exact .nil⟩ ⟨b, e, hp, rfl⟩ (fun p1 A1 w1 q1 q2 => ?_)
    show ∃ w₂, (Instr.beginRound b).run P w1 = .ok () w₂ ∧ _
    have hp1 := q1.le _ _ hp
    obtain ⟨r1, i1, i2, _⟩ := q2.sim.loop h12 hp1
    obtain ⟨j1, j2⟩ := q2.sim.putLoop (st' := .busy) (pd' := pd2) h12 hp1 (by rw [wr_congr q1.lock q1.ext]; exact g') i1
    have hbegin := run_beginRound (P := P) i1 i2
    have hsame : ({ r1 with state := .busy } : Loop) = { r1 with state := .busy, pending := pd2 } := by
      obtain ⟨r1', i1', _, i3', _⟩ := q2.sim.loop h12 hp1
      rw [i1] at i1'
      simp only [Option.some.injEq, Obj.loop.injEq] at i1'
      subst i1'
      rw [← i3']
    rw [hsame] at hbegin
    refine ⟨_, hbegin, ?_⟩
    refine hrec _ _ _ _ _ _ _ h13 lm p1 A1 _ _ n _ hnx ⟨j1, q2.tr, q2.size, q2.marks⟩ ⟨b, e, hp1, rfl⟩ (fun p2 A2 w2 u1 u2 => ?_)
    have hp2 := u1.le _ _ hp1
    obtain ⟨r2, i4, _⟩ := u2.sim.loop h14 hp2
    have fin : ∀ (st' : LoopState) (jump : Option Code) (vb : Bool), some (Value.bool vb, s2.put l (some (.loop st' jump t3 m3 ps3 as3 bd3))) = some (v, s') → (if jump.isNone then LoopState.ready else LoopState.done) = st' → vb = jump.isNone →
        ∃ vv ww, (Instr.endRound b jump).run P w2 = .ok vv ww ∧ Ret lm p s w v s' (.returned vv) ww := by
      intro st' jump vb hh hst hvb
      simp only [Option.some.injEq, Prod.mk.injEq] at hh
      obtain ⟨rfl, rfl⟩ := hh
      obtain ⟨f1, f2⟩ := u2.sim.putLoop (st' := st') (pd' := jump) h14 hp2 (by rw [hlk2]; exact g') i4
      refine ⟨_, _, run_endRound jump i4, p2, _, rfl, ?_, ?_, ?_⟩
      · rw [hst]; exact q1.trans (j2.trans (u1.trans f2))
      · rw [hst]; exact f1
      · rw [← hvb]; exact flat_ur rfl
    cases y with
    | normal => exact fin _ none _ h rfl rfl
    | ret => exact fin _ (some .ret) _ h rfl rfl
    | exit id => exact fin _ (some (.exit id)) _ h rfl rfl

/-- 'for .. := range f { .. }' -/
theorem stRange_ok (hE : Env P) {call : CallB} (hcall : CallOK P call) (hckp : CallKp call) {rd : Option Nat} {rec : Code → Ctx → S → R} (hrec : CodeOK P rd rec) (hkp : RecKp rec) {f : Operand} {ps : Array Tmp} {assign body : Code} {x : X}
    {Q : Exit → Act → World → Prop} (h : stRange P call rec rd f ps.toList assign body tm s = some (x, tm', s')) (hm : s'.nx ≤ lm) (hfs : FrS lm p tm s A w) (hF : Fits p rd F) (hQ : Post lm p s w x tm' s' Q) :
    (Code.rangeFunc f ps assign body).wpIn F n P Q A w := by
  unfold stRange at h
  simp only [bnd_some, guard_some] at h
  obtain ⟨⟨g, firs, caps⟩, ⟨fv, h1, h2⟩, c, ⟨fn, h3, h4⟩, ⟨tm1, s1⟩, h5, ⟨u, s3⟩, h6, h7, h⟩ := h
  simp only at h3 h6 h7 h
  have h7' := h7
  obtain ⟨_, firs', caps', h8, h9', h9⟩ := (opnd_ok hfs.sim.gr.glob hfs.tr h1).cloOf h2
  have hk3 := hckp _ _ _ _ _ h6
  have hk4 := stEnd_kp hkp h7' h
  have hnx3 : s3.nx ≤ lm := Nat.le_trans hk4.nx hm
  have hnx2 : s1.nx < lm := Nat.lt_of_lt_of_le (Nat.lt_succ_self _) (Nat.le_trans hk3.nx hnx3)
  refine wpIn_rangeFunc fun fnid _ => ?_
  -- behind enterLoop
  obtain ⟨b, mark, w1, p1, hrun, hst1, hsim1, hpl, hmk1, hmk2, hmk3⟩ : ∃ (b : Nat) (mark : List Deferred) (w1 : World) (p1 : Pi), (Instr.enterLoop fnid A.tmps ps assign body F.round).run P w = .ok (b, mark) w1 ∧
      Stp p s w p1 (s1.add (.loop .ready none tm.t tm.n ps.toList assign body)) w1 ∧ Sim lm p1 (s1.add (.loop .ready none tm.t tm.n ps.toList assign body)) w1 ∧ p1 s1.nx = some (b, none) ∧
      tm1.t = tm.t ∧ tm1.n = tm.n ∧ LR (Mark p1) tm1.marks (mark ++ A.defers) := by
    unfold stMark at h5
    cases rd with
    | none =>
      have hF' : F = Fence.wide := hF
      subst hF'
      simp only [Option.some.injEq, Prod.mk.injEq] at h5
      obtain ⟨rfl, rfl⟩ := h5
      have hnx1 : s.nx < lm := Nat.lt_of_succ_lt hnx2
      obtain ⟨a1, a2⟩ := hfs.sim.alloc hnx1 (o := .mark) (o' := .deferred (some [])) (e := none) trivial
      have hle1 := hfs.sim.le_ext hnx1 (w.heap.size, none)
      have hle2 := a1.le_ext hnx2 ((w.alloc (.deferred (some []))).heap.size, none)
      obtain ⟨b1, b2⟩ := a1.alloc hnx2 (o := .loop .ready none tm.t tm.n ps.toList assign body)
        (o' := .loop { state := .ready, pending := none, fn := fnid, tmps := A.tmps, params := ps, assign, body, defers := w.heap.size }) (e := none)
        ⟨rfl, rfl, rfl, rfl, rfl, hfs.size, hfs.tr.mono (Pi.le_trans hle1 hle2)⟩
      refine ⟨_, _, _, _, run_enterLoop_outer fnid A.tmps ps assign body, a2.trans b2, b1, ?_, rfl, rfl, ?_⟩
      · rw [Pi.ext_self, World.size_alloc]
      · refine .cons ⟨w.heap.size, none, hle2 _ _ (Pi.ext_self _ _ _), rfl⟩ (hfs.marks.mono fun _ _ => Mark.mono (Pi.le_trans hle1 hle2))
    | some l0 =>
      obtain ⟨b0, e0, hp0, rfl⟩ := hF
      simp only [bnd_some, guard_some, Option.some.injEq, Prod.mk.injEq] at h5
      obtain ⟨ob, h10, h11, rfl, rfl⟩ := h5
      cases ob <;> simp [isLoop] at h11
      obtain ⟨r0, h12, _⟩ := hfs.sim.loop h10 hp0
      have hle2 := hfs.sim.le_ext hnx2 (w.heap.size, none)
      obtain ⟨b1, b2⟩ := hfs.sim.alloc hnx2 (o := .loop .ready none tm.t tm.n ps.toList assign body)
        (o' := .loop { state := .ready, pending := none, fn := fnid, tmps := A.tmps, params := ps, assign, body, defers := r0.defers }) (e := none)
        ⟨rfl, rfl, rfl, rfl, rfl, hfs.size, hfs.tr.mono hle2⟩
      exact ⟨_, _, _, _, run_enterLoop_inner h12 fnid A.tmps ps assign body, b2, b1, Pi.ext_self _ _ _, rfl, rfl, hfs.marks.mono fun _ _ => Mark.mono hle2⟩
  have hinv := callFunc_run hE h3 (by rw [h4]; rfl) (⟨firs' ++ [.func (.yield b) #[] #[]]⟩ ++ ⟨caps'⟩) w1
  have hargs : LR (UR p1) (firs ++ .func (.yield s1.nx) #[] #[] :: caps) (firs' ++ .func (.yield b) #[] #[] :: caps') :=
    (h9'.mono fun _ _ => BR.mono hst1.le).brur.append (.cons (CR.ur (.yield hpl)) ((h9.mono fun _ _ => PR.mono hst1.le).prur))
  have hok := (hcall _ _ _ _ _ h6 lm p1 w1 _ hnx3 hsim1 hargs).1 g rfl
  refine ⟨b, mark, w1, { target := .fn (.func g) ⟨caps'⟩, args := ⟨firs' ++ [.func (.yield b) #[] #[]]⟩ }, w1, g, ⟨firs' ++ [.func (.yield b) #[] #[]]⟩ ++ ⟨caps'⟩, w1, hrun, ?_, fun f' _ => hF.open_.fn f', ?_, fun hh => (by rw [hF.open_.depth] at hh; cases hh), ?_⟩
  · have hc : A.eval (.const (.func (.yield b) #[] #[])) = .func (.yield b) #[] #[] := rfl
    simp [resolve, rangeCall, h8, hc, Deferred.ofValue]
  · simpa [invoke] using hinv
  · have hcalls : CallsIn F (n - 1) P g (⟨firs' ++ [.func (.yield b) #[] #[]]⟩ ++ ⟨caps'⟩) w1 (Ret lm p1 (s1.add (.loop .ready none tm.t tm.n ps.toList assign body)) w1 u s3) := by
      have e : (⟨firs' ++ [.func (.yield b) #[] #[]]⟩ ++ ⟨caps'⟩ : Array Value) = ⟨firs' ++ .func (.yield b) #[] #[] :: caps'⟩ := by simp
      rw [e]
      rcases hF.open_ with rfl | ⟨b', rfl⟩
      · exact hok _
      · exact (hok _).inRound b'
    refine hcalls.mono ?_
    rintro e w3 ⟨p3, v3, rfl, q1, q2, _⟩
    show ∃ jump w₄, (Instr.endLoop b).run P w3 = .ok jump w₄ ∧ _
    have hp3 := q1.le _ _ hpl
    unfold stEnd at h
    simp only [bnd_some] at h
    obtain ⟨ob, h13, h⟩ := h
    split at h
    rotate_left
    · cases h
    rename_i st jump t' m' ps' as' bd'
    obtain ⟨r3, i1, i2, i3, _⟩ := q2.loop h13 hp3
    have hlk : s3.wr s1.nx = true := h7'
    have hbusy : r3.state ≠ .busy := by
      rw [i2]
      rintro rfl
      simp at h
    have hend := run_endLoop (P := P) i1 hbusy
    obtain ⟨j1, j2⟩ := q2.putLoop (st' := .exhausted) (pd' := jump) h13 hp3 hlk i1
    have hsame : ({ r3 with state := .exhausted } : Loop) = { r3 with state := .exhausted, pending := jump } := by rw [← i3]
    rw [hsame] at hend
    refine ⟨_, _, hend, ?_⟩
    have hstep := hst1.trans (q1.trans j2)
    have hfs4 : FrS lm p3 tm1 (s3.put s1.nx (some (.loop .exhausted jump t' m' ps' as' bd'))) { A with defers := mark ++ A.defers } (w3.putObj b (.loop { r3 with state := .exhausted, pending := jump })) :=
      ⟨j1, by rw [hmk1]; exact hfs.tr.mono hstep.le, by rw [hmk2]; exact hfs.size, hmk3.mono fun _ _ => Mark.mono q1.le⟩
    rw [i3]
    cases jump with
    | none =>
      have hj : some (X.normal, tm1, s3.put s1.nx (some (.loop .exhausted none t' m' ps' as' bd'))) = some (x, tm', s') := by
        cases st <;> first | (exact absurd i2 hbusy) | exact h
      simp only [Option.some.injEq, Prod.mk.injEq] at hj
      obtain ⟨rfl, rfl, rfl⟩ := hj
      exact hQ _ _ _ hstep hfs4
    | some j =>
      have hj : rec j tm1 (s3.put s1.nx (some (.loop .exhausted (some j) t' m' ps' as' bd'))) = some (x, tm', s') := by
        cases st <;> first | (exact absurd i2 hbusy) | exact h
      exact hrec _ _ _ _ _ _ hj lm p3 _ _ F n Q hm hfs4 (hF.mono hstep.le) (hQ.step hstep)

/-! ### A scope of labels that no goto is made to -/
section
variable {b : Frame} {a : Act} {k : List Item} {cs : List Frame}
theorem stepR_scope {c : Code} : step P (lone (b.atR a (.code (.scope c) :: k)) cs w) = .next (lone (b.atR a (.code c :: .inScope c :: k)) cs w) :=
  step_lone_go (by simp [stepG, stepG.exec, Frame.atR])
theorem stepR_inScope {c : Code} : step P (lone (b.atR a (.inScope c :: k)) cs w) = .next (lone (b.atR a k) cs w) :=
  step_lone_go (by simp [stepG, stepG.exec, Frame.atR])
theorem wpIn_scope_straight {c : Code} {Q : Exit → Act → World → Prop} (h : c.wpIn F n P (Exit.noGoto Q) a w) : (Code.scope c).wpIn F n P Q a w := by
  intro b k cs hro hb hr
  have h0 : (lone (b.atR a (.code (.scope c) :: k)) cs w).fenced P F := fenced_calm hb hr rfl
  obtain ⟨e, a₁, w₁, hq, harr⟩ := h b (.inScope c :: k) cs hro hb hr
  cases e with
  | normal => exact ⟨.normal, a₁, w₁, hq, .head h0 stepR_scope (StepsIn.trans harr (.one (fenced_calm hb hr rfl) stepR_inScope))⟩
  | exit id =>
    have hx : exitTo id (.inScope c :: k) = exitTo id k := by simp [exitTo]
    exact ⟨.exit id, a₁, w₁, hq, fun k' hk => .head h0 stepR_scope (harr.1 k' (by rw [hx]; exact hk)),
      fun hr' hk => let ⟨k₁, h1, h2⟩ := harr.2 hr' (by rw [hx]; exact hk); ⟨k₁, h1, .head h0 stepR_scope h2⟩⟩
  | goto l => exact hq.elim
  | ret => exact ⟨_, a₁, w₁, hq, .of_steps (.one h0 stepR_scope) harr⟩
  | panic ch => exact ⟨_, a₁, w₁, hq, .of_steps (.one h0 stepR_scope) harr⟩
  | outgrown => exact ⟨_, a₁, w₁, hq, .of_steps (.one h0 stepR_scope) harr⟩
end
/-! ### All together -/
def OrcOK (P : Program) (orc : Orc) : Prop := ∀ f args s v s', orc f args s = some (some (v, s')) → ∀ lm p w args', s'.nx ≤ lm → Sim lm p s w → LR (UR p) args args' →
  ∀ n, CallsIn Fence.wide n P f ⟨args'⟩ w (Ret lm p s w v s')
theorem callB_ok {orc : Orc} (horc : OrcOK P orc) {rec : RecB} (hrec : ∀ rd, CodeOK P rd (rec rd)) (hkp : ∀ rd, RecKp (rec rd)) : CallOK P (callB P orc rec) := by
  intro f args s v s' h lm p w args' hm hs ha
  constructor
  · rintro g rfl n
    unfold callB at h
    simp only at h
    split at h
    · rename_i r hr
      subst h
      exact horc _ _ _ _ _ hr lm p w args' hm hs ha n
    · simp only [bnd_some] at h
      obtain ⟨fn, h1, h⟩ := h
      exact enterB_ok (hrec none) h1 h hm hs ha n
  · rintro l rfl b e hp
    exact yieldB_ok hrec hkp h hm hs ha hp
theorem run_ok (hE : Env P) {orc : Orc} (horc : OrcOK P orc) (hokp : OrcKp orc) (hdraw : ∀ call, CallOK P call → CallKp call → DrawOK P call) :
    ∀ n rd, CodeOK P rd (run P orc n rd) ∧ LoopOK P rd (run P orc n rd) n
  | 0, rd => ⟨fun c tm s x tm' s' h => by simp [run] at h, fun c tm s x tm' s' h => by simp [run] at h⟩
  | m + 1, rd => by
    have ih := run_ok hE horc hokp hdraw m
    have hrec := fun rd => (ih rd).1
    have hkp := run_kp (P := P) hokp m
    have hcall := callB_ok horc hrec hkp
    have hckp := callB_kp (P := P) hokp hkp
    have hd := hdraw _ hcall hckp
    have hloop : LoopOK P rd (run P orc (m + 1) rd) (m + 1) := by
      intro c tm s x tm' s' h lm p A w F n Q hm hfs hF hQ
      exact stLoop_ok (hrec rd) (hkp rd) (ih rd).2 h hm hfs hF hQ
    refine ⟨?_, hloop⟩
    intro c tm s x tm' s' h lm p A w F n Q hm hfs hF hQ
    have h0 := h
    simp only [run] at h
    unfold stepB at h
    split at h
    · simp only [Option.some.injEq, Prod.mk.injEq] at h; obtain ⟨rfl, rfl, rfl⟩ := h; exact wpIn_skip (hQ _ _ _ (.refl _ _ _) hfs)
    · simp only [Option.some.injEq, Prod.mk.injEq] at h; obtain ⟨rfl, rfl, rfl⟩ := h; exact wpIn_label (hQ _ _ _ (.refl _ _ _) hfs)
    · exact stRegion_ok hE hcall hckp hd h hm hfs hF hQ
    · exact stSeq_ok (hrec rd) (hkp rd) h hm hfs hF hQ
    · exact stCond_ok (hrec rd) h hm hfs hF hQ
    · exact stBlock_ok (hrec rd) h hm hfs hF hQ
    · exact wpIn_loop_rounds (m + 1) (hloop _ _ _ _ _ _ h0 lm p A w F n Q hm hfs hF hQ)
    · exact wpIn_scope_straight (hrec rd _ _ _ _ _ _ h lm p A w F n _ hm hfs hF (fun p' A' w' k1 k2 => by cases x <;> exact hQ _ _ _ k1 k2))
    · simp only [Option.some.injEq, Prod.mk.injEq] at h; obtain ⟨rfl, rfl, rfl⟩ := h; exact wpIn_exit (hQ _ _ _ (.refl _ _ _) hfs)
    · simp only [Option.some.injEq, Prod.mk.injEq] at h; obtain ⟨rfl, rfl, rfl⟩ := h; exact wpIn_ret (hQ _ _ _ (.refl _ _ _) hfs)
    · exact stRange_ok hE hcall hckp (hrec rd) (hkp rd) h hm hfs hF hQ
    · cases h
    · cases h
end Go.Ev
