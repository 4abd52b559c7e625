/- Code. -/
import Derived.Test.YtnihclhhbegjhaaGreatDoorEvFrame
set_option linter.unusedSectionVars false
set_option linter.unusedSimpArgs false
set_option linter.unusedVariables false
namespace Go.Ev
variable [Ground]
variable {lm : Nat} {P : Program} {p p' p'' : Pi} {s s' s'' : S} {w w' w'' : World} {tm tm' : Ctx} {A A' : Act} {v v' : Value} {o : Oper} {F : Fence} {n : Nat}

def X.out : X → Exit
  | .normal => .normal
  | .exit id => .exit id
  | .ret => .ret
/-- the fence of a frame that is a round of the loop rd, or none -/
def Fits (p : Pi) (rd : Option Nat) (F : Fence) : Prop := match rd with
  | none => F = Fence.wide
  | some l => ∃ b e, p l = some (b, e) ∧ F = Fence.wide.inRound b
theorem Fits.open_ {rd : Option Nat} (h : Fits p rd F) : Open F := by
  cases rd with
  | none => exact .inl h
  | some l => obtain ⟨b, e, _, h⟩ := h; exact .inr ⟨b, h⟩
theorem Fits.mono (hl : p.le p') {rd : Option Nat} (h : Fits p rd F) : Fits p' rd F := by
  cases rd with
  | none => exact h
  | some l => obtain ⟨b, e, h1, h⟩ := h; exact ⟨b, e, hl _ _ h1, h⟩
/-- what is behind a piece of code -/
def Post (lm : Nat) (p : Pi) (s : S) (w : World) (x : X) (tm' : Ctx) (s' : S) (Q : Exit → Act → World → Prop) : Prop :=
  ∀ p' A' w', Stp p s w p' s' w' → FrS lm p' tm' s' A' w' → Q x.out A' w'
def CodeOK (P : Program) (rd : Option Nat) (rec : Code → Ctx → S → R) : Prop := ∀ c tm s x tm' s', rec c tm s = some (x, tm', s') →
  ∀ lm p A w F n Q, s'.nx ≤ lm → FrS lm p tm s A w → Fits p rd F → Post lm p s w x tm' s' Q → c.wpIn F n P Q A w
theorem Post.step {x : X} {Q : Exit → Act → World → Prop} (h : Post lm p s w x tm' s' Q) (hst : Stp p s w p'' s'' w'') : Post lm p'' s'' w'' x tm' s' Q :=
  fun p' A' w' h1 h2 => h p' A' w' (hst.trans h1) h2
section
variable {rec : Code → Ctx → S → R} {rd : Option Nat} {x : X} {Q : Exit → Act → World → Prop}
theorem stSeq_ok (hrec : CodeOK P rd rec) (hkp : RecKp rec) {a b : Code} (h : stSeq rec a b tm s = some (x, tm', s')) (hm : s'.nx ≤ lm) (hfs : FrS lm p tm s A w) (hF : Fits p rd F) (hQ : Post lm p s w x tm' s' Q) :
    (Code.seq a b).wpIn F n P Q A w := by
  unfold stSeq at h
  simp only [bnd_some] at h
  obtain ⟨⟨y, tm1, s1⟩, h1, h⟩ := h
  refine wpIn_seq ?_
  cases y with
  | normal =>
    refine hrec _ _ _ _ _ _ h1 lm p A w F n _ (Nat.le_trans (hkp _ _ _ _ _ _ h).nx hm) hfs hF (fun p' A' w' k1 k2 => ?_)
    exact hrec _ _ _ _ _ _ h lm p' A' w' F n Q hm k2 (hF.mono k1.le) (hQ.step k1)
  | exit id =>
    simp only [Option.some.injEq, Prod.mk.injEq] at h
    obtain ⟨rfl, rfl, rfl⟩ := h
    exact hrec _ _ _ _ _ _ h1 lm p A w F n _ hm hfs hF hQ
  | ret =>
    simp only [Option.some.injEq, Prod.mk.injEq] at h
    obtain ⟨rfl, rfl, rfl⟩ := h
    exact hrec _ _ _ _ _ _ h1 lm p A w F n _ hm hfs hF hQ
theorem stCond_ok (hrec : CodeOK P rd rec) {c : Operand} {a b : Code} (h : stCond rec c a b tm s = some (x, tm', s')) (hm : s'.nx ≤ lm) (hfs : FrS lm p tm s A w) (hF : Fits p rd F) (hQ : Post lm p s w x tm' s' Q) :
    (Code.cond c a b).wpIn F n P Q A w := by
  unfold stCond at h
  simp only [bnd_some] at h
  obtain ⟨g, ⟨cv, h1, h2⟩, h⟩ := h
  have h3 := ((opnd_ok hfs.sim.gr.glob hfs.tr h1).boolOf h2).2
  cases g with
  | true => exact wpIn_cond_true h3 (hrec _ _ _ _ _ _ h lm p A w F n Q hm hfs hF hQ)
  | false => exact wpIn_cond_false h3 (hrec _ _ _ _ _ _ h lm p A w F n Q hm hfs hF hQ)
theorem stBlock_ok (hrec : CodeOK P rd rec) {id : Nat} {c : Code} (h : stBlock rec id c tm s = some (x, tm', s')) (hm : s'.nx ≤ lm) (hfs : FrS lm p tm s A w) (hF : Fits p rd F) (hQ : Post lm p s w x tm' s' Q) :
    (Code.block id c).wpIn F n P Q A w := by
  unfold stBlock at h
  simp only [bnd_some] at h
  obtain ⟨⟨y, tm1, s1⟩, h1, h⟩ := h
  refine wpIn_block ?_
  cases y with
  | exit j =>
    simp only at h
    split at h
    · rename_i hb
      have hb' := Nat.eq_of_beq_eq_true hb
      simp only [Option.some.injEq, Prod.mk.injEq] at h
      obtain ⟨rfl, rfl, rfl⟩ := h
      refine hrec _ _ _ _ _ _ h1 lm p A w F n _ hm hfs hF (fun p' A' w' k1 k2 => ?_)
      show if j = id then Q .normal A' w' else Q (.exit j) A' w'
      rw [if_pos hb']
      exact hQ _ _ _ k1 k2
    · rename_i hb
      simp only [Option.some.injEq, Prod.mk.injEq] at h
      obtain ⟨rfl, rfl, rfl⟩ := h
      refine hrec _ _ _ _ _ _ h1 lm p A w F n _ hm hfs hF (fun p' A' w' k1 k2 => ?_)
      show if j = id then Q .normal A' w' else Q (.exit j) A' w'
      rw [if_neg (fun e => by rw [e] at hb; simp at hb)]
      exact hQ _ _ _ k1 k2
  | normal =>
    simp only [Option.some.injEq, Prod.mk.injEq] at h
    obtain ⟨rfl, rfl, rfl⟩ := h
    exact hrec _ _ _ _ _ _ h1 lm p A w F n _ hm hfs hF hQ
  | ret =>
    simp only [Option.some.injEq, Prod.mk.injEq] at h
    obtain ⟨rfl, rfl, rfl⟩ := h
    exact hrec _ _ _ _ _ _ h1 lm p A w F n _ hm hfs hF hQ
/-- a loop, of at most m rounds -/
def LoopOK (P : Program) (rd : Option Nat) (rec : Code → Ctx → S → R) (m : Nat) : Prop := ∀ c tm s x tm' s', rec (.loop c) tm s = some (x, tm', s') →
  ∀ lm p A w F n Q, s'.nx ≤ lm → FrS lm p tm s A w → Fits p rd F → Post lm p s w x tm' s' Q → Code.roundsIn F n P c Q m A w
theorem stLoop_ok (hrec : CodeOK P rd rec) (hkp : RecKp rec) {m : Nat} (hloop : LoopOK P rd rec m) {c : Code} (h : stLoop rec c tm s = some (x, tm', s')) (hm : s'.nx ≤ lm) (hfs : FrS lm p tm s A w) (hF : Fits p rd F) (hQ : Post lm p s w x tm' s' Q) :
    Code.roundsIn F n P c Q (m + 1) A w := by
  unfold stLoop at h
  simp only [bnd_some] at h
  obtain ⟨⟨y, tm1, s1⟩, h1, h⟩ := h
  rw [roundsIn_succ]
  cases y with
  | normal =>
    refine hrec _ _ _ _ _ _ h1 lm p A w F n _ (Nat.le_trans (hkp _ _ _ _ _ _ h).nx hm) hfs hF (fun p' A' w' k1 k2 => ?_)
    exact hloop _ _ _ _ _ _ h lm p' A' w' F n Q hm k2 (hF.mono k1.le) (hQ.step k1)
  | exit id =>
    simp only [Option.some.injEq, Prod.mk.injEq] at h
    obtain ⟨rfl, rfl, rfl⟩ := h
    exact hrec _ _ _ _ _ _ h1 lm p A w F n _ hm hfs hF hQ
  | ret =>
    simp only [Option.some.injEq, Prod.mk.injEq] at h
    obtain ⟨rfl, rfl, rfl⟩ := h
    exact hrec _ _ _ _ _ _ h1 lm p A w F n _ hm hfs hF hQ
/-- what is asked of the regions that draw their order (EvDraw) -/
def DrawOK (P : Program) (call : CallB) : Prop := ∀ all masks m tm s tm' s', drawOK all masks m = true → drawB P call all masks m tm s = some (tm', s') →
  ∀ lm p A w F n Q id, s'.nx ≤ lm → FrS lm p tm s A w → Open F → Post lm p s w .normal tm' s' Q → (Code.region id ⟨all⟩ true).wpIn F n P Q A w
theorem stRegion_ok (hE : Env P) {call : CallB} (hcall : CallOK P call) (hckp : CallKp call) (hdraw : DrawOK P call) {id : Nat} {ops : Array Oper} {draw : Bool} (h : stRegion P call ops.toList draw tm s = some (x, tm', s'))
    (hm : s'.nx ≤ lm) (hfs : FrS lm p tm s A w) (hF : Fits p rd F) (hQ : Post lm p s w x tm' s' Q) : (Code.region id ops draw).wpIn F n P Q A w := by
  obtain ⟨ops⟩ := ops
  unfold stRegion at h
  cases draw with
  | false =>
    simp only [bnd_some, Option.some.injEq, Prod.mk.injEq] at h
    obtain ⟨⟨tm1, s1⟩, h1, rfl, rfl, rfl⟩ := h
    refine wpIn_region ?_
    have := opsB_ok (F := F) (n := n) hE hF.open_ hcall hckp (Q := Q) ops [] rfl h1 hm hfs hQ
    simpa [List.range_eq_range'] using this
  | true =>
    simp only [bnd_some, guard_some, Option.some.injEq, Prod.mk.injEq] at h
    obtain ⟨g, ⟨tm1, s1⟩, h1, rfl, rfl, rfl⟩ := h
    exact hdraw _ _ _ _ _ _ _ g h1 lm p A w F n Q id hm hfs hF.open_ hQ
end
end Go.Ev
