/- Runs in pieces: a function's body, and its parts by the way to them. -/
import Derived.Test.YtnihclhhbegjhaaGreatDoorEvCut
set_option linter.unusedSectionVars false
set_option linter.unusedSimpArgs false
set_option linter.unusedVariables false
namespace Go.Ev
open Go.RowKit
variable [Ground]
variable {P : Program} {orc : Orc} {rd : Option Nat} {c : Code} {tm tm1 tm2 tm' : Ctx} {s s1 s2 s' : S} {x : X} {v : Value} {f : FuncId}
def sA : Code → Code
  | .seq a _ => a
  | c => c
def sB : Code → Code
  | .seq _ b => b
  | c => c
def isSeq : Code → Bool
  | .seq _ _ => true
  | _ => false
def cA : Code → Code
  | .cond _ a _ => a
  | c => c
def cB : Code → Code
  | .cond _ _ b => b
  | c => c
noncomputable def condB (tm : Ctx) : Code → Option Bool
  | .cond o _ _ => (opnd tm o).bnd boolOf
  | _ => none
def inn : Code → Code
  | .scope c => c
  | .block _ c => c
  | c => c
def isScope : Code → Bool
  | .scope _ => true
  | _ => false
def isBlock : Code → Option Nat
  | .block id _ => some id
  | _ => none
def bts (l : List Nat) : ByteArray := ⟨⟨l.map UInt8.ofNat⟩⟩
def fnOf (P : Program) (f : FuncId) : Func := (P.funcs[f]?).getD default
def bodyOf (P : Program) (f : FuncId) : Code := (fnOf P f).body.getD .skip
def hasBody (P : Program) (f : FuncId) : Bool := match P.funcs[f]? with
  | some fn => fn.body.isSome
  | none => false
theorem Ends.seqP (hc : isSeq c = true) (h1 : Ends P rd (sA c) tm s .normal tm1 s1) (h2 : Ends P rd (sB c) tm1 s1 x tm2 s2) : Ends P rd c tm s x tm2 s2 := by
  cases c <;> first | exact h1.seq h2 | cases hc
theorem Ends.seqOut (hc : isSeq c = true) (h1 : Ends P rd (sA c) tm s .ret tm1 s1) : Ends P rd c tm s .ret tm1 s1 := by
  cases c <;> first | exact h1.seq_out (by simp [X.out]) | cases hc
theorem Ends.seqExit {id : Nat} (hc : isSeq c = true) (h1 : Ends P rd (sA c) tm s (.exit id) tm1 s1) : Ends P rd c tm s (.exit id) tm1 s1 := by
  cases c <;> first | exact h1.seq_out (by simp [X.out]) | cases hc
theorem Ends.condT (hc : condB tm c = some true) (h : Ends P rd (cA c) tm s x tm1 s1) : Ends P rd c tm s x tm1 s1 := by
  cases c <;> first | exact .cond hc h | cases hc
theorem Ends.condF (hc : condB tm c = some false) (h : Ends P rd (cB c) tm s x tm1 s1) : Ends P rd c tm s x tm1 s1 := by
  cases c <;> first | exact .cond hc h | cases hc
theorem Ends.scopeP (hc : isScope c = true) (h : Ends P rd (inn c) tm s x tm1 s1) : Ends P rd c tm s x tm1 s1 := by
  cases c <;> first | exact .scope h | cases hc
theorem Ends.blockN {id : Nat} (hc : isBlock c = some id) (h : Ends P rd (inn c) tm s .normal tm1 s1) : Ends P rd c tm s .normal tm1 s1 := by
  cases c <;> first | exact .block h (by simp) | cases hc
theorem Ends.blockR {id : Nat} (hc : isBlock c = some id) (h : Ends P rd (inn c) tm s .ret tm1 s1) : Ends P rd c tm s .ret tm1 s1 := by
  cases c <;> first | exact .block h (by simp) | cases hc
theorem Ends.blockX {id : Nat} (hc : isBlock c = some id) (h : Ends P rd (inn c) tm s (.exit id) tm1 s1) : Ends P rd c tm s .normal tm1 s1 := by
  cases c with
  | block j c =>
    simp only [isBlock, Option.some.injEq] at hc
    subst hc
    exact .block_exit h
  | _ => cases hc
/-- a call without arguments, its body run in pieces -/
theorem Ends.top (w : World) {gs : List (Nat × Cs)} (hg : laidB gs = true) (hw : LaidIn gs w) (hb : hasBody P f = true) (h : @Ends ⟨w⟩ P none (bodyOf P f) ⟨.leaf, (fnOf P f).ntmps, []⟩ (start gs) x tm1 s1) (hl : (leaveB P (fnOf P f) (x, tm1, s1)).bnd (fun r => some r.1) = some v) (hv : flat v = true) :
    Calls P f #[] w fun e w' => e = .returned v ∧ Below w.heap.size w w' := by
  letI : Ground := ⟨w⟩
  unfold hasBody at hb
  unfold bodyOf fnOf at h
  unfold fnOf at hl
  cases hf : P.funcs[f]? with
  | none => rw [hf] at hb; cases hb
  | some fn =>
    rw [hf] at hb h hl
    simp only [Option.getD_some] at h hl
    cases hbd : fn.body with
    | none =>
      have hb : fn.body.isSome = true := hb
      rw [hbd] at hb
      cases hb
    | some c =>
      rw [hbd] at h
      simp only [Option.getD_some] at h
      simp only [bnd_some, Option.some.injEq] at hl
      obtain ⟨⟨v', s'⟩, hl, rfl⟩ := hl
      have hn : s1.nx ≤ s'.nx := by
        unfold leaveB at hl
        split at hl
        · cases hl
        · simp only [bnd_some, Option.some.injEq, Prod.mk.injEq] at hl
          obtain ⟨s3, h3, _, _, _, rfl⟩ := hl
          exact (marksB_kp h3).nx
      exact EndsCall.top w hg hw (Ends.call (args := []) hf hbd (by simp) h hl (Nat.le_trans h.nx hn)) hv
end Go.Ev
