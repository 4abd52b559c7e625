/- An operation looks at its operands alone. -/
import Derived.Test.YtnihclhhbegjhaaGreatDoorEvFrame
set_option linter.unusedSectionVars false
set_option linter.unusedSimpArgs false
set_option linter.unusedVariables false
namespace Go.Ev
variable {P : Program} {s s' : S} {tm tm' : Ctx} {v : Value} {o : Oper}
theorem optMap_congr {α β : Type} {f g : α → Option β} : ∀ {l : List α}, (∀ x ∈ l, f x = g x) → optMap f l = optMap g l
  | [], _ => rfl
  | x :: l, h => by
    simp only [optMap]
    rw [h x (by simp), optMap_congr (l := l) fun y hy => h y (by simp [hy])]
theorem partsB_congr : ∀ {ps : List (Nat × Operand)}, (∀ x ∈ ps.map (·.2), opnd tm x = opnd tm' x) → partsB tm ps = partsB tm' ps
  | [], _ => rfl
  | (i, x) :: ps, h => by
    simp only [partsB]
    rw [h x (by simp), partsB_congr (ps := ps) fun y hy => h y (by simp at hy ⊢; exact .inr hy)]
theorem opPure_congr (hsel : ∀ cs b, o.op ≠ .select cs b) (h : ∀ x ∈ o.op.operands, opnd tm x = opnd tm' x) : opPure P tm s o = opPure P tm' s o := by
  unfold opPure
  rw [optMap_congr (f := opnd tm) (g := opnd tm') fun x hx => h x (Array.mem_toList_iff.1 hx)]
  rw [execOp_congr (ρ := fun x => (opnd tm x).getD undef) (ρ' := fun x => (opnd tm' x).getD undef) o hsel fun x hx => by rw [h x hx]]
theorem boundsB_congr {len cap : Nat} {lo hi : Option Operand} (h : ∀ x, lo = some x ∨ hi = some x → opnd tm x = opnd tm' x) : boundsB tm len cap lo hi = boundsB tm' len cap lo hi := by
  unfold boundsB
  cases lo <;> cases hi <;> simp_all
theorem opAppend_congr {ts : List TypeId} : ∀ {args : List Operand}, (∀ x ∈ args, opnd tm x = opnd tm' x) → opAppend P tm s ts args = opAppend P tm' s ts args
  | [], _ | [_], _ | _ :: _ :: _ :: _, _ => by rcases ts with _ | ⟨_, _ | ⟨_, _ | _⟩⟩ <;> rfl
  | [x, y], h => by
    rcases ts with _ | ⟨t, _ | ⟨t2, _ | _⟩⟩ <;> try rfl
    simp only [opAppend]
    rw [h x (by simp), h y (by simp)]
theorem opCopy_congr {ts : List TypeId} : ∀ {args : List Operand}, (∀ x ∈ args, opnd tm x = opnd tm' x) → opCopy P tm s ts args = opCopy P tm' s ts args
  | [], _ | [_], _ | _ :: _ :: _ :: _, _ => by rcases ts with _ | ⟨_, _ | ⟨_, _ | _⟩⟩ <;> rfl
  | [x, y], h => by
    rcases ts with _ | ⟨t, _ | ⟨t2, _ | _⟩⟩ <;> try rfl
    simp only [opCopy]
    rw [h x (by simp), h y (by simp)]
theorem opLen_congr {ts : List TypeId} (hp : opPure P tm s o = opPure P tm' s o) : ∀ {args : List Operand}, (∀ x ∈ args, opnd tm x = opnd tm' x) → opLen P tm s o ts args = opLen P tm' s o ts args
  | [], _ | _ :: _ :: _, _ => by rcases ts with _ | ⟨_, _ | _⟩ <;> rfl
  | [x], h => by
    rcases ts with _ | ⟨t, _ | _⟩ <;> try rfl
    simp only [opLen]
    rw [h x (by simp), hp]
theorem opCap_congr {ts : List TypeId} : ∀ {args : List Operand}, (∀ x ∈ args, opnd tm x = opnd tm' x) → opCap P tm s ts args = opCap P tm' s ts args
  | [], _ | _ :: _ :: _, _ => by rcases ts with _ | ⟨_, _ | _⟩ <;> rfl
  | [x], h => by
    rcases ts with _ | ⟨t, _ | _⟩ <;> try rfl
    simp only [opCap]
    rw [h x (by simp)]
theorem opSliceData_congr : ∀ {args : List Operand}, (∀ x ∈ args, opnd tm x = opnd tm' x) → opSliceData tm s args = opSliceData tm' s args
  | [], _ | _ :: _ :: _, _ => rfl
  | [x], h => by
    simp only [opSliceData]
    rw [h x (by simp)]
theorem opUnsafeStr_congr {ts : List TypeId} : ∀ {args : List Operand}, (∀ x ∈ args, opnd tm x = opnd tm' x) → opUnsafeStr P tm s ts args = opUnsafeStr P tm' s ts args
  | [], _ | [_], _ | _ :: _ :: _ :: _, _ => by rcases ts with _ | ⟨_, _ | ⟨_, _ | _⟩⟩ <;> rfl
  | [x, y], h => by
    rcases ts with _ | ⟨t, _ | ⟨t2, _ | _⟩⟩ <;> try rfl
    simp only [opUnsafeStr]
    rw [h x (by simp), h y (by simp)]
theorem opB_congr {call : CallB} (h : ∀ x ∈ o.op.operands, opnd tm x = opnd tm' x) : opB P call tm s o = opB P call tm' s o := by
  have hpure := fun hsel => opPure_congr (P := P) (s := s) (o := o) hsel h
  obtain ⟨dst, op, type, pos, after, guard⟩ := o
  cases op
  case move x => simp [opB, opMove, h x (by simp [Op.operands])]
  case assign x => simp [opB, opMove, h x (by simp [Op.operands])]
  case pick c a b => simp [opB, opPick, opMove, h c (by simp [Op.operands]), h a (by simp [Op.operands]), h b (by simp [Op.operands])]
  case alloc => rfl
  case binOp b t x y u =>
    simp only [opB]
    delta opBin
    rw [h x (by simp [Op.operands]), h y (by simp [Op.operands]), hpure (by intros; simp)]
  case box t x => simp [opB, opBox, h x (by simp [Op.operands])]
  case load t x => simp [opB, opLoad, h x (by simp [Op.operands])]
  case store t a x => simp [opB, opStore, h a (by simp [Op.operands]), h x (by simp [Op.operands])]
  case nilCheck x => simp [opB, opNilCheck, h x (by simp [Op.operands])]
  case fieldAddr t x f => simp [opB, opFieldAddr, h x (by simp [Op.operands])]
  case field t x f => simp [opB, opField, h x (by simp [Op.operands])]
  case indexAddr t x i => simp [opB, opIndexAddr, h x (by simp [Op.operands]), h i (by simp [Op.operands])]
  case index t x i => simp [opB, opIndex, opIndexAgg, h x (by simp [Op.operands]), h i (by simp [Op.operands]), hpure (by intros; simp)]
  case extract t i => simp [opB, opExtract, h t (by simp [Op.operands])]
  case makeFunc fn first caps =>
    have hc : optMap (opnd tm) caps.toList = optMap (opnd tm') caps.toList := optMap_congr fun x hx => h x (by simp [Op.operands]; exact .inr (Array.mem_toList_iff.1 hx))
    have hc0 : optMap (opnd tm) first.toList = optMap (opnd tm') first.toList := optMap_congr fun x hx => h x (by simp [Op.operands]; exact .inl (Array.mem_toList_iff.1 hx))
    cases fn <;> first | exact hpure (by intros; simp) | (simp only [opB, opMakeFunc]; rw [hc, hc0])
  case slice t x lo hi mx =>
    have hx := h x (by simp [Op.operands])
    have hb : ∀ len cap, boundsB tm len cap lo hi = boundsB tm' len cap lo hi := fun len cap => boundsB_congr fun y hy => h y (by simp [Op.operands]; rcases hy with rfl | rfl <;> simp)
    cases mx with
    | none => simp [opB, opSlice, opSliceSlice, opSliceArray, hx, hb, hpure (by intros; simp)]
    | some m => cases hi with
      | none => exact hpure (by intros; simp)
      | some hi => simp [opB, opSlice3, hx, hb, h m (by simp [Op.operands])]
  case makeSlice t l c => simp [opB, opMakeSlice, h l (by simp [Op.operands]), h c (by simp [Op.operands])]
  case buildSlice t n ps => simp only [opB, opBuildSlice]; rw [partsB_congr fun x hx => h x (by simpa [Op.operands] using hx)]
  case build t ps => simp only [opB, opBuild, opBuildStruct, opBuildArray]; rw [partsB_congr fun x hx => h x (by simpa [Op.operands] using hx)]
  case range t x => simp [opB, opRange, h x (by simp [Op.operands])]
  case next x b => cases b <;> first | exact hpure (by intros; simp) | simp [opB, opNext, h x (by simp [Op.operands])]
  case makeMap t r =>
    cases r with
    | none => rfl
    | some x => simp [opB, opMakeMap, h x (by simp [Op.operands])]
  case insert t m k x => simp [opB, opMapUpdate, h m (by simp [Op.operands]), h k (by simp [Op.operands]), h x (by simp [Op.operands])]
  case mapUpdate t m k x => simp [opB, opMapUpdate, h m (by simp [Op.operands]), h k (by simp [Op.operands]), h x (by simp [Op.operands])]
  case lookup t m k ok => simp [opB, opLookup, h m (by simp [Op.operands]), h k (by simp [Op.operands])]
  case convert src dst x => simp only [opB, opConvert, opBytesStr, opToUnsafe, opFromUnsafe]; rw [h x (by simp [Op.operands]), hpure (by intros; simp)]
  case call c =>
    obtain ⟨callee, args, ts⟩ := c
    obtain ⟨args⟩ := args
    have hargs : ∀ x ∈ args, opnd tm x = opnd tm' x := fun x hx => h x (by simp [Op.operands, Call.operands, hx])
    cases callee with
    | invoke r m => exact hpure (by intros; simp)
    | value f =>
      have hf := h f (by simp [Op.operands, Call.operands])
      simp only [opB, opCall, opExtern]
      rw [hf, optMap_congr hargs, hpure (by intros; simp)]
    | builtin b =>
      cases b <;> first
        | exact hpure (by intros; simp)
        | exact opAppend_congr hargs
        | exact opCopy_congr hargs
        | exact opCap_congr hargs
        | exact opSliceData_congr hargs
        | exact opUnsafeStr_congr hargs
        | exact opLen_congr (hpure (by intros; simp)) hargs
  case defer => rfl
  case select => rfl
  all_goals exact hpure (by intros; simp)
end Go.Ev
