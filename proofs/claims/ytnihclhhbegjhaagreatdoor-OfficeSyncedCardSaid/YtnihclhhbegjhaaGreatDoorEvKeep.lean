/- What the small machine keeps. -/
import Derived.Test.YtnihclhhbegjhaaGreatDoorEvSim
set_option linter.unusedSectionVars false
set_option linter.unusedSimpArgs false
set_option linter.unusedVariables false
namespace Go.Ev
theorem wr_congr' {s s' : S} (h : s'.lock = s.lock) (k : s'.ext = s.ext) (r : Nat) : s'.wr r = s.wr r := by
  unfold S.wr
  rw [h, k]
structure Kp (s s' : S) : Prop where
  nx : s.nx ≤ s'.nx
  lock : s'.lock = s.lock
  ext : s'.ext = s.ext
  ban : s'.ban = s.ban
  low : ∀ r, r < s.nx → (s.wr r = false ∨ banned s.ban r = true) → s'.h.get r = s.h.get r
  dom : (∀ r, s.nx ≤ r → s.h.get r = none) → ∀ r, s'.nx ≤ r → s'.h.get r = none
variable {P : Program} {s s' s'' : S} {tm : Ctx} {v : Value} {o : Oper}
theorem Kp.refl (s : S) : Kp s s := ⟨Nat.le_refl _, rfl, rfl, rfl, fun _ _ _ => rfl, fun h => h⟩
theorem Kp.trans (h : Kp s s') (k : Kp s' s'') : Kp s s'' :=
  ⟨Nat.le_trans h.nx k.nx, k.lock.trans h.lock, k.ext.trans h.ext, k.ban.trans h.ban, fun r h1 h2 => (k.low r (Nat.lt_of_lt_of_le h1 h.nx) (by rw [wr_congr' h.lock h.ext, h.ban]; exact h2)).trans (h.low r h1 h2), fun hd => k.dom (h.dom hd)⟩
theorem Kp.add (s : S) (o : OV) : Kp s (s.add o) := by
  refine ⟨Nat.le_succ _, rfl, rfl, rfl, fun r h1 _ => ?_, fun hd r hr => ?_⟩
  · simp only [S.add, Tr.get_set]
    rw [if_neg (by omega)]
  · have hr' : s.nx + 1 ≤ r := hr
    simp only [S.add, Tr.get_set]
    rw [if_neg (by omega)]
    exact hd r (by omega)
theorem any_get {r : Nat} {o : OV} (h : s.any r = some o) : s.h.get r = some o ∧ banned s.ban r = false := by
  unfold S.any at h
  cases hb : banned s.ban r
  · rw [hb] at h; exact ⟨h, rfl⟩
  · rw [hb] at h; cases h
theorem Kp.put {r : Nat} {o : OV} (h : s.any r = some o) (hl : s.wr r = true) (o' : Option OV) : Kp s (s.put r o') := by
  obtain ⟨h1, h2⟩ := any_get h
  refine ⟨Nat.le_refl _, rfl, rfl, rfl, fun k h3 h4 => ?_, fun hd k hk => ?_⟩
  · simp only [S.put, Tr.get_set]
    rw [if_neg]
    rintro rfl
    rcases h4 with h4 | h4
    · rw [hl] at h4; cases h4
    · rw [h2] at h4; cases h4
  · have hk' : s.nx ≤ k := hk
    simp only [S.put, Tr.get_set]
    rw [if_neg]
    · exact hd k hk'
    · rintro rfl
      rw [hd k hk'] at h1
      cases h1
theorem obj_any' {r : Nat} {c : Cs} (h : s.obj r = some c) : s.any r = some (.cells c) := by
  unfold S.obj at h
  simp only [bnd_some] at h
  obtain ⟨o, ho, h⟩ := h
  cases o <;> simp [csOf] at h
  subst h
  exact ho
theorem writeB_kp {b o : Nat} {vs : List Value} (h : writeB s b o vs = some s') : Kp s s' := by
  unfold writeB at h
  simp only [bnd_some, guard_some, Option.some.injEq] at h
  obtain ⟨g, c, h1, cs, _, rfl⟩ := h
  exact .put (obj_any' h1) g _
theorem storeB_kp {t : TypeId} {b o : Nat} (h : storeB P s t b o v = some s') : Kp s s' := by
  unfold storeB at h
  simp only [bnd_some, guard_some] at h
  obtain ⟨_, _, _, _, h⟩ := h
  exact writeB_kp h
theorem extendB_kp {size b o : Nat} {vs : List Value} (h : extendB s size b o vs = some s') : Kp s s' := by
  unfold extendB at h
  simp only [bnd_some, guard_some, Option.some.injEq] at h
  obtain ⟨g, c, h1, sz, _, _, _, rfl⟩ := h
  exact .put (obj_any' h1) g _
theorem appendB_kp {t : TypeId} {x y : Value} (h : appendB P s t x y = some (v, s')) : Kp s s' := by
  unfold appendB at h
  simp only [bnd_some] at h
  obtain ⟨_, _, info, _, ⟨base, len, cap⟩, _, n, _, new, _, h⟩ := h
  split at h
  · unfold appendIn at h
    cases base with
    | none => simp only [Option.some.injEq, Prod.mk.injEq] at h; obtain ⟨_, rfl⟩ := h; exact .refl _
    | some a =>
      dsimp only at h
      split at h
      · rename_i s2 h1
        simp only [Option.some.injEq, Prod.mk.injEq] at h
        obtain ⟨_, rfl⟩ := h
        exact writeB_kp h1
      · simp only [bnd_some, guard_some, Option.some.injEq, Prod.mk.injEq] at h
        obtain ⟨_, _, h1, _, rfl⟩ := h
        exact extendB_kp h1
  · simp only [bnd_some, guard_some] at h
    obtain ⟨_, _, _, _, _, _, h⟩ := h
    unfold appendOut at h
    simp only [bnd_some] at h
    obtain ⟨old, _, h⟩ := h
    cases base with
    | none => simp only [Option.some.injEq, Prod.mk.injEq] at h; obtain ⟨_, rfl⟩ := h; exact .add _ _
    | some a =>
      simp only [bnd_some] at h
      obtain ⟨c, h1, h⟩ := h
      split at h
      · simp only [Option.some.injEq, Prod.mk.injEq] at h; obtain ⟨_, rfl⟩ := h; exact .add _ _
      · simp only [guard_some, Option.some.injEq, Prod.mk.injEq] at h
        obtain ⟨g, _, _, _, _, rfl⟩ := h
        exact (Kp.put (obj_any' h1) g none).trans (.add _ _)
theorem opPure_kp (h : opPure P tm s o = some (v, s')) : Kp s s' := by
  unfold opPure at h
  simp only [bnd_some, guard_some] at h
  obtain ⟨_, _, _, r, _, h⟩ := h
  cases r <;> simp at h
  obtain ⟨_, _, rfl⟩ := h
  exact .refl _
def CallKp (call : CallB) : Prop := ∀ f args s v s', call f args s = some (v, s') → Kp s s'
theorem opExtern_kp {f : FuncId} {args : List Operand} (h : opExtern P tm s f args = some (v, s')) : Kp s s' := by
  unfold opExtern at h
  simp only [bnd_some, guard_some] at h
  obtain ⟨fn, _, _, h⟩ := h
  split at h
  · simp only [bnd_some] at h
    obtain ⟨vs, _, h⟩ := h
    split at h
    · simp only [guard_some, Option.some.injEq, Prod.mk.injEq] at h
      obtain ⟨_, _, rfl⟩ := h
      exact .refl _
    · cases h
  · split at h
    · simp only [bnd_some] at h
      obtain ⟨vs, _, h⟩ := h
      split at h
      · simp only [bnd_some, guard_some, Option.some.injEq, Prod.mk.injEq] at h
        obtain ⟨_, _, _, _, _, _, _, rfl⟩ := h
        exact .add s _
      · cases h
    · cases h
theorem opCall_kp {call : CallB} (hc : CallKp call) {f : Operand} {args : List Operand} (h : opCall P call tm s o f args = some (v, s')) : Kp s s' := by
  unfold opCall at h
  simp only [bnd_some] at h
  obtain ⟨fv, _, h⟩ := h
  split at h
  · simp only [bnd_some] at h
    obtain ⟨g, _, h⟩ := h
    cases g with
    | true =>
      simp only [bnd_some] at h
      obtain ⟨vs, _, h⟩ := h
      exact hc _ _ _ _ _ h
    | false =>
      dsimp only at h
      split at h
      · rename_i r hr
        simp only [Option.some.injEq] at h
        subst h
        exact opPure_kp hr
      · split at h
        · exact opExtern_kp h
        · cases h
  · simp only [bnd_some] at h
    obtain ⟨_, _, vs, _, h⟩ := h
    exact hc _ _ _ _ _ h
theorem opSlice_kp {t : TypeId} {x : Operand} {lo hi : Option Operand} (h : opSlice P tm s o t x lo hi = some (v, s')) : Kp s s' := by
  unfold opSlice at h
  simp only [bnd_some] at h
  obtain ⟨xv, _, h⟩ := h
  split at h
  · unfold opSliceSlice at h
    simp only [bnd_some] at h
    obtain ⟨_, _, _, _, ⟨base, len, cap⟩, _, lh, _, h⟩ := h
    cases base with
    | none => simp only [Option.some.injEq, Prod.mk.injEq] at h; obtain ⟨_, rfl⟩ := h; exact .refl _
    | some a =>
      simp only [bnd_some, guard_some] at h
      obtain ⟨_, _, _, h⟩ := h
      split at h
      · split at h <;> simp only [Option.some.injEq, Prod.mk.injEq] at h <;> (obtain ⟨_, rfl⟩ := h; exact .refl _)
      · simp only [Option.some.injEq, Prod.mk.injEq] at h; obtain ⟨_, rfl⟩ := h; exact .refl _
  · unfold opSliceArray at h
    simp only [bnd_some, guard_some] at h
    obtain ⟨_, _, _, _, _, _, _, _, _, _, _, h⟩ := h
    split at h <;> simp only [Option.some.injEq, Prod.mk.injEq] at h <;> obtain ⟨_, rfl⟩ := h <;> exact .refl _
  · exact opPure_kp h
theorem opB_kp {call : CallB} (hc : CallKp call) (h : opB P call tm s o = some (v, s')) : Kp s s' := by
  unfold opB at h
  split at h
  · unfold opMove at h; simp only [bnd_some, Option.some.injEq, Prod.mk.injEq] at h; obtain ⟨_, _, _, rfl⟩ := h; exact .refl _
  · unfold opMove at h; simp only [bnd_some, Option.some.injEq, Prod.mk.injEq] at h; obtain ⟨_, _, _, rfl⟩ := h; exact .refl _
  · unfold opPick opMove at h
    simp only [bnd_some] at h
    obtain ⟨g, _, h⟩ := h
    cases g <;> simp only [bnd_some, Option.some.injEq, Prod.mk.injEq] at h <;> obtain ⟨_, _, _, rfl⟩ := h <;> exact .refl _
  · unfold opAlloc at h; simp only [bnd_some, Option.some.injEq] at h; obtain ⟨cs, _, h⟩ := h; unfold S.new at h; simp only [Prod.mk.injEq] at h; obtain ⟨_, rfl⟩ := h; exact .add _ _
  · unfold opBox at h; simp only [bnd_some, guard_some, Option.some.injEq] at h; obtain ⟨cs, _, _, h⟩ := h; unfold S.new at h; simp only [Prod.mk.injEq] at h; obtain ⟨_, rfl⟩ := h; exact .add _ _
  · unfold opLoad at h; simp only [bnd_some, Option.some.injEq, Prod.mk.injEq] at h; obtain ⟨_, _, _, _, _, rfl⟩ := h; exact .refl _
  · unfold opStore at h; simp only [bnd_some, Option.some.injEq, Prod.mk.injEq] at h; obtain ⟨_, _, _, _, _, h1, _, rfl⟩ := h; exact storeB_kp h1
  · unfold opNilCheck at h; simp only [bnd_some, guard_some, Option.some.injEq, Prod.mk.injEq] at h; obtain ⟨_, _, _, _, rfl⟩ := h; exact .refl _
  · unfold opFieldAddr at h
    simp only [bnd_some] at h
    obtain ⟨_, _, _, _, _, _, n, _, h⟩ := h
    cases n <;> simp at h
    obtain ⟨_, rfl⟩ := h
    exact .refl _
  · unfold opField at h; simp only [bnd_some, Option.some.injEq, Prod.mk.injEq] at h; obtain ⟨_, _, _, _, _, _, _, _, _, rfl⟩ := h; exact .refl _
  · unfold opIndexAddr at h
    simp only [bnd_some] at h
    obtain ⟨xv, _, n, _, h⟩ := h
    split at h <;> simp only [bnd_some, Option.some.injEq, Prod.mk.injEq] at h
    · obtain ⟨_, _, _, _, _, _, _, _, _, _, _, rfl⟩ := h; exact .refl _
    · obtain ⟨_, _, _, _, _, _, _, _, _, rfl⟩ := h; exact .refl _
  · unfold opIndex at h
    simp only [bnd_some] at h
    obtain ⟨xv, _, h⟩ := h
    split at h
    · unfold opIndexAgg at h; simp only [bnd_some, Option.some.injEq, Prod.mk.injEq] at h; obtain ⟨_, _, _, _, _, _, _, _, _, _, _, rfl⟩ := h; exact .refl _
    · exact opPure_kp h
  · unfold opExtract at h; simp only [bnd_some, Option.some.injEq, Prod.mk.injEq] at h; obtain ⟨_, _, _, _, _, rfl⟩ := h; exact .refl _
  · unfold opMakeFunc at h
    simp only [bnd_some, guard_some, Option.some.injEq, Prod.mk.injEq] at h; obtain ⟨_, _, _, _, _, _, _, rfl⟩ := h; exact .refl _
  · exact opSlice_kp h
  · unfold opSlice3 at h
    simp only [bnd_some, guard_some] at h
    obtain ⟨_, _, _, _, _, _, q, _, _, _, _, _, _, _, h⟩ := h
    split at h
    · simp only [Option.some.injEq, Prod.mk.injEq] at h; obtain ⟨_, rfl⟩ := h; exact .refl _
    · simp only [bnd_some, guard_some] at h
      obtain ⟨_, _, _, h⟩ := h
      split at h <;> simp only [Option.some.injEq, Prod.mk.injEq] at h <;> (obtain ⟨_, rfl⟩ := h; exact .refl _)
  · unfold opMakeSlice at h; simp only [bnd_some, guard_some, Option.some.injEq, Prod.mk.injEq] at h; obtain ⟨_, _, _, _, _, _, _, _, _, _, _, _, _, _, _, _, rfl⟩ := h; exact .add _ _
  · unfold opBuildSlice at h; simp only [bnd_some, guard_some, Option.some.injEq, Prod.mk.injEq] at h; obtain ⟨_, _, _, _, _, _, _, _, _, _, _, _, _, rfl⟩ := h; exact .add _ _
  · unfold opBuild at h
    simp only [bnd_some] at h
    obtain ⟨_, _, d, _, h⟩ := h
    split at h
    · unfold opBuildStruct at h; simp only [bnd_some, guard_some, Option.some.injEq, Prod.mk.injEq] at h; obtain ⟨_, _, _, _, _, _, rfl⟩ := h; exact .refl _
    · unfold opBuildArray at h; simp only [bnd_some, Option.some.injEq, Prod.mk.injEq] at h; obtain ⟨_, _, _, _, _, _, _, rfl⟩ := h; exact .refl _
    · cases h
  · unfold opRange at h
    simp only [bnd_some] at h
    obtain ⟨d, _, h⟩ := h
    split at h
    · simp only [bnd_some, Option.some.injEq, Prod.mk.injEq] at h; obtain ⟨_, _, _, rfl⟩ := h; exact .add _ _
    · cases h
  · unfold opNext at h
    simp only [bnd_some, guard_some] at h
    obtain ⟨_, _, _, g, ob, h1, h⟩ := h
    split at h
    · split at h <;> simp only [Option.some.injEq, Prod.mk.injEq] at h <;> obtain ⟨_, rfl⟩ := h
      · exact .put h1 g _
      · exact .refl _
    · cases h
  · unfold opMakeMap at h
    split at h
    · simp only [Option.some.injEq, Prod.mk.injEq] at h; obtain ⟨_, rfl⟩ := h; exact .add _ _
    · simp only [bnd_some, Option.some.injEq, Prod.mk.injEq] at h; obtain ⟨_, _, _, _, _, rfl⟩ := h; exact .add _ _
  · exact mapUpdate_kp h
  · exact mapUpdate_kp h
  · unfold opLookup at h
    simp only [bnd_some] at h
    obtain ⟨_, _, _, _, _, _, _, _, r, _, h⟩ := h
    split at h
    · simp only [Option.some.injEq, Prod.mk.injEq] at h; obtain ⟨_, rfl⟩ := h; exact .refl _
    · simp only [bnd_some, Option.some.injEq, Prod.mk.injEq] at h; obtain ⟨_, _, _, rfl⟩ := h; exact .refl _
  · unfold opConvert at h
    split at h
    · simp only [bnd_some, guard_some, Option.some.injEq, Prod.mk.injEq] at h
      obtain ⟨_, _, _, _, _, _, _, _, rfl⟩ := h
      exact .add s _
    · split at h
      · simp only [guard_some] at h
        obtain ⟨_, h⟩ := h
        unfold opBytesStr at h
        simp only [bnd_some, Option.some.injEq, Prod.mk.injEq] at h
        obtain ⟨_, _, _, _, _, _, _, _, _, rfl⟩ := h
        exact .refl _
      · exact opPure_kp h
    · split at h
      · unfold opToUnsafe at h
        simp only [bnd_some, guard_some, Option.some.injEq, Prod.mk.injEq] at h
        obtain ⟨_, _, _, _, _, _, _, _, _, _, _, rfl⟩ := h
        exact .refl _
      · exact opPure_kp h
    · split at h
      · unfold opFromUnsafe at h
        simp only [bnd_some, guard_some, Option.some.injEq, Prod.mk.injEq] at h
        obtain ⟨_, _, _, _, _, _, _, _, _, _, _, rfl⟩ := h
        exact .refl _
      · exact opPure_kp h
    · exact opPure_kp h
  · unfold opAppend at h
    split at h
    · simp only [bnd_some] at h
      obtain ⟨d, _, h⟩ := h
      split at h
      · simp only [bnd_some] at h; obtain ⟨_, _, _, _, h⟩ := h; exact appendB_kp h
      · simp only [bnd_some] at h; obtain ⟨_, _, _, _, h⟩ := h; exact appendB_kp h
      · simp only [bnd_some] at h
        obtain ⟨_, _, _, _, h⟩ := h
        split at h
        · unfold appendNil at h
          simp only [bnd_some, guard_some, Option.some.injEq, Prod.mk.injEq] at h
          obtain ⟨_, _, _, _, _, _, _, _, _, _, _, rfl⟩ := h
          exact .add s _
        · cases h
      · cases h
    · cases h
  · unfold opCopy at h
    split at h
    · simp only [bnd_some] at h
      obtain ⟨_, _, _, _, h⟩ := h
      unfold copyB at h
      simp only [bnd_some] at h
      obtain ⟨_, _, info, _, ⟨base, len, cap⟩, _, n, _, new, _, h⟩ := h
      cases base with
      | none => simp only [Option.some.injEq, Prod.mk.injEq] at h; obtain ⟨_, rfl⟩ := h; exact .refl _
      | some a =>
        simp only [bnd_some, Option.some.injEq, Prod.mk.injEq] at h
        obtain ⟨_, h1, _, rfl⟩ := h
        exact writeB_kp h1
    · cases h
  · unfold opCap at h
    split at h
    · simp only [bnd_some] at h
      obtain ⟨_, _, _, _, q, _, h⟩ := h
      split at h
      · simp only [Option.some.injEq, Prod.mk.injEq] at h; obtain ⟨_, rfl⟩ := h; exact .refl _
      · simp only [bnd_some, guard_some, Option.some.injEq, Prod.mk.injEq] at h; obtain ⟨_, _, _, _, rfl⟩ := h; exact .refl _
    · cases h
  · unfold opSliceData at h
    split at h
    · simp only [bnd_some] at h
      obtain ⟨_, _, q, _, h⟩ := h
      split at h
      · simp only [Option.some.injEq, Prod.mk.injEq] at h; obtain ⟨_, rfl⟩ := h; exact .refl _
      · simp only [guard_some, Option.some.injEq, Prod.mk.injEq] at h; obtain ⟨_, _, rfl⟩ := h; exact .refl _
    · cases h
  · unfold opUnsafeStr at h
    split at h
    · simp only [bnd_some] at h
      obtain ⟨_, _, _, _, h⟩ := h
      split at h
      · split at h
        · split at h
          · simp only [Option.some.injEq, Prod.mk.injEq] at h; obtain ⟨_, rfl⟩ := h; exact .refl _
          · cases h
        · simp only [bnd_some, guard_some] at h
          obtain ⟨_, _, _, g, c, h1, d, _, h⟩ := h
          split at h
          · simp only [bnd_some, guard_some, Option.some.injEq, Prod.mk.injEq] at h
            obtain ⟨_, _, _, _, _, _, _, _, rfl⟩ := h
            exact Kp.put (obj_any' h1) g none
          · cases h
        · cases h
      · cases h
    · cases h
  · unfold opLen at h
    split at h
    · simp only [bnd_some] at h
      obtain ⟨xv, _, h⟩ := h
      split at h
      · simp only [bnd_some, Option.some.injEq, Prod.mk.injEq] at h; obtain ⟨_, _, _, rfl⟩ := h; exact .refl _
      · simp only [bnd_some, Option.some.injEq, Prod.mk.injEq] at h; obtain ⟨_, _, _, _, _, rfl⟩ := h; exact .refl _
      · exact opPure_kp h
    · cases h
  · exact opCall_kp hc h
  · unfold opBin at h
    simp only [bnd_some] at h
    obtain ⟨_, _, _, _, h⟩ := h
    split at h
    · split at h
      · split at h
        · simp only [Option.some.injEq, Prod.mk.injEq] at h; obtain ⟨_, rfl⟩ := h; exact .refl _
        · cases h
      · exact opPure_kp h
    · split at h
      · simp only [Option.some.injEq, Prod.mk.injEq] at h; obtain ⟨_, rfl⟩ := h; exact .refl _
      · simp only [Option.some.injEq, Prod.mk.injEq] at h; obtain ⟨_, rfl⟩ := h; exact .refl _
      · cases h
  · cases h
  · cases h
  · exact opPure_kp h
where
  mapUpdate_kp {t : TypeId} {m k x : Operand} (h : opMapUpdate P tm s t m k x = some (v, s')) : Kp s s' := by
    unfold opMapUpdate at h
    simp only [bnd_some, guard_some, Option.some.injEq, Prod.mk.injEq] at h
    obtain ⟨_, _, _, _, r, _, _, _, _, _, _, g, es, h1, _, _, _, rfl⟩ := h
    unfold mapAt at h1
    simp only [bnd_some] at h1
    obtain ⟨o', h2, _⟩ := h1
    exact .put h2 g _
theorem op1B_kp {call : CallB} (hc : CallKp call) {all : List Oper} (h : op1B P call all tm s o = some (v, s')) : Kp s s' := by
  unfold op1B at h
  simp only [bnd_some] at h
  obtain ⟨g, _, h⟩ := h
  cases g with
  | true => exact opB_kp hc h
  | false => simp only [Option.some.injEq, Prod.mk.injEq] at h; obtain ⟨_, rfl⟩ := h; exact .refl _
theorem opsB_kp {call : CallB} (hc : CallKp call) {all : List Oper} : ∀ {l : List Oper} {tm tm' : Ctx} {s s' : S}, opsB P call all l tm s = some (tm', s') → Kp s s'
  | [], tm, tm', s, s', h => by simp only [opsB, Option.some.injEq, Prod.mk.injEq] at h; obtain ⟨_, rfl⟩ := h; exact .refl _
  | o :: l, tm, tm', s, s', h => by
    simp only [opsB, bnd_some] at h
    obtain ⟨r, h1, tm1, _, h⟩ := h
    exact (op1B_kp hc h1).trans (opsB_kp hc h)
end Go.Ev
