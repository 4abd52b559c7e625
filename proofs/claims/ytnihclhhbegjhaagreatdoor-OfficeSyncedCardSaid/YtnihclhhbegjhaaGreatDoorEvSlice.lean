/- Slices of slices, iterators over strings, maps. -/
import Derived.Test.YtnihclhhbegjhaaGreatDoorEvMake
set_option linter.unusedSectionVars false
set_option linter.unusedSimpArgs false
set_option linter.unusedVariables false
namespace Go.Ev
variable [Ground]
variable {lm : Nat} {P : Program} {p : Pi} {s s' : S} {w : World} {tm : Ctx} {A : Act} {v : Value} {o : Oper}

theorem boundsB_ok (hg : Glob p) (ht : TR p tm.t A.tmps) {len cap cap' : Nat} {lo hi : Option Operand} {lh : Nat × Nat} (hcc : cap ≤ cap') (b : Bool) (h : boundsB tm len cap lo hi = some lh) (w : World) :
    (Instr.sliceBounds b len cap' (lo.map A.eval) (hi.map A.eval) none).run P w = .ok (lh.1, lh.2, cap') w ∧ lh.1 ≤ lh.2 ∧ lh.2 ≤ cap := by
  unfold boundsB at h
  simp only [bnd_some, guard_some, Option.some.injEq, decide_eq_true_eq] at h
  obtain ⟨hn, h1, ln, h2, g1, g2, g3, rfl⟩ := h
  have e1 : ((do match (hi.map A.eval) with
      | some v => Instr.sliceBound v cap' (if b then .sliceAcap else .sliceAlen)
      | none => pure len) : Sem Nat).run P w = .ok hn.toNat w := by
    cases hi with
    | none => simp at h1; subst h1; simp
    | some x =>
      simp only [bnd_some] at h1
      obtain ⟨xv, h3, h4⟩ := h1
      obtain ⟨k, hk⟩ := (opnd_ok hg ht h3).intAt h4
      have : hn ≤ (cap' : Int) := by
        have : hn ≤ (cap : Int) := g3
        omega
      have h0 : 0 ≤ hn := by omega
      simp [hk, Instr.sliceBound, asIntOf, this, h0]
  have e2 : ((do match (lo.map A.eval) with
      | some v => Instr.sliceBound v hn.toNat .sliceB
      | none => pure 0) : Sem Nat).run P w = .ok ln.toNat w := by
    cases lo with
    | none => simp at h2; subst h2; simp
    | some x =>
      simp only [bnd_some] at h2
      obtain ⟨xv, h3, h4⟩ := h2
      obtain ⟨k, hk⟩ := (opnd_ok hg ht h3).intAt h4
      have h0 : 0 ≤ hn := by omega
      simp [hk, Instr.sliceBound, asIntOf, g1, Int.toNat_of_nonneg h0, g2]
  refine ⟨?_, by simp; omega, by have : hn ≤ (cap : Int) := g3; simp; omega⟩
  unfold Instr.sliceBounds
  simp only [Sem.run_bind, Sem.run_pure, Result.andThen_ok]
  cases hi <;> cases lo <;> simp at e1 e2 ⊢ <;> simp [e1, e2]
theorem opSliceSlice_ok (hs : Sim lm p s w) (ht : TR p tm.t A.tmps) {t : TypeId} {x : Operand} {lo hi : Option Operand} {xv : Value} (ho : o.op = .slice t x lo hi none) (hx : opnd tm x = some xv)
    (h : opSliceSlice P tm s t xv lo hi = some (v, s')) : Gives P lm w (execOp A.eval o) p s v s' := by
  unfold opSliceSlice at h
  simp only [bnd_some] at h
  obtain ⟨e, h1, n, h2, ⟨base, len, cap⟩, h3, lh, h4, h⟩ := h
  have hu := sliceElem_spec h1
  have hxv := opnd_ok hs.gr.glob ht hx
  cases base with
  | none =>
    simp only [Option.some.injEq, Prod.mk.injEq] at h
    obtain ⟨rfl, rfl⟩ := h
    obtain ⟨_, h5⟩ := hxv.sliceNil h3
    obtain ⟨h6, h7, h8⟩ := boundsB_ok (P := P) hs.gr.glob ht (Nat.le_refl cap) true h4 w
    refine .same hs (v' := .slice none (lh.2 - lh.1) (cap - lh.1)) ?_ (CR.ur .nil)
    simp [execOp, ho, Instr.sliceAt, under_run hu, h5, Instr.slice, h6, sizeB_run h2]
  | some a =>
    obtain ⟨r, off⟩ := a
    obtain ⟨_, b, ex, c', h5, h6, h7, h8⟩ := hxv.sliceOf h3
    simp only at h h4
    obtain ⟨g1, g2, g3⟩ := boundsB_ok (P := P) hs.gr.glob ht h7 true h4 w
    simp only [bnd_some, guard_some] at h
    obtain ⟨c, h9, k1, h⟩ := h
    obtain ⟨b', ys, rest, fr, h11, hl⟩ := hs.lies h9
    rw [h6] at h11
    simp only [Option.some.injEq, Prod.mk.injEq] at h11
    obtain ⟨rfl, rfl⟩ := h11
    split at h
    · rename_i hb
      have hb' := Nat.eq_of_beq_eq_true hb
      split at h
      · rename_i hn
        simp only [Option.some.injEq, Prod.mk.injEq] at h
        obtain ⟨rfl, rfl⟩ := h
        simp only [hn, Option.map_none] at h8 h6
        have hcc : c' = cap := h8
        subst hcc
        refine .same hs (v' := aslice b off 0 0) ?_ (CR.ur (.slice h6 (Nat.le_refl _) rfl))
        obtain ⟨l, hh⟩ := lh
        simp only at hb' g1 g2 g3
        subst hb'
        have e1 : hh - l = 0 := by omega
        simp [execOp, ho, Instr.sliceAt, under_run hu, h5, aslice, Instr.slice, g1, sizeB_run h2, e1]
      · simp only [Option.some.injEq, Prod.mk.injEq] at h
        obtain ⟨rfl, rfl⟩ := h
        obtain ⟨l, hh⟩ := lh
        simp only at hb' g1 g2 g3
        have e1 : hh - l = 0 := by omega
        by_cases hcl : c' = l
        · subst hcl
          refine .same hs (v' := aslice b off 0 0) ?_ (CR.ur .mt)
          simp [execOp, ho, Instr.sliceAt, under_run hu, h5, aslice, Instr.slice, g1, sizeB_run h2, e1]
        · refine .same hs (v' := aslice b (off + l * n) 0 (c' - l)) ?_ (CR.ur .mt)
          simp [execOp, ho, Instr.sliceAt, under_run hu, h5, aslice, Instr.slice, g1, sizeB_run h2, e1, hcl, add_plain]
    · rename_i hb
      have hne : lh.1 ≠ cap := by
        intro e
        rw [e] at hb
        simp at hb
      simp only [Option.some.injEq, Prod.mk.injEq] at h
      obtain ⟨rfl, rfl⟩ := h
      have hroom : Room (c.more.map fun sz => (sz, (ys ++ rest).length)) (off + lh.1 * n) (cap - lh.1) (c' - lh.1) := by
        cases hm : c.more with
        | none =>
          rw [hm] at h8
          simp only [Option.map_none, Room] at h8 ⊢
          rw [h8]
        | some sz =>
          rw [hm] at h8 k1
          simp only [Option.map_some, Room] at h8 ⊢
          have := Nat.eq_of_beq_eq_true k1
          subst this
          have : lh.1 * sz + (c' - lh.1) * sz = c' * sz := by rw [← Nat.add_mul]; congr 1; omega
          omega
      refine .same hs (v' := aslice b (off + lh.1 * n) (lh.2 - lh.1) (c' - lh.1)) ?_ (CR.ur (.slice h6 (by show cap - lh.1 ≤ _; omega) hroom))
      have hne' : ¬ c' = lh.1 := by omega
      simp [execOp, ho, Instr.sliceAt, under_run hu, h5, aslice, Instr.slice, g1, sizeB_run h2, hne', add_plain]
theorem opSliceArray_ok (hs : Sim lm p s w) (ht : TR p tm.t A.tmps) {t : TypeId} {x : Operand} {lo hi : Option Operand} {xv : Value} (ho : o.op = .slice t x lo hi none) (hx : opnd tm x = some xv)
    (h : opSliceArray P tm s t xv lo hi = some (v, s')) : Gives P lm w (execOp A.eval o) p s v s' := by
  unfold opSliceArray at h
  simp only [bnd_some] at h
  obtain ⟨⟨len, e⟩, h1, n, h2, ⟨r, off⟩, h3, lh, h4, h⟩ := h
  have hu := arrayElem_spec h1
  obtain ⟨b, ex, h5, h6⟩ := (opnd_ok hs.gr.glob ht hx).ptrOf h3
  simp only at h h4 hu h2
  obtain ⟨g1, g2, g3⟩ := boundsB_ok (P := P) hs.gr.glob ht (Nat.le_refl len) false h4 w
  simp only [bnd_some, guard_some] at h
  obtain ⟨c, h9, k1, h⟩ := h
  obtain ⟨b', ys, rest, fr, h11, hl⟩ := hs.lies h9
  rw [h6] at h11
  simp only [Option.some.injEq, Prod.mk.injEq] at h11
  obtain ⟨rfl, rfl⟩ := h11
  have hn : c.more = none := by simpa using k1
  simp only [hn, Option.map_none] at h6
  split at h <;> simp only [Option.some.injEq, Prod.mk.injEq] at h <;> obtain ⟨rfl, rfl⟩ := h
  · rename_i hb
    have hb' := Nat.eq_of_beq_eq_true hb
    refine .same hs (v' := aslice b off 0 0) ?_ (CR.ur (.slice h6 (Nat.le_refl _) rfl))
    obtain ⟨l, hh⟩ := lh
    simp only at hb' g1 g2 g3
    subst hb'
    have e1 : hh - l = 0 := by omega
    simp [execOp, ho, Instr.sliceAt, under_run hu, h5, ptr, Instr.sureAddr, aslice, g1, sizeB_run h2, e1]
  · rename_i hb
    have hne : ¬ len = lh.1 := by
      intro e
      rw [← e] at hb
      simp at hb
    refine .same hs (v' := aslice b (off + lh.1 * n) (lh.2 - lh.1) (len - lh.1)) ?_ (CR.ur (.slice h6 (Nat.le_refl _) rfl))
    simp [execOp, ho, Instr.sliceAt, under_run hu, h5, ptr, Instr.sureAddr, aslice, g1, sizeB_run h2, hne, add_plain]
theorem opSlice_ok (hs : Sim lm p s w) (ht : TR p tm.t A.tmps) {t : TypeId} {x : Operand} {lo hi : Option Operand} (ho : o.op = .slice t x lo hi none)
    (h : opSlice P tm s o t x lo hi = some (v, s')) : Gives P lm w (execOp A.eval o) p s v s' := by
  unfold opSlice at h
  simp only [bnd_some] at h
  obtain ⟨xv, h1, h⟩ := h
  split at h
  · exact opSliceSlice_ok hs ht ho h1 h
  · exact opSliceArray_ok hs ht ho h1 h
  · exact opPure_ok hs ht (by rw [ho]; intros; simp) h

theorem bounds3_ok (hg : Glob p) (ht : TR p tm.t A.tmps) {len cap' : Nat} {lo : Option Operand} {hi mx : Operand} {lh : Nat × Nat} {m : Int} {mk : IntKind} (hm : A.eval mx = .int mk m) (hm0 : 0 ≤ m) (hmc : m ≤ (cap' : Int)) (h : boundsB tm len m.toNat lo (some hi) = some lh) (w : World) :
    (Instr.sliceBounds true len cap' (lo.map A.eval) (some (A.eval hi)) (some (A.eval mx))).run P w = .ok (lh.1, lh.2, m.toNat) w ∧ lh.1 ≤ lh.2 ∧ lh.2 ≤ m.toNat := by
  unfold boundsB at h
  simp only [bnd_some, guard_some, Option.some.injEq, decide_eq_true_eq] at h
  obtain ⟨hn, ⟨xv, h3, h4⟩, ln, h2, g1, g2, g3, rfl⟩ := h
  have g3' : hn ≤ m := by
    have : hn ≤ ((m.toNat : Nat) : Int) := g3
    omega
  have h0 : 0 ≤ hn := by omega
  obtain ⟨k, hk⟩ := (opnd_ok hg ht h3).intAt h4
  have e2 : ((do match (lo.map A.eval) with
      | some v => Instr.sliceBound v hn.toNat .slice3C
      | none => pure 0) : Sem Nat).run P w = .ok ln.toNat w := by
    cases lo with
    | none => simp at h2; subst h2; simp
    | some x =>
      simp only [bnd_some] at h2
      obtain ⟨xv, h3, h4⟩ := h2
      obtain ⟨k, hk⟩ := (opnd_ok hg ht h3).intAt h4
      simp [hk, Instr.sliceBound, asIntOf, g1, Int.toNat_of_nonneg h0, g2]
  refine ⟨?_, by simp; omega, by simp; omega⟩
  unfold Instr.sliceBounds
  simp only [Sem.run_bind, Sem.run_pure, Result.andThen_ok]
  have e0 : (Instr.sliceBound (A.eval mx) cap' .slice3Acap).run P w = .ok m.toNat w := by simp [hm, Instr.sliceBound, asIntOf, hm0, hmc]
  have e1 : (Instr.sliceBound (A.eval hi) m.toNat .slice3B).run P w = .ok hn.toNat w := by simp [hk, Instr.sliceBound, asIntOf, h0, Int.toNat_of_nonneg hm0, g3']
  cases lo <;> simp at e2 ⊢ <;> simp [e0, e1, e2]
theorem opSlice3_ok (hs : Sim lm p s w) (ht : TR p tm.t A.tmps) {t : TypeId} {x : Operand} {lo : Option Operand} {hi mx : Operand} (ho : o.op = .slice t x lo (some hi) (some mx))
    (h : opSlice3 P tm s t x lo hi mx = some (v, s')) : Gives P lm w (execOp A.eval o) p s v s' := by
  unfold opSlice3 at h
  simp only [bnd_some, guard_some, decide_eq_true_eq] at h
  obtain ⟨xv, hx, e, h1, n, h2, ⟨base, len, cap⟩, h3, m, ⟨mv, m1, m2⟩, m3, m4, lh, h4, h⟩ := h
  have hu := sliceElem_spec h1
  have hxv := opnd_ok hs.gr.glob ht hx
  obtain ⟨mk, hmv⟩ := (opnd_ok hs.gr.glob ht m1).intAt m2
  have m4' : m ≤ (cap : Int) := m4
  cases base with
  | none =>
    simp only [Option.some.injEq, Prod.mk.injEq] at h
    obtain ⟨rfl, rfl⟩ := h
    obtain ⟨_, h5⟩ := hxv.sliceNil h3
    obtain ⟨h6, h7, h8⟩ := bounds3_ok (P := P) (cap' := cap) hs.gr.glob ht hmv m3 m4' h4 w
    refine .same hs (v' := .slice none (lh.2 - lh.1) (m.toNat - lh.1)) ?_ (CR.ur .nil)
    simp [execOp, ho, Instr.sliceAt, under_run hu, h5, Instr.slice, h6, sizeB_run h2]
  | some a =>
    obtain ⟨r, off⟩ := a
    obtain ⟨_, b, ex, c', h5, h6, h7, h8⟩ := hxv.sliceOf h3
    simp only at h h4
    obtain ⟨g1, g2, g3⟩ := bounds3_ok (P := P) (cap' := c') hs.gr.glob ht hmv m3 (by omega) h4 w
    simp only [bnd_some, guard_some] at h
    obtain ⟨c, h9, k1, h⟩ := h
    obtain ⟨b', ys, rest, fr, h11, hl⟩ := hs.lies h9
    rw [h6] at h11
    simp only [Option.some.injEq, Prod.mk.injEq] at h11
    obtain ⟨rfl, rfl⟩ := h11
    split at h
    · rename_i hb
      have hb' := Nat.eq_of_beq_eq_true hb
      simp only [Option.some.injEq, Prod.mk.injEq] at h
      obtain ⟨rfl, rfl⟩ := h
      obtain ⟨l, hh⟩ := lh
      simp only at hb' g1 g2 g3
      subst hb'
      have e1 : hh - m.toNat = 0 := by omega
      refine .same hs (v' := aslice b off 0 0) ?_ (CR.ur .mt)
      simp [execOp, ho, Instr.sliceAt, under_run hu, h5, aslice, Instr.slice, g1, sizeB_run h2, e1]
    · rename_i hb
      have hne : ¬ m.toNat = lh.1 := by
        intro e
        rw [e] at hb
        simp at hb
      simp only [Option.some.injEq, Prod.mk.injEq] at h
      obtain ⟨rfl, rfl⟩ := h
      have hmc : m.toNat ≤ c' := by omega
      have hroom : Room (c.more.map fun sz => (sz, (ys ++ rest).length)) (off + lh.1 * n) (m.toNat - lh.1) (m.toNat - lh.1) := by
        cases hm : c.more with
        | none => rfl
        | some sz =>
          rw [hm] at h8 k1
          simp only [Option.map_some, Room] at h8 ⊢
          have := Nat.eq_of_beq_eq_true k1
          subst this
          have h1 : lh.1 * sz + (m.toNat - lh.1) * sz = m.toNat * sz := by rw [← Nat.add_mul]; congr 1; omega
          have h2 : m.toNat * sz ≤ c' * sz := Nat.mul_le_mul_right _ hmc
          omega
      refine .same hs (v' := aslice b (off + lh.1 * n) (lh.2 - lh.1) (m.toNat - lh.1)) ?_ (CR.ur (.slice h6 (Nat.le_refl _) hroom))
      simp [execOp, ho, Instr.sliceAt, under_run hu, h5, aslice, Instr.slice, g1, sizeB_run h2, hne, add_plain]

/-! ### strings gone through -/
theorem opRange_ok (hs : Sim lm p s w) (hm : s'.nx ≤ lm) (ht : TR p tm.t A.tmps) {t : TypeId} {x : Operand} (ho : o.op = .range t x) (h : opRange tm s P t x = some (v, s')) : Gives P lm w (execOp A.eval o) p s v s' := by
  unfold opRange at h
  simp only [bnd_some] at h
  obtain ⟨d, h1, h⟩ := h
  cases d <;> simp only [reduceCtorEq, bnd_some, Option.some.injEq, Prod.mk.injEq] at h
  obtain ⟨b, ⟨xv, h2, h3⟩, rfl, rfl⟩ := h
  obtain ⟨_, h4⟩ := (opnd_ok hs.gr.glob ht h2).strOf h3
  obtain ⟨h5, h6⟩ := hs.alloc hm (o := .iter b 0) (o' := .stringIter b 0) (e := none) ⟨rfl, rfl⟩
  refine ⟨_, ptr w.heap.size 0, _, _, ?_, .inl rfl, h6, h5, CR.ur (.ptr (by simp [Pi.ext]; rfl))⟩
  simp [execOp, ho, Instr.range, under_run h1, h4, ptr]
theorem Sim.iter (hs : Sim lm p s w) {r : Nat} {b : ByteArray} {pos : Nat} (h : s.any r = some (.iter b pos)) {k : Nat} {e : Ex} (hp : p r = some (k, e)) : w.heap[k]? = some (.stringIter b pos) := by
  obtain ⟨b', e', o', h1, h2, h3⟩ := hs.obj _ _ h
  rw [hp] at h1
  simp only [Option.some.injEq, Prod.mk.injEq] at h1
  obtain ⟨rfl, rfl⟩ := h1
  cases o' <;> simp only [OC] at h3
  obtain ⟨rfl, rfl⟩ := h3
  exact h2
theorem opNext_ok (hs : Sim lm p s w) (ht : TR p tm.t A.tmps) {x : Operand} (ho : o.op = .next x true) (h : opNext tm s x = some (v, s')) : Gives P lm w (execOp A.eval o) p s v s' := by
  unfold opNext at h
  simp only [bnd_some, guard_some] at h
  obtain ⟨⟨r, off⟩, ⟨xv, h1, h2⟩, g1, g2, ob, h3, h⟩ := h
  have g1' := Nat.eq_of_beq_eq_true g1
  have g2' := g2
  simp only at g1' g2' h3 h
  subst g1'
  obtain ⟨k, e, h4, h5⟩ := (opnd_ok hs.gr.glob ht h1).ptrOf h2
  cases ob <;> simp only [reduceCtorEq] at h
  rename_i b pos
  have h6 := hs.iter h3 h5
  split at h <;> simp only [Option.some.injEq, Prod.mk.injEq] at h <;> obtain ⟨rfl, rfl⟩ := h
  · rename_i hlt
    have hlt' : pos < b.size := by simpa [Nat.blt_eq] using hlt
    obtain ⟨h7, h8⟩ := hs.put (o := .iter b (pos + (Utf8.decode b pos).2)) (o' := .stringIter b (pos + (Utf8.decode b pos).2)) h3 h5 g2' ⟨rfl, rfl⟩
    refine ⟨p, _, _, _, ?_, .inl rfl, h8, h7, flat_ur rfl⟩
    simp [execOp, ho, h4, ptr, Instr.next, getObj, setObj, Sem.run, h6, hlt', World.putObj, Result.andThen]
  · rename_i hlt
    have hlt' : ¬ pos < b.size := fun hh => by rw [show Nat.blt pos b.size = true by simpa [Nat.blt_eq] using hh] at hlt; cases hlt
    refine .same hs ?_ (flat_ur rfl)
    simp [execOp, ho, h4, ptr, Instr.next, getObj, Sem.run, h6, hlt', Result.andThen]

/-! ### maps -/
theorem opMakeMap_ok (hs : Sim lm p s w) (hm : s'.nx ≤ lm) (ht : TR p tm.t A.tmps) {t : TypeId} {r : Option Operand} (ho : o.op = .makeMap t r) (h : opMakeMap P tm s t r = some (v, s')) : Gives P lm w (execOp A.eval o) p s v s' := by
  have hal := fun hm => hs.alloc hm (o := .map []) (o' := .map #[] 0) (e := none) .nil
  unfold opMakeMap at h
  cases r with
  | none =>
    simp only [Option.some.injEq, Prod.mk.injEq] at h
    obtain ⟨rfl, rfl⟩ := h
    obtain ⟨h5, h6⟩ := hal hm
    refine ⟨_, .map (some w.heap.size), _, _, ?_, .inl rfl, h6, h5, CR.ur (.map (by simp [Pi.ext]; rfl))⟩
    simp [execOp, ho, Instr.makeMap]
  | some x =>
    simp only [bnd_some, Option.some.injEq, Prod.mk.injEq] at h
    obtain ⟨kt, h1, n, ⟨xv, h2, h3⟩, rfl, rfl⟩ := h
    obtain ⟨k, hk⟩ := (opnd_ok hs.gr.glob ht h2).intAt h3
    obtain ⟨h5, h6⟩ := hal hm
    refine ⟨_, .map (some w.heap.size), _, _, ?_, .inl rfl, h6, h5, CR.ur (.map (by simp [Pi.ext]; rfl))⟩
    simp [execOp, ho, Instr.makeMap, under_run (mapTypes_spec h1), hk, asInt, asIntOf]
theorem keyKind_spec {t : TypeId} {d : TypeDesc} (h : keyKind P t = some d) : P.underlying t = some d ∧ ((∃ k, d = .int k) ∨ d = .string ∨ d = .bool) := by
  unfold keyKind at h
  simp only [bnd_some] at h
  obtain ⟨d', h1, h⟩ := h
  cases d' <;> simp at h <;> subst h <;> exact ⟨h1, by simp⟩
theorem checkKey_run {t : TypeId} {d : TypeDesc} (h : keyKind P t = some d) (e : Bool) (k : Value) (w : World) : (Instr.checkKey e 10000 t k).run P w = .ok () w := by
  obtain ⟨h1, h2⟩ := keyKind_spec h
  unfold Instr.checkKey
  simp only [Sem.run_bind, under_run h1, Result.andThen_ok]
  rcases h2 with ⟨k', rfl⟩ | rfl | rfl <;> rfl
def MR (p : Pi) (kv : Value × Value) (x : MapEntry) : Prop := x.key = kv.1 ∧ VR p kv.2 x.val
theorem findNow_ok {d : TypeDesc} {k : Value} : ∀ {es : List (Value × Value)} {es' : List MapEntry} {r : Option Value} (i : Nat), LR (MR p) es es' → findKeyB d k es = some r →
    match r with
    | none => Instr.findNow d k es' i = some none
    | some v => ∃ j v', Instr.findNow d k es' i = some (some (j, v')) ∧ VR p v v'
  | _, _, r, i, .nil, h => by
    simp only [findKeyB, Option.some.injEq] at h
    subst h
    rfl
  | (x, u) :: es, e' :: es', r, i, .cons hx hr, h => by
    obtain ⟨h1, h2⟩ := hx
    simp only at h1 h2
    simp only [findKeyB, bnd_some] at h
    obtain ⟨b, h3, h⟩ := h
    cases b with
    | true =>
      simp only [Option.some.injEq] at h
      subst h
      exact ⟨i, e'.val, by simp [Instr.findNow, h1, h3], h2⟩
    | false =>
      have := findNow_ok (i + 1) hr h
      cases r <;> simp only at this ⊢ <;> simpa [Instr.findNow, h1, h3] using this
theorem Sim.map (hs : Sim lm p s w) {r : Nat} {es : List (Value × Value)} (h : mapAt s r = some es) {k : Nat} {e : Ex} (hp : p r = some (k, e)) :
    s.any r = some (.map es) ∧ ∃ es' clock, w.heap[k]? = some (.map ⟨es'⟩ clock) ∧ LR (MR p) es es' := by
  unfold mapAt at h
  simp only [bnd_some] at h
  obtain ⟨o, h1, h⟩ := h
  cases o <;> simp at h
  subst h
  refine ⟨h1, ?_⟩
  obtain ⟨b', e', o', h2, h3, h4⟩ := hs.obj _ _ h1
  rw [hp] at h2
  simp only [Option.some.injEq, Prod.mk.injEq] at h2
  obtain ⟨rfl, rfl⟩ := h2
  cases o' <;> simp only [OC] at h4
  rename_i es' clock
  exact ⟨es'.toList, clock, h3, h4⟩
theorem lookup_run {t kt et : TypeId} (hu : P.underlying t = some (.map kt et)) {mv kv z : Value} (hck : ∀ e, (Instr.checkKey e 10000 kt kv).run P w = .ok () w) {es' : List MapEntry} {r : Option (Nat × Value)}
    (hm : (mv = .map none ∧ es' = []) ∨ ∃ b clock, mv = .map (some b) ∧ w.heap[b]? = some (.map ⟨es'⟩ clock)) (hf : (Instr.findKey kt kv es').run P w = .ok r w)
    (hz : r = none → (zeroValue et).run P w = .ok z w) (ok : Bool) :
    (Instr.lookup t mv kv ok).run P w = .ok (match r with | some x => okB ok x.2 true | none => okB ok z false) w := by
  rcases hm with ⟨rfl, rfl⟩ | ⟨b, clock, rfl, hb⟩
  · unfold Instr.lookup
    simp only [Sem.run_bind, under_run hu, Result.andThen_ok, Sem.run_pure, hck, hf]
    cases r with
    | none => simp only [Sem.run_bind, hz rfl, Result.andThen_ok, Sem.run_pure]; cases ok <;> rfl
    | some x => simp only [Sem.run_bind, Result.andThen_ok, Sem.run_pure]; cases ok <;> rfl
  · have hg : (getObj b).run P w = .ok (.map ⟨es'⟩ clock) w := by simp [getObj, Sem.run, hb]
    unfold Instr.lookup
    simp only [Sem.run_bind, under_run hu, Result.andThen_ok, Sem.run_pure, hg, hck, hf]
    cases r with
    | none => simp only [Sem.run_bind, hz rfl, Result.andThen_ok, Sem.run_pure]; cases ok <;> rfl
    | some x => simp only [Sem.run_bind, Result.andThen_ok, Sem.run_pure]; cases ok <;> rfl
theorem findAsk_run {t : TypeId} {k : Value} (w : World) : ∀ {es : List (Value × Value)} {es' : List MapEntry} {r : Option Value} (i : Nat), LR (MR p) es es' → findAskB P t k es = some r →
    match r with
    | none => (Instr.findAsking t k es' i).run P w = .ok none w
    | some v => ∃ j v', (Instr.findAsking t k es' i).run P w = .ok (some (j, v')) w ∧ VR p v v'
  | _, _, r, i, .nil, h => by
    simp only [findAskB, Option.some.injEq] at h
    subst h
    rfl
  | (x, u) :: es, e' :: es', r, i, .cons hx hr, h => by
    obtain ⟨h1, h2⟩ := hx
    simp only at h1 h2
    simp only [findAskB, bnd_some] at h
    obtain ⟨b, h3, h⟩ := h
    have h3' := pureOf_run h3 w
    cases b with
    | true =>
      simp only [Option.some.injEq] at h
      subst h
      exact ⟨i, e'.val, by simp [Instr.findAsking, h1, h3'], h2⟩
    | false =>
      have := findAsk_run w (i + 1) hr h
      cases r <;> simp only at this ⊢ <;> simpa [Instr.findAsking, h1, h3'] using this
/-- a struct's key: what is known of it -/
theorem askKey_spec {t : TypeId} {k : Value} (h : askKey P t k = true) : (∃ fs, P.underlying t = some (.struct fs)) ∧ flat2 k = true ∧ ∀ e w, (Instr.checkKey e 10000 t k).run P w = .ok () w := by
  unfold askKey at h
  simp only [Bool.and_eq_true] at h
  obtain ⟨h1, h2, h3, h4⟩ := h
  refine ⟨?_, h2, fun e w => ?_⟩
  · split at h1
    · rename_i fs hfs; exact ⟨fs, hfs⟩
    · cases h1
  · cases e with
    | true => obtain ⟨u, h5⟩ := Option.isSome_iff_exists.1 h3; exact pureOf_run h5 w
    | false => obtain ⟨u, h5⟩ := Option.isSome_iff_exists.1 h4; exact pureOf_run h5 w
theorem findKey_ask {t : TypeId} {k : Value} {fs : Array Field} (hu : P.underlying t = some (.struct fs)) {es : List MapEntry} {r : Option (Nat × Value)} {w : World} (h : (Instr.findAsking t k es 0).run P w = .ok r w) :
    (Instr.findKey t k es).run P w = .ok r w := by
  unfold Instr.findKey
  simp only [Sem.run_bind, under_run hu, Result.andThen_ok]
  cases es with
  | nil => simpa [Instr.findNow, Instr.findAsking] using h
  | cons e es => simpa [Instr.findNow, Instr.sameNow] using h
/-- both kinds of keys: what the look-up finds -/
theorem findB_run {t : TypeId} {k : Value} {es : List (Value × Value)} {es' : List MapEntry} {r : Option Value} (hes : LR (MR p) es es') (h : findB P t k es = some r) (w : World) :
    flat2 k = true ∧ (∀ e, (Instr.checkKey e 10000 t k).run P w = .ok () w) ∧ ∃ q, (Instr.findKey t k es').run P w = .ok q w ∧ match r with
      | none => q = none
      | some v => ∃ j v', q = some (j, v') ∧ VR p v v' := by
  unfold findB at h
  cases hk : keyKind P t with
  | some d =>
    rw [hk] at h
    simp only [guard_some] at h
    obtain ⟨g, h⟩ := h
    obtain ⟨hkd, _⟩ := keyKind_spec hk
    have hf := findNow_ok 0 hes h
    refine ⟨by cases k <;> simp_all [flat2, flat1], fun e => checkKey_run hk e k w, ?_⟩
    cases r with
    | none => exact ⟨none, Go.MapKept.run_findKey (P := P) (w := w) hkd hf, rfl⟩
    | some v =>
      obtain ⟨j, v', hf, hv⟩ := hf
      exact ⟨_, Go.MapKept.run_findKey (P := P) (w := w) hkd hf, j, v', rfl, hv⟩
  | none =>
    rw [hk] at h
    simp only [guard_some] at h
    obtain ⟨g, h⟩ := h
    obtain ⟨⟨fs, hfs⟩, g2, g3⟩ := askKey_spec g
    have hf := findAsk_run w 0 hes h
    refine ⟨g2, fun e => g3 e w, ?_⟩
    cases r with
    | none => exact ⟨none, findKey_ask hfs hf, rfl⟩
    | some v =>
      obtain ⟨j, v', hf, hv⟩ := hf
      exact ⟨_, findKey_ask hfs hf, j, v', rfl, hv⟩
theorem opLookup_ok (hs : Sim lm p s w) (ht : TR p tm.t A.tmps) {t : TypeId} {m k : Operand} {ok : Bool} (ho : o.op = .lookup t m k ok) (h : opLookup P tm s t m k ok = some (v, s')) : Gives P lm w (execOp A.eval o) p s v s' := by
  unfold opLookup at h
  simp only [bnd_some] at h
  obtain ⟨⟨kt, et⟩, h1, mo, ⟨mv, h3, h4⟩, kv, h5, es, h6, r, h7, h⟩ := h
  have hm := opnd_ok hs.gr.glob ht h3
  have hu := mapTypes_spec h1
  simp only at hu h7 h
  obtain ⟨es', hes, hmem⟩ : ∃ es' : List MapEntry, LR (MR p) es es' ∧ ((A.eval m = .map none ∧ es' = []) ∨ ∃ b clock, A.eval m = .map (some b) ∧ w.heap[b]? = some (.map ⟨es'⟩ clock)) := by
    cases mo with
    | none =>
      obtain ⟨_, h8⟩ := hm.mapNil h4
      simp only [mapRead, Option.some.injEq] at h6
      subst h6
      exact ⟨[], .nil, .inl ⟨h8, rfl⟩⟩
    | some r =>
      obtain ⟨_, b, e, h8, h9⟩ := hm.mapOf h4
      obtain ⟨_, es', clock, h10, h11⟩ := hs.map h6 h9
      exact ⟨es', h11, .inr ⟨b, clock, h8, h10⟩⟩
  obtain ⟨g2, hck, q, hfk, hq⟩ := findB_run hes h7 w
  have hk := (opnd_ok hs.gr.glob ht h5).eq_of_flat (by cases kv <;> simp_all [flat, flat2, flat1])
  cases r with
  | some u =>
    obtain ⟨j, u', rfl, hv⟩ := hq
    simp only [Option.some.injEq, Prod.mk.injEq] at h
    obtain ⟨rfl, rfl⟩ := h
    have := lookup_run (z := undef) hu hck hmem hfk (fun h => by cases h) ok
    refine .same hs (v' := okB ok u' true) ?_ ?_
    · simp [execOp, ho, hk, this]
    · cases ok
      · exact .one hv
      · exact .tup (.cons hv (.cons (.one (.flat rfl)) .nil))
  | none =>
    subst hq
    simp only [bnd_some, Option.some.injEq, Prod.mk.injEq] at h
    obtain ⟨z, h8, rfl, rfl⟩ := h
    obtain ⟨h9, h10⟩ := zeroB_run h8 w
    have := lookup_run hu hck hmem hfk (fun _ => h9) ok
    refine .same hs (v' := okB ok z false) ?_ ?_
    · simp [execOp, ho, hk, this]
    · cases ok
      · exact .one (flat2_vr h10)
      · exact .tup (.cons (flat2_vr h10) (.cons (.one (.flat rfl)) .nil))
theorem ba_eq {a b : ByteArray} (h : (a == b) = true) : a = b := (Go.MapKept.bytes_beq a b).1 h
theorem ba_refl (a : ByteArray) : (a == a) = true := (Go.MapKept.bytes_beq a a).2 rfl
theorem sameNow_eq {d : TypeDesc} {k x : Value} (h : Instr.sameNow d k x = some true) : k = x ∧ flat1 k = true ∧ Instr.sameBits 10000 x k = true := by
  unfold Instr.sameNow at h
  split at h
  · split at h
    · rename_i e; subst e; simp at h; subst h; exact ⟨rfl, rfl, by simp [Instr.sameBits]⟩
    · simp at h
  · simp only [Option.some.injEq] at h; have h := ba_eq h; subst h; exact ⟨rfl, rfl, ba_refl _⟩
  · simp only [Option.some.injEq] at h; have h := eq_of_beq h; subst h; exact ⟨rfl, rfl, by simp [Instr.sameBits]⟩
  · simp at h
/-- an entry is changed, or is new behind the others -/
theorem putKey_ok {d : TypeDesc} {k v v' : Value} {clock : Nat} (hv : VR p v v') : ∀ {es q : List (Value × Value)} {es' : List MapEntry} (i : Nat), LR (MR p) es es' → putKey d k v es = some q →
    (Instr.findNow d k es' i = some none ∧ LR (MR p) q (es' ++ [⟨k, v', clock⟩])) ∨
    ∃ j e', es'[j]? = some e' ∧ e'.key = k ∧ (∃ u, Instr.findNow d k es' i = some (some (i + j, u))) ∧ Instr.sameBits 10000 k k = true ∧ LR (MR p) q (es'.modify j fun e => { e with key := k, val := v' })
  | _, q, _, i, .nil, h => by
    simp only [putKey, Option.some.injEq] at h
    subst h
    exact .inl ⟨rfl, .cons ⟨rfl, hv⟩ .nil⟩
  | (x, u) :: es, q, e' :: es', i, .cons hx hr, h => by
    have hx' := hx
    obtain ⟨h1, h2⟩ := hx
    simp only at h1 h2
    simp only [putKey, bnd_some] at h
    obtain ⟨b, h3, h⟩ := h
    cases b with
    | true =>
      simp only [Option.some.injEq] at h
      subst h
      obtain ⟨rfl, _, hsb⟩ := sameNow_eq h3
      refine .inr ⟨0, e', rfl, h1, ⟨e'.val, by simp [Instr.findNow, h1, h3]⟩, hsb, ?_⟩
      simp only [List.modify_zero_cons]
      exact .cons ⟨rfl, hv⟩ hr
    | false =>
      simp only [bnd_some, Option.some.injEq] at h
      obtain ⟨q', h4, rfl⟩ := h
      rcases putKey_ok (clock := clock) hv (i + 1) hr h4 with ⟨h5, h6⟩ | ⟨j, e2, h5, h6, ⟨u2, h7⟩, h8, h9⟩
      · exact .inl ⟨by simpa [Instr.findNow, h1, h3] using h5, .cons hx' h6⟩
      · refine .inr ⟨j + 1, e2, by simpa using h5, h6, ⟨u2, ?_⟩, h8, ?_⟩
        · rw [show i + (j + 1) = i + 1 + j by omega]
          simpa [Instr.findNow, h1, h3] using h7
        · simp only [List.modify_succ_cons]
          exact .cons hx' h9
theorem putAsk_ok {t : TypeId} {k v v' : Value} {clock : Nat} (w : World) (hv : VR p v v') : ∀ {es q : List (Value × Value)} {es' : List MapEntry} (i : Nat), LR (MR p) es es' → putAsk P t k v es = some q →
    ((Instr.findAsking t k es' i).run P w = .ok none w ∧ LR (MR p) q (es' ++ [⟨k, v', clock⟩])) ∨
    ∃ j e', es'[j]? = some e' ∧ (∃ u, (Instr.findAsking t k es' i).run P w = .ok (some (i + j, u)) w) ∧ Instr.sameBits 10000 e'.key k = true ∧ LR (MR p) q (es'.modify j fun e => { e with key := k, val := v' })
  | _, q, _, i, .nil, h => by
    simp only [putAsk, Option.some.injEq] at h
    subst h
    exact .inl ⟨rfl, .cons ⟨rfl, hv⟩ .nil⟩
  | (x, u) :: es, q, e' :: es', i, .cons hx hr, h => by
    have hx' := hx
    obtain ⟨h1, h2⟩ := hx
    simp only at h1 h2
    simp only [putAsk, bnd_some] at h
    obtain ⟨b, h3, h⟩ := h
    have h3' := pureOf_run h3 w
    cases b with
    | true =>
      simp only [guard_some, Option.some.injEq] at h
      obtain ⟨hsb, rfl⟩ := h
      refine .inr ⟨0, e', rfl, ⟨e'.val, by simp [Instr.findAsking, h1, h3']⟩, by rw [h1]; exact hsb, ?_⟩
      simp only [List.modify_zero_cons]
      exact .cons ⟨rfl, hv⟩ hr
    | false =>
      simp only [bnd_some, Option.some.injEq] at h
      obtain ⟨q', h4, rfl⟩ := h
      rcases putAsk_ok (clock := clock) w hv (i + 1) hr h4 with ⟨h5, h6⟩ | ⟨j, e2, h5, ⟨u2, h7⟩, h8, h9⟩
      · exact .inl ⟨by simpa [Instr.findAsking, h1, h3'] using h5, .cons hx' h6⟩
      · refine .inr ⟨j + 1, e2, by simpa using h5, ⟨u2, ?_⟩, h8, ?_⟩
        · rw [show i + (j + 1) = i + 1 + j by omega]
          simpa [Instr.findAsking, h1, h3'] using h7
        · simp only [List.modify_succ_cons]
          exact .cons hx' h9
/-- both kinds of keys: what the put finds and leaves -/
theorem putB_run {t : TypeId} {k v v' : Value} {clock : Nat} (w : World) (hv : VR p v v') {es q : List (Value × Value)} {es' : List MapEntry} (hes : LR (MR p) es es') (h : putB' P t k v es = some q) :
    flat2 k = true ∧ (∀ e, (Instr.checkKey e 10000 t k).run P w = .ok () w) ∧
    (((Instr.findKey t k es').run P w = .ok none w ∧ LR (MR p) q (es' ++ [⟨k, v', clock⟩])) ∨
     ∃ j e', es'[j]? = some e' ∧ (∃ u, (Instr.findKey t k es').run P w = .ok (some (j, u)) w) ∧ Instr.sameBits 10000 e'.key k = true ∧ LR (MR p) q (es'.modify j fun e => { e with key := k, val := v' })) := by
  unfold putB' at h
  cases hk : keyKind P t with
  | some d =>
    rw [hk] at h
    simp only [guard_some] at h
    obtain ⟨g, h⟩ := h
    obtain ⟨hkd, _⟩ := keyKind_spec hk
    refine ⟨by cases k <;> simp_all [flat2, flat1], fun e => checkKey_run hk e k w, ?_⟩
    rcases putKey_ok (clock := clock) hv 0 hes h with ⟨h15, h16⟩ | ⟨j, e2, h15, h16, ⟨u2, h17⟩, h18, h19⟩
    · exact .inl ⟨Go.MapKept.run_findKey (P := P) (w := w) hkd h15, h16⟩
    · rw [Nat.zero_add] at h17
      exact .inr ⟨j, e2, h15, ⟨u2, Go.MapKept.run_findKey (P := P) (w := w) hkd h17⟩, by rw [h16]; exact h18, h19⟩
  | none =>
    rw [hk] at h
    simp only [guard_some] at h
    obtain ⟨g, h⟩ := h
    obtain ⟨⟨fs, hfs⟩, g2, g3⟩ := askKey_spec g
    refine ⟨g2, fun e => g3 e w, ?_⟩
    rcases putAsk_ok (clock := clock) w hv 0 hes h with ⟨h15, h16⟩ | ⟨j, e2, h15, ⟨u2, h17⟩, h18, h19⟩
    · exact .inl ⟨findKey_ask hfs h15, h16⟩
    · rw [Nat.zero_add] at h17
      exact .inr ⟨j, e2, h15, ⟨u2, findKey_ask hfs h17⟩, h18, h19⟩
theorem opMapUpdate_ok (hs : Sim lm p s w) (ht : TR p tm.t A.tmps) {t : TypeId} {m k x : Operand} (ho : o.op = .insert t m k x ∨ o.op = .mapUpdate t m k x) (h : opMapUpdate P tm s t m k x = some (v, s')) : Gives P lm w (execOp A.eval o) p s v s' := by
  unfold opMapUpdate at h
  simp only [bnd_some, guard_some, Option.some.injEq, Prod.mk.injEq] at h
  obtain ⟨⟨kt, et⟩, h1, mo, ⟨mv, h3, h4⟩, r, h5, kv, h6, xv, h7, g1, g2, es, h8, q, h9, rfl, rfl⟩ := h
  subst h5
  have g2' := g2
  obtain ⟨_, b, e, h10, h11⟩ := (opnd_ok hs.gr.glob ht h3).mapOf h4
  have hx := opnd_ok hs.gr.glob ht h7
  have hu := mapTypes_spec h1
  simp only at hu h9
  obtain ⟨h12, es', clock, h13, h14⟩ := hs.map h8 h11
  have hxv : VR p xv (A.eval x) := by
    generalize A.eval x = xv' at hx
    cases hx with
    | one h => exact h
    | tup _ => simp [varB] at g1
  have hg : (getObj b).run P w = .ok (.map ⟨es'⟩ clock) w := by simp [getObj, Sem.run, h13]
  have hset : ∀ ob, (setObj b ob).run P w = .ok () (w.putObj b ob) := fun ob => by simp [setObj, Sem.run, h13, World.putObj]
  obtain ⟨gk, hck, hput⟩ := putB_run (clock := clock) w hxv h14 h9
  have hck := hck false
  have hk := (opnd_ok hs.gr.glob ht h6).eq_of_flat (by cases kv <;> simp_all [flat, flat2, flat1])
  obtain ⟨ob, hrun, hoc⟩ : ∃ ob, (Instr.mapUpdate t (.map (some b)) kv (A.eval x)).run P w = .ok () (w.putObj b ob) ∧ OC p (.map q) ob e := by
    rcases hput with ⟨h15, h16⟩ | ⟨j, e2, h15, ⟨u2, h17⟩, h18, h19⟩
    · refine ⟨.map ⟨es' ++ [⟨kv, A.eval x, clock⟩]⟩ (clock + 1), ?_, ?_⟩
      rotate_left
      · exact h16
      simp [Instr.mapUpdate, under_run hu, hg, hck, h15, hset]
    · refine ⟨.map ⟨es'.modify j fun e => { e with key := kv, val := A.eval x }⟩ clock, ?_, h19⟩
      simp [Instr.mapUpdate, under_run hu, hg, hck, h17, hset, h15, Instr.keyThatStays, h18]
  obtain ⟨h20, h21⟩ := hs.put h12 h11 g2' hoc
  refine ⟨p, undef, _, .skip, ?_, .inr ⟨rfl, rfl⟩, h21, h20, flat_ur rfl⟩
  rcases ho with ho | ho <;> simp [execOp, ho, h10, hk, hrun]
end Go.Ev
