/- Stores and append. -/
import Derived.Lib.ConvBytes
import Derived.Lib.UnsafeStr
import Derived.Laws.BytesString
import Derived.Test.YtnihclhhbegjhaaGreatDoorEvSlice
set_option linter.unusedSectionVars false
set_option linter.unusedSimpArgs false
set_option linter.unusedVariables false
namespace Go.Ev
variable [Ground]
variable {lm : Nat} {P : Program} {p : Pi} {s s' : S} {w : World} {tm : Ctx} {A : Act} {v : Value} {o : Oper}

theorem putObj_same {b : Nat} {ob : Obj} (h : w.heap[b]? = some ob) : w.putObj b ob = w := by
  have : w.heap.setIfInBounds b ob = w.heap := by
    apply Array.ext_getElem?
    intro i
    by_cases e : b = i
    · subst e
      have hlt : b < w.heap.size := (Array.getElem?_eq_some_iff.1 h).1
      simp [hlt] at h ⊢
      exact h.symm
    · rw [Array.getElem?_setIfInBounds_ne e]
  unfold World.putObj
  rw [this]
theorem putObj_putObj (w : World) (b : Nat) (o1 o2 : Obj) : (w.putObj b o1).putObj b o2 = w.putObj b o2 := by
  unfold World.putObj
  simp
theorem setCell_putObj {b : Nat} {zs : List Value} {t : TypeId} {fr : Nat × Nat} (h : w.heap[b]? = some (.cells ⟨zs⟩ t fr)) (k : Nat) (v : Value) :
    w.setCell ⟨b, k, none⟩ v = w.putObj b (.cells ⟨zs.set k v⟩ t fr) := by
  unfold World.setCell World.putObj
  congr 1
  apply Array.ext_getElem?
  intro i
  by_cases e : b = i
  · subst e
    have hlt : b < w.heap.size := (Array.getElem?_eq_some_iff.1 h).1
    rw [Array.getElem?_modify, if_pos rfl, h, Array.getElem?_setIfInBounds_self_of_lt hlt]
    simp
  · rw [Array.getElem?_setIfInBounds_ne e, Array.getElem?_modify, if_neg e]
theorem splice_set (cells vs : List Value) (x : Value) (k : Nat) (h : k + 1 + vs.length ≤ cells.length) :
    (cells.set k x).take (k + 1) ++ vs ++ (cells.set k x).drop (k + 1 + vs.length) = cells.take k ++ (x :: vs) ++ cells.drop (k + (x :: vs).length) := by
  rw [List.take_set, List.drop_set_of_lt (by omega), List.take_succ_eq_append_getElem (by omega), List.set_append_right _ _ (by simp; omega)]
  simp [show k - min k cells.length = 0 by omega]
  congr 1
  omega
theorem storeCells_run {b off : Nat} {t : TypeId} {fr : Nat × Nat} : ∀ (vs zs : List Value) (i : Nat) (w : World), w.heap[b]? = some (.cells ⟨zs⟩ t fr) →
    (∀ i, i < zs.length → (decide (fr.1 ≤ i) && decide (i < fr.2)) = false) → vs.all cellB = true → off + i + vs.length ≤ zs.length →
    (storeCells ⟨b, off, none⟩ vs i).run P w = .ok () (w.putObj b (.cells ⟨zs.take (off + i) ++ vs ++ zs.drop (off + i + vs.length)⟩ t fr))
  | [], zs, i, w, hw, hc, ha, hl => by
    simp only [List.append_nil, List.length_nil, Nat.add_zero, List.take_append_drop]
    rw [putObj_same hw]
    rfl
  | x :: vs, zs, i, w, hw, hc, ha, hl => by
    simp only [List.length_cons] at hl
    simp only [List.all_cons, Bool.and_eq_true] at ha
    have hcell : w.cell? ⟨b, off + i, none⟩ = some zs[off + i] := by simp [World.cell?, hw]
    have hfr : w.frozen? ⟨b, off + i, none⟩ = false := by
      have := hc (off + i) (by omega)
      simpa [World.frozen?, hw] using this
    have hset := setCell_putObj hw (off + i) x
    have hstore : (store ⟨b, off + i, none⟩ x).run P w = .ok () (w.putObj b (.cells ⟨zs.set (off + i) x⟩ t fr)) := by
      rw [← hset]
      have hx := ha.1
      cases x <;> first | (simp [cellB] at hx; done) | simp [store, Sem.run, hcell, hfr]
    have hlt : b < w.heap.size := (Array.getElem?_eq_some_iff.1 hw).1
    have ih := storeCells_run (off := off) vs (zs.set (off + i) x) (i + 1) (w.putObj b (.cells ⟨zs.set (off + i) x⟩ t fr)) (by rw [putObj_get, if_pos ⟨rfl, hlt⟩])
      (by simpa using hc) ha.2 (by rw [List.length_set]; omega)
    rw [putObj_putObj] at ih
    rw [show off + (i + 1) = off + i + 1 by omega, splice_set zs vs x (off + i) (by omega)] at ih
    unfold storeCells
    simp only [Sem.run_bind, add_plain, hstore, Result.andThen_ok, ih]

/-- cells that are written -/
theorem Sim.write (hs : Sim lm p s w) {r off b : Nat} {e : Ex} {vs ys : List Value} (h : writeB s r off vs = some s') (hp : p r = some (b, e)) (hv : LR (CR p) vs ys) :
    ∃ w', (storeCells ⟨b, off, none⟩ ys 0).run P w = .ok () w' ∧ Sim lm p s' w' ∧ Stp p s w p s' w' := by
  unfold writeB at h
  simp only [bnd_some, guard_some, Option.some.injEq] at h
  obtain ⟨g1, c, h1, cs, h2, rfl⟩ := h
  have g1' := g1
  obtain ⟨b', zs, rest, fr, h3, hl⟩ := hs.lies h1
  rw [hp] at h3
  simp only [Option.some.injEq, Prod.mk.injEq] at h3
  obtain ⟨rfl, rfl⟩ := h3
  obtain ⟨rfl, h4⟩ := putN_spec h2
  have hlen := hl.cells.length
  have hvl := hv.length
  have hall : ys.all cellB = true := by
    clear hvl h4 h2
    induction hv with
    | nil => rfl
    | cons hx _ ih => simp [hx.not_agg.2, ih]
  have hrun := storeCells_run (P := P) (off := off) ys (zs ++ rest) 0 w hl.heap hl.cold hall (by simp; omega)
  simp only [Nat.add_zero] at hrun
  have e1 : (zs ++ rest).take off ++ ys ++ (zs ++ rest).drop (off + ys.length) = (zs.take off ++ ys ++ zs.drop (off + ys.length)) ++ rest := by
    rw [List.take_append_of_le_length (by omega), List.drop_append_of_le_length (by omega)]
    simp
  rw [e1] at hrun
  refine ⟨_, hrun, hs.put (obj_any h1) hp g1' ⟨rfl, ?_, ?_, zs.take off ++ ys ++ zs.drop (off + ys.length), rest, rfl, ?_, hl.exact_⟩⟩
  · have e2 : (zs.take off ++ ys ++ zs.drop (off + ys.length) ++ rest).length = (zs ++ rest).length := by simp; omega
    show c.more.map (fun sz => (sz, (zs ++ rest).length)) = c.more.map (fun sz => (sz, (zs.take off ++ ys ++ zs.drop (off + ys.length) ++ rest).length))
    rw [e2]
  · intro i hi
    refine hl.cold i ?_
    simp at hi ⊢
    omega
  · have := ((hl.cells.take off).append hv).append (hl.cells.drop (off + vs.length))
    simp only [hvl] at this ⊢
    exact this
/-- cells that are laid behind those that are known -/
theorem Sim.extend (hs : Sim lm p s w) {size r off b : Nat} {e : Ex} {vs ys : List Value} (h : extendB s size r off vs = some s') (hp : p r = some (b, e)) (hv : LR (CR p) vs ys)
    (hroom : ∀ x, e = some x → x.1 = size → off + ys.length ≤ x.2) :
    ∃ w', (storeCells ⟨b, off, none⟩ ys 0).run P w = .ok () w' ∧ Sim lm p s' w' ∧ Stp p s w p s' w' := by
  unfold extendB at h
  simp only [bnd_some, guard_some, Option.some.injEq] at h
  obtain ⟨g1, c, h1, sz, h2, g2, g3, rfl⟩ := h
  have g1' := g1
  have g2' : sz = size := Nat.eq_of_beq_eq_true g2
  have g3' : off = c.cs.length := Nat.eq_of_beq_eq_true g3
  subst g2' g3'
  obtain ⟨b', zs, rest, fr, h3, hl⟩ := hs.lies h1
  rw [hp] at h3
  simp only [Option.some.injEq, Prod.mk.injEq] at h3
  obtain ⟨rfl, rfl⟩ := h3
  have hlen := hl.cells.length
  have hvl := hv.length
  have hr := hroom (sz, (zs ++ rest).length) (by rw [h2]; rfl) rfl
  simp only at hr
  have hall : ys.all cellB = true := by
    clear hvl hroom hr
    induction hv with
    | nil => rfl
    | cons hx _ ih => simp [hx.not_agg.2, ih]
  have hrun := storeCells_run (P := P) (off := c.cs.length) ys (zs ++ rest) 0 w hl.heap hl.cold hall (by simpa using hr)
  simp only [Nat.add_zero] at hrun
  have hr2 : ys.length ≤ rest.length := by simp at hr; omega
  have e1 : (zs ++ rest).take c.cs.length ++ ys ++ (zs ++ rest).drop (c.cs.length + ys.length) = (zs ++ ys) ++ rest.drop ys.length := by
    rw [← hlen, List.take_append_of_le_length (by omega), List.take_of_length_le (by omega), List.drop_append, List.drop_of_length_le (by omega)]
    simp
  rw [e1] at hrun
  refine ⟨_, hrun, hs.put (obj_any h1) hp g1' ⟨rfl, ?_, ?_, zs ++ ys, rest.drop ys.length, rfl, hl.cells.append hv, fun hn => by rw [h2] at hn; cases hn⟩⟩
  · have e2 : (zs ++ ys ++ rest.drop ys.length).length = (zs ++ rest).length := by simp; omega
    show c.more.map (fun sz => (sz, (zs ++ rest).length)) = c.more.map (fun sz => (sz, (zs ++ ys ++ rest.drop ys.length).length))
    rw [e2]
  · intro i hi
    refine hl.cold i ?_
    simp at hi ⊢
    omega
theorem opStore_ok (hs : Sim lm p s w) (ht : TR p tm.t A.tmps) {t : TypeId} {a x : Operand} (ho : o.op = .store t a x) (h : opStore P tm s t a x = some (v, s')) : Gives P lm w (execOp A.eval o) p s v s' := by
  unfold opStore at h
  simp only [bnd_some, Option.some.injEq, Prod.mk.injEq] at h
  obtain ⟨⟨r, off⟩, ⟨av, h1, h2⟩, xv, h3, s2, h4, rfl, rfl⟩ := h
  unfold storeB at h4
  simp only [bnd_some, guard_some] at h4
  obtain ⟨n, h5, g1, g2, h6⟩ := h4
  obtain ⟨b, e, h7, h8⟩ := (opnd_ok hs.gr.glob ht h1).ptrOf h2
  have hc := (opnd_ok hs.gr.glob ht h3).cells g2
  obtain ⟨w', h9, h10, h11⟩ := hs.write (P := P) h6 h8 hc
  have g1' := Nat.eq_of_beq_eq_true g1
  have hsz : (A.eval x).cells.size = n := by
    have := hc.length
    simp only [Array.length_toList] at this g1'
    omega
  refine ⟨p, undef, w', .skip, ?_, .inr ⟨rfl, rfl⟩, h11, h10, flat_ur rfl⟩
  simp [execOp, ho, Instr.storeAt, h7, ptr, Instr.sureAddr, storeVar, sizeB_run h5, hsz, h9]

/-! ### len -/
theorem opLen_ok (hs : Sim lm p s w) (ht : TR p tm.t A.tmps) {args : Array Operand} {ts : Array TypeId} (ho : o.op = .call ⟨.builtin .len, args, ts⟩) (h : opLen P tm s o ts.toList args.toList = some (v, s')) : Gives P lm w (execOp A.eval o) p s v s' := by
  have hpure := fun h => opPure_ok (P := P) (s' := s') (v := v) hs ht (o := o) (by rw [ho]; intros; simp) h
  obtain ⟨args⟩ := args
  obtain ⟨ts⟩ := ts
  unfold opLen at h
  split at h
  · rename_i t x h1 h2
    simp only at h1 h2
    subst h1 h2
    simp only [bnd_some] at h
    obtain ⟨xv, h3, h⟩ := h
    have hx := opnd_ok hs.gr.glob ht h3
    split at h
    · rename_i a n c
      simp only [bnd_some, Option.some.injEq, Prod.mk.injEq] at h
      obtain ⟨e, h4, rfl, rfl⟩ := h
      have hu := sliceElem_spec h4
      obtain ⟨a', c', h5⟩ : ∃ a' c', A.eval x = .slice a' n c' := by
        generalize A.eval x = xv' at hx
        cases hx with
        | one h => cases h with
          | one h => cases h with
            | flat h => exact ⟨_, _, rfl⟩
            | slice _ _ _ => exact ⟨_, _, rfl⟩
            | nil => exact ⟨_, _, rfl⟩
            | mt => exact ⟨_, _, rfl⟩
      refine .same hs (v' := goInt n) ?_ (flat_ur rfl)
      simp [execOp, ho, resolve, invoke, builtin, Builtin.len_, under_run hu, h5]
    · rename_i m
      simp only [bnd_some, Option.some.injEq, Prod.mk.injEq] at h
      obtain ⟨kt, h4, es, h5, rfl, rfl⟩ := h
      have hu := mapTypes_spec h4
      refine .same hs (v' := goInt es.length) ?_ (flat_ur rfl)
      cases m with
      | none =>
        obtain ⟨_, h6⟩ := hx.mapNil rfl
        simp only [mapRead, Option.some.injEq] at h5
        subst h5
        simp [execOp, ho, resolve, invoke, builtin, Builtin.len_, under_run hu, h6]
      | some r =>
        obtain ⟨_, b, e, h6, h7⟩ := hx.mapOf rfl
        obtain ⟨_, es', clock, h8, h9⟩ := hs.map h5 h7
        have hlen := h9.length
        simp [execOp, ho, resolve, invoke, builtin, Builtin.len_, under_run hu, h6, getObj, Sem.run, h8, Result.andThen, hlen]
    · exact hpure h
  · simp at h

/-! ### append -/
/-- the cells of a slice's elements, or a string's bytes, as the model reads them -/
theorem firstB_run (hs : Sim lm p s w) {size n : Nat} {xv xv' : Value} {vs : List Value} (hx : UR p xv xv') (h : firstB s size n xv = some vs) (drawn : Nat) :
    ∃ ys, (Builtin.firstCells size n xv').run P { w with drawn := drawn } = .ok ⟨ys⟩ { w with drawn := drawn } ∧ LR (CR p) vs ys ∧ (∀ a l c, xv = .slice a l c → vs.length = n * size) := by
  unfold firstB at h
  split at h
  · rename_i b
    simp only [Option.some.injEq] at h
    subst h
    obtain ⟨_, h2⟩ := hx.strOf (b := b) rfl
    subst h2
    refine ⟨_, ?_, LR.refl fun x hx => ?_, fun a l c e => by cases e⟩
    · simp only [Builtin.firstCells, Sem.run_pure]
      congr 1
      apply Array.ext'
      simp
    · simp only [List.mem_map] at hx
      obtain ⟨y, _, rfl⟩ := hx
      exact .flat rfl
  · simp only [bnd_some] at h
    obtain ⟨⟨base, len, cap⟩, h1, h⟩ := h
    cases base with
    | none =>
      obtain ⟨rfl, h2⟩ := hx.sliceNil h1
      subst h2
      cases n with
      | zero =>
        simp only [Option.some.injEq] at h
        subst h
        exact ⟨[], by simp [Builtin.firstCells], .nil, fun _ _ _ _ => by simp⟩
      | succ n => simp at h
    | some a =>
      obtain ⟨r, off⟩ := a
      obtain ⟨rfl, b, e, c', rfl, h3, _, _⟩ := hx.sliceOf h1
      simp only [bnd_some] at h
      obtain ⟨c, h4, h5⟩ := h
      obtain ⟨b', ys, rest, fr, h6, hl⟩ := hs.lies h4
      rw [h3] at h6
      simp only [Option.some.injEq, Prod.mk.injEq] at h6
      obtain ⟨rfl, rfl⟩ := h6
      have hl' : Lies p { w with drawn := drawn } c b ys rest fr := ⟨hl.heap, hl.cold, hl.cells, hl.exact_⟩
      obtain ⟨h7, h8, h9⟩ := hl'.load (P := P) h5
      refine ⟨_, by simpa [Builtin.firstCells, aslice] using h7, h8, fun _ _ _ _ => ?_⟩
      rw [← h8.length]
      exact h9
theorem firstY_run (hs : Sim lm p s w) {size n : Nat} {xv xv' : Value} {vs : List Value} (hx : UR p xv xv') (h : firstY s size n xv = some vs) (drawn : Nat) :
    ∃ ys, (Builtin.firstCells size n xv').run P { w with drawn := drawn } = .ok ⟨ys⟩ { w with drawn := drawn } ∧ LR (CR p) vs ys ∧ (∀ a l c, xv = .slice a l c → vs.length = n * size) := by
  cases n with
  | succ n => exact firstB_run hs hx h drawn
  | zero =>
    simp only [firstY, bnd_some, Option.some.injEq] at h
    obtain ⟨l, h1, rfl⟩ := h
    refine ⟨[], ?_, .nil, fun _ _ _ _ => by simp⟩
    cases xv <;> simp only [lenB, reduceCtorEq] at h1
    · rename_i b
      obtain ⟨_, h2⟩ := hx.strOf (b := b) rfl
      subst h2
      simp [Builtin.firstCells]
    · cases hx with
      | one hv => cases hv with
        | one hc =>
          cases hc <;> try (simp [Builtin.firstCells, loadCells, loadCellsFrom, aslice]; done)
          rename_i a _ _ _
          cases a <;> simp [Builtin.firstCells, loadCells, loadCellsFrom]

theorem zeroCells_flat {z : Value} (n : Nat) : (Builtin.zeroCells z.cells n).size = n * z.cells.size := by simp [Builtin.zeroCells]
theorem nextslicecap_le (need old : Nat) (_h : old < need) : Builtin.nextslicecap need old ≤ 4 * need + 4000 := by
  unfold Builtin.nextslicecap
  split
  · omega
  · split
    · omega
    · simp only [Builtin.growBy]
      split
      · omega
      · split
        · omega
        · split
          · omega
          · split <;> omega
theorem cut_ge (need old e t : Nat) (_h : need ≤ 2 ^ 62) : need ≤ (Question.appendCap need old e).cut t := by
  simp [Question.cut]
theorem lenB_run {xv xv' : Value} {n : Nat} (hx : UR p xv xv') (h : lenB xv = some n) (w : World) : (Builtin.lenOf xv').run P w = .ok n w ∧ (∀ k m, xv' ≠ .int k m) := by
  unfold lenB at h
  split at h
  · simp only [Option.some.injEq] at h
    subst h
    cases hx with
    | one h => cases h with
      | one h => cases h with
        | flat h => exact ⟨by simp [Builtin.lenOf], by simp⟩
        | slice _ _ _ => exact ⟨by simp [Builtin.lenOf, aslice], by simp [aslice]⟩
        | nil => exact ⟨by simp [Builtin.lenOf], by simp⟩
        | mt => exact ⟨by simp [Builtin.lenOf, mtv], by simp [mtv]⟩
  · simp only [Option.some.injEq] at h
    subst h
    obtain ⟨_, rfl⟩ := hx.strOf rfl
    exact ⟨by simp [Builtin.lenOf], by simp⟩
  · simp at h

theorem LR.cellB {xs ys : List Value} (h : LR (CR p) xs ys) : ys.all Ev.cellB = true := by
  induction h with
  | nil => rfl
  | cons hx _ ih => simp [hx.not_agg.2, ih]

/-- append in place, as the model runs it -/
theorem append_in_run {t t2 ty elem : TypeId} {d2 : TypeDesc} {info : TypeInfo} (hu : P.underlying t = some (.slice elem)) (hi : P.info? elem = some info) (h2 : P.underlying t2 = some d2) (hd2 : (∃ e, d2 = .slice e) ∨ d2 = .string)
    {base : Option Addr} {len c n : Nat} {y : Value} {new : List Value} {w1 : World} (hn : (Builtin.lenOf y).run P w = .ok n w) (hfit : len + n ≤ c) (hnew : (Builtin.firstCells info.size n y).run P w = .ok ⟨new⟩ w)
    (hst : match base with | none => w1 = w | some a => (storeCells (a.add (len * info.size)) new 0).run P w = .ok () w1) :
    (Builtin.append_ #[t, t2] ty #[.slice base len c, y]).run P w = .ok (.slice base (len + n) c) w1 := by
  unfold Builtin.append_
  simp only [List.getElem?_toArray, List.getElem?_cons_zero, List.getElem?_cons_succ, Sem.run_bind, under_run hu, Result.andThen_ok, sizeOf, typeInfo, run_program, hi, Sem.run_pure]
  rcases hd2 with ⟨e, rfl⟩ | rfl
  all_goals
    simp only [under_run h2, Result.andThen_ok, Sem.run_pure, Bool.false_eq_true, if_false, hn, hfit, if_true, Bool.not_false, Sem.run_bind, hnew]
    cases base with
    | none => subst hst; simp
    | some a => simp [hst]
/-- append into a new block, as the model runs it -/
theorem append_out_run {t t2 ty elem : TypeId} {d2 : TypeDesc} {info : TypeInfo} (hu : P.underlying t = some (.slice elem)) (hi : P.info? elem = some info) (h2 : P.underlying t2 = some d2) (hd2 : (∃ e, d2 = .slice e) ∨ d2 = .string)
    {base : Option Addr} {len c n : Nat} {y z : Value} {old new : List Value} (hn : (Builtin.lenOf y).run P w = .ok n w) (hfit : ¬ len + n ≤ c) (hsmall : len + n ≤ 100000) (hby : info.bytes ≤ 1000)
    (hold : (Builtin.firstCells info.size len (.slice base len c)).run P w.drew = .ok ⟨old⟩ w.drew) (hnew : (Builtin.firstCells info.size n y).run P w.drew = .ok ⟨new⟩ w.drew) (hz : ∀ w : World, (zeroValue elem).run P w = .ok z w) :
    ∃ N, len + n ≤ N ∧ (Builtin.append_ #[t, t2] ty #[.slice base len c, y]).run P w = .ok (aslice w.heap.size 0 (len + n) N)
      (w.drew.alloc (.cells ⟨old ++ new ++ (Builtin.zeroCells z.cells (N - (len + n))).toList⟩ elem)) := by
  have hcap := nextslicecap_le (len + n) c (by omega)
  have hbig : ¬ (281474976710656 < Builtin.nextslicecap (len + n) c * info.bytes) := by
    have : Builtin.nextslicecap (len + n) c * info.bytes ≤ 404000 * 1000 := Nat.mul_le_mul (by omega) hby
    omega
  have h63 : ¬ (9223372036854775807 < ((len + n : Nat) : Int)) := by omega
  refine ⟨(Question.appendCap (len + n) c elem).cut (w.tape w.drawn (.appendCap (len + n) c elem)), cut_ge _ _ _ _ (by omega), ?_⟩
  unfold Builtin.append_
  simp only [List.getElem?_toArray, List.getElem?_cons_zero, List.getElem?_cons_succ, Sem.run_bind, under_run hu, Result.andThen_ok, sizeOf, typeInfo, run_program, hi, Sem.run_pure]
  rcases hd2 with ⟨e, rfl⟩ | rfl
  all_goals
    simp only [under_run h2, Result.andThen_ok, Bool.false_eq_true, if_false, hn, hfit, Bool.not_false, if_true, Sem.run_bind]
    have h63' : ¬ (9223372036854775807 < ((len : Int) + (n : Int))) := by omega
    simp [hi, hbig, h63', Question.forced, hold, hnew, hz, newRow, aslice]
    congr 2
    apply Array.ext'
    simp
theorem appendB_ok (hs : Sim lm p s w) (hm : s'.nx ≤ lm) {t t2 ty : TypeId} {d2 : TypeDesc} {x y x' y' : Value} (h2 : P.underlying t2 = some d2) (hd2 : (∃ e, d2 = .slice e) ∨ d2 = .string) (hx : UR p x x') (hy : UR p y y')
    (h : appendB P s t x y = some (v, s')) : ∃ p' v' w', (Builtin.append_ #[t, t2] ty #[x', y']).run P w = .ok v' w' ∧ Stp p s w p' s' w' ∧ Sim lm p' s' w' ∧ UR p' v v' := by
  unfold appendB at h
  simp only [bnd_some] at h
  obtain ⟨elem, h1, info, hi, ⟨base, len, cap⟩, h3, n, h4, new, h5, h⟩ := h
  have hu := sliceElem_spec h1
  obtain ⟨hlen, hnint⟩ := lenB_run (P := P) hy h4 w
  obtain ⟨ynew, hnew, hnl, hnlen⟩ := firstY_run (P := P) hs hy h5 w.drawn
  have hnew0 : (Builtin.firstCells info.size n y').run P w = .ok ⟨ynew⟩ w := hnew
  split at h
  · -- there is room
    rename_i hroom
    have hroom' := Nat.le_of_ble_eq_true hroom
    simp only [Nat.add_eq] at hroom'
    unfold appendIn at h
    cases base with
    | none =>
      obtain ⟨rfl, rfl⟩ := hx.sliceNil h3
      simp only [Option.some.injEq, Prod.mk.injEq] at h
      obtain ⟨rfl, rfl⟩ := h
      exact ⟨p, _, w, append_in_run hu hi h2 hd2 hlen hroom' hnew0 rfl, .refl _ _ _, hs, CR.ur .nil⟩
    | some a =>
      obtain ⟨r, off⟩ := a
      obtain ⟨rfl, b, e, c', rfl, h6, h7, h8⟩ := hx.sliceOf h3
      dsimp only at h
      split at h
      · rename_i s2 h9
        simp only [Option.some.injEq, Prod.mk.injEq] at h
        obtain ⟨rfl, rfl⟩ := h
        obtain ⟨w1, h10, h11, h12⟩ := hs.write (P := P) h9 h6 hnl
        exact ⟨p, _, w1, append_in_run hu hi h2 hd2 hlen (by omega) hnew0 (by simpa [add_plain] using h10), h12, h11, CR.ur (.slice h6 h7 h8)⟩
      · simp only [bnd_some, guard_some, Option.some.injEq, Prod.mk.injEq] at h
        obtain ⟨g0, s2, h9, rfl, rfl⟩ := h
        have g0' : new.length = n * info.size := Nat.eq_of_beq_eq_true g0
        have hyl := hnl.length
        obtain ⟨w1, h10, h11, h12⟩ := hs.extend (P := P) h9 h6 hnl (by
          rintro x rfl hx
          simp only [Room, hx] at h8
          have hb1 : (len + n) * info.size ≤ c' * info.size := Nat.mul_le_mul_right _ (by omega)
          rw [Nat.add_mul] at hb1
          simp only [Nat.add_eq, Nat.mul_eq]
          omega)
        exact ⟨p, _, w1, append_in_run hu hi h2 hd2 hlen (by omega) hnew0 (by simpa [add_plain] using h10), h12, h11, CR.ur (.slice h6 h7 h8)⟩
  · rename_i hroom
    have hroom' : ¬ len + n ≤ cap := fun hh => by
      have : Nat.ble (len + n) cap = true := Nat.ble_eq_true_of_le hh
      simp only [Nat.add_eq] at hroom
      rw [this] at hroom
      cases hroom
    simp only [bnd_some, guard_some] at h
    obtain ⟨g1, g2, g3, z, h6, g4, h⟩ := h
    have g1' : len + n ≤ 100000 := Nat.le_of_ble_eq_true g1
    have g2' := Nat.le_of_ble_eq_true g2
    have g3' : new.length = n * info.size := Nat.eq_of_beq_eq_true g3
    have g4' := Nat.eq_of_beq_eq_true g4
    obtain ⟨z, h7, rfl⟩ := zerosB_spec h6
    have hz := fun w => (zeroB_run h7 w).1
    have hzs : z.cells.size = info.size := by simpa using g4'
    unfold appendOut at h
    simp only [bnd_some] at h
    obtain ⟨old, h8, h⟩ := h
    obtain ⟨yold, hold, hol, holen⟩ := firstB_run (P := P) hs hx h8 (w.drawn + 1)
    obtain ⟨ynew', hnew1, hnl1, _⟩ := firstY_run (P := P) hs hy h5 (w.drawn + 1)
    -- what a new block means
    have grow : ∀ {base' : Option Addr} {c' : Nat} (s0 : S), Sim lm p s0 w → s0.nx < lm → x' = .slice base' len c' → ¬ len + n ≤ c' → (∃ a l c, x = .slice a l c) → ∃ p' v' w', (Builtin.append_ #[t, t2] ty #[x', y']).run P w = .ok v' w' ∧
        Stp p s0 w p' (s0.add (.cells ⟨old ++ new, elem, some info.size⟩)) w' ∧ Sim lm p' (s0.add (.cells ⟨old ++ new, elem, some info.size⟩)) w' ∧ UR p' (aslice s0.nx 0 (len + n) (len + n)) v' := by
      intro base' c' s0 hs0 hm0 e hn' ⟨a, l, c, ex⟩
      subst e
      obtain ⟨N, hN, hrun⟩ := append_out_run (ty := ty) hu hi h2 hd2 hlen hn' g1' g2' hold hnew1 hz
      have hs' := hs0.drawn (w.drawn + 1)
      obtain ⟨p', k1, k2, k3, k4⟩ := hs'.newCells hm0 (hol.append hnl1) elem (some info.size) (rest := (Builtin.zeroCells z.cells (N - (len + n))).toList) (fun e => by cases e) (0, 0) (cold00 _)
      refine ⟨p', _, _, hrun, (Stp.drawn p s0 w _).trans k4, k3, CR.ur (.slice k1 (by simpa using hN) ?_)⟩
      have e1 := holen a l c ex
      have e2 := hol.length
      have e3 := hnl1.length
      simp only [Option.map_some, Room, Nat.zero_add, List.length_append, Array.length_toList, zeroCells_flat, e2, e3, e1, g3', hzs]
      rw [← Nat.add_mul, ← Nat.add_mul]
      exact Nat.mul_le_mul_right _ (by omega)
    cases base with
    | none =>
      obtain ⟨rfl, rfl⟩ := hx.sliceNil h3
      simp only [Option.some.injEq, Prod.mk.injEq] at h
      obtain ⟨rfl, rfl⟩ := h
      have hold0 : old = [] := by
        unfold firstB at h8
        simp only [bnd_some] at h8
        obtain ⟨q, hq, h8⟩ := h8
        simp only [Ev.sliceOf, Option.some.injEq] at hq
        subst hq
        cases len with
        | zero => simpa using h8.symm
        | succ _ => simp at h8
      subst hold0
      exact grow s hs hm rfl hroom' ⟨_, _, _, rfl⟩
    | some a =>
      obtain ⟨r, off⟩ := a
      obtain ⟨rfl, b, e, c', rfl, k6, k7, k8⟩ := hx.sliceOf h3
      simp only [bnd_some] at h
      obtain ⟨c, k9, h⟩ := h
      obtain ⟨b', zs, rest, fr, k11, hl⟩ := hs.lies k9
      have k11' := k11
      rw [k6] at k11
      simp only [Option.some.injEq, Prod.mk.injEq] at k11
      obtain ⟨rfl, rfl⟩ := k11
      cases hmo : c.more with
      | none =>
        rw [hmo] at h k8
        simp only [Option.some.injEq, Prod.mk.injEq] at h
        obtain ⟨rfl, rfl⟩ := h
        have hcc : c' = cap := k8
        subst hcc
        exact grow s hs hm rfl hroom' ⟨_, _, _, rfl⟩
      | some sz =>
        rw [hmo] at h k8
        simp only [guard_some, Option.some.injEq, Prod.mk.injEq] at h
        obtain ⟨q1, q2, q3, q4, rfl, rfl⟩ := h
        have q1' := q1
        have q2' : off = 0 := Nat.eq_of_beq_eq_true q2
        have q3' := Nat.eq_of_beq_eq_true q3
        have q4' := Nat.eq_of_beq_eq_true q4
        subst q2' q3'
        simp only [Option.map_some, Room, Nat.zero_add] at k8
        by_cases hfit : len + n ≤ c'
        · -- in place, under a new name
          have hb1 : (len + n) * info.size ≤ c' * info.size := Nat.mul_le_mul_right _ hfit
          rw [Nat.add_mul] at hb1
          have hyl := hnl.length
          have hold2 : takeN (len * info.size) (c.cs.drop 0) = some old := by
            unfold firstB at h8
            simp only [aslice, bnd_some] at h8
            obtain ⟨q, hq, h8⟩ := h8
            simp only [Ev.sliceOf, Option.some.injEq] at hq
            subst hq
            simp only [bnd_some] at h8
            obtain ⟨c2, hc2, h8⟩ := h8
            rw [k9] at hc2
            simp only [Option.some.injEq] at hc2
            subst hc2
            exact h8
          obtain ⟨rfl, hol2⟩ := takeN_spec hold2
          simp only [List.drop_zero] at hol2
          have hzl := hl.cells.length
          have hst := storeCells_run (P := P) (off := 0 + len * info.size) ynew (zs ++ rest) 0 w hl.heap hl.cold hnl.cellB (by omega)
          simp only [Nat.add_zero, Nat.zero_add] at hst
          have hst' : (storeCells ((⟨b, 0, none⟩ : Addr).add (len * info.size)) ynew 0).run P w = .ok () (w.putObj b (.cells ⟨(zs ++ rest).take (len * info.size) ++ ynew ++ (zs ++ rest).drop (len * info.size + ynew.length)⟩ c.elem fr)) := by
            rw [add_plain, Nat.zero_add]
            exact hst
          have hrun := append_in_run (ty := ty) (base := some ⟨b, 0, none⟩) (len := len) (c := c') hu hi h2 hd2 hlen hfit hnew0 hst'
          have hN : ((zs ++ rest).take (len * info.size) ++ ynew ++ (zs ++ rest).drop (len * info.size + ynew.length)).length = (zs ++ rest).length := by
            simp only [List.length_append, List.length_take, List.length_drop]
            simp only [List.length_append] at k8
            omega
          have hle := hs.le_ext hm (b, some (info.size, (zs ++ rest).length))
          obtain ⟨j1, j2⟩ := hs.renew hm (obj_any k9) k6 q1' (o := .cells ⟨(c.cs.drop 0).take (len * info.size) ++ new, elem, some info.size⟩)
            (o' := .cells ⟨(zs ++ rest).take (len * info.size) ++ ynew ++ (zs ++ rest).drop (len * info.size + ynew.length)⟩ c.elem fr) (e' := some (info.size, (zs ++ rest).length))
            ⟨q4', by simp only [Option.map_some, List.size_toArray, hN], by simp only [List.size_toArray, hN]; exact hl.cold, (zs ++ rest).take (len * info.size) ++ ynew, (zs ++ rest).drop (len * info.size + ynew.length), rfl, by
              have e1 : (zs ++ rest).take (len * info.size) = zs.take (len * info.size) := by rw [List.take_append_of_le_length (by omega)]
              rw [e1]
              simp only [List.drop_zero]
              exact ((hl.cells.take _).append hnl).mono fun _ _ => CR.mono hle, fun e => by cases e⟩
          exact ⟨_, _, _, hrun, j2, j1, CR.ur (.slice (Pi.ext_self p s.nx (b, some (info.size, (zs ++ rest).length))) hfit (show 0 + c' * info.size ≤ (zs ++ rest).length by simpa using k8))⟩
        · -- a new block; the old one is given up
          obtain ⟨d1, d2'⟩ := hs.drop (obj_any k9)
          obtain ⟨p', v', w', j1, j2, j3, j4⟩ := grow (s.put r none) d1 hm rfl hfit ⟨_, _, _, rfl⟩
          exact ⟨p', v', w', j1, d2'.trans j2, j3, j4⟩
theorem zeroCells_repN (z : Value) (n : Nat) : Builtin.zeroCells z.cells n = ⟨repN z.cells.toList n⟩ := by
  apply Array.ext_getElem?
  intro i
  simp only [Builtin.zeroCells, List.getElem?_toArray]
  by_cases hi : i < n * z.cells.size
  · have hpos : 0 < z.cells.size := by
      rcases Nat.eq_zero_or_pos z.cells.size with h | h
      · rw [h] at hi; omega
      · exact h
    rw [repN_get _ _ _ (by simpa using hi)]
    have hm := Nat.mod_lt i hpos
    simp [hi, hm]
  · rw [List.getElem?_eq_none (by rw [repN_length]; simpa using Nat.le_of_not_lt hi)]
    simp [hi]
theorem append_nil_run {t t2 ty elem : TypeId} {ki : IntKind} {info : TypeInfo} (hu : P.underlying t = some (.slice elem)) (hi : P.info? elem = some info) (h2 : P.underlying t2 = some (.int ki))
    {z : Value} {k : IntKind} {l : Int} (h0 : 0 < l) (hl : l.toNat ≤ 100000) (hby : info.bytes ≤ 1000) (hz : ∀ w : World, (zeroValue elem).run P w = .ok z w) (hzs : z.cells.size = info.size) :
    ∃ N, l.toNat ≤ N ∧ (Builtin.append_ #[t, t2] ty #[.slice none 0 0, .int k l]).run P w = .ok (aslice w.heap.size 0 l.toNat N)
      (w.drew.alloc (.cells ⟨repN z.cells.toList l.toNat ++ (Builtin.zeroCells z.cells (N - l.toNat)).toList⟩ elem)) := by
  have hcap := nextslicecap_le (0 + l.toNat) 0 (by omega)
  have hbig : ¬ (281474976710656 < Builtin.nextslicecap (0 + l.toNat) 0 * info.bytes) := by
    have : Builtin.nextslicecap (0 + l.toNat) 0 * info.bytes ≤ 404000 * 1000 := Nat.mul_le_mul (by omega) hby
    omega
  have hw : IntKind.i64.wrap l = l := by rw [IntKind.wrap_i64]; omega
  have hb : ¬ (281474976710656 < l * info.bytes) := by
    have h1 : l * (info.bytes : Int) ≤ 100000 * 1000 := Int.mul_le_mul (by omega) (by omega) (by omega) (by omega)
    omega
  refine ⟨(Question.appendCap (0 + l.toNat) 0 elem).cut (w.tape w.drawn (.appendCap (0 + l.toNat) 0 elem)), by simpa using cut_ge (0 + l.toNat) 0 elem _ (by omega), ?_⟩
  unfold Builtin.append_
  have hfit : ¬ (0 + l.toNat ≤ 0) := by omega
  have h63' : ¬ (9223372036854775807 < ((0 + l.toNat : Nat) : Int)) := by omega
  have hneg : ¬ l < 0 := by omega
  simp only [List.getElem?_toArray, List.getElem?_cons_zero, List.getElem?_cons_succ, Sem.run_bind, under_run hu, Result.andThen_ok, sizeOf, typeInfo, run_program, hi, Sem.run_pure, under_run h2, if_true, asInt, hw]
  simp only [asIntOf, Sem.run_pure, Result.andThen_ok, hw, hneg, if_false, Sem.run_bind, run_program, hi]
  have hb' : ¬ (l * (info.bytes : Int) > 2 ^ 48) := by simpa using hb
  have hbig' : ¬ (Builtin.nextslicecap (0 + l.toNat) 0 * info.bytes > 2 ^ 48) := by simpa using hbig
  have h63'' : ¬ (((0 + l.toNat : Nat) : Int) > IntKind.i64.max ∧ (True ∨ info.bytes = 0)) := by
    rintro ⟨h1, _⟩
    have : IntKind.i64.max = 9223372036854775807 := by decide
    omega
  have hz0 : ¬ (l.toNat * info.size = 0) ∨ repN z.cells.toList l.toNat = [] := by
    rcases Nat.eq_zero_or_pos (l.toNat * info.size) with h | h
    · exact .inr (List.eq_nil_of_length_eq_zero (by rw [repN_length]; simpa [hzs] using h))
    · exact .inl (by omega)
  simp only [hb', if_false, Sem.run_bind, Sem.run_pure, Result.andThen_ok, hfit, run_program, hi, h63'', hbig']
  simp [Question.forced, hz, newRow, aslice, Builtin.firstCells]
  split
  · rename_i h
    rcases hz0 with h' | h'
    · exact absurd h h'
    · rw [h']; rfl
  · rw [zeroCells_repN]
    congr 3
    apply Array.ext'
    simp
theorem opAppend_ok (hs : Sim lm p s w) (hm : s'.nx ≤ lm) (ht : TR p tm.t A.tmps) {args : Array Operand} {ts : Array TypeId} (ho : o.op = .call ⟨.builtin .append, args, ts⟩) (h : opAppend P tm s ts.toList args.toList = some (v, s')) : Gives P lm w (execOp A.eval o) p s v s' := by
  obtain ⟨args⟩ := args
  obtain ⟨ts⟩ := ts
  unfold opAppend at h
  split at h
  · rename_i t t2 x y h1 h2
    simp only at h1 h2
    subst h1 h2
    simp only [bnd_some] at h
    obtain ⟨d, h3, h⟩ := h
    have key : ∀ xv yv, opnd tm x = some xv → opnd tm y = some yv → ((∃ e, d = .slice e) ∨ d = .string) → appendB P s t xv yv = some (v, s') → Gives P lm w (execOp A.eval o) p s v s' := by
      intro xv yv h4 h5 h6 h7
      obtain ⟨p', v', w', k1, k2, k3, k4⟩ := appendB_ok (ty := o.type) hs hm h3 h6 (opnd_ok hs.gr.glob ht h4) (opnd_ok hs.gr.glob ht h5) h7
      refine ⟨p', v', w', _, ?_, .inl rfl, k2, k3, k4⟩
      simp [execOp, ho, resolve, invoke, builtin, k1]
    split at h
    · simp only [bnd_some] at h
      obtain ⟨xv, h4, yv, h5, h⟩ := h
      exact key xv yv h4 h5 (.inl ⟨_, rfl⟩) h
    · simp only [bnd_some] at h
      obtain ⟨xv, h4, yv, h5, h⟩ := h
      exact key xv yv h4 h5 (.inr rfl) h
    · simp only [bnd_some] at h
      obtain ⟨xv, h4, l, ⟨yv, h5, h6⟩, h⟩ := h
      split at h
      · rename_i h7
        obtain ⟨rfl, hx⟩ := (opnd_ok hs.gr.glob ht h4).sliceNil h7
        obtain ⟨k, hy⟩ := (opnd_ok hs.gr.glob ht h5).intAt h6
        unfold appendNil at h
        simp only [bnd_some, guard_some, Option.some.injEq, Prod.mk.injEq, decide_eq_true_eq] at h
        obtain ⟨elem, k1, info, hi, g0, g1, g2, zs, k3, g4, rfl, rfl⟩ := h
        obtain ⟨z, k4, rfl⟩ := zerosB_spec k3
        have hz := fun w => (zeroB_run k4 w).1
        have hzf := (zeroB_run k4 w).2
        have hzs : z.cells.size = info.size := by simpa using Nat.eq_of_beq_eq_true g4
        obtain ⟨N, hN, hrun⟩ := append_nil_run (P := P) (w := w) (ty := o.type) (k := k) (sliceElem_spec k1) hi h3 g0 (Nat.le_of_ble_eq_true g1) (Nat.le_of_ble_eq_true g2) hz hzs
        obtain ⟨p', q1, q2, q3, q4⟩ := (hs.drawn (w.drawn + 1)).newCells hm (repN_flat (p := p) hzf l.toNat) elem (some info.size) (rest := (Builtin.zeroCells z.cells (N - l.toNat)).toList) (fun e => by cases e) (0, 0) (cold00 _)
        refine ⟨p', _, _, _, ?_, .inl rfl, (Stp.drawn p s w _).trans q4, q3, CR.ur (.slice q1 hN ?_)⟩
        · simp [execOp, ho, resolve, invoke, builtin, hx, hy, hrun]
        · simp only [Option.map_some, Room, Nat.zero_add, List.length_append, Array.length_toList, zeroCells_flat, repN_length, hzs]
          rw [← Nat.add_mul]
          exact Nat.mul_le_mul_right _ (by omega)
      · cases h
    · simp at h
  · simp at h
/-- copy, as the model runs it -/
theorem copy_run {t t2 ty elem : TypeId} {info : TypeInfo} (hu : P.underlying t = some (.slice elem)) (hi : P.info? elem = some info)
    {base : Option Addr} {len c n : Nat} {y : Value} {new : List Value} {w1 : World} (hn : (Builtin.lenOf y).run P w = .ok n w) (hnew : (Builtin.firstCells info.size (Nat.min n len) y).run P w = .ok ⟨new⟩ w)
    (hst : match base with | none => w1 = w | some a => (storeCells a new 0).run P w = .ok () w1) :
    (Builtin.copy_ #[t, t2] ty #[.slice base len c, y]).run P w = .ok (goInt (Int.ofNat (Nat.min n len))) w1 := by
  unfold Builtin.copy_
  simp only [List.getElem?_toArray, List.getElem?_cons_zero, List.getElem?_cons_succ, Sem.run_bind, under_run hu, Result.andThen_ok, sizeOf, typeInfo, run_program, hi, Sem.run_pure, hn, hnew]
  cases base with
  | none => subst hst; simp
  | some a => simp [hst]
theorem opCopy_ok (hs : Sim lm p s w) (ht : TR p tm.t A.tmps) {args : Array Operand} {ts : Array TypeId} (ho : o.op = .call ⟨.builtin .copy, args, ts⟩) (h : opCopy P tm s ts.toList args.toList = some (v, s')) : Gives P lm w (execOp A.eval o) p s v s' := by
  obtain ⟨args⟩ := args
  obtain ⟨ts⟩ := ts
  unfold opCopy at h
  split at h
  · rename_i t t2 x y h1 h2
    simp only at h1 h2
    subst h1 h2
    simp only [bnd_some] at h
    obtain ⟨xv, h4, yv, h5, h⟩ := h
    have hx := opnd_ok hs.gr.glob ht h4
    have hy := opnd_ok hs.gr.glob ht h5
    unfold copyB at h
    simp only [bnd_some] at h
    obtain ⟨elem, k1, info, hi, ⟨base, len, cap⟩, h3, n, k4, new, k5, h⟩ := h
    have hu := sliceElem_spec k1
    obtain ⟨hlen, hnint⟩ := lenB_run (P := P) hy k4 w
    obtain ⟨ynew, hnew, hnl, hnlen⟩ := firstB_run (P := P) hs hy k5 w.drawn
    have hnew0 : (Builtin.firstCells info.size (Nat.min n len) (A.eval y)).run P w = .ok ⟨ynew⟩ w := hnew
    cases base with
    | none =>
      obtain ⟨rfl, hxe⟩ := hx.sliceNil h3
      simp only [Option.some.injEq, Prod.mk.injEq] at h
      obtain ⟨rfl, rfl⟩ := h
      have k1 := copy_run (t2 := t2) (ty := o.type) (w1 := w) hu hi (base := none) (c := cap) hlen hnew0 rfl
      refine ⟨p, _, w, _, ?_, .inl rfl, .refl _ _ _, hs, CR.ur (.flat rfl)⟩
      simp [execOp, ho, resolve, invoke, builtin, hxe, k1]
    | some a =>
      obtain ⟨r, off⟩ := a
      obtain ⟨rfl, b, e, c', hxe, h6, h7, h8⟩ := hx.sliceOf h3
      simp only [bnd_some, Option.some.injEq, Prod.mk.injEq] at h
      obtain ⟨s2, h9, rfl, rfl⟩ := h
      obtain ⟨w1, h10, h11, h12⟩ := hs.write (P := P) h9 h6 hnl
      have k1 := copy_run (t2 := t2) (ty := o.type) (w1 := w1) hu hi (base := some ⟨b, off, none⟩) (c := c') hlen hnew0 (by simpa using h10)
      refine ⟨p, _, w1, _, ?_, .inl rfl, h12, h11, CR.ur (.flat rfl)⟩
      simp [execOp, ho, resolve, invoke, builtin, hxe, aslice, k1]
  · cases h
/-! ### []byte of a string -/
theorem bytesWorld_alloc (w : World) (e : TypeId) (b : ByteArray) : Lib.bytesWorld w e b = w.drew.alloc (.cells (Lib.bytesCells w e b) e ((Lib.bytesCells w e b).size, (Lib.bytesCells w e b).size + 1)) := by
  unfold Lib.bytesWorld
  simp only [World.freeze, World.alloc, World.drew, Nat.succ_ne_zero, if_false]
  congr 1
  apply Array.ext
  · simp
  · intro i h1 h2
    simp only [Array.size_modify, Array.size_push] at h1
    rw [Array.getElem_modify]
    by_cases hi : w.heap.size = i
    · subst hi
      simp
    · rw [if_neg hi, Array.getElem_push_lt (by omega), Array.getElem_push_lt (by omega)]
/-- bytes -/
theorem byteOf_spec {v : Value} {b : UInt8} (h : byteOf v = some b) : v = .int .u8 b.toNat := by
  unfold byteOf at h
  split at h
  · rename_i n
    simp only [guard_some, Option.some.injEq, decide_eq_true_eq] at h
    obtain ⟨h1, rfl⟩ := h
    rw [show ((UInt8.ofNat n.toNat).toNat : Int) = n from h1]
  · cases h
theorem bytes_spec : ∀ {vs : List Value} {l : List UInt8}, optMap byteOf vs = some l → vs = Lib.byteCells l
  | [], l, h => by simp only [optMap, Option.some.injEq] at h; subst h; rfl
  | v :: vs, l, h => by
    simp only [optMap, bnd_some, Option.some.injEq] at h
    obtain ⟨b, h1, l', h2, rfl⟩ := h
    rw [byteOf_spec h1, bytes_spec h2]
    rfl
theorem bytes_lr {l : List UInt8} {ys : List Value} (h : LR (CR p) (Lib.byteCells l) ys) : ys = Lib.byteCells l := by
  induction l generalizing ys with
  | nil => cases h; rfl
  | cons b l ih =>
    cases h with
    | cons hx hr =>
      rw [ih hr]
      cases hx with
      | flat h => rfl
theorem fold_push : ∀ (l : List UInt8) (acc : ByteArray), (l.map fun b => (b.toNat : Int)).foldl (fun r n => r.push (UInt8.ofNat n.toNat)) acc = ⟨acc.data ++ l.toArray⟩
  | [], acc => by simp
  | b :: l, acc => by
    simp only [List.map_cons, List.foldl_cons]
    rw [fold_push l]
    apply ByteArray.ext
    simp [ByteArray.push]
/-- the real value of a slice is one of the same length -/
theorem UR.sliceLen {a : Option Addr} {n c : Nat} {v' : Value} (h : UR p (.slice a n c) v') : ∃ a' c', v' = .slice a' n c' := by
  cases h with
  | one h => cases h with
    | one h => cases h with
      | flat h => exact ⟨_, _, rfl⟩
      | slice _ _ _ => exact ⟨_, _, rfl⟩
      | nil => exact ⟨_, _, rfl⟩
      | mt => exact ⟨_, _, rfl⟩
theorem sliceOf_slice {v : Value} {q : Option (Nat × Nat) × Nat × Nat} (h : Ev.sliceOf v = some q) : ∃ a, v = .slice a q.2.1 q.2.2 := by
  unfold Ev.sliceOf at h
  split at h <;> simp at h
  · subst h; exact ⟨_, rfl⟩
  · subst h; exact ⟨_, rfl⟩
theorem opBytesStr_ok (hs : Sim lm p s w) (ht : TR p tm.t A.tmps) {src dst e : TypeId} {x : Operand} (ho : o.op = .convert src dst x) (hsrc : P.underlying src = some (.slice e)) (he : P.underlying e = some (.int .u8)) (hdst : P.underlying dst = some .string)
    (h : opBytesStr tm s x = some (v, s')) : Gives P lm w (execOp A.eval o) p s v s' := by
  unfold opBytesStr at h
  simp only [bnd_some, Option.some.injEq, Prod.mk.injEq] at h
  obtain ⟨v0, h1, ⟨base, n, c⟩, h2, vs, h3, l, h4, rfl, rfl⟩ := h
  have hx := opnd_ok hs.gr.glob ht h1
  simp only at h3
  obtain ⟨ys, hrun, hl, _⟩ := firstY_run (P := P) hs hx h3 w.drawn
  have hrun : (Builtin.firstCells 1 n (A.eval x)).run P w = .ok ⟨ys⟩ w := hrun
  obtain rfl := bytes_spec h4
  obtain rfl := bytes_lr hl
  obtain ⟨a, rfl⟩ := sliceOf_slice h2
  obtain ⟨a', c', hv⟩ := hx.sliceLen
  simp only at hv
  rw [hv] at hrun
  refine .same hs (v' := .string ⟨⟨l⟩⟩) ?_ (flat_ur rfl)
  have hcv := run_convert_bytes_string (P := P) w src dst e a' n c' hsrc he hdst
  have hb : (Conv.bytesToString (.slice a' n c')).run P w = .ok (.string ⟨⟨l⟩⟩) w := by
    cases a' with
    | none =>
      have hl0 : l = [] := by
        simp only [Builtin.firstCells, Sem.run_pure, Result.ok.injEq] at hrun
        have := hrun.1
        cases l with
        | nil => rfl
        | cons b l => simp [Lib.byteCells] at this
      subst hl0
      rfl
    | some a' =>
      simp only [Builtin.firstCells, Nat.mul_one] at hrun
      have := run_bytesToString (P := P) w a' n c' (l.map fun b => (b.toNat : Int)) (by rw [hrun]; simp [Lib.byteCells, Function.comp_def])
      rw [this, fold_push]
      simp
  simp [execOp, ho, hv, hcv, hb]
theorem opToUnsafe_ok (hs : Sim lm p s w) (ht : TR p tm.t A.tmps) {src dst t : TypeId} {x : Operand} (ho : o.op = .convert src dst x) (hsrc : P.underlying src = some (.pointer t)) (hdst : P.underlying dst = some .unsafePointer)
    (h : opToUnsafe P tm s t x = some (v, s')) : Gives P lm w (execOp A.eval o) p s v s' := by
  unfold opToUnsafe at h
  simp only [bnd_some, guard_some, Option.some.injEq, Prod.mk.injEq] at h
  obtain ⟨v0, h1, ⟨r, off⟩, h2, c, h3, n, h4, g1, g2, rfl, rfl⟩ := h
  have hx := opnd_ok hs.gr.glob ht h1
  obtain ⟨b, e, hv, hp⟩ := hx.ptrOf h2
  obtain ⟨b', ys, rest, fr, h5, hl⟩ := hs.lies h3
  rw [hp] at h5
  simp only [Option.some.injEq, Prod.mk.injEq] at h5
  obtain ⟨rfl, rfl⟩ := h5
  unfold sizeB at h4
  simp only [bnd_some, Option.some.injEq] at h4
  obtain ⟨j, h6, rfl⟩ := h4
  have g1' : off < c.cs.length := by simpa [Nat.blt_eq] using g1
  have g2' : j.size ≠ 0 := by
    intro h0
    simp [h0] at g2
  have hlen := hl.cells.length
  have hrun := Lib.run_to_unsafe (P := P) w (src := src) (dst := dst) ⟨b, off, none⟩ hsrc hdst h6 g2' (e := c.elem) (cells := (ys ++ rest).length) (by simp [World.shape?, hl.heap]) (by simp; omega)
  simp only [ptr] at hv
  refine .same hs (v' := ptr b off) ?_ (by rw [hv] at hx; exact hx)
  simp [execOp, ho, hv, hrun, ptr]
theorem opFromUnsafe_ok (hs : Sim lm p s w) (ht : TR p tm.t A.tmps) {src dst u : TypeId} {x : Operand} (ho : o.op = .convert src dst x) (hsrc : P.underlying src = some .unsafePointer) (hdst : P.underlying dst = some (.pointer u))
    (h : opFromUnsafe P tm s u x = some (v, s')) : Gives P lm w (execOp A.eval o) p s v s' := by
  unfold opFromUnsafe at h
  simp only [bnd_some, guard_some, Option.some.injEq, Prod.mk.injEq] at h
  obtain ⟨v0, h1, ⟨r, off⟩, h2, c, h3, n, h4, g1, g2, rfl, rfl⟩ := h
  have hx := opnd_ok hs.gr.glob ht h1
  obtain ⟨b, e, hv, hp⟩ := hx.ptrOf h2
  obtain ⟨b', ys, rest, fr, h5, hl⟩ := hs.lies h3
  rw [hp] at h5
  simp only [Option.some.injEq, Prod.mk.injEq] at h5
  obtain ⟨rfl, rfl⟩ := h5
  unfold sizeB at h4
  simp only [bnd_some, Option.some.injEq] at h4
  obtain ⟨j, h6, rfl⟩ := h4
  have hrest : rest = [] := hl.exact_ (by simpa using g1)
  subst hrest
  have hlen := hl.cells.length
  have hrun := Lib.run_from_unsafe (P := P) w (src := src) (dst := dst) ⟨b, off, none⟩ hsrc hdst h6 (e := c.elem) (cells := c.cs.length) (by simp [World.shape?, hl.heap, hlen]) (show _ from g2)
  simp only [ptr] at hv
  refine .same hs (v' := ptr b off) ?_ (by rw [hv] at hx; exact hx)
  simp [execOp, ho, hv, hrun, ptr]
/-! ### cap, and the bytes of a string that has been built -/
theorem opCap_ok (hs : Sim lm p s w) (ht : TR p tm.t A.tmps) {args : Array Operand} {ts : Array TypeId} (ho : o.op = .call ⟨.builtin .cap, args, ts⟩) (h : opCap P tm s ts.toList args.toList = some (v, s')) : Gives P lm w (execOp A.eval o) p s v s' := by
  obtain ⟨args⟩ := args
  obtain ⟨ts⟩ := ts
  unfold opCap at h
  split at h
  · rename_i t x h1 h2
    simp only at h1 h2
    subst h1 h2
    simp only [bnd_some] at h
    obtain ⟨xv, h3, e, h4, ⟨base, n, c⟩, h5, h⟩ := h
    have hx := opnd_ok hs.gr.glob ht h3
    have hu := sliceElem_spec h4
    cases base with
    | none =>
      obtain ⟨rfl, h6⟩ := hx.sliceNil h5
      simp only [Option.some.injEq, Prod.mk.injEq] at h
      obtain ⟨rfl, rfl⟩ := h
      refine .same hs (v' := goInt c) ?_ (flat_ur rfl)
      simp [execOp, ho, resolve, invoke, builtin, Builtin.cap_, under_run hu, h6]
    | some a =>
      obtain ⟨r, off⟩ := a
      obtain ⟨rfl, b, ex, c', h6, h7, h8, h9⟩ := hx.sliceOf h5
      simp only [bnd_some, guard_some, Option.some.injEq, Prod.mk.injEq] at h
      obtain ⟨c0, h10, g1, rfl, rfl⟩ := h
      obtain ⟨b', ys, rest, fr, h11, hl⟩ := hs.lies h10
      rw [h7] at h11
      simp only [Option.some.injEq, Prod.mk.injEq] at h11
      obtain ⟨rfl, rfl⟩ := h11
      have hmo : c0.more = none := by simpa using g1
      rw [hmo] at h9
      have hcc : c' = c := h9
      subst hcc
      refine .same hs (v' := goInt c') ?_ (flat_ur rfl)
      simp [execOp, ho, resolve, invoke, builtin, Builtin.cap_, under_run hu, h6, aslice]
  · simp at h
theorem opSliceData_ok (hs : Sim lm p s w) (ht : TR p tm.t A.tmps) {args : Array Operand} {ts : Array TypeId} (ho : o.op = .call ⟨.builtin .unsafeSliceData, args, ts⟩) (h : opSliceData tm s args.toList = some (v, s')) : Gives P lm w (execOp A.eval o) p s v s' := by
  obtain ⟨args⟩ := args
  unfold opSliceData at h
  split at h
  · rename_i x h1
    simp only at h1
    subst h1
    simp only [bnd_some] at h
    obtain ⟨xv, h3, ⟨base, n, c⟩, h5, h⟩ := h
    have hx := opnd_ok hs.gr.glob ht h3
    cases base with
    | none =>
      obtain ⟨rfl, h6⟩ := hx.sliceNil h5
      simp only [Option.some.injEq, Prod.mk.injEq] at h
      obtain ⟨rfl, rfl⟩ := h
      refine .same hs (v' := .pointer none) ?_ (flat_ur rfl)
      simp [execOp, ho, resolve, invoke, builtin, h6, Lib.run_unsafeSliceData_nil]
    | some a =>
      obtain ⟨r, off⟩ := a
      obtain ⟨rfl, b, ex, c', h6, h7, h8, h9⟩ := hx.sliceOf h5
      simp only [guard_some, Option.some.injEq, Prod.mk.injEq] at h
      obtain ⟨g1, rfl, rfl⟩ := h
      have hc0 : c ≠ 0 := by
        rintro rfl
        simp at g1
      refine .same hs (v' := ptr b off) ?_ (CR.ur (.ptr h7))
      have hrun := fun ts ty => Lib.run_unsafeSliceData_row (P := P) w ts ty ⟨b, off, none⟩ n c' (by omega)
      simp [execOp, ho, resolve, invoke, builtin, h6, aslice, hrun, ptr]
  · simp at h
theorem freeze_put {w : World} {g n : Nat} {cs : Array Value} {t : TypeId} {fr : Nat × Nat} (hn : n ≠ 0) (h : w.heap[g]? = some (.cells cs t fr)) :
    w.freeze ⟨g, 0, none⟩ n = w.putObj g (.cells cs t (if fr.1 == fr.2 then (0, 0 + n) else (min fr.1 0, max fr.2 (0 + n)))) := by
  unfold World.freeze World.putObj
  rw [if_neg hn]
  have hlt : g < w.heap.size := (Array.getElem?_eq_some_iff.1 h).1
  have hg := (Array.getElem?_eq_some_iff.1 h).2
  congr 1
  apply Array.ext_getElem?
  intro i
  rw [Array.getElem?_modify, Array.getElem?_setIfInBounds]
  by_cases hi : g = i
  · subst hi
    rw [if_pos rfl, if_pos rfl, if_pos hlt, h]
    rfl
  · rw [if_neg hi, if_neg hi]
theorem opUnsafeStr_ok (hs : Sim lm p s w) (ht : TR p tm.t A.tmps) {args : Array Operand} {ts : Array TypeId} (ho : o.op = .call ⟨.builtin .unsafeString, args, ts⟩) (h : opUnsafeStr P tm s ts.toList args.toList = some (v, s')) : Gives P lm w (execOp A.eval o) p s v s' := by
  obtain ⟨args⟩ := args
  obtain ⟨ts⟩ := ts
  unfold opUnsafeStr at h
  split at h
  · rename_i pt it x y h1 h2
    simp only at h1 h2
    subst h1 h2
    simp only [bnd_some] at h
    obtain ⟨xv, h3, yv, h4, h⟩ := h
    have hx := opnd_ok hs.gr.glob ht h3
    have hy := opnd_ok hs.gr.glob ht h4
    split at h
    · rename_i i
      have hyv : A.eval y = .int .i64 i := hy.eq_of_flat rfl
      split at h
      · split at h
        · simp only [Option.some.injEq, Prod.mk.injEq] at h
          obtain ⟨rfl, rfl⟩ := h
          obtain ⟨q, hq⟩ : ∃ q, A.eval x = .pointer q := by
            generalize A.eval x = xv' at hx
            cases hx with
            | one h => cases h with
              | one h => cases h with
                | flat h => exact ⟨_, rfl⟩
                | ptr h => exact ⟨_, rfl⟩
          refine .same hs (v' := .string ⟨⟨[]⟩⟩) ?_ (flat_ur rfl)
          have hrun := fun ty => Lib.run_unsafeString_none (P := P) w pt it ty q
          have hyv' : A.eval y = .int .i64 0 := hyv
          simp [execOp, ho, resolve, invoke, builtin, hq, hyv', hrun]
          rfl
        · cases h
      · rename_i n
        simp only [bnd_some, guard_some] at h
        obtain ⟨⟨r, off⟩, h5, g1, g2, c, h6, d, h7, h⟩ := h
        split at h
        · rename_i e
          simp only [bnd_some, guard_some, Option.some.injEq, Prod.mk.injEq] at h
          obtain ⟨g3, g4, g5, vs, h8, l, h9, rfl, rfl⟩ := h
          have g2' := g2
          have g1' : off = 0 := Nat.eq_of_beq_eq_true g1
          have g3' : c.elem = e := Nat.eq_of_beq_eq_true g3
          have g4' : P.cellsOf e = 1 := Nat.eq_of_beq_eq_true g4
          have g5' : n + 1 ≤ 100000 := Nat.le_of_ble_eq_true g5
          subst g1'
          obtain ⟨b, ex, hv, hp⟩ := hx.ptrOf h5
          obtain ⟨b', ys, rest, fr, h10, hl⟩ := hs.lies h6
          rw [hp] at h10
          simp only [Option.some.injEq, Prod.mk.injEq] at h10
          obtain ⟨rfl, rfl⟩ := h10
          obtain ⟨_, hlr, hln⟩ := hl.load (P := P) (off := 0) (n := n + 1) (vs := vs) (by simpa using h8)
          obtain rfl := bytes_spec h9
          have hys := bytes_lr hlr
          simp only [List.drop_zero] at hys hln
          have hll : l.length = n + 1 := by
            rw [hys] at hln
            simpa [Lib.byteCells] using hln
          have hcell : ∀ j z, l[j]? = some z → w.cell? ((⟨b, 0, none⟩ : Addr).add j) = some (.int .u8 z.toNat) := by
            intro j z hz
            have hj : j < n + 1 := by
              rw [← hll]
              exact (List.getElem?_eq_some_iff.1 hz).1
            rw [add_plain, hl.cell, Nat.zero_add]
            have h12 : (ys.take (n + 1))[j]? = some (.int .u8 z.toNat) := by
              rw [hys]
              simp [Lib.byteCells, hz]
            rw [List.getElem?_take, if_pos hj] at h12
            rw [List.getElem?_append_left ((List.getElem?_eq_some_iff.1 h12).1)]
            exact h12
          have hlen2 : l.length ≤ (ys ++ rest).length := by
            have : (ys.take (n + 1)).length ≤ ys.length := by simp; omega
            rw [hln] at this
            simp; omega
          have hrun := fun ty => Lib.run_unsafeString_row (P := P) w pt it ty e h7 g4' b (ys ++ rest).length (by simp [World.shape?, hl.heap, g3']) l (by intro h0; subst h0; simp at hll) hlen2 (by omega) hcell
          rw [hll] at hrun
          have hyv' : A.eval y = .int .i64 ((n + 1 : Nat) : Int) := hyv
          have hfz := freeze_put (n := n + 1) (by omega) hl.heap
          obtain ⟨k1, k2⟩ := hs.kill (.cells ⟨ys ++ rest⟩ c.elem (if fr.1 == fr.2 then (0, 0 + (n + 1)) else (min fr.1 0, max fr.2 (0 + (n + 1))))) (obj_any h6) hp g2'
          refine ⟨p, .string ⟨⟨l⟩⟩, _, _, ?_, .inl rfl, k2, k1, flat_ur rfl⟩
          simp only [ptr] at hv
          rw [← hfz]
          simp only [execOp, ho, resolve, invoke, builtin]
          simp [hv, hyv']
          have := hrun
          simp at this
          simp [this]
        · simp at h
      · cases h
    · cases h
  · simp at h
theorem opConvert_ok (hs : Sim lm p s w) (hm : s'.nx ≤ lm) (ht : TR p tm.t A.tmps) {src dst : TypeId} {x : Operand} (ho : o.op = .convert src dst x) (h : opConvert P tm s o src dst x = some (v, s')) : Gives P lm w (execOp A.eval o) p s v s' := by
  unfold opConvert at h
  split at h
  · rename_i e hd
    simp only [bnd_some, guard_some, Option.some.injEq, Prod.mk.injEq] at h
    obtain ⟨v0, h1, b, h2, u, h3, g1, rfl, rfl⟩ := h
    obtain ⟨hv, hx⟩ := (opnd_ok hs.gr.glob ht h1).strOf h2
    have he : P.underlying e = some (.int .u8) := by
      unfold isU8 at g1
      split at g1
      · assumption
      · cases g1
    have hrun := Lib.run_convert_string_bytes (P := P) w src dst e b h3 hd he
    rw [bytesWorld_alloc] at hrun
    have hl : LR (CR p) (b.data.toList.map fun c => Value.int .u8 c.toNat) (b.data.toList.map fun c => Value.int .u8 c.toNat) := LR.refl fun y hy => by
      obtain ⟨c, _, rfl⟩ := List.mem_map.1 hy
      exact .flat rfl
    have ecs : Lib.bytesCells w e b = ⟨(b.data.toList.map fun c => Value.int .u8 c.toNat) ++ List.replicate (grownCap w b.size 0 e - b.size) (.int .u8 0)⟩ := by
      unfold Lib.bytesCells
      apply Array.ext'
      simp
    have hcap : b.size ≤ grownCap w b.size 0 e := grownCap_ge w b.size 0 e
    obtain ⟨p', q1, q2, q3, q4⟩ := (hs.drawn (w.drawn + 1)).newCells hm hl e (some 1) (rest := List.replicate (grownCap w b.size 0 e - b.size) (Value.int .u8 0)) (fun e => by cases e)
      (((b.data.toList.map fun (c : UInt8) => Value.int .u8 c.toNat) ++ List.replicate (grownCap w b.size 0 e - b.size) (Value.int .u8 0)).length, ((b.data.toList.map fun (c : UInt8) => Value.int .u8 c.toNat) ++ List.replicate (grownCap w b.size 0 e - b.size) (Value.int .u8 0)).length + 1)
      (fun i hi => by
        rw [decide_eq_false (by simp only []; omega)]
        rfl)
    rw [ecs] at hrun
    refine ⟨p', _, _, _, ?_, .inl rfl, (Stp.drawn p s w _).trans q4, q3, CR.ur (.slice q1 hcap ?_)⟩
    · simp [execOp, ho, hx, hrun, aslice]
    · simp only [Option.map_some, Room, Nat.zero_add, List.length_append, List.length_map, List.length_replicate]
      have : b.data.toList.length = b.size := Array.length_toList
      omega
  · rename_i hd
    split at h
    · rename_i e hsrc
      simp only [guard_some] at h
      obtain ⟨g1, h⟩ := h
      have he : P.underlying e = some (.int .u8) := by
        unfold isU8 at g1
        split at g1
        · assumption
        · cases g1
      exact opBytesStr_ok hs ht ho hsrc he hd h
    · exact opPure_ok hs ht (fun cs b e => by rw [ho] at e; cases e) h
  · rename_i hd
    split at h
    · rename_i t hsrc
      exact opToUnsafe_ok hs ht ho hsrc hd h
    · exact opPure_ok hs ht (fun cs b e => by rw [ho] at e; cases e) h
  · rename_i u hd
    split at h
    · rename_i hsrc
      exact opFromUnsafe_ok hs ht ho hsrc hd h
    · exact opPure_ok hs ht (fun cs b e => by rw [ho] at e; cases e) h
  · exact opPure_ok hs ht (fun cs b e => by rw [ho] at e; cases e) h
end Go.Ev
