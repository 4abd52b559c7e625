/- Operations that make objects. -/
import Derived.Test.YtnihclhhbegjhaaGreatDoorEvRead
import Derived.Laws.MakeOwn
import Derived.MapKept
import Derived.Laws.Tables
set_option linter.unusedSectionVars false
set_option linter.unusedSimpArgs false
set_option linter.unusedVariables false
namespace Go.Ev
variable [Ground]
variable {lm : Nat} {P : Program} {p : Pi} {s s' : S} {w : World} {tm : Ctx} {A : Act} {v : Value} {o : Oper}

theorem flat2_cells {z : Value} (h : flat2 z = true) : LR (CR p) z.cells.toList z.cells.toList := by
  unfold flat2 at h
  split at h
  · rename_i cs
    obtain ⟨cs⟩ := cs
    exact LR.refl fun x hx => .flat (by simp [Value.cells] at h hx; exact h x hx)
  · rename_i hne
    have e : z.cells = #[z] := by cases z <;> simp_all [Value.cells]
    rw [e]
    exact .cons (.flat h) .nil
theorem zerosB_spec {t : TypeId} {cs : List Value} (h : zerosB P t = some cs) : ∃ z, zeroB P t = some z ∧ cs = z.cells.toList := by
  unfold zerosB at h
  simp only [bnd_some, Option.some.injEq] at h
  obtain ⟨z, hz, rfl⟩ := h
  exact ⟨z, hz, rfl⟩
/-- new cells -/
theorem Sim.newCells (hs : Sim lm p s w) (hm : s.nx < lm) {cs ys rest : List Value} (hl : LR (CR p) cs ys) (t : TypeId) (ex : Option Nat) (hex : ex = none → rest = []) (fr : Nat × Nat)
    (hfr : ∀ i, i < (ys ++ rest).length → (decide (fr.1 ≤ i) && decide (i < fr.2)) = false) :
    ∃ p', p' s.nx = some (w.heap.size, ex.map fun sz => (sz, (ys ++ rest).length)) ∧ p.le p' ∧ Sim lm p' (s.add (.cells ⟨cs, t, ex⟩)) (w.alloc (.cells ⟨ys ++ rest⟩ t fr)) ∧ Stp p s w p' (s.add (.cells ⟨cs, t, ex⟩)) (w.alloc (.cells ⟨ys ++ rest⟩ t fr)) := by
  have hle := hs.le_ext hm (w.heap.size, ex.map fun sz => (sz, (ys ++ rest).length))
  obtain ⟨h1, h2⟩ := hs.alloc hm (o := .cells ⟨cs, t, ex⟩) (o' := .cells ⟨ys ++ rest⟩ t fr) (e := ex.map fun sz => (sz, (ys ++ rest).length))
    ⟨rfl, rfl, by simpa using hfr, ys, rest, rfl, hl.mono fun _ _ => CR.mono hle, hex⟩
  exact ⟨_, by simp [Pi.ext], hle, h1, h2⟩
theorem cold00 (n : Nat) : ∀ i, i < n → (decide (((0, 0) : Nat × Nat).1 ≤ i) && decide (i < ((0, 0) : Nat × Nat).2)) = false := by
  intro i _
  simp
theorem Gives.newCells (hs : Sim lm p s w) (hlm : s.nx < lm) {m : Sem Next} {cs ys : List Value} (hl : LR (CR p) cs ys) (t : TypeId)
    (hm : m.run P w = .ok (.value (ptr w.heap.size 0)) (w.alloc (.cells ⟨ys⟩ t))) : Gives P lm w m p s (s.new ⟨cs, t, none⟩).1 (s.new ⟨cs, t, none⟩).2 := by
  obtain ⟨p', h1, h2, h3, h4⟩ := hs.newCells hlm (rest := []) hl t none (fun _ => rfl) (0, 0) (cold00 _)
  rw [List.append_nil] at h3 h4
  exact ⟨p', _, _, _, hm, .inl rfl, h4, h3, CR.ur (.ptr h1)⟩
theorem Gives.newSlice (hs : Sim lm p s w) (hlm : s.nx < lm) {m : Sem Next} {cs ys : List Value} (hl : LR (CR p) cs ys) (t : TypeId) {n c : Nat}
    (hm : m.run P w = .ok (.value (aslice w.heap.size 0 n c)) (w.alloc (.cells ⟨ys⟩ t))) : Gives P lm w m p s (aslice s.nx 0 n c) (s.add (.cells ⟨cs, t, none⟩)) := by
  obtain ⟨p', h1, h2, h3, h4⟩ := hs.newCells hlm (rest := []) hl t none (fun _ => rfl) (0, 0) (cold00 _)
  rw [List.append_nil] at h3 h4
  exact ⟨p', _, _, _, hm, .inl rfl, h4, h3, CR.ur (.slice h1 (Nat.le_refl _) rfl)⟩
theorem opAlloc_ok (hs : Sim lm p s w) (hm : s'.nx ≤ lm) {elem : TypeId} (ho : o.op = .alloc elem) (h : opAlloc P s elem = some (v, s')) : Gives P lm w (execOp A.eval o) p s v s' := by
  unfold opAlloc at h
  simp only [bnd_some, Option.some.injEq] at h
  obtain ⟨cs, h1, h⟩ := h
  obtain ⟨z, h2, rfl⟩ := zerosB_spec h1
  obtain ⟨h3, h4⟩ := zeroB_run h2 w
  obtain ⟨rfl, rfl⟩ : v = (s.new ⟨z.cells.toList, elem, none⟩).1 ∧ s' = (s.new ⟨z.cells.toList, elem, none⟩).2 := by rw [h]; exact ⟨rfl, rfl⟩
  refine .newCells hs hm (flat2_cells h4) elem ?_
  simp [execOp, ho, Instr.alloc, h3, newVar, newRow, ptr]
theorem opBox_ok (hs : Sim lm p s w) (hm : s'.nx ≤ lm) (ht : TR p tm.t A.tmps) {elem : TypeId} {x : Operand} (ho : o.op = .box elem x) (h : opBox tm s elem x = some (v, s')) : Gives P lm w (execOp A.eval o) p s v s' := by
  unfold opBox at h
  simp only [bnd_some, guard_some, Option.some.injEq] at h
  obtain ⟨z, h1, h2, h⟩ := h
  obtain ⟨rfl, rfl⟩ : v = (s.new ⟨z.cells.toList, elem, none⟩).1 ∧ s' = (s.new ⟨z.cells.toList, elem, none⟩).2 := by rw [h]; exact ⟨rfl, rfl⟩
  refine .newCells hs hm ((opnd_ok hs.gr.glob ht h1).cells h2) elem ?_
  simp [execOp, ho, Instr.box, newVar, newRow, ptr]
theorem repN_length {α : Type} (xs : List α) (n : Nat) : (repN xs n).length = n * xs.length := by
  induction n with
  | zero => simp [repN]
  | succ n ih => simp [repN, ih, Nat.succ_mul]; omega
theorem repN_get {α : Type} (xs : List α) : ∀ (n i : Nat), i < n * xs.length → (repN xs n)[i]? = xs[i % xs.length]?
  | 0, i, h => by omega
  | n + 1, i, h => by
    rw [repN]
    by_cases hi : i < xs.length
    · rw [List.getElem?_append_left hi, Nat.mod_eq_of_lt hi]
    · rw [List.getElem?_append_right (by omega), repN_get xs n _ (by rw [Nat.succ_mul] at h; omega)]
      rw [Nat.mod_eq_sub_mod (a := i) (by omega)]
theorem madeCells_repN (z : Value) (n : Nat) : madeCells z.cells (n * z.cells.size) = ⟨repN z.cells.toList n⟩ := by
  apply Array.ext_getElem?
  intro i
  simp only [madeCells, List.getElem?_toArray]
  by_cases hi : i < n * z.cells.size
  · have hpos : 0 < z.cells.size := by
      rcases Nat.eq_zero_or_pos z.cells.size with h | h
      · rw [h] at hi; omega
      · exact h
    rw [repN_get _ _ _ (by simpa using hi)]
    simp [hi, Nat.mod_lt _ hpos]
  · rw [List.getElem?_eq_none (by rw [repN_length]; simpa using Nat.le_of_not_lt hi)]
    simp [hi]
theorem repN_flat {z : Value} (h : flat2 z = true) : ∀ n, LR (CR p) (repN z.cells.toList n) (repN z.cells.toList n)
  | 0 => .nil
  | n + 1 => (flat2_cells h).append (repN_flat h n)
theorem opMakeSlice_ok (hs : Sim lm p s w) (hm : s'.nx ≤ lm) (ht : TR p tm.t A.tmps) {t : TypeId} {l c : Operand} (ho : o.op = .makeSlice t l c) (h : opMakeSlice P tm s t l c = some (v, s')) : Gives P lm w (execOp A.eval o) p s v s' := by
  unfold opMakeSlice at h
  simp only [bnd_some, guard_some, Option.some.injEq, Prod.mk.injEq, decide_eq_true_eq] at h
  obtain ⟨e, h1, info, h2, zero, h3, ln, ⟨lv, h4, h5⟩, cn, ⟨cv, h6, h7⟩, g1, g2, g3, g4, g5, rfl, rfl⟩ := h
  obtain ⟨z, h8, rfl⟩ := zerosB_spec h3
  obtain ⟨h9, h10⟩ := zeroB_run h8 w
  obtain ⟨kl, hl⟩ := (opnd_ok hs.gr.glob ht h4).intAt h5
  obtain ⟨kc, hc⟩ := (opnd_ok hs.gr.glob ht h6).intAt h7
  have hz : info.zero = some z := by
    unfold zeroB at h8
    rw [h2] at h8
    simp only [bnd_some, guard_some, Option.some.injEq] at h8
    obtain ⟨i, rfl, z', hz, _, rfl⟩ := h8
    exact hz
  have g4' := Nat.le_of_ble_eq_true g4
  have g5' := Nat.eq_of_beq_eq_true g5
  have hsz : info.size = z.cells.size := by simpa using g5'.symm
  have hb : (info.bytes : Int) * cn ≤ 281474976710656 := by
    have : (info.bytes : Int) ≤ 1000 := by omega
    have h0 : (0 : Int) ≤ cn := by omega
    calc (info.bytes : Int) * cn ≤ 1000 * cn := Int.mul_le_mul_of_nonneg_right this h0
      _ ≤ 1000 * 100000 := by omega
      _ ≤ 281474976710656 := by omega
  have hrun := run_make (P := P) w t e info z (sliceElem_spec h1) h2 hz kl kc ln cn g1 g2 hb (by omega)
  rw [hsz, madeCells_repN] at hrun
  refine .newSlice hs hm (repN_flat h10 _) e ?_
  simp [execOp, ho, hl, hc, hrun, aslice]

/-! ### parts laid into cells -/
theorem foldl_set (vs : List Value) : ∀ (k off : Nat) (cells : List Value), off + k + vs.length ≤ cells.length →
    (vs.zipIdx k).foldl (fun (cs : Array Value) (x : Value × Nat) => cs.setIfInBounds (off + x.2) x.1) ⟨cells⟩ = ⟨cells.take (off + k) ++ vs ++ cells.drop (off + k + vs.length)⟩ := by
  induction vs with
  | nil => intro k off cells h; simp
  | cons x vs ih =>
    intro k off cells h
    simp only [List.length_cons] at h
    simp only [List.zipIdx_cons, List.foldl_cons]
    rw [show (Array.setIfInBounds ⟨cells⟩ (off + k) x) = ⟨cells.set (off + k) x⟩ by simp]
    rw [ih (k + 1) off (cells.set (off + k) x) (by simp; omega)]
    congr 1
    rw [show off + (k + 1) = off + k + 1 by omega, List.take_set, List.drop_set_of_lt (by omega)]
    rw [List.take_succ_eq_append_getElem (by omega)]
    simp only [List.length_cons]
    rw [show off + k + 1 + vs.length = off + k + (vs.length + 1) by omega]
    rw [List.set_append_right _ _ (by simp; omega)]
    simp [show off + k - min (off + k) cells.length = 0 by omega]
theorem fill_ok {place : Nat → Option (Nat × Nat)} : ∀ {ps : List (Nat × Value)} {ps' : List (Nat × Value)} {cells cells' cs : List Value},
    LR (fun (x y : Nat × Value) => y.1 = x.1 ∧ UR p x.2 y.2) ps ps' → LR (CR p) cells cells' → fillB place cells ps = some cs →
    ∃ cs', Instr.fill place ⟨cells'⟩ ps' = some ⟨cs'⟩ ∧ LR (CR p) cs cs'
  | _, _, cells, cells', cs, .nil, hc, h => by
    simp only [fillB, Option.some.injEq] at h
    subst h
    exact ⟨cells', rfl, hc⟩
  | (i, v) :: ps, (i', v') :: ps', cells, cells', cs, .cons hx hr, hc, h => by
    obtain ⟨rfl, hv⟩ := hx
    simp only [fillB, bnd_some, guard_some] at h
    obtain ⟨⟨off, size⟩, h1, h2, h3, q, h4, h⟩ := h
    have h5 := hv.cells h3
    have h2' := Nat.eq_of_beq_eq_true h2
    obtain ⟨rfl, h6⟩ := putN_spec h4
    have hlen := h5.length
    have hclen := hc.length
    simp only [Array.length_toList] at hlen h2' h6
    have hf := foldl_set v'.cells.toList 0 off cells' (by simp; omega)
    simp only [Nat.add_zero, Array.length_toList] at hf
    have hq : LR (CR p) (cells.take off ++ v.cells.toList ++ cells.drop (off + v.cells.size)) (cells'.take off ++ v'.cells.toList ++ cells'.drop (off + v'.cells.size)) := by
      rw [hlen]
      exact ((hc.take _).append h5).append (hc.drop _)
    obtain ⟨cs', h7, h8⟩ := fill_ok hr hq (by simpa using h)
    refine ⟨cs', ?_, h8⟩
    unfold Instr.fill
    simp only [h1]
    rw [if_neg]
    · have e : (v'.cells.zipIdx.foldl (fun cs (x : Value × Nat) => cs.setIfInBounds (off + x.2) x.1) ⟨cells'⟩ : Array Value) = ⟨cells'.take off ++ v'.cells.toList ++ cells'.drop (off + v'.cells.size)⟩ := by
        rw [← hf, ← Array.foldl_toList, Array.toList_zipIdx]
      exact (congrArg (fun x => Instr.fill place x ps') e).trans h7
    · simp
      omega
theorem partsB_ok (hg : Glob p) (ht : TR p tm.t A.tmps) : ∀ {ps : List (Nat × Operand)} {vs : List (Nat × Value)}, partsB tm ps = some vs →
    LR (fun (x y : Nat × Value) => y.1 = x.1 ∧ UR p x.2 y.2) vs (ps.map fun x => (x.1, A.eval x.2))
  | [], vs, h => by simp [partsB] at h; subst h; exact .nil
  | (i, x) :: ps, vs, h => by
    simp only [partsB, bnd_some, Option.some.injEq] at h
    obtain ⟨v, h1, vs', h2, rfl⟩ := h
    exact .cons ⟨rfl, opnd_ok hg ht h1⟩ (partsB_ok hg ht h2)
theorem opBuildSlice_ok (hs : Sim lm p s w) (hm : s'.nx ≤ lm) (ht : TR p tm.t A.tmps) {t : TypeId} {len : Nat} {parts : Array (Nat × Operand)} (ho : o.op = .buildSlice t len parts) (h : opBuildSlice P tm s t len parts.toList = some (v, s')) : Gives P lm w (execOp A.eval o) p s v s' := by
  unfold opBuildSlice at h
  simp only [bnd_some, guard_some, Option.some.injEq, Prod.mk.injEq] at h
  obtain ⟨e, h1, size, h2, zero, h3, ps, h4, g1, g2, cs, h5, rfl, rfl⟩ := h
  obtain ⟨z, h8, rfl⟩ := zerosB_spec h3
  obtain ⟨h9, h10⟩ := zeroB_run h8 w
  have g1' := Nat.le_of_ble_eq_true g1
  have g2' : z.cells.size = size := by simpa using Nat.eq_of_beq_eq_true g2
  subst g2'
  obtain ⟨cs', h6, h7⟩ := fill_ok (partsB_ok hs.gr.glob ht h4) (repN_flat (p := p) h10 len) h5
  have hu := sliceElem_spec h1
  simp only [Nat.mul_eq] at g1' h6
  have hz : (if len * z.cells.size = 0 then (#[] : Array Value) else z.cells) = z.cells ∨ len * z.cells.size = 0 := by
    by_cases h : len * z.cells.size = 0
    · exact .inr h
    · exact .inl (if_neg h)
  have hmade := madeCells_repN z len
  unfold madeCells at hmade
  refine .newSlice hs hm h7 e ?_
  have hbig : ¬ (2 ^ 24 < len * z.cells.size) := by
    have : (2 : Nat) ^ 24 = 16777216 := rfl
    omega
  simp only [execOp, ho, Instr.buildSlice, under_run hu, sizeB_run h2, Sem.run_bind, Result.andThen_ok]
  by_cases h0 : len * z.cells.size = 0
  · have hnil : repN z.cells.toList len = [] := List.eq_nil_of_length_eq_zero (by rw [repN_length]; simpa using h0)
    rw [hnil] at h6
    have hr : ∀ f : Nat → Value, Array.map f (Array.range 0) = ⟨[]⟩ := fun _ => Array.eq_empty_of_size_eq_zero (by simp)
    simp [h0, hr, h6, newRow, aslice]
  · simp [hbig, h0, h9, hmade, h6, newRow, aslice]
theorem places_ok : ∀ {fs : List Field}, (fs.all fun f => (sizeB P f.type).isSome) = true →
    ∃ places, fs.mapM (fun f => (P.info? f.type).map fun i => (f.offset, i.size)) = some places ∧ ∀ i : Nat, places[i]? = placesB P fs i
  | [], _ => ⟨[], rfl, fun i => by simp [placesB, Option.bnd]⟩
  | f :: fs, h => by
    simp only [List.all_cons, Bool.and_eq_true] at h
    obtain ⟨places, h1, h2⟩ := places_ok h.2
    obtain ⟨n, hn⟩ := Option.isSome_iff_exists.1 h.1
    have hn' := hn
    unfold sizeB at hn
    simp only [bnd_some, Option.some.injEq] at hn
    obtain ⟨i, hi, rfl⟩ := hn
    refine ⟨(f.offset, i.size) :: places, by simp [List.mapM_cons, hi, h1], fun k => ?_⟩
    cases k with
    | zero => simp [placesB, Option.bnd, hn']
    | succ k => simpa [placesB, Option.bnd] using h2 k
theorem opBuild_ok (hs : Sim lm p s w) (ht : TR p tm.t A.tmps) {t : TypeId} {parts : Array (Nat × Operand)} (ho : o.op = .build t parts) (h : opBuild P tm s t parts.toList = some (v, s')) : Gives P lm w (execOp A.eval o) p s v s' := by
  unfold opBuild at h
  simp only [bnd_some] at h
  obtain ⟨zero, h1, d, h2, h⟩ := h
  obtain ⟨z, h8, rfl⟩ := zerosB_spec h1
  obtain ⟨h9, h10⟩ := zeroB_run h8 w
  split at h
  · rename_i fs
    unfold opBuildStruct at h
    simp only [bnd_some, guard_some, Option.some.injEq, Prod.mk.injEq] at h
    obtain ⟨h3, ps, h4, cs, h5, rfl, rfl⟩ := h
    obtain ⟨cs', h6, h7⟩ := fill_ok (partsB_ok hs.gr.glob ht h4) (flat2_cells (p := p) h10) h5
    refine .same hs (v' := .agg ⟨cs'⟩) ?_ (.one (.agg h7))
    obtain ⟨places, g1, g2⟩ := places_ok h3
    have g3 : (fun i : Nat => places.toArray[i]?) = placesB P fs.toList := funext fun i => by simpa using g2 i
    have h8' := h8
    unfold zeroB at h8'
    simp only [bnd_some, guard_some, Option.some.injEq] at h8'
    obtain ⟨it, hit, z', hz, _, rfl⟩ := h8'
    have hb : P.built t (parts.toList.map fun x => (x.1, A.eval x.2)) = some ⟨cs'⟩ := by
      simp only [Program.built, hit, h2, hz, g1]
      rw [g3]
      exact h6
    have := run_build (P := P) w t (parts.map fun x => (x.1, A.eval x.2)) ⟨cs'⟩ (by simpa using hb)
    simp [execOp, ho, this]
  · unfold opBuildArray at h
    simp only [bnd_some, Option.some.injEq, Prod.mk.injEq] at h
    obtain ⟨n, h3, ps, h4, cs, h5, rfl, rfl⟩ := h
    obtain ⟨cs', h6, h7⟩ := fill_ok (partsB_ok hs.gr.glob ht h4) (flat2_cells (p := p) h10) h5
    refine .same hs (v' := .agg ⟨cs'⟩) ?_ (.one (.agg h7))
    simp only [Nat.mul_eq] at h6
    simp [execOp, ho, Instr.build, h9, under_run h2, sizeB_run h3, h6]
  · simp at h
end Go.Ev
