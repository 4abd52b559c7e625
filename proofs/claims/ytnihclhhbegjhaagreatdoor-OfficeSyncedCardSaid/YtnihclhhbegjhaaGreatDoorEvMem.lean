/- The relation between the small machine's memory and the model's: objects, and what a step does. -/
import Derived.Test.YtnihclhhbegjhaaGreatDoorEvSim
import Derived.Below
set_option linter.unusedSectionVars false
set_option linter.unusedSimpArgs false
set_option linter.unusedVariables false
namespace Go.Ev

def TR (p : Pi) (t : Tr Value) (tmps : Array Value) : Prop := ∀ i v, t.get i = some v → ∃ v', tmps[i]? = some v' ∧ UR p v v'
theorem TR.mono {p q : Pi} {t : Tr Value} {tmps : Array Value} (hl : p.le q) (h : TR p t tmps) : TR q t tmps := fun i v hv =>
  let ⟨v', h1, h2⟩ := h i v hv; ⟨v', h1, h2.mono hl⟩

/-- the object o' has what is known of o -/
def OC (p : Pi) (o : OV) (o' : Obj) (e : Ex) : Prop := match o, o' with
  | .cells c, .cells cs' t fr => t = c.elem ∧ e = c.more.map (fun sz => (sz, cs'.size)) ∧ (∀ i, i < cs'.size → (decide (fr.1 ≤ i) && decide (i < fr.2)) = false) ∧
      ∃ ys rest, cs'.toList = ys ++ rest ∧ LR (CR p) c.cs ys ∧ (c.more = none → rest = [])
  | .iter s pos, .stringIter s' pos' => s' = s ∧ pos' = pos
  | .map es, .map es' _ => LR (fun (kv : Value × Value) (x : MapEntry) => x.key = kv.1 ∧ VR p kv.2 x.val) es es'.toList
  | .loop st pd tm n ps as bd, .loop r => r.state = st ∧ r.pending = pd ∧ r.params.toList = ps ∧ r.assign = as ∧ r.body = bd ∧ r.tmps.size = n ∧ TR p tm r.tmps
  | .mark, .deferred (some []) => True
  | _, _ => False
theorem OC.mono {p q : Pi} {o : OV} {o' : Obj} {e : Ex} (hl : p.le q) (h : OC p o o' e) : OC q o o' e := by
  unfold OC at *
  split at h
  · obtain ⟨h1, h2, h3, ys, rest, h4, h5, h6⟩ := h
    exact ⟨h1, h2, h3, ys, rest, h4, h5.mono fun _ _ => CR.mono hl, h6⟩
  · exact h
  · exact h.mono fun _ _ ⟨h1, h2⟩ => ⟨h1, h2.mono hl⟩
  · obtain ⟨h1, h2, h3, h4, h5, h6, h7⟩ := h
    exact ⟨h1, h2, h3, h4, h5, h6, h7.mono hl⟩
  · trivial
  · exact h.elim

/-- names are given out from s.nx on, and stay below lm -/
structure Sim0 (lm : Nat) (p : Pi) (s : S) (w : World) : Prop where
  dom : ∀ r x, p r = some x → r < s.nx ∨ lm ≤ r
  top : ∀ r, s.nx ≤ r → s.h.get r = none
  ban : ∀ r, banned s.ban r = true → r < s.nx
  low : s.lock ≤ s.nx
  obj : ∀ r o, s.any r = some o → ∃ b e o', p r = some (b, e) ∧ w.heap[b]? = some o' ∧ OC p o o' e
  inj : ∀ r r' b e e', (s.any r).isSome = true → (s.any r').isSome = true → p r = some (b, e) → p r' = some (b, e') → r = r'

theorem Sim0.blk {lm : Nat} {p : Pi} {s : S} {w : World} (h : Sim0 lm p s w) (r b : Nat) (e : Ex) (hr : (s.any r).isSome = true) (hp : p r = some (b, e)) : b < w.heap.size := by
  obtain ⟨o, ho⟩ := Option.isSome_iff_exists.1 hr
  obtain ⟨b', e', o', h1, h2, _⟩ := h.obj r o ho
  rw [hp] at h1
  simp only [Option.some.injEq, Prod.mk.injEq] at h1
  obtain ⟨rfl, rfl⟩ := h1
  exact (Array.getElem?_eq_some_iff.1 h2).1
theorem wr_congr {s s' : S} (h : s'.lock = s.lock) (k : s'.ext = s.ext) (r : Nat) : s'.wr r = s.wr r := by
  unfold S.wr
  rw [h, k]
structure Stp (p : Pi) (s : S) (w : World) (p' : Pi) (s' : S) (w' : World) : Prop where
  le : p.le p'
  new : ∀ r x, p' r = some x → p r = some x ∨ (s.nx ≤ r ∧ r < s'.nx)
  nx : s.nx ≤ s'.nx
  lock : s'.lock = s.lock
  ext : s'.ext = s.ext
  size : w.heap.size ≤ w'.heap.size
  os : w'.os = w.os
  tape : w'.tape = w.tape
  output : w'.output = w.output
  keep : ∀ b, b < w.heap.size → w'.heap[b]? = w.heap[b]? ∨ ∃ r e, s.wr r = true ∧ (s.any r).isSome = true ∧ p r = some (b, e)
  born : ∀ r b e, (s'.any r).isSome = true → p' r = some (b, e) → ((s.any r).isSome = true ∧ p r = some (b, e)) ∨
    (s.nx ≤ r ∧ (w.heap.size ≤ b ∨ ∃ r0 e0, s.wr r0 = true ∧ (s.any r0).isSome = true ∧ p r0 = some (b, e0)))

section
variable {lm : Nat} {p p' p'' : Pi} {s s' s'' : S} {w w' w'' : World}
theorem Stp.refl (p : Pi) (s : S) (w : World) : Stp p s w p s w where
  le := p.le_refl
  new := fun _ _ h => .inl h
  nx := Nat.le_refl _
  lock := rfl
  ext := rfl
  size := Nat.le_refl _
  os := rfl
  tape := rfl
  output := rfl
  keep := fun _ _ => .inl rfl
  born := fun _ _ _ h1 h2 => .inl ⟨h1, h2⟩
theorem Stp.trans (h : Stp p s w p' s' w') (k : Stp p' s' w' p'' s'' w'') : Stp p s w p'' s'' w'' where
  le := Pi.le_trans h.le k.le
  new := fun r x hx => by
    rcases k.new r x hx with h1 | ⟨h1, h2⟩
    · rcases h.new r x h1 with h3 | ⟨h3, h4⟩
      · exact .inl h3
      · exact .inr ⟨h3, Nat.lt_of_lt_of_le h4 k.nx⟩
    · exact .inr ⟨Nat.le_trans h.nx h1, h2⟩
  nx := Nat.le_trans h.nx k.nx
  lock := k.lock.trans h.lock
  ext := k.ext.trans h.ext
  size := Nat.le_trans h.size k.size
  os := k.os.trans h.os
  tape := k.tape.trans h.tape
  output := k.output.trans h.output
  keep := fun b hb => by
    rcases k.keep b (Nat.lt_of_lt_of_le hb h.size) with h1 | ⟨r, e, h1, h2, h3⟩
    · rcases h.keep b hb with h4 | h4
      · exact .inl (h1.trans h4)
      · exact .inr h4
    · rcases h.born r b e h2 h3 with ⟨h4, h5⟩ | ⟨_, h4 | ⟨r0, e0, h4, h5, h6⟩⟩
      · exact .inr ⟨r, e, by rw [← wr_congr h.lock h.ext]; exact h1, h4, h5⟩
      · omega
      · exact .inr ⟨r0, e0, h4, h5, h6⟩
  born := fun r b e h1 h2 => by
    rcases k.born r b e h1 h2 with ⟨h3, h4⟩ | ⟨h3, h4 | ⟨r0, e0, h4, h5, h6⟩⟩
    · exact h.born r b e h3 h4
    · exact .inr ⟨Nat.le_trans h.nx h3, .inl (Nat.le_trans h.size h4)⟩
    · refine .inr ⟨Nat.le_trans h.nx h3, ?_⟩
      rcases h.born r0 b e0 h5 h6 with ⟨h7, h8⟩ | ⟨_, h7⟩
      · exact .inr ⟨r0, e0, by rw [← wr_congr h.lock h.ext]; exact h4, h7, h8⟩
      · exact h7

def Pi.ext (p : Pi) (n : Nat) (x : Nat × Ex) : Pi := fun r => if r = n then some x else p r
theorem Pi.ext_self (p : Pi) (n : Nat) (x : Nat × Ex) : p.ext n x n = some x := if_pos rfl
theorem Sim0.fresh (h : Sim0 lm p s w) (hm : s.nx < lm) : p s.nx = none := by
  cases hp : p s.nx with
  | none => rfl
  | some x => exact absurd (h.dom _ _ hp) (by omega)
theorem Sim0.le_ext (h : Sim0 lm p s w) (hm : s.nx < lm) (x : Nat × Ex) : p.le (p.ext s.nx x) := fun r y hy => by
  unfold Pi.ext
  rw [if_neg]
  · exact hy
  · rintro rfl
    rw [h.fresh hm] at hy
    cases hy
theorem any_add (h : ∀ r, banned s.ban r = true → r < s.nx) (o : OV) (r : Nat) : (s.add o).any r = if r = s.nx then some o else s.any r := by
  unfold S.any S.add
  simp only [Tr.get_set]
  by_cases e : r = s.nx
  · subst e
    cases hb : banned s.ban s.nx
    · simp
    · exact absurd (h _ hb) (by omega)
  · rw [if_neg e, if_neg e]
theorem any_put (r : Nat) (o : Option OV) (k : Nat) : (s.put r o).any k = if k = r ∧ banned s.ban r = false then o else s.any k := by
  unfold S.any S.put
  simp only [Tr.get_set]
  by_cases e : k = r
  · subst e
    cases hb : banned s.ban k <;> simp
  · simp [e]
theorem any_unbanned {r : Nat} {o : OV} (h : s.any r = some o) : banned s.ban r = false := by
  unfold S.any at h
  cases hb : banned s.ban r
  · rfl
  · rw [hb] at h; simp at h
theorem Sim0.lt {r : Nat} {o : OV} (h : Sim0 lm p s w) (ho : s.any r = some o) : r < s.nx := by
  rcases Nat.lt_or_ge r s.nx with hlt | hge
  · exact hlt
  · have h1 := h.top r hge
    unfold S.any at ho
    rw [h1] at ho
    split at ho <;> cases ho
theorem heap_alloc_get (w : World) (o : Obj) (b : Nat) (hb : b < w.heap.size) : (w.alloc o).heap[b]? = w.heap[b]? := by
  show (w.heap.push o)[b]? = w.heap[b]?
  rw [Array.getElem?_push, if_neg (by omega)]

/-- a new object -/
theorem Sim0.alloc (h : Sim0 lm p s w) (hm : s.nx < lm) {o : OV} {o' : Obj} {e : Ex} (ho : OC (p.ext s.nx (w.heap.size, e)) o o' e) :
    Sim0 lm (p.ext s.nx (w.heap.size, e)) (s.add o) (w.alloc o') ∧ Stp p s w (p.ext s.nx (w.heap.size, e)) (s.add o) (w.alloc o') := by
  have hle := h.le_ext hm (w.heap.size, e)
  have hsz : (w.alloc o').heap.size = w.heap.size + 1 := Array.size_push _
  constructor
  · refine ⟨fun r x hx => ?_, fun r hr => ?_, fun r hb => Nat.lt_succ_of_lt (h.ban r hb), Nat.le_succ_of_le h.low, fun r q hq => ?_, fun r r' b e1 e2 h1 h2 h3 h4 => ?_⟩
    · show r < s.nx + 1 ∨ lm ≤ r
      unfold Pi.ext at hx
      by_cases hr : r = s.nx
      · omega
      · rw [if_neg hr] at hx
        have := h.dom _ _ hx
        omega
    · have hr' : s.nx + 1 ≤ r := hr
      simp only [S.add, Tr.get_set]
      rw [if_neg (by omega)]
      exact h.top r (by omega)
    · rw [any_add h.ban] at hq
      by_cases hr : r = s.nx
      · rw [if_pos hr] at hq
        simp only [Option.some.injEq] at hq
        subst hq hr
        exact ⟨w.heap.size, e, o', by simp [Pi.ext], World.alloc_heap_new w o', ho⟩
      · rw [if_neg hr] at hq
        obtain ⟨b, e', q', h1, h2, h3⟩ := h.obj r q hq
        exact ⟨b, e', q', hle _ _ h1, by rw [heap_alloc_get _ _ _ (Array.getElem?_eq_some_iff.1 h2).1]; exact h2, h3.mono hle⟩
    · rw [any_add h.ban] at h1 h2
      unfold Pi.ext at h3 h4
      by_cases hr : r = s.nx <;> by_cases hr' : r' = s.nx
      · omega
      · rw [if_pos hr] at h3; rw [if_neg hr'] at h4
        simp at h3
        rw [if_neg hr'] at h2
        have := h.blk _ _ _ h2 h4
        omega
      · rw [if_neg hr] at h1 h3; rw [if_pos hr'] at h4
        simp at h4
        have := h.blk _ _ _ h1 h3
        omega
      · rw [if_neg hr] at h1 h3; rw [if_neg hr'] at h2 h4
        exact h.inj _ _ _ _ _ h1 h2 h3 h4
  · refine ⟨hle, fun r x hx => ?_, Nat.le_succ _, rfl, rfl, by omega, rfl, rfl, rfl, fun b hb => .inl (heap_alloc_get _ _ _ hb), fun r b e' h1 h2 => ?_⟩
    · unfold Pi.ext at hx
      by_cases hr : r = s.nx
      · exact .inr ⟨by omega, by show r < s.nx + 1; omega⟩
      · rw [if_neg hr] at hx; exact .inl hx
    · rw [any_add h.ban] at h1
      unfold Pi.ext at h2
      by_cases hr : r = s.nx
      · rw [if_pos hr] at h2; simp at h2
        exact .inr ⟨by omega, .inl (by omega)⟩
      · rw [if_neg hr] at h1 h2
        exact .inl ⟨h1, h2⟩

theorem putObj_get (w : World) (b : Nat) (o : Obj) (k : Nat) : (w.putObj b o).heap[k]? = if k = b ∧ b < w.heap.size then some o else w.heap[k]? := by
  unfold World.putObj
  by_cases h : k = b
  · subst h
    by_cases hb : k < w.heap.size
    · simp [hb]
    · simp [hb]
  · have h' : b ≠ k := fun e => h e.symm
    simp [h, h']
theorem putObj_size (w : World) (b : Nat) (o : Obj) : (w.putObj b o).heap.size = w.heap.size := by simp [World.putObj]

/-- an object that is changed -/
theorem Sim0.put (h : Sim0 lm p s w) {r b : Nat} {e : Ex} {o0 o : OV} {o' : Obj} (hr : s.any r = some o0) (hp : p r = some (b, e)) (hl : s.wr r = true) (ho : OC p o o' e) :
    Sim0 lm p (s.put r (some o)) (w.putObj b o') ∧ Stp p s w p (s.put r (some o)) (w.putObj b o') := by
  have hb := any_unbanned hr
  have hlt := h.blk _ _ _ (by rw [hr]; rfl) hp
  have hrn := h.lt hr
  have htop : ∀ k, s.nx ≤ k → (s.put r (some o)).h.get k = none := fun k hk => by
    simp only [S.put, Tr.get_set]
    rw [if_neg (by omega)]
    exact h.top k hk
  have hin : ∀ k, ((s.put r (some o)).any k).isSome = true → (s.any k).isSome = true := by
    intro k hk
    rw [any_put] at hk
    by_cases e : k = r
    · subst e; rw [hr]; rfl
    · rw [if_neg (by simp [e])] at hk; exact hk
  constructor
  · refine ⟨fun k x hx => h.dom k x hx, htop, fun k hk => h.ban k hk, h.low, fun k q hq => ?_, fun k k' b' e1 e2 h1 h2 h3 h4 => h.inj _ _ _ _ _ (hin _ h1) (hin _ h2) h3 h4⟩
    rw [any_put] at hq
    by_cases hk : k = r
    · rw [if_pos ⟨hk, hb⟩] at hq
      simp only [Option.some.injEq] at hq
      subst hq hk
      exact ⟨b, e, o', hp, by rw [putObj_get, if_pos ⟨rfl, hlt⟩], ho⟩
    · rw [if_neg (by simp [hk])] at hq
      obtain ⟨b', e', q', h1, h2, h3⟩ := h.obj k q hq
      refine ⟨b', e', q', h1, ?_, h3⟩
      rw [putObj_get, if_neg]
      · exact h2
      · rintro ⟨rfl, _⟩
        exact hk (h.inj _ _ _ _ _ (by rw [hq]; rfl) (by rw [hr]; rfl) h1 hp)
  · refine ⟨p.le_refl, fun _ _ hx => .inl hx, Nat.le_refl _, rfl, rfl, by rw [putObj_size]; exact Nat.le_refl _, rfl, rfl, rfl, fun k hk => ?_, fun k b' e' h1 h2 => .inl ⟨hin _ h1, h2⟩⟩
    · rw [putObj_get]
      by_cases hkb : k = b
      · subst hkb
        exact .inr ⟨r, e, hl, by rw [hr]; rfl, hp⟩
      · rw [if_neg (by simp [hkb])]; exact .inl rfl

/-- an object of which nothing is known any more -/
theorem Sim0.drop (h : Sim0 lm p s w) {r : Nat} {o0 : OV} (hr : s.any r = some o0) :
    Sim0 lm p (s.put r none) w ∧ Stp p s w p (s.put r none) w := by
  have hb := any_unbanned hr
  have hrn := h.lt hr
  have htop : ∀ k, s.nx ≤ k → (s.put r none).h.get k = none := fun k hk => by
    simp only [S.put, Tr.get_set]
    rw [if_neg (by omega)]
    exact h.top k hk
  have hin : ∀ k, ((s.put r none).any k).isSome = true → (s.any k).isSome = true := by
    intro k hk
    rw [any_put] at hk
    by_cases e : k = r
    · rw [if_pos ⟨e, hb⟩] at hk; cases hk
    · rw [if_neg (by simp [e])] at hk; exact hk
  constructor
  · refine ⟨fun k x hx => h.dom k x hx, htop, fun k hk => h.ban k hk, h.low, fun k q hq => ?_, fun k k' b' e1 e2 h1 h2 h3 h4 => h.inj _ _ _ _ _ (hin _ h1) (hin _ h2) h3 h4⟩
    rw [any_put] at hq
    by_cases hk : k = r
    · rw [if_pos ⟨hk, hb⟩] at hq; cases hq
    · rw [if_neg (by simp [hk])] at hq
      exact h.obj k q hq
  · exact ⟨p.le_refl, fun _ _ hx => .inl hx, Nat.le_refl _, rfl, rfl, Nat.le_refl _, rfl, rfl, rfl, fun k hk => .inl rfl, fun k b' e' h1 h2 => .inl ⟨hin _ h1, h2⟩⟩

/-- a new name for the block of an object that is given up -/
theorem Sim0.renew (h : Sim0 lm p s w) (hm : s.nx < lm) {r b : Nat} {e e' : Ex} {o0 o : OV} {o' : Obj} (hr : s.any r = some o0) (hp : p r = some (b, e)) (hl : s.wr r = true) (ho : OC (p.ext s.nx (b, e')) o o' e') :
    Sim0 lm (p.ext s.nx (b, e')) ((s.put r none).add o) (w.putObj b o') ∧ Stp p s w (p.ext s.nx (b, e')) ((s.put r none).add o) (w.putObj b o') := by
  have hb := any_unbanned hr
  have hlt := h.blk _ _ _ (by rw [hr]; rfl) hp
  have hrn := h.lt hr
  obtain ⟨hd, hs⟩ := h.drop hr
  have hle := h.le_ext hm (b, e')
  have hadd : ∀ k, ((s.put r none).add o).any k = if k = s.nx then some o else (s.put r none).any k := any_add hd.ban o
  have hput : ∀ k, k ≠ r → (s.put r none).any k = s.any k := fun k hk => by rw [any_put, if_neg (by simp [hk])]
  have hputr : (s.put r none).any r = none := by rw [any_put, if_pos ⟨rfl, hb⟩]
  constructor
  · refine ⟨fun k x hx => ?_, fun k hk => ?_, fun k hk => Nat.lt_succ_of_lt (h.ban k hk), Nat.le_succ_of_le h.low, fun k q hq => ?_, fun k k' b' e1 e2 h1 h2 h3 h4 => ?_⟩
    · show k < s.nx + 1 ∨ lm ≤ k
      unfold Pi.ext at hx
      by_cases hk : k = s.nx
      · omega
      · rw [if_neg hk] at hx
        have := h.dom _ _ hx
        omega
    · have hk' : s.nx + 1 ≤ k := hk
      simp only [S.add, Tr.get_set]
      rw [if_neg (by show ¬ k = s.nx; omega)]
      exact hd.top k (by show s.nx ≤ k; omega)
    · rw [hadd] at hq
      by_cases hk : k = s.nx
      · rw [if_pos hk] at hq
        simp only [Option.some.injEq] at hq
        subst hq hk
        exact ⟨b, e', o', by simp [Pi.ext], by rw [putObj_get, if_pos ⟨rfl, hlt⟩], ho⟩
      · rw [if_neg hk] at hq
        have hkr : k ≠ r := by rintro rfl; rw [hputr] at hq; cases hq
        rw [hput k hkr] at hq
        obtain ⟨b', e'', q', h1, h2, h3⟩ := h.obj k q hq
        refine ⟨b', e'', q', hle _ _ h1, ?_, h3.mono hle⟩
        rw [putObj_get, if_neg]
        · exact h2
        · rintro ⟨rfl, _⟩
          exact hkr (h.inj _ _ _ _ _ (by rw [hq]; rfl) (by rw [hr]; rfl) h1 hp)
    · rw [hadd] at h1 h2
      have key : ∀ k, k ≠ s.nx → ((s.put r none).any k).isSome = true → k ≠ r ∧ (s.any k).isSome = true := by
        intro k hk hs
        have hkr : k ≠ r := by rintro rfl; rw [hputr] at hs; cases hs
        rw [hput k hkr] at hs
        exact ⟨hkr, hs⟩
      unfold Pi.ext at h3 h4
      by_cases hk : k = s.nx <;> by_cases hk' : k' = s.nx
      · omega
      · rw [if_pos hk] at h3; rw [if_neg hk'] at h2 h4
        obtain ⟨k1, k2⟩ := key _ hk' h2
        simp at h3
        obtain ⟨rfl, rfl⟩ := h3
        exact absurd (h.inj _ _ _ _ _ k2 (by rw [hr]; rfl) h4 hp) k1
      · rw [if_neg hk] at h1 h3; rw [if_pos hk'] at h4
        obtain ⟨k1, k2⟩ := key _ hk h1
        simp at h4
        obtain ⟨rfl, rfl⟩ := h4
        exact absurd (h.inj _ _ _ _ _ k2 (by rw [hr]; rfl) h3 hp) k1
      · rw [if_neg hk] at h1 h3; rw [if_neg hk'] at h2 h4
        exact h.inj _ _ _ _ _ (key _ hk h1).2 (key _ hk' h2).2 h3 h4
  · refine ⟨hle, fun k x hx => ?_, Nat.le_succ _, rfl, rfl, by rw [putObj_size]; exact Nat.le_refl _, rfl, rfl, rfl, fun k hk => ?_, fun k b' e'' h1 h2 => ?_⟩
    · unfold Pi.ext at hx
      by_cases hk : k = s.nx
      · exact .inr ⟨by omega, by show k < s.nx + 1; omega⟩
      · rw [if_neg hk] at hx; exact .inl hx
    · rw [putObj_get]
      by_cases hkb : k = b
      · subst hkb
        exact .inr ⟨r, e, hl, by rw [hr]; rfl, hp⟩
      · rw [if_neg (by simp [hkb])]; exact .inl rfl
    · rw [hadd] at h1
      unfold Pi.ext at h2
      by_cases hk : k = s.nx
      · rw [if_pos hk] at h2; simp at h2
        exact .inr ⟨by omega, .inr ⟨r, e, hl, by rw [hr]; rfl, by rw [hp]; simp; omega⟩⟩
      · rw [if_neg hk] at h1 h2
        have hkr : k ≠ r := by rintro rfl; rw [hputr] at h1; cases h1
        rw [hput k hkr] at h1
        exact .inl ⟨h1, h2⟩

/-- an object that changes in the model, and of which nothing is known any more -/
theorem Sim0.kill (h : Sim0 lm p s w) {r b : Nat} {e : Ex} {o0 : OV} (o' : Obj) (hr : s.any r = some o0) (hp : p r = some (b, e)) (hl : s.wr r = true) :
    Sim0 lm p (s.put r none) (w.putObj b o') ∧ Stp p s w p (s.put r none) (w.putObj b o') := by
  have hb := any_unbanned hr
  obtain ⟨hd, _⟩ := h.drop hr
  have hputr : (s.put r none).any r = none := by rw [any_put, if_pos ⟨rfl, hb⟩]
  have hput : ∀ k, k ≠ r → (s.put r none).any k = s.any k := fun k hk => by rw [any_put, if_neg (by simp [hk])]
  have hin : ∀ k, ((s.put r none).any k).isSome = true → k ≠ r ∧ (s.any k).isSome = true := by
    intro k hk
    have hkr : k ≠ r := by rintro rfl; rw [hputr] at hk; cases hk
    rw [hput k hkr] at hk
    exact ⟨hkr, hk⟩
  constructor
  · refine ⟨hd.dom, hd.top, hd.ban, hd.low, fun k q hq => ?_, hd.inj⟩
    have hkr : k ≠ r := by rintro rfl; rw [hputr] at hq; cases hq
    rw [hput k hkr] at hq
    obtain ⟨b', e', q', h1, h2, h3⟩ := h.obj k q hq
    refine ⟨b', e', q', h1, ?_, h3⟩
    rw [putObj_get, if_neg]
    · exact h2
    · rintro ⟨rfl, _⟩
      exact hkr (h.inj _ _ _ _ _ (by rw [hq]; rfl) (by rw [hr]; rfl) h1 hp)
  · refine ⟨p.le_refl, fun _ _ hx => .inl hx, Nat.le_refl _, rfl, rfl, by rw [putObj_size]; exact Nat.le_refl _, rfl, rfl, rfl, fun k hk => ?_, fun k b' e' h1 h2 => .inl ⟨(hin _ h1).2, h2⟩⟩
    rw [putObj_get]
    by_cases hkb : k = b
    · subst hkb
      exact .inr ⟨r, e, hl, by rw [hr]; rfl, hp⟩
    · rw [if_neg (by simp [hkb])]; exact .inl rfl

/-- a question to the tape -/
theorem Sim0.drawn (h : Sim0 lm p s w) (n : Nat) : Sim0 lm p s { w with drawn := n } := ⟨h.dom, h.top, h.ban, h.low, h.obj, h.inj⟩
theorem Stp.drawn (p : Pi) (s : S) (w : World) (n : Nat) : Stp p s w p s { w with drawn := n } :=
  { Stp.refl p s w with size := Nat.le_refl _, os := rfl, tape := rfl, output := rfl, keep := fun _ _ => .inl rfl, born := fun _ _ _ h1 h2 => .inl ⟨h1, h2⟩ }
end

/-! ### Above a first world -/
class Ground where
  w0 : World
structure Gnd [Ground] (p : Pi) (s : S) (w : World) : Prop where
  own : ∀ r b e, 256 ≤ r → (s.any r).isSome = true → p r = some (b, e) → Ground.w0.heap.size ≤ b
  below : Go.RowKit.Below Ground.w0.heap.size Ground.w0 w
  glob : Glob p
  lock : 256 ≤ s.lock
  ext : ∀ r, s.ext = some r → 256 ≤ r
structure Sim [Ground] (lm : Nat) (p : Pi) (s : S) (w : World) : Prop extends Sim0 lm p s w where
  gr : Gnd p s w
section
variable [Ground] {lm : Nat} {p p' p'' : Pi} {s s' s'' : S} {w w' w'' : World}
theorem Gnd.wr (h : Gnd p s w) {r : Nat} (hr : s.wr r = true) : 256 ≤ r := by
  unfold S.wr at hr
  split at hr
  · rename_i h1
    exact Nat.le_trans h.lock (Nat.le_of_ble_eq_true h1)
  · split at hr
    · cases hr
    · rename_i w h1
      rw [← Nat.eq_of_beq_eq_true hr]
      exact h.ext w h1
theorem Gnd.step (h : Gnd p s w) (k : Stp p s w p' s' w') : Gnd p' s' w' :=
  ⟨fun r b e hr h1 h2 => by
    rcases k.born r b e h1 h2 with ⟨h3, h4⟩ | ⟨_, h3 | ⟨r0, e0, h3, h4, h5⟩⟩
    · exact h.own r b e hr h3 h4
    · exact Nat.le_trans h.below.size h3
    · exact h.own r0 b e0 (h.wr h3) h4 h5,
   ⟨k.os.trans h.below.os, k.tape.trans h.below.tape, k.output.trans h.below.output, Nat.le_trans h.below.size k.size, fun b hb => by
    rcases k.keep b (Nat.lt_of_lt_of_le hb h.below.size) with h1 | ⟨r, e, h3, h1, h2⟩
    · exact h1.trans (h.below.block b hb)
    · exact absurd (h.own r b e (h.wr h3) h1 h2) (by omega)⟩,
   h.glob.mono k.le, by rw [k.lock]; exact h.lock, by rw [k.ext]; exact h.ext⟩
theorem Gnd.with (h : Gnd p s w) (k : Sim0 lm p' s' w' ∧ Stp p s w p' s' w') : Sim lm p' s' w' ∧ Stp p s w p' s' w' := ⟨⟨k.1, h.step k.2⟩, k.2⟩
theorem Sim.alloc (h : Sim lm p s w) (hm : s.nx < lm) {o : OV} {o' : Obj} {e : Ex} (ho : OC (p.ext s.nx (w.heap.size, e)) o o' e) :
    Sim lm (p.ext s.nx (w.heap.size, e)) (s.add o) (w.alloc o') ∧ Stp p s w (p.ext s.nx (w.heap.size, e)) (s.add o) (w.alloc o') := h.gr.with (h.toSim0.alloc hm ho)
theorem Sim.put (h : Sim lm p s w) {r b : Nat} {e : Ex} {o0 o : OV} {o' : Obj} (hr : s.any r = some o0) (hp : p r = some (b, e)) (hl : s.wr r = true) (ho : OC p o o' e) :
    Sim lm p (s.put r (some o)) (w.putObj b o') ∧ Stp p s w p (s.put r (some o)) (w.putObj b o') := h.gr.with (h.toSim0.put hr hp hl ho)
theorem Sim.drop (h : Sim lm p s w) {r : Nat} {o0 : OV} (hr : s.any r = some o0) :
    Sim lm p (s.put r none) w ∧ Stp p s w p (s.put r none) w := h.gr.with (h.toSim0.drop hr)
theorem Sim.renew (h : Sim lm p s w) (hm : s.nx < lm) {r b : Nat} {e e' : Ex} {o0 o : OV} {o' : Obj} (hr : s.any r = some o0) (hp : p r = some (b, e)) (hl : s.wr r = true) (ho : OC (p.ext s.nx (b, e')) o o' e') :
    Sim lm (p.ext s.nx (b, e')) ((s.put r none).add o) (w.putObj b o') ∧ Stp p s w (p.ext s.nx (b, e')) ((s.put r none).add o) (w.putObj b o') := h.gr.with (h.toSim0.renew hm hr hp hl ho)
theorem Sim.kill (h : Sim lm p s w) {r b : Nat} {e : Ex} {o0 : OV} (o' : Obj) (hr : s.any r = some o0) (hp : p r = some (b, e)) (hl : s.wr r = true) :
    Sim lm p (s.put r none) (w.putObj b o') ∧ Stp p s w p (s.put r none) (w.putObj b o') := h.gr.with (h.toSim0.kill o' hr hp hl)
theorem Sim.drawn (h : Sim lm p s w) (n : Nat) : Sim lm p s { w with drawn := n } := ⟨h.toSim0.drawn n, h.gr.step (.drawn p s w n)⟩
end
end Go.Ev
