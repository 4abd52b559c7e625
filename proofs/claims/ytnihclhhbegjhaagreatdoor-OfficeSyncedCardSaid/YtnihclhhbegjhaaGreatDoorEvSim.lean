/- The relation between the small machine's memory and the model's. -/
import Derived.Test.YtnihclhhbegjhaaGreatDoorEvDef
import Derived.RangeFuncRecord
set_option linter.unusedSectionVars false
set_option linter.unusedSimpArgs false
set_option linter.unusedVariables false
namespace Go.Ev

/-! ### Plain laws -/
@[simp] theorem bnd_some {α β : Type} {x : Option α} {f : α → Option β} {b : β} : x.bnd f = some b ↔ ∃ a, x = some a ∧ f a = some b := by
  cases x <;> simp [Option.bnd]
@[simp] theorem guard_some {α : Type} {b : Bool} {k : Option α} {x : α} : guardB b k = some x ↔ b = true ∧ k = some x := by
  cases b <;> simp [guardB]

section
variable {α : Type}
theorem Tr.get_zero (t : Tr α) : t.get 0 = t.here := by cases t <;> rfl
theorem Tr.get_succ (t : Tr α) (k : Nat) : t.get (k + 1) = if k % 2 = 0 then t.left.get (k / 2) else t.right.get (k / 2) := by
  cases t with
  | leaf => simp [Tr.get, Tr.left, Tr.right]
  | node l v r =>
    show Bool.rec (motive := fun _ => Option α) (r.get (k / 2)) (l.get (k / 2)) (Nat.beq (k % 2) 0) = _
    by_cases h : k % 2 = 0
    · rw [show Nat.beq (k % 2) 0 = true by rw [h]; rfl, if_pos h]; rfl
    · rw [show Nat.beq (k % 2) 0 = false by
        cases hb : Nat.beq (k % 2) 0
        · rfl
        · exact absurd (Nat.eq_of_beq_eq_true hb) h, if_neg h]; rfl
theorem Tr.setF_zero (v : Option α) (f : Nat) (t : Tr α) : Tr.setF v (f + 1) t 0 = .node t.left v t.right := rfl
theorem Tr.setF_succ (v : Option α) (f : Nat) (t : Tr α) (k : Nat) : Tr.setF v (f + 1) t (k + 1) =
    if k % 2 = 0 then .node (Tr.setF v f t.left (k / 2)) t.here t.right else .node t.left t.here (Tr.setF v f t.right (k / 2)) := by
  show Bool.rec (motive := fun _ => Tr α) (.node t.left t.here (Tr.setF v f t.right (k / 2))) (.node (Tr.setF v f t.left (k / 2)) t.here t.right) (Nat.beq (k % 2) 0) = _
  by_cases h : k % 2 = 0
  · rw [show Nat.beq (k % 2) 0 = true by rw [h]; rfl, if_pos h]
  · rw [show Nat.beq (k % 2) 0 = false by
        cases hb : Nat.beq (k % 2) 0
        · rfl
        · exact absurd (Nat.eq_of_beq_eq_true hb) h, if_neg h]
theorem Tr.get_setF (v : Option α) : ∀ (f : Nat) (t : Tr α) (n m : Nat), n < f → (Tr.setF v f t n).get m = if m = n then v else t.get m := by
  intro f
  induction f with
  | zero => intro t n m h; omega
  | succ f ih =>
    intro t n m h
    cases n with
    | zero =>
      rw [Tr.setF_zero]
      cases m with
      | zero => rfl
      | succ m => rw [Tr.get_succ, Tr.get_succ, if_neg (show ¬ m + 1 = 0 by omega)]; rfl
    | succ n =>
      rw [Tr.setF_succ]
      by_cases hn : n % 2 = 0
      · rw [if_pos hn]
        cases m with
        | zero => rw [if_neg (by omega), Tr.get_zero, Tr.get_zero]; rfl
        | succ m =>
          rw [Tr.get_succ, Tr.get_succ]
          by_cases hm : m % 2 = 0
          · rw [if_pos hm, if_pos hm]
            show (Tr.setF v f t.left (n / 2)).get (m / 2) = _
            rw [ih _ _ _ (by omega)]
            by_cases e : m = n
            · subst e; simp
            · rw [if_neg (by omega), if_neg (by omega)]
          · rw [if_neg hm, if_neg hm, if_neg (by omega)]; rfl
      · rw [if_neg hn]
        cases m with
        | zero => rw [if_neg (by omega), Tr.get_zero, Tr.get_zero]; rfl
        | succ m =>
          rw [Tr.get_succ, Tr.get_succ]
          by_cases hm : m % 2 = 0
          · rw [if_pos hm, if_pos hm, if_neg (by omega)]; rfl
          · rw [if_neg hm, if_neg hm]
            show (Tr.setF v f t.right (n / 2)).get (m / 2) = _
            rw [ih _ _ _ (by omega)]
            by_cases e : m = n
            · subst e; simp
            · rw [if_neg (by omega), if_neg (by omega)]
theorem Tr.get_set (t : Tr α) (n m : Nat) (v : Option α) : (t.set n v).get m = if m = n then v else t.get m := Tr.get_setF v _ t n m (Nat.lt_succ_self n)
end

/-! ### Lists, one against the other -/
inductive LR {α β : Type} (R : α → β → Prop) : List α → List β → Prop where
  | nil : LR R [] []
  | cons {x : α} {y : β} {xs : List α} {ys : List β} : R x y → LR R xs ys → LR R (x :: xs) (y :: ys)
section
variable {α β : Type} {R R' : α → β → Prop} {xs : List α} {ys : List β}
theorem LR.length (h : LR R xs ys) : ys.length = xs.length := by induction h <;> simp_all
theorem LR.mono (hr : ∀ x y, R x y → R' x y) (h : LR R xs ys) : LR R' xs ys := by
  induction h with
  | nil => exact .nil
  | cons h _ ih => exact .cons (hr _ _ h) ih
theorem LR.get (h : LR R xs ys) : ∀ {i : Nat} {x : α}, xs[i]? = some x → ∃ y, ys[i]? = some y ∧ R x y := by
  induction h with
  | nil => intro i x h; simp at h
  | cons hr _ ih =>
    intro i x h
    cases i with
    | zero => simp at h; subst h; exact ⟨_, by simp, hr⟩
    | succ i => simp at h; simpa using ih h
theorem LR.append {xs' : List α} {ys' : List β} (h : LR R xs ys) (k : LR R xs' ys') : LR R (xs ++ xs') (ys ++ ys') := by
  induction h with
  | nil => exact k
  | cons hr _ ih => exact .cons hr ih
theorem LR.drop (h : LR R xs ys) : ∀ n : Nat, LR R (xs.drop n) (ys.drop n) := by
  induction h with
  | nil => intro n; simp; exact .nil
  | cons hr ht ih =>
    intro n
    cases n with
    | zero => exact .cons hr ht
    | succ n => exact ih n
theorem LR.refl {R : α → α → Prop} (h : ∀ x ∈ xs, R x x) : LR R xs xs := by
  induction xs with
  | nil => exact .nil
  | cons x xs ih => exact .cons (h x (by simp)) (ih fun y hy => h y (by simp [hy]))
theorem takeN_spec : ∀ {n : Nat} {l r : List α}, takeN n l = some r → r = l.take n ∧ n ≤ l.length
  | 0, l, r, h => by simp [takeN] at h; simp [h]
  | n + 1, [], r, h => by simp [takeN] at h
  | n + 1, x :: l, r, h => by
    simp only [takeN, bnd_some] at h
    obtain ⟨ys, hy, h⟩ := h
    obtain ⟨rfl, hl⟩ := takeN_spec hy
    simp only [Option.some.injEq] at h
    subst h
    exact ⟨by simp, by simp; omega⟩
theorem LR.take (h : LR R xs ys) : ∀ n : Nat, LR R (xs.take n) (ys.take n) := by
  induction h with
  | nil => intro n; simp; exact .nil
  | cons hr ht ih =>
    intro n
    cases n with
    | zero => exact .nil
    | succ n => exact .cons hr (ih n)
theorem overB_spec : ∀ {new old r : List α}, overB new old = some r → r = new ++ old.drop new.length ∧ new.length ≤ old.length
  | [], old, r, h => by simp [overB] at h; simp [h]
  | v :: new, [], r, h => by simp [overB] at h
  | v :: new, x :: old, r, h => by
    simp only [overB, bnd_some] at h
    obtain ⟨q, hq, h⟩ := h
    obtain ⟨rfl, hl⟩ := overB_spec hq
    simp only [Option.some.injEq] at h
    subst h
    exact ⟨by simp, by simp; omega⟩
theorem putN_spec : ∀ {n : Nat} {new old r : List α}, putN n new old = some r → r = old.take n ++ new ++ old.drop (n + new.length) ∧ n + new.length ≤ old.length
  | 0, new, old, r, h => by
    have := overB_spec (by simpa [putN] using h)
    simpa using this
  | n + 1, new, [], r, h => by simp [putN] at h
  | n + 1, new, x :: old, r, h => by
    simp only [putN, bnd_some] at h
    obtain ⟨q, hq, h⟩ := h
    obtain ⟨rfl, hl⟩ := putN_spec hq
    simp only [Option.some.injEq] at h
    subst h
    refine ⟨?_, by simp; omega⟩
    rw [show n + 1 + new.length = (n + new.length) + 1 by omega]
    simp
theorem LR.mem (h : LR R xs ys) {x : α} (hx : x ∈ xs) : ∃ y, y ∈ ys ∧ R x y := by
  induction h with
  | nil => cases hx
  | cons hr _ ih =>
    cases hx with
    | head => exact ⟨_, by simp, hr⟩
    | tail _ hx => obtain ⟨y, hy, hr⟩ := ih hx; exact ⟨y, by simp [hy], hr⟩
theorem optMap_spec {f : α → Option β} : ∀ {l : List α} {r : List β}, optMap f l = some r → LR (fun x y => f x = some y) l r
  | [], r, h => by simp [optMap] at h; subst h; exact .nil
  | x :: l, r, h => by
    simp only [optMap, bnd_some] at h
    obtain ⟨y, hy, ys, hys, h⟩ := h
    simp only [Option.some.injEq] at h
    subst h
    exact .cons hy (optMap_spec hys)
end

/-! ### Values -/
/-- nothing, where an object has no more cells than are known; else the cells of an element, and of the block -/
abbrev Ex := Option (Nat × Nat)
/-- the capacities c (known) and c' of a slice from the cell o on -/
def Room (e : Ex) (o c c' : Nat) : Prop := match e with
  | none => c' = c
  | some x => o + c' * x.1 ≤ x.2
/-- the block of a name -/
abbrev Pi := Nat → Option (Nat × Ex)
def Pi.le (p q : Pi) : Prop := ∀ r x, p r = some x → q r = some x
/-- the global variables have their own numbers -/
def Glob (p : Pi) : Prop := ∀ g, g < 256 → p g = some (g, none)
theorem Glob.mono {p q : Pi} (hl : p.le q) (h : Glob p) : Glob q := fun g hg => hl _ _ (h g hg)
theorem Pi.le_refl (p : Pi) : p.le p := fun _ _ h => h
theorem Pi.le_trans {p q r : Pi} (h : p.le q) (k : q.le r) : p.le r := fun _ _ x => k _ _ (h _ _ x)

/-- pointers -/
inductive PR (p : Pi) : Value → Value → Prop where
  | mk {r o b : Nat} {e : Ex} : p r = some (b, e) → PR p (ptr r o) (ptr b o)
/-- cells of a receiver that a method value holds -/
inductive HR (p : Pi) : Value → Value → Prop where
  | flat {v : Value} : flat1 v = true → HR p v v
  | ptr {r o b : Nat} {e : Ex} : p r = some (b, e) → HR p (ptr r o) (ptr b o)
  | slice {r o n c c' b : Nat} {e : Ex} : p r = some (b, e) → c ≤ c' → Room e o c c' → HR p (aslice r o n c) (aslice b o n c')
  | nil {n c : Nat} : HR p (.slice none n c) (.slice none n c)
  | mt {a : Addr} {c : Nat} : HR p mtv (.slice (some a) 0 c)
  | map {r b : Nat} {e : Ex} : p r = some (b, e) → HR p (.map (some r)) (.map (some b))
/-- a receiver that a method value holds -/
inductive BR (p : Pi) : Value → Value → Prop where
  | one {v v' : Value} : HR p v v' → BR p v v'
  | agg {cs cs' : List Value} : LR (HR p) cs cs' → BR p (.agg ⟨cs⟩) (.agg ⟨cs'⟩)
/-- values of one cell -/
inductive CR (p : Pi) : Value → Value → Prop where
  | flat {v : Value} : flat1 v = true → CR p v v
  | ptr {r o b : Nat} {e : Ex} : p r = some (b, e) → CR p (ptr r o) (ptr b o)
  | slice {r o n c c' b : Nat} {e : Ex} : p r = some (b, e) → c ≤ c' → Room e o c c' → CR p (aslice r o n c) (aslice b o n c')
  | nil {n c : Nat} : CR p (.slice none n c) (.slice none n c)
  | mt {a : Addr} {c : Nat} : CR p mtv (.slice (some a) 0 c)
  | map {r b : Nat} {e : Ex} : p r = some (b, e) → CR p (.map (some r)) (.map (some b))
  | clo {f : FuncId} {fs fs' cs cs' : List Value} : LR (BR p) fs fs' → LR (PR p) cs cs' → CR p (.func (.func f) ⟨fs⟩ ⟨cs⟩) (.func (.func f) ⟨fs'⟩ ⟨cs'⟩)
  | yield {l b : Nat} {e : Ex} : p l = some (b, e) → CR p (.func (.yield l) #[] #[]) (.func (.yield b) #[] #[])
/-- values of variables -/
inductive VR (p : Pi) : Value → Value → Prop where
  | one {v v' : Value} : CR p v v' → VR p v v'
  | agg {cs cs' : List Value} : LR (CR p) cs cs' → VR p (.agg ⟨cs⟩) (.agg ⟨cs'⟩)
/-- values of temporaries -/
inductive UR (p : Pi) : Value → Value → Prop where
  | one {v v' : Value} : VR p v v' → UR p v v'
  | tup {vs vs' : List Value} : LR (VR p) vs vs' → UR p (.tuple ⟨vs⟩) (.tuple ⟨vs'⟩)
section
variable {p q : Pi} {v v' : Value}
theorem PR.mono (hl : p.le q) (h : PR p v v') : PR q v v' := by cases h with | mk h => exact .mk (hl _ _ h)
theorem PR.cr (h : PR p v v') : CR p v v' := by cases h with | mk h => exact .ptr h
theorem HR.mono (hl : p.le q) (h : HR p v v') : HR q v v' := by
  cases h with
  | flat h => exact .flat h
  | ptr h => exact .ptr (hl _ _ h)
  | slice h h1 h2 => exact .slice (hl _ _ h) h1 h2
  | nil => exact .nil
  | mt => exact .mt
  | map h => exact .map (hl _ _ h)
theorem HR.cr (h : HR p v v') : CR p v v' := by
  cases h with
  | flat h => exact .flat h
  | ptr h => exact .ptr h
  | slice h h1 h2 => exact .slice h h1 h2
  | nil => exact .nil
  | mt => exact .mt
  | map h => exact .map h
theorem BR.mono (hl : p.le q) (h : BR p v v') : BR q v v' := by
  cases h with
  | one h => exact .one (h.mono hl)
  | agg h => exact .agg (h.mono fun _ _ => HR.mono hl)
theorem BR.vr (h : BR p v v') : VR p v v' := by
  cases h with
  | one h => exact .one h.cr
  | agg h => exact .agg (h.mono fun _ _ => HR.cr)
theorem CR.hr (h : CR p v v') (hv : heldB v = true) : HR p v v' := by
  cases h with
  | flat h => exact .flat h
  | ptr h => exact .ptr h
  | slice h h1 h2 => exact .slice h h1 h2
  | nil => exact .nil
  | mt => exact .mt
  | map h => exact .map h
  | clo h => simp [heldB] at hv
  | yield h => simp [heldB] at hv
theorem LR.hr : ∀ {xs ys : List Value}, LR (CR p) xs ys → xs.all heldB = true → LR (HR p) xs ys
  | _, _, .nil, _ => .nil
  | _, _, .cons h t, ha => by
    simp only [List.all_cons, Bool.and_eq_true] at ha
    exact .cons (h.hr ha.1) (LR.hr t ha.2)
theorem UR.br (h : UR p v v') (hv : boundB v = true) : BR p v v' := by
  cases h with
  | one h =>
    cases h with
    | one h =>
      refine .one (h.hr ?_)
      unfold boundB at hv
      split at hv
      · cases h with
        | flat h => simp [flat1] at h
      · exact hv
    | agg h => exact .agg (LR.hr h (by simpa [boundB] using hv))
  | tup h => simp [boundB, heldB] at hv
theorem CR.mono (hl : p.le q) (h : CR p v v') : CR q v v' := by
  cases h with
  | flat h => exact .flat h
  | ptr h => exact .ptr (hl _ _ h)
  | slice h h1 h2 => exact .slice (hl _ _ h) h1 h2
  | nil => exact .nil
  | mt => exact .mt
  | map h => exact .map (hl _ _ h)
  | clo h k => exact .clo (h.mono fun _ _ => BR.mono hl) (k.mono fun _ _ => PR.mono hl)
  | yield h => exact .yield (hl _ _ h)
theorem VR.mono (hl : p.le q) (h : VR p v v') : VR q v v' := by
  cases h with
  | one h => exact .one (h.mono hl)
  | agg h => exact .agg (h.mono fun _ _ => CR.mono hl)
theorem UR.mono (hl : p.le q) (h : UR p v v') : UR q v v' := by
  cases h with
  | one h => exact .one (h.mono hl)
  | tup h => exact .tup (h.mono fun _ _ => VR.mono hl)
theorem CR.ur (h : CR p v v') : UR p v v' := .one (.one h)
theorem flat2_vr (h : flat2 v = true) : VR p v v := by
  unfold flat2 at h
  split at h
  · rename_i cs
    obtain ⟨cs⟩ := cs
    exact .agg (LR.refl fun x hx => .flat (by simp at h; exact h x hx))
  · exact .one (.flat h)
theorem flat_ur (h : flat v = true) : UR p v v := by
  unfold flat at h
  split at h
  · rename_i cs
    obtain ⟨cs⟩ := cs
    exact .tup (LR.refl fun x hx => flat2_vr (by simp at h; exact h x hx))
  · exact .one (flat2_vr h)
/-- a flat value is related to itself alone -/
theorem CR.eq_of_flat (h : CR p v v') (hf : flat1 v = true) : v' = v := by
  cases h with
  | flat _ => rfl
  | ptr h => simp [flat1, Ev.ptr] at hf
  | slice h h1 h2 => simp [flat1, aslice] at hf
  | nil => rfl
  | mt => simp [flat1, mtv] at hf
  | map h => simp [flat1] at hf
  | clo h k =>
    simp [flat1] at hf
    obtain ⟨rfl, rfl⟩ := hf
    cases h
    cases k
    rfl
  | yield h => simp [flat1] at hf
theorem LR.eq_of {R : Value → Value → Prop} {f : Value → Bool} (hr : ∀ x y, R x y → f x = true → y = x) : ∀ {xs ys : List Value}, LR R xs ys → xs.all f = true → ys = xs
  | _, _, .nil, _ => rfl
  | _, _, .cons h t, ha => by
    simp only [List.all_cons, Bool.and_eq_true] at ha
    rw [hr _ _ h ha.1, LR.eq_of hr t ha.2]
theorem CR.not_agg (h : CR p v v') : cellB v = true ∧ cellB v' = true := by
  cases h with
  | flat h => cases v <;> simp_all [flat1, cellB]
  | ptr h => exact ⟨rfl, rfl⟩
  | slice h h1 h2 => exact ⟨rfl, rfl⟩
  | nil => exact ⟨rfl, rfl⟩
  | mt => exact ⟨rfl, rfl⟩
  | map h => exact ⟨rfl, rfl⟩
  | clo h => exact ⟨rfl, rfl⟩
  | yield h => exact ⟨rfl, rfl⟩
theorem VR.eq_of_flat (h : VR p v v') (hf : flat2 v = true) : v' = v := by
  cases h with
  | one h =>
    refine h.eq_of_flat ?_
    have := h.not_agg.1
    cases v <;> simp_all [flat2, cellB]
  | agg h => rw [LR.eq_of (fun x y => CR.eq_of_flat) h (by simpa [flat2] using hf)]
theorem VR.not_tuple (h : VR p v v') : ∀ vs, v ≠ .tuple vs := by
  intro vs e
  subst e
  cases h with
  | one h => have := h.not_agg.1; simp [cellB] at this
theorem UR.eq_of_flat (h : UR p v v') (hf : flat v = true) : v' = v := by
  cases h with
  | one h =>
    refine h.eq_of_flat ?_
    have := h.not_tuple
    cases v <;> simp_all [flat]
  | tup h => rw [LR.eq_of (fun x y => VR.eq_of_flat) h (by simpa [flat] using hf)]
/-- the cells of a value -/
theorem UR.cells (h : UR p v v') (hc : v.cells.toList.all cellB = true) : LR (CR p) v.cells.toList v'.cells.toList := by
  cases h with
  | one h =>
    cases h with
    | one h =>
      have h1 := h.not_agg.1
      have h2 := h.not_agg.2
      have e1 : v.cells = #[v] := by cases v <;> simp_all [Value.cells, cellB]
      have e2 : v'.cells = #[v'] := by cases v' <;> simp_all [Value.cells, cellB]
      rw [e1, e2]
      exact .cons h .nil
    | agg h => exact h
  | tup h => simp [Value.cells, cellB] at hc
theorem UR.ptrOf {r o : Nat} (h : UR p v v') (hv : ptrOf v = some (r, o)) : ∃ b e, v' = ptr b o ∧ p r = some (b, e) := by
  have hv' : v = ptr r o := by
    unfold Ev.ptrOf at hv
    split at hv
    · simp only [Option.some.injEq, Prod.mk.injEq] at hv; obtain ⟨rfl, rfl⟩ := hv; rfl
    · simp at hv
  subst hv'
  cases h with
  | one h => cases h with
    | one h =>
      cases h with
      | flat h => simp [flat1, Ev.ptr] at h
      | ptr h => exact ⟨_, _, rfl, h⟩
theorem UR.sliceOf {r o n c : Nat} (h : UR p v v') (hv : sliceOf v = some (some (r, o), n, c)) : v = aslice r o n c ∧ ∃ b e c', v' = aslice b o n c' ∧ p r = some (b, e) ∧ c ≤ c' ∧ Room e o c c' := by
  have hv' : v = aslice r o n c := by
    unfold Ev.sliceOf at hv
    split at hv <;> simp at hv
    obtain ⟨⟨rfl, rfl⟩, rfl, rfl⟩ := hv
    rfl
  subst hv'
  refine ⟨rfl, ?_⟩
  cases h with
  | one h => cases h with
    | one h =>
      cases h with
      | flat h => simp [flat1, aslice] at h
      | slice h h1 h2 => exact ⟨_, _, _, rfl, h, h1, h2⟩
theorem UR.sliceNil {n c : Nat} (h : UR p v v') (hv : Ev.sliceOf v = some (none, n, c)) : v = .slice none n c ∧ v' = .slice none n c := by
  have hv' : v = .slice none n c := by
    unfold Ev.sliceOf at hv
    split at hv <;> simp at hv
    obtain ⟨rfl, rfl⟩ := hv
    rfl
  subst hv'
  refine ⟨rfl, ?_⟩
  cases h with
  | one h => cases h with
    | one h =>
      cases h with
      | flat h => rfl
      | nil => rfl
theorem UR.intOf {n : Int} (h : UR p v v') (hv : intOf v = some n) : ∃ k, v = .int k n ∧ v' = v := by
  unfold Ev.intOf at hv
  split at hv
  · simp only [Option.some.injEq] at hv; subst hv; exact ⟨_, rfl, h.eq_of_flat rfl⟩
  · simp at hv
theorem UR.boolOf {b : Bool} (h : UR p v v') (hv : boolOf v = some b) : v = .bool b ∧ v' = .bool b := by
  unfold Ev.boolOf at hv
  split at hv
  · simp only [Option.some.injEq] at hv; subst hv; exact ⟨rfl, h.eq_of_flat rfl⟩
  · simp at hv
theorem UR.strOf {b : ByteArray} (h : UR p v v') (hv : strOf v = some b) : v = .string b ∧ v' = .string b := by
  unfold Ev.strOf at hv
  split at hv
  · simp only [Option.some.injEq] at hv; subst hv; exact ⟨rfl, h.eq_of_flat rfl⟩
  · simp at hv
theorem UR.aggOf {cs : List Value} (h : UR p v v') (hv : aggOf v = some cs) : v = .agg ⟨cs⟩ ∧ ∃ cs', v' = .agg ⟨cs'⟩ ∧ LR (CR p) cs cs' := by
  unfold Ev.aggOf at hv
  split at hv
  · simp only [Option.some.injEq] at hv
    rename_i cs0
    obtain ⟨cs0⟩ := cs0
    subst hv
    refine ⟨rfl, ?_⟩
    cases h with
    | one h => cases h with
      | one h => have := h.not_agg.1; simp [cellB] at this
      | agg h => exact ⟨_, rfl, h⟩
  · simp at hv
theorem UR.tupleOf {cs : List Value} (h : UR p v v') (hv : tupleOf v = some cs) : v = .tuple ⟨cs⟩ ∧ ∃ cs', v' = .tuple ⟨cs'⟩ ∧ LR (VR p) cs cs' := by
  unfold Ev.tupleOf at hv
  split at hv
  · simp only [Option.some.injEq] at hv
    rename_i cs0
    obtain ⟨cs0⟩ := cs0
    subst hv
    refine ⟨rfl, ?_⟩
    cases h with
    | one h => exact absurd rfl (h.not_tuple _)
    | tup h => exact ⟨_, rfl, h⟩
  · simp at hv
theorem UR.mapOf {r : Nat} (h : UR p v v') (hv : mapOf v = some (some r)) : v = .map (some r) ∧ ∃ b e, v' = .map (some b) ∧ p r = some (b, e) := by
  unfold Ev.mapOf at hv
  split at hv
  · simp only [Option.some.injEq] at hv
    subst hv
    refine ⟨rfl, ?_⟩
    cases h with
    | one h => cases h with
      | one h => cases h with
        | flat h => simp [flat1] at h
        | map h => exact ⟨_, _, rfl, h⟩
  · simp at hv
theorem UR.mapNil (h : UR p v v') (hv : Ev.mapOf v = some none) : v = .map none ∧ v' = .map none := by
  unfold Ev.mapOf at hv
  split at hv
  · simp only [Option.some.injEq] at hv
    subst hv
    exact ⟨rfl, h.eq_of_flat rfl⟩
  · simp at hv
theorem UR.cloOf {f : FuncId} {fs cs : List Value} (h : UR p v v') (hv : cloOf v = some (f, fs, cs)) : v = .func (.func f) ⟨fs⟩ ⟨cs⟩ ∧ ∃ fs' cs', v' = .func (.func f) ⟨fs'⟩ ⟨cs'⟩ ∧ LR (BR p) fs fs' ∧ LR (PR p) cs cs' := by
  unfold Ev.cloOf at hv
  split at hv
  · rename_i f0 first caps
    obtain ⟨first⟩ := first
    obtain ⟨caps⟩ := caps
    simp only [Option.some.injEq, Prod.mk.injEq] at hv
    obtain ⟨rfl, rfl, rfl⟩ := hv
    refine ⟨rfl, ?_⟩
    cases h with
    | one h => cases h with
      | one h => cases h with
        | flat h =>
          simp [flat1] at h
          obtain ⟨rfl, rfl⟩ := h
          exact ⟨[], [], rfl, .nil, .nil⟩
        | clo h k => exact ⟨_, _, rfl, h, k⟩
  · simp at hv
theorem UR.yieldOf {l : Nat} (h : UR p v v') (hv : yieldOf v = some l) : v = .func (.yield l) #[] #[] ∧ ∃ b e, v' = .func (.yield b) #[] #[] ∧ p l = some (b, e) := by
  unfold Ev.yieldOf at hv
  split at hv
  · split at hv
    · rename_i l0 first caps _ _ hfirst hcaps
      obtain ⟨first⟩ := first
      obtain ⟨caps⟩ := caps
      simp only [Option.some.injEq] at hv
      subst hv
      have hfirst' : first = [] := hfirst
      have hcaps' : caps = [] := hcaps
      subst hfirst' hcaps'
      refine ⟨rfl, ?_⟩
      cases h with
      | one h => cases h with
        | one h => cases h with
          | flat h => simp [flat1] at h
          | yield h => exact ⟨_, _, rfl, h⟩
    · simp at hv
  · simp at hv
end
end Go.Ev
