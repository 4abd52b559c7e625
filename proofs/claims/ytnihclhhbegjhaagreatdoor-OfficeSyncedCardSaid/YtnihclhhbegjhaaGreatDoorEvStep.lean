/- A region whose order is drawn: one more of its operations is run. -/
import Derived.Test.YtnihclhhbegjhaaGreatDoorEvVirt
set_option linter.unusedSectionVars false
set_option linter.unusedSimpArgs false
set_option linter.unusedVariables false
namespace Go.Ev
variable [Ground]
variable {P : Program} {call : CallB} {all : List Oper} {masks : List Nat} {rsv : List (Nat × Nat)} {m lm : Nat} {C : Nat → Ctx} {T : Nat → S} {V : Nat → Value} {L L' : Nat → Bool} {i j k r x y : Nat} {o : Oper} {ov : OV} {s1 : S}
  {p0 p p' : Pi} {w0 w w' : World} {A : Act} {v' : Value}

def TL (all : List Oper) (C : Nat → Ctx) (V : Nat → Value) (m : Nat) (L : Nat → Bool) (d : Nat) (v : Value) : Prop :=
  (∃ j o, j < m ∧ L j = true ∧ all[j]? = some o ∧ o.dst = some d ∧ v = V j) ∨ ((∀ j o, j < m → L j = true → all[j]? = some o → o.dst ≠ some d) ∧ (C 0).t.get d = some v)
def Closed (masks : List Nat) (n m : Nat) (L : Nat → Bool) : Prop := ∀ i, i < m → L i = true → ∀ k, k < n → bit (masks.getD i 0) k = true → L k = true
/-- those of L have been run -/
structure Inv (lm : Nat) (all : List Oper) (masks : List Nat) (C : Nat → Ctx) (T : Nat → S) (V : Nat → Value) (m : Nat) (p0 : Pi) (w0 : World) (L : Nat → Bool) (p : Pi) (A : Act) (w : World) : Prop where
  closed : Closed masks all.length m L
  sim : Sim lm p (VS all C T m L) w
  stp : Stp p0 (T 0) w0 p (VS all C T m L) w
  gap : ∀ r, Gap T m L r → p r = none
  tmp : ∀ d v, TL all C V m L d v → ∃ v', A.tmps[d]? = some v' ∧ UR p v v'
  size : A.tmps.size = (C 0).n
  marks : LR (Mark p) (C 0).marks A.defers
/-- the memory at the start of the region -/
structure Start (s : S) : Prop where
  top : ∀ r, s.nx ≤ r → s.h.get r = none
  ban : ∀ r, banned s.ban r = true → r < s.nx
  low : s.lock ≤ s.nx
/-- the operation i can be run -/
structure Rdy (all : List Oper) (masks : List Nat) (m : Nat) (L : Nat → Bool) (i : Nat) (o : Oper) : Prop where
  lt : i < m
  op : all[i]? = some o
  new : L i = false
  dep : ∀ k, k < all.length → bit (masks.getD i 0) k = true → L k = true
theorem getD_lt {all : List Oper} (h : all[i]? = some o) : i < all.length := (List.getElem?_eq_some_iff.1 h).1
theorem Chk.lt (hk : Chk all masks m) (h : i < m) : i < all.length := Nat.lt_of_lt_of_le h hk.le
theorem Chk.get (hk : Chk all masks m) (h : i < m) : ∃ o, all[i]? = some o := ⟨_, List.getElem?_eq_getElem (hk.lt h)⟩
theorem Rdy.not_behind (hr : Rdy all masks m L i o) (hk : Chk all masks m) (hcl : Closed masks all.length m L) (hkm : k < m) (h : bit (masks.getD k 0) i = true) : i < k ∧ L k = false := by
  obtain ⟨ok, hok⟩ := hk.get hkm
  refine ⟨(hk.bits k ok i hkm hok (hk.lt hr.lt) h).1, ?_⟩
  cases hL : L k
  · rfl
  · have := hcl k hkm hL i (hk.lt hr.lt) h
    rw [hr.new] at this
    cases this
theorem Trace.seen_lt (ht : Trace P call all masks rsv m C T V) (hc : CallKp call) (h0 : Start (T 0)) (hi : i < m) (h : banned (seenBan masks rsv i (ivsOf T i) (T i)) r = true) : r < (T i).nx := by
  rcases (ht.seen hc hi r).1 h with h | ⟨k, h1, _, _, h2⟩ | ⟨h, _⟩
  · exact Nat.lt_of_lt_of_le (h0.ban r h) (ht.kp hc (Nat.zero_le i) (Nat.le_of_lt hi)).nx
  · exact Nat.lt_of_lt_of_le h2 (ht.kp hc h1 (Nat.le_of_lt hi)).nx
  · exact h
/-- what the operation sees is there -/
theorem Trace.any_entry (ht : Trace P call all masks rsv m C T V) (hc : CallKp call) (hk : Chk all masks m) (h0 : Start (T 0)) (hcl : Closed masks all.length m L) (hr : Rdy all masks m L i o)
    (h : (entry masks rsv i (ivsOf T i) (C i) o (T i)).any r = some ov) : (VS all C T m L).any r = some ov ∧ r < (T i).nx := by
  have hi := hr.lt
  have hb : banned (seenBan masks rsv i (ivsOf T i) (T i)) r = false := any_unbanned h
  have hg : (T i).h.get r = some ov := by
    unfold S.any at h
    rw [show banned (entry masks rsv i (ivsOf T i) (C i) o (T i)).ban r = false from hb] at h
    exact h
  have hlt : r < (T i).nx := by
    rcases Nat.lt_or_ge r (T i).nx with h1 | h1
    · exact h1
    · rw [(ht.kp hc (Nat.zero_le i) (Nat.le_of_lt hi)).dom h0.top r h1] at hg
      cases hg
  refine ⟨?_, hlt⟩
  rw [ht.any hc]
  have hs := fun h => show False by rw [(ht.seen hc hi r).2 h] at hb; cases hb
  refine ⟨by simpa using fun h => hs (.inl h), ?_, i, ⟨Nat.le_of_lt hi, hlt, fun k hkm ht' => ?_⟩, hg⟩
  · rintro ⟨k, h1, h2, h3, h4⟩
    have hki : k < i := by
      rcases Nat.lt_or_ge k i with h5 | h5
      · exact h5
      · have := (ht.kp hc h5 (Nat.le_of_lt h1)).nx
        omega
    cases hbit : bit (masks.getD i 0) k
    · exact hs (.inr (.inl ⟨k, hki, hbit, h3, h4⟩))
    · rw [hr.dep k (hk.lt h1) hbit] at h2
      cases h2
  · rcases ht.ord hc hi hkm ht' hlt hb with h | h | h
    · subst h; simp [hr.new]
    · have h5 := hk.bits i o k hi hr.op (hk.lt hkm) h
      exact ⟨fun _ => hr.dep k (hk.lt hkm) h, fun _ => h5.1⟩
    · obtain ⟨h5, h6⟩ := hr.not_behind hk hcl hkm h
      rw [h6]
      constructor
      · intro; omega
      · intro h; cases h
/-- r is made or written by i -/
def Mine (all : List Oper) (C : Nat → Ctx) (T : Nat → S) (i r : Nat) : Prop := ((T i).nx ≤ r ∧ r < (T (i + 1)).nx) ∨ Tg all C i r
theorem Trace.any_mine (ht : Trace P call all masks rsv m C T V) (hc : CallKp call) (hk : Chk all masks m) (h0 : Start (T 0)) (hcl : Closed masks all.length m L) (hr : Rdy all masks m L i o) (hL' : ∀ k, L' k = true ↔ L k = true ∨ k = i)
    (hat : At P call all masks rsv (ivsOf T i) rsv i (C i) (C (i + 1)) (T i) (T (i + 1)) (V i) o s1) (hm : Mine all C T i r) (h : (VS all C T m L').any r = some ov) : s1.any r = some ov := by
  have hi := hr.lt
  obtain ⟨_, _, x, hx, hg⟩ := (ht.any hc).1 h
  have hkp := op1B_kp hc hat.run
  have hfree : banned (seenBan masks rsv i (ivsOf T i) (T i)) r = false := by
    rcases hm with ⟨h1, h2⟩ | h1
    · cases hb : banned (seenBan masks rsv i (ivsOf T i) (T i)) r
      · rfl
      · have := ht.seen_lt hc h0 hi hb; omega
    · exact (ht.tg hc hi h1).free
  have hlt : r < (T (i + 1)).nx := by
    rcases hm with ⟨h1, h2⟩ | h1
    · exact h2
    · exact Nat.lt_of_lt_of_le (ht.tg hc hi h1).lt (ht.kp1 hc hi).nx
  have hgood : Good all C T m L' r (i + 1) := by
    refine ⟨hi, hlt, fun k hkm ht' => ?_⟩
    rw [hL']
    have hbeh : bit (masks.getD k 0) i = true → (k < i + 1 ↔ L k = true ∨ k = i) := fun hb => by
      obtain ⟨h5, h6⟩ := hr.not_behind hk hcl hkm hb
      rw [h6]
      constructor
      · intro; omega
      · rintro (h | h)
        · cases h
        · omega
    rcases hm with ⟨h1, h2⟩ | h1
    · have hf := ht.tg hc hkm ht'
      have hki : i < k := by
        rcases Nat.lt_or_ge i k with h5 | h5
        · exact h5
        · have := (ht.kp hc h5 (Nat.le_of_lt hi)).nx
          have := hf.lt
          omega
      cases hb : bit (masks.getD k 0) i
      · have := (ht.seen hc hkm r).2 (.inr (.inl ⟨i, hki, hb, h1, h2⟩))
        rw [hf.free] at this
        cases this
      · exact hbeh hb
    · rcases ht.ord hc hi hkm ht' (ht.tg hc hi h1).lt (ht.tg hc hi h1).free with h | h | h
      · subst h; simp
      · have h5 := hk.bits i o k hi hr.op (hk.lt hkm) h
        exact ⟨fun _ => .inl (hr.dep k (hk.lt hkm) h), fun _ => by omega⟩
      · exact hbeh h
  have h1 := ht.good_eq hc hx hgood
  rw [hat.next, hg] at h1
  unfold S.any
  rw [hkp.ban, show (entry masks rsv i (ivsOf T i) (C i) o (T i)).ban = seenBan masks rsv i (ivsOf T i) (T i) from rfl, hfree]
  exact h1
theorem Trace.any_other (ht : Trace P call all masks rsv m C T V) (hc : CallKp call) (hi : i < m) (hL' : ∀ k, L' k = true ↔ L k = true ∨ k = i)
    (hm : ¬ Mine all C T i r) (h : (VS all C T m L').any r = some ov) : (VS all C T m L).any r = some ov := by
  obtain ⟨h1, h2, x, hx, hg⟩ := (ht.any hc).1 h
  rw [ht.any hc]
  refine ⟨h1, fun ⟨k, h3, h4, h5⟩ => h2 ⟨k, h3, ?_, h5⟩, x, ⟨hx.1, hx.2.1, fun k hkm htg => ?_⟩, hg⟩
  · cases hb : L' k
    · rfl
    · rcases (hL' k).1 hb with h6 | h6
      · rw [h4] at h6; cases h6
      · subst h6; exact absurd (.inl h5) hm
  · rw [hx.2.2 k hkm htg, hL']
    constructor
    · rintro (h | h)
      · exact h
      · subst h; exact absurd (.inr htg) hm
    · exact .inl
theorem Inv.step (ht : Trace P call all masks rsv m C T V) (hc : CallKp call) (hk : Chk all masks m) (h0 : Start (T 0)) (hr : Rdy all masks m L i o) (hL' : ∀ k, L' k = true ↔ L k = true ∨ k = i)
    (hat : At P call all masks rsv (ivsOf T i) rsv i (C i) (C (i + 1)) (T i) (T (i + 1)) (V i) o s1) (hinv : Inv lm all masks C T V m p0 w0 L p A w) (hd : ∀ d, o.dst = some d → d < (C 0).n)
    (hst : Stp p (entry masks rsv i (ivsOf T i) (C i) o (T i)) w p' s1 w') (hs : Sim (T (i + 1)).nx p' s1 w') (hv : UR p' (V i) v') : Inv lm all masks C T V m p0 w0 L' p' (A.put o.dst v') w' := by
  have hi := hr.lt
  have hvs := isVS (all := all) (C := C) (T := T) (m := m) (L := L)
  have hvs' := isVS (all := all) (C := C) (T := T) (m := m) (L := L')
  have hcl := hinv.closed
  have hdf : (A.put o.dst v').defers = A.defers := by cases o.dst <;> rfl
  have hii := (ht.kp1 hc hi).nx
  have hi1 : (T (i + 1)).nx ≤ (T m).nx := (ht.kp hc hi (Nat.le_refl _)).nx
  have hn1 : s1.nx = (T (i + 1)).nx := by rw [hat.next]
  have h0i : (T 0).nx ≤ (T i).nx := (ht.kp hc (Nat.zero_le i) (Nat.le_of_lt hi)).nx
  have hnew : ∀ r y, p' r = some y → p r = some y ∨ ((T i).nx ≤ r ∧ r < (T (i + 1)).nx) := fun r y h => by
    rcases hst.new r y h with h | h
    · exact .inl h
    · exact .inr ⟨h.1, by rw [← hn1]; exact h.2⟩
  have hent : ∀ r, (entry masks rsv i (ivsOf T i) (C i) o (T i)).wr r = true → ((entry masks rsv i (ivsOf T i) (C i) o (T i)).any r).isSome = true → Tg all C i r ∧ ((VS all C T m L).any r).isSome = true := fun r h1 h2 => by
    obtain ⟨ov, h3⟩ := Option.isSome_iff_exists.1 h2
    obtain ⟨h4, h5⟩ := ht.any_entry hc hk h0 hcl hr h3
    refine ⟨?_, by rw [h4]; rfl⟩
    rcases entry_wr h1 with h6 | h6
    · omega
    · exact ⟨o, hr.op, h6⟩
  have hK : ∀ b, b < w.heap.size → w'.heap[b]? = w.heap[b]? ∨ ∃ r0 e0, Tg all C i r0 ∧ ((VS all C T m L).any r0).isSome = true ∧ p r0 = some (b, e0) := fun b hb => by
    rcases hst.keep b hb with h | ⟨r0, e0, h1, h2, h3⟩
    · exact .inl h
    · obtain ⟨h4, h5⟩ := hent r0 h1 h2
      exact .inr ⟨r0, e0, h4, h5, h3⟩
  have hB : ∀ r b e, (s1.any r).isSome = true → p' r = some (b, e) → (((VS all C T m L).any r).isSome = true ∧ p r = some (b, e)) ∨ ((T i).nx ≤ r ∧ (w.heap.size ≤ b ∨ ∃ r0 e0, Tg all C i r0 ∧ ((VS all C T m L).any r0).isSome = true ∧ p r0 = some (b, e0))) := fun r b e h1 h2 => by
    rcases hst.born r b e h1 h2 with ⟨h3, h4⟩ | ⟨h3, h4⟩
    · obtain ⟨ov, h5⟩ := Option.isSome_iff_exists.1 h3
      exact .inl ⟨by rw [(ht.any_entry hc hk h0 hcl hr h5).1]; rfl, h4⟩
    · refine .inr ⟨h3, h4.imp id ?_⟩
      rintro ⟨r0, e0, h5, h6, h7⟩
      obtain ⟨h8, h9⟩ := hent r0 h5 h6
      exact ⟨r0, e0, h8, h9, h7⟩
  have hmine : ∀ r, Mine all C T i r → ((VS all C T m L').any r).isSome = true → (s1.any r).isSome = true := fun r h1 h2 => by
    obtain ⟨ov, h3⟩ := Option.isSome_iff_exists.1 h2
    rw [ht.any_mine hc hk h0 hcl hr hL' hat h1 h3]
    rfl
  have hother : ∀ r, ¬ Mine all C T i r → ((VS all C T m L').any r).isSome = true → ((VS all C T m L).any r).isSome = true := fun r h1 h2 => by
    obtain ⟨ov, h3⟩ := Option.isSome_iff_exists.1 h2
    rw [ht.any_other hc hi hL' h1 h3]
    rfl
  have hold : ∀ r y, ¬ Mine all C T i r → p' r = some y → p r = some y := fun r y h1 h2 => by
    rcases hnew r y h2 with h | h
    · exact h
    · exact absurd (.inl h) h1
  -- a block that is old is not one that is new
  have hcross : ∀ r r' b e e', ¬ Mine all C T i r → ((VS all C T m L).any r).isSome = true → p r = some (b, e) → (s1.any r').isSome = true → p' r' = some (b, e') → r = r' := fun r r' b e e' h1 h2 h3 h4 h5 => by
    rcases hB r' b e' h4 h5 with ⟨h6, h7⟩ | ⟨_, h6 | ⟨r0, e0, h6, h7, h8⟩⟩
    · exact hinv.sim.inj r r' b e e' h2 h6 h3 h7
    · have := hinv.sim.blk r b e h2 h3
      omega
    · have := hinv.sim.inj r r0 b e e0 h2 h7 h3 h8
      subst this
      exact absurd (.inr h6) h1
  -- what has been there since the region began
  have hsince : ∀ r0 b e0, Tg all C i r0 → ((VS all C T m L).any r0).isSome = true → p r0 = some (b, e0) → w0.heap.size ≤ b ∨ ∃ r1 e1, (T 0).wr r1 = true ∧ ((T 0).any r1).isSome = true ∧ p0 r1 = some (b, e1) := fun r0 b e0 h1 h2 h3 => by
    rcases hinv.stp.born r0 b e0 h2 h3 with ⟨h4, h5⟩ | ⟨_, h4⟩
    · exact .inr ⟨r0, e0, (ht.tg hc hi h1).wr, h4, h5⟩
    · exact h4
  refine ⟨fun j hj hLj k hkl hb => ?_, ⟨⟨fun r y h => ?_, fun r h => ?_, fun r h => ?_, ?_, fun r ov h => ?_, fun r r' b e e' h1 h2 h3 h4 => ?_⟩, ⟨fun r b e h0 h1 h2 => ?_, hs.gr.below, hs.gr.glob, by rw [hvs'.lock, ← hvs.lock]; exact hinv.sim.gr.lock, by rw [hvs'.ext, ← hvs.ext]; exact hinv.sim.gr.ext⟩⟩, ?_, fun r hg => ?_, fun d v h => ?_, ?_, by rw [hdf]; exact hinv.marks.mono fun _ _ => Mark.mono hst.le⟩
  · rw [hL']
    rcases (hL' j).1 hLj with h | h
    · exact .inl (hcl j hj h k hkl hb)
    · subst h; exact .inl (hr.dep k hkl hb)
  · rw [hvs'.nx]
    rcases hnew r y h with h1 | h1
    · have := hinv.sim.dom r y h1
      rw [hvs.nx] at this
      exact this
    · exact .inl (by omega)
  · rw [hvs'.get, if_neg (by rw [hvs'.nx] at h; omega)]
  · rw [hvs'.nx]
    rcases (hvs'.ban r).1 h with h1 | ⟨k, h1, _, _, h2⟩
    · have := h0.ban r h1
      omega
    · exact Nat.lt_of_lt_of_le h2 (ht.kp hc h1 (Nat.le_refl _)).nx
  · rw [hvs'.nx, hvs'.lock]
    have := hinv.sim.low
    rw [hvs.nx, hvs.lock] at this
    exact this
  · by_cases hm : Mine all C T i r
    · exact hs.obj r ov (ht.any_mine hc hk h0 hcl hr hL' hat hm h)
    · have h1 := ht.any_other hc hi hL' hm h
      obtain ⟨b, e, o', h2, h3, h4⟩ := hinv.sim.obj r ov h1
      refine ⟨b, e, o', hst.le _ _ h2, ?_, h4.mono hst.le⟩
      rcases hK b (hinv.sim.blk r b e (by rw [h1]; rfl) h2) with h5 | ⟨r0, e0, h5, h6, h7⟩
      · rw [h5]; exact h3
      · have := hinv.sim.inj r r0 b e e0 (by rw [h1]; rfl) h6 h2 h7
        subst this
        exact absurd (.inr h5) hm
  · by_cases hm : Mine all C T i r
    · by_cases hm' : Mine all C T i r'
      · exact hs.inj r r' b e e' (hmine r hm h1) (hmine r' hm' h2) h3 h4
      · exact (hcross r' r b e' e hm' (hother r' hm' h2) (hold r' _ hm' h4) (hmine r hm h1) h3).symm
    · by_cases hm' : Mine all C T i r'
      · exact hcross r r' b e e' hm (hother r hm h1) (hold r _ hm h3) (hmine r' hm' h2) h4
      · exact hinv.sim.inj r r' b e e' (hother r hm h1) (hother r' hm' h2) (hold r _ hm h3) (hold r' _ hm' h4)
  · by_cases hm : Mine all C T i r
    · exact hs.gr.own r b e h0 (hmine r hm h1) h2
    · exact hinv.sim.gr.own r b e h0 (hother r hm h1) (hold r _ hm h2)
  · refine ⟨Pi.le_trans hinv.stp.le hst.le, fun r y h => ?_, ?_, hvs'.lock, hvs'.ext, Nat.le_trans hinv.stp.size hst.size, hst.os.trans hinv.stp.os, hst.tape.trans hinv.stp.tape, hst.output.trans hinv.stp.output, fun b hb => ?_, fun r b e h1 h2 => ?_⟩
    · rw [hvs'.nx]
      rcases hnew r y h with h1 | h1
      · have := hinv.stp.new r y h1
        rw [hvs.nx] at this
        exact this
      · exact .inr (by omega)
    · rw [hvs'.nx]; exact Nat.le_trans h0i (Nat.le_trans (ht.kp1 hc hi).nx hi1)
    · rcases hK b (Nat.lt_of_lt_of_le hb hinv.stp.size) with h | ⟨r0, e0, h1, h2, h3⟩
      · rw [h]; exact hinv.stp.keep b hb
      · rcases hsince r0 b e0 h1 h2 h3 with h4 | h4
        · omega
        · exact .inr h4
    · by_cases hm : Mine all C T i r
      · rcases hB r b e (hmine r hm h1) h2 with ⟨h3, h4⟩ | ⟨h3, h4⟩
        · exact hinv.stp.born r b e h3 h4
        · refine .inr ⟨Nat.le_trans h0i h3, ?_⟩
          rcases h4 with h4 | ⟨r0, e0, h4, h5, h6⟩
          · exact .inl (Nat.le_trans hinv.stp.size h4)
          · exact hsince r0 b e0 h4 h5 h6
      · exact hinv.stp.born r b e (hother r hm h1) (hold r _ hm h2)
  · obtain ⟨k, h1, h2, h3, h4⟩ := hg
    have hne : k ≠ i ∧ L k = false := by
      constructor
      · rintro rfl
        rw [(hL' k).2 (.inr rfl)] at h2
        cases h2
      · cases hb : L k
        · rfl
        · rw [(hL' k).2 (.inl hb)] at h2
          cases h2
    have hp := hinv.gap r ⟨k, h1, hne.2, h3, h4⟩
    cases hp' : p' r with
    | none => rfl
    | some y =>
      rcases hnew r y hp' with h5 | h5
      · rw [hp] at h5; cases h5
      · exfalso
        rcases Nat.lt_or_gt_of_ne hne.1 with h6 | h6
        · have : (T (k + 1)).nx ≤ (T i).nx := (ht.kp hc h6 (Nat.le_of_lt hi)).nx
          omega
        · have : (T (i + 1)).nx ≤ (T k).nx := (ht.kp hc h6 (Nat.le_of_lt h1)).nx
          omega
  · have hput : ∀ v, (o.dst = some d → v = V i) → (o.dst ≠ some d → TL all C V m L d v) → ∃ v'', (A.put o.dst v').tmps[d]? = some v'' ∧ UR p' v v'' := fun v h1 h2 => by
      by_cases hdd : o.dst = some d
      · rw [h1 hdd]
        refine ⟨v', ?_, hv⟩
        rw [hdd]
        have : d < A.tmps.size := by rw [hinv.size]; exact hd d hdd
        simp [Act.put, this]
      · obtain ⟨v'', h3, h4⟩ := hinv.tmp d v (h2 hdd)
        refine ⟨v'', ?_, h4.mono hst.le⟩
        cases hdo : o.dst with
        | none => exact h3
        | some d' =>
          have : d' ≠ d := fun e => hdd (by rw [hdo, e])
          simp only [Act.put]
          rw [Array.getElem?_setIfInBounds_ne this]
          exact h3
    rcases h with ⟨j, oj, h1, h2, h3, h4, h5⟩ | ⟨h1, h2⟩
    · refine hput v (fun hdd => ?_) (fun hdd => ?_)
      · have := hk.dst i o j oj d hi hr.op h1 h3 h4 hdd
        subst this
        exact h5
      · rcases (hL' j).1 h2 with h6 | h6
        · exact .inl ⟨j, oj, h1, h6, h3, h4, h5⟩
        · subst h6
          rw [hr.op] at h3
          cases h3
          exact absurd h4 hdd
    · refine hput v (fun hdd => absurd hdd (h1 i o hi ((hL' i).2 (.inr rfl)) hr.op)) (fun _ => .inr ⟨fun j oj hj hLj => h1 j oj hj ((hL' j).2 (.inl hLj)), h2⟩)
  · rw [← hinv.size]
    cases o.dst <;> simp [Act.put]
end Go.Ev
