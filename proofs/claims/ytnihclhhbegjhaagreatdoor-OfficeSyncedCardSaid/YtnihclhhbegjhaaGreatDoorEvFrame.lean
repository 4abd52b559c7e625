/- Frames, and operations one after another. -/
import Derived.Test.YtnihclhhbegjhaaGreatDoorEvRun
import Derived.Test.YtnihclhhbegjhaaGreatDoorEvKeepRun
set_option linter.unusedSectionVars false
set_option linter.unusedSimpArgs false
set_option linter.unusedVariables false
namespace Go.Ev
variable [Ground]
variable {lm : Nat} {P : Program} {p p' p'' : Pi} {s s' s'' : S} {w w' w'' : World} {tm tm' : Ctx} {A A' : Act} {v v' : Value} {o : Oper} {F : Fence} {n : Nat}

def Mark (p : Pi) (r : Nat) (d : Deferred) : Prop := ∃ b e, p r = some (b, e) ∧ d = { target := .collected b, args := #[] }
/-- a frame of the small machine's and its memory, against the model's -/
structure FrS (lm : Nat) (p : Pi) (tm : Ctx) (s : S) (A : Act) (w : World) : Prop where
  sim : Sim lm p s w
  tr : TR p tm.t A.tmps
  size : A.tmps.size = tm.n
  marks : LR (Mark p) tm.marks A.defers
theorem Mark.mono (hl : p.le p') {r : Nat} {d : Deferred} (h : Mark p r d) : Mark p' r d := by
  obtain ⟨b, e, h1, h2⟩ := h
  exact ⟨b, e, hl _ _ h1, h2⟩
theorem FrS.step (h : FrS lm p tm s A w) (hst : Stp p s w p' s' w') (hs : Sim lm p' s' w') : FrS lm p' tm s' A w' :=
  ⟨hs, h.tr.mono hst.le, h.size, h.marks.mono fun _ _ => Mark.mono hst.le⟩
theorem TR.set {t : Tr Value} {tmps : Array Value} (h : TR p t tmps) {d : Nat} (hd : d < tmps.size) (hv : UR p v v') : TR p (t.set d (some v)) (tmps.setIfInBounds d v') := by
  intro i u hu
  rw [Tr.get_set] at hu
  by_cases e : i = d
  · rw [if_pos e] at hu
    simp only [Option.some.injEq] at hu
    subst hu e
    exact ⟨v', by simp [hd], hv⟩
  · rw [if_neg e] at hu
    obtain ⟨u', h1, h2⟩ := h i u hu
    exact ⟨u', by rw [Array.getElem?_setIfInBounds_ne (Ne.symm e)]; exact h1, h2⟩
theorem FrS.put (h : FrS lm p tm s A w) {dst : Option Tmp} (hp : putB tm dst v = some tm') (hv : UR p v v') : FrS lm p tm' s (A.put dst v') w := by
  unfold putB at hp
  cases dst with
  | none => simp only [Option.some.injEq] at hp; subst hp; exact h
  | some d =>
    simp only [Ctx.set, guard_some, Option.some.injEq] at hp
    obtain ⟨g, rfl⟩ := hp
    have g' : d < tm.n := by simpa [Nat.blt_eq] using g
    exact ⟨h.sim, h.tr.set (by rw [h.size]; exact g') hv, by simp [Act.put, h.size], h.marks⟩
theorem UR.bool_of (h : UR p v v') : (∀ b, v = .bool b → v' = .bool b) ∧ ((∀ b, v ≠ .bool b) → ∀ b, v' ≠ .bool b) := by
  refine ⟨fun b e => by subst e; exact h.eq_of_flat rfl, fun hn b e => ?_⟩
  subst e
  cases h with
  | one h => cases h with
    | one h => cases h with
      | flat h => exact hn _ rfl
theorem wantedB_ok (ht : TR p tm.t A.tmps) {all : List Oper} {b : Bool} (h : wantedB tm all o = some b) : Region.wanted o (yielded ⟨all⟩ A.tmps) = b := by
  unfold wantedB at h
  unfold Region.wanted
  split at h
  · rename_i hg
    simp only [Option.some.injEq] at h
    subst h
    rw [hg]
  · rename_i g hg
    obtain ⟨j, want⟩ := g
    simp only [bnd_some] at h
    obtain ⟨x, h1, d, h2, u, h3, h⟩ := h
    obtain ⟨u', h4, h5⟩ := ht _ _ h3
    rw [hg]
    simp only at h1 ⊢
    have hy : yielded ⟨all⟩ A.tmps j = match some u' with | some (.bool b) => some b | _ => none := by
      unfold yielded
      simp [h1, h2, h4]
      cases u' <;> rfl
    rw [hy]
    have h6 := h5.bool_of
    split at h
    · rename_i c
      simp only [Option.some.injEq] at h
      subst h
      rw [h6.1 c rfl]
      cases c <;> cases want <;> rfl
    · rename_i hne
      simp only [Option.some.injEq] at h
      subst h
      have h7 := h6.2 hne
      split
      · rename_i c hc
        simp only [Option.some.injEq] at hc
        exact absurd hc (h7 c)
      · rfl
/-- one operation of a region, wanted or not -/
theorem op1B_ok (hE : Env P) (hF : Open F) {call : CallB} (hcall : CallOK P call) (hs : Sim lm p s w) (ht : TR p tm.t A.tmps) (hm : s'.nx ≤ lm) {all : List Oper} (h : op1B P call all tm s o = some (v, s'))
    {i : Nat} (hi : all[i]? = some o) {K : Act → World → Prop} {Q : Exit → Act → World → Prop}
    (hK : ∀ p' v' w', Stp p s w p' s' w' → Sim lm p' s' w' → UR p' v v' → K (A.put o.dst v') w') :
    if Region.wanted o (yielded ⟨all⟩ A.tmps) then o.wpIn F n P A w K Q else (∀ f, o.about P w A.eval = some f → F.fn f) ∧ K (A.put o.dst undef) w := by
  unfold op1B at h
  simp only [bnd_some] at h
  obtain ⟨g, h1, h⟩ := h
  have hw := wantedB_ok ht h1
  cases g with
  | true =>
    rw [if_pos hw]
    exact opB_ok hE hF hcall hs hm ht h K Q hK
  | false =>
    rw [if_neg (by rw [hw]; simp)]
    simp only [Option.some.injEq, Prod.mk.injEq] at h
    obtain ⟨rfl, rfl⟩ := h
    exact ⟨fun f _ => hF.fn f, hK p undef w (.refl _ _ _) hs (flat_ur rfl)⟩
theorem opsB_ok (hE : Env P) (hF : Open F) {call : CallB} (hcall : CallOK P call) (hkp : CallKp call) {all : List Oper} {Q : Exit → Act → World → Prop} : ∀ (l pre : List Oper), all = pre ++ l →
    ∀ {tm : Ctx} {p : Pi} {s : S} {A : Act} {w : World}, opsB P call all l tm s = some (tm', s') → s'.nx ≤ lm → FrS lm p tm s A w →
    (∀ p' A' w', Stp p s w p' s' w' → FrS lm p' tm' s' A' w' → Q .normal A' w') → wpOpsIn F n P ⟨all⟩ Q (List.range' pre.length l.length) A w
  | [], pre, hall, tm, p, s, A, w, h, hm, hfs, hQ => by
    simp only [opsB, Option.some.injEq, Prod.mk.injEq] at h
    obtain ⟨rfl, rfl⟩ := h
    exact hQ _ _ _ (.refl _ _ _) hfs
  | o :: l, pre, hall, tm, p, s, A, w, h, hm, hfs, hQ => by
    simp only [opsB, bnd_some] at h
    obtain ⟨⟨v, s1⟩, h1, tm1, h2, h⟩ := h
    have hk := opsB_kp hkp h
    have hi : all[pre.length]? = some o := by rw [hall]; simp
    have hi' : (⟨all⟩ : Array Oper)[pre.length]? = some o := by simpa using hi
    simp only [List.length_cons, List.range'_succ, wpOpsIn, hi']
    refine op1B_ok hE hF hcall hfs.sim hfs.tr (Nat.le_trans hk.nx hm) h1 hi (fun p' v' w' k1 k2 k3 => ?_)
    have := opsB_ok hE hF hcall hkp l (pre ++ [o]) (by rw [hall]; simp) h hm ((hfs.step k1 k2).put h2 k3) (fun p'' A'' w'' j1 j2 => hQ p'' A'' w'' (k1.trans j1) j2)
    simpa using this
end Go.Ev
