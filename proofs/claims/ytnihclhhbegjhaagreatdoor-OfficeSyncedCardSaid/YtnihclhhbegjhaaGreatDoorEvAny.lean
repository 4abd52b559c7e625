/- A region whose order is drawn: every order. -/
import Derived.Test.YtnihclhhbegjhaaGreatDoorEvDraw
set_option linter.unusedSectionVars false
set_option linter.unusedSimpArgs false
set_option linter.unusedVariables false
namespace Go.Ev
variable [Ground]
variable {P : Program} {call : CallB} {all : List Oper} {masks : List Nat} {rsv : List (Nat × Nat)} {m lm n : Nat} {C : Nat → Ctx} {T : Nat → S} {V : Nat → Value} {L L' : Nat → Bool} {i j k r x y : Nat} {o : Oper} {ov : OV} {s s' s1 : S}
  {p0 p p' : Pi} {w0 w w' : World} {A : Act} {v' : Value} {tm tm' : Ctx} {F : Fence} {Q : Exit → Act → World → Prop} {listed : Array Bool}

/-! ### Lists of what has been run -/
theorem getD_set (hi : i < listed.size) (d : Bool) : (listed.setIfInBounds i true).getD k d = if k = i then true else listed.getD k d := by
  rw [Array.getD_eq_getD_getElem?, Array.getD_eq_getD_getElem?, Array.getElem?_setIfInBounds]
  by_cases h : i = k
  · subst h; simp [hi]
  · rw [if_neg h, if_neg (Ne.symm h)]
theorem getD_any (hi : i < listed.size) (d d' : Bool) : listed.getD i d = listed.getD i d' := by
  rw [Array.getD_eq_getD_getElem?, Array.getD_eq_getD_getElem?, Array.getElem?_eq_getElem hi]
  rfl
def left (listed : Array Bool) : Nat := listed.toList.count false
theorem count_set_true : ∀ (l : List Bool) (i : Nat), l[i]? = some false → (l.set i true).count false + 1 = l.count false
  | [], i, h => by simp at h
  | x :: l, 0, h => by simp at h; subst h; simp
  | x :: l, i + 1, h => by
    have := count_set_true l i (by simpa using h)
    simp only [List.set_cons_succ, List.count_cons]
    omega
theorem left_set (hi : i < listed.size) (h : listed.getD i true = false) : left (listed.setIfInBounds i true) + 1 = left listed := by
  unfold left
  rw [Array.toList_setIfInBounds]
  refine count_set_true _ i ?_
  rw [Array.getD_eq_getD_getElem?] at h
  rw [Array.getElem?_toList]
  cases h1 : listed[i]? with
  | none => rw [h1] at h; cases h
  | some b => rw [h1] at h; simp at h; rw [h]
theorem left_pos (hi : i < listed.size) (h : listed.getD i true = false) : 0 < left listed := by
  have := left_set hi h
  omega
theorem ready_iff : i ∈ Region.ready .any ⟨all⟩ listed ↔ ∃ o, all[i]? = some o ∧ listed.getD i true = false ∧ ∀ e ∈ o.after.toList, Region.binds .any e = true → listed.getD e.on false = true := by
  unfold Region.ready
  simp only [List.mem_filter, List.mem_range, Bool.and_eq_true, Bool.not_eq_true']
  constructor
  · rintro ⟨h1, h2, h3⟩
    have h1' : i < all.length := h1
    refine ⟨all[i], List.getElem?_eq_getElem h1', h2, fun e he hb => ?_⟩
    have h3' : (((all[i]?).map (·.after.all fun e => !Region.binds .any e || listed.getD e.on false)).getD false) = true := by simpa using h3
    rw [List.getElem?_eq_getElem h1'] at h3'
    simp only [Option.map_some, Option.getD_some] at h3'
    rw [← Array.all_toList, List.all_eq_true] at h3'
    have := h3' e he
    rw [hb] at this
    simpa using this
  · rintro ⟨o, h1, h2, h3⟩
    refine ⟨getD_lt h1, h2, ?_⟩
    have e : (⟨all⟩ : Array Oper)[i]? = some o := by simpa using h1
    rw [e]
    simp only [Option.map_some, Option.getD_some]
    rw [← Array.all_toList, List.all_eq_true]
    intro e he
    cases hb : Region.binds .any e
    · rfl
    · rw [h3 e he hb]; rfl
/-- the first that has not been run is ready -/
theorem ready_first (hk : Chk all masks m) (hsz : listed.size = all.length) (hi : i < all.length) (h : listed.getD i true = false) : ∃ j, j ∈ Region.ready .any ⟨all⟩ listed := by
  induction i using Nat.strongRecOn with
  | _ i ih =>
    by_cases hall : ∀ j, j < i → listed.getD j true = true
    · have ho := List.getElem?_eq_getElem hi
      refine ⟨i, ready_iff.2 ⟨_, ho, h, fun e he hb => ?_⟩⟩
      have h1 := hk.edge i _ e ho he hb
      rw [← getD_any (by omega) true]
      exact hall _ h1
    · simp only [Classical.not_forall] at hall
      obtain ⟨j, hj, h1⟩ := hall
      exact ih j hj (by omega) (by simpa using h1)

/-! ### Behind the free operations -/
theorem rest_ok (hE : Env P) (hF : Open F) (hcall : CallOK P call) (hkp : CallKp call) (hk : Chk all masks m) : ∀ (l pre : List Oper), all = pre ++ l → m ≤ pre.length →
    ∀ {fuel : Nat} {tm : Ctx} {p : Pi} {s : S} {A : Act} {w : World} {listed : Array Bool}, opsB P call all l tm s = some (tm', s') → s'.nx ≤ lm → FrS lm p tm s A w → listed.size = all.length →
    (∀ k, k < all.length → (listed.getD k true = true ↔ k < pre.length)) → left listed ≤ fuel →
    (∀ p' A' w', Stp p s w p' s' w' → FrS lm p' tm' s' A' w' → Q .normal A' w') → wpAnyIn F n P .any ⟨all⟩ Q fuel listed A w
  | [], pre, hall, hm, fuel, tm, p, s, A, w, listed, h, hn, hfs, hsz, hl, hfuel, hQ => by
    simp only [opsB, Option.some.injEq, Prod.mk.injEq] at h
    obtain ⟨rfl, rfl⟩ := h
    have hq := hQ _ _ _ (.refl _ _ _) hfs
    have hnil : ∀ i, ¬ i ∈ Region.ready .any ⟨all⟩ listed := fun i hi => by
      obtain ⟨o, h1, h2, _⟩ := ready_iff.1 hi
      have h3 := getD_lt h1
      rw [(hl i h3).2 (by rw [hall] at h3; simpa using h3)] at h2
      cases h2
    cases fuel with
    | zero => exact ⟨List.eq_nil_iff_forall_not_mem.2 hnil, hq⟩
    | succ fuel => exact ⟨fun _ => hq, fun i hi => absurd hi (hnil i)⟩
  | o :: l, pre, hall, hm, fuel, tm, p, s, A, w, listed, h, hn, hfs, hsz, hl, hfuel, hQ => by
    simp only [opsB, bnd_some] at h
    obtain ⟨⟨v, s2⟩, h1, tm1, h2, h⟩ := h
    have hkk := opsB_kp hkp h
    have hi : all[pre.length]? = some o := by rw [hall]; simp
    have hlt := getD_lt hi
    have hno : listed.getD pre.length true = false := by
      cases hb : listed.getD pre.length true
      · rfl
      · have := (hl _ hlt).1 hb; omega
    cases fuel with
    | zero => have := left_pos (by omega) hno; omega
    | succ fuel =>
      refine ⟨fun hn' => ?_, fun i hir => ?_⟩
      · obtain ⟨j, hj⟩ := ready_first hk hsz hlt hno
        rw [hn'] at hj
        cases hj
      · obtain ⟨oi, g1, g2, g3⟩ := ready_iff.1 hir
        have gi := getD_lt g1
        have hge : pre.length ≤ i := by
          rcases Nat.lt_or_ge i pre.length with h3 | h3
          · rw [(hl i gi).2 h3] at g2; cases g2
          · exact h3
        have hei : i = pre.length := by
          rcases Nat.lt_or_eq_of_le hge with h3 | h3
          · obtain ⟨e, he, hb, h4⟩ := hk.suf i oi pre.length (by omega) g1 h3
            have h5 := hk.edge i oi e g1 he hb
            have h6 := g3 e he hb
            rw [getD_any (by omega) false true] at h6
            have h7 := (hl e.on (by omega)).1 h6
            rcases h4 with h4 | ⟨h4, _⟩ <;> omega
          · exact h3.symm
        subst hei
        rw [hi] at g1
        cases g1
        unfold wpOpIn
        have hi' : (⟨all⟩ : Array Oper)[pre.length]? = some o := by simpa using hi
        simp only [hi']
        refine op1B_ok hE hF hcall hfs.sim hfs.tr (Nat.le_trans hkk.nx hn) h1 hi (fun p' v' w' k1 k2 k3 => ?_)
        refine rest_ok hE hF hcall hkp hk l (pre ++ [o]) (by rw [hall]; simp) (by simp; omega) h hn ((hfs.step k1 k2).put h2 k3) (by simpa using hsz) (fun k hkl => ?_) ?_ (fun p'' A'' w'' j1 j2 => hQ p'' A'' w'' (k1.trans j1) j2)
        · rw [getD_set (by omega)]
          simp only [List.length_append, List.length_cons, List.length_nil]
          by_cases e : k = pre.length
          · simp [e]
          · rw [if_neg e, hl k hkl]; omega
        · have := left_set (by omega) g2
          omega

/-! ### The free operations -/
theorem free_ok (hE : Env P) (hF : Open F) (hcall : CallOK P call) (hc : CallKp call) (hk : Chk all masks m) (ht : Trace P call all masks rsv m C T V) (h0 : Start (T 0))
    (hrest : opsB P call all (all.drop m) (C m) (T m) = some (tm', s')) (hn : s'.nx ≤ lm) (hQ : ∀ p' A' w', Stp p0 (T 0) w0 p' s' w' → FrS lm p' tm' s' A' w' → Q .normal A' w') :
    ∀ (fuel : Nat) {listed : Array Bool} {p : Pi} {A : Act} {w : World}, listed.size = all.length → (∀ k, m ≤ k → k < all.length → listed.getD k true = false) → Inv lm all masks C T V m p0 w0 (fun k => listed.getD k true) p A w →
    left listed ≤ fuel → wpAnyIn F n P .any ⟨all⟩ Q fuel listed A w := by
  have hrk := opsB_kp hc hrest
  intro fuel
  induction fuel with
  | zero =>
    intro listed p A w hsz hsuf hinv hfuel
    refine rest_ok hE hF hcall hc hk (all.drop m) (all.take m) (List.take_append_drop m all).symm (by simp [Nat.min_eq_left hk.le]) hrest hn (hinv.done ht hc h0 fun k hkm => ?_).1 hsz (fun k hkl => ?_) hfuel (fun p' A' w' h1 h2 => hQ p' A' w' ((hinv.done ht hc h0 fun k hkm => ?_).2.trans h1) h2)
    all_goals
      have hall : ∀ k, k < all.length → listed.getD k true = true := fun k hkl => by
        cases hb : listed.getD k true
        · have := left_pos (by omega) hb; omega
        · rfl
    · exact hall k (hk.lt hkm)
    · rw [hall k hkl]
      simp only [List.length_take, Nat.min_eq_left hk.le, true_iff]
      rcases Nat.lt_or_ge k m with h1 | h1
      · exact h1
      · have := hsuf k h1 hkl; rw [hall k hkl] at this; cases this
    · exact hall k (hk.lt hkm)
  | succ fuel ih =>
    intro listed p A w hsz hsuf hinv hfuel
    by_cases hall : ∀ k, k < m → listed.getD k true = true
    · refine rest_ok hE hF hcall hc hk (all.drop m) (all.take m) (List.take_append_drop m all).symm (by simp [Nat.min_eq_left hk.le]) hrest hn (hinv.done ht hc h0 hall).1 hsz (fun k hkl => ?_) hfuel (fun p' A' w' h1 h2 => hQ p' A' w' ((hinv.done ht hc h0 hall).2.trans h1) h2)
      simp only [List.length_take, Nat.min_eq_left hk.le]
      rcases Nat.lt_or_ge k m with h1 | h1
      · rw [hall k h1]; simp [h1]
      · rw [hsuf k h1 hkl]
        constructor
        · intro h; cases h
        · intro h; omega
    · simp only [Classical.not_forall] at hall
      obtain ⟨k0, hk0, hno⟩ := hall
      have hno : listed.getD k0 true = false := by simpa using hno
      refine ⟨fun hn' => ?_, fun i hir => ?_⟩
      · obtain ⟨j, hj⟩ := ready_first hk hsz (hk.lt hk0) hno
        rw [hn'] at hj
        cases hj
      · obtain ⟨o, g1, g2, g3⟩ := ready_iff.1 hir
        have gi := getD_lt g1
        -- what an edge names has been run, and is free
        have hedge : ∀ e ∈ o.after.toList, Region.binds .any e = true → listed.getD e.on true = true ∧ e.on < m := fun e he hb => by
          have h5 := hk.edge i o e g1 he hb
          have h6 := g3 e he hb
          rw [getD_any (by omega) false true] at h6
          refine ⟨h6, ?_⟩
          rcases Nat.lt_or_ge e.on m with h7 | h7
          · exact h7
          · rw [hsuf e.on h7 (by omega)] at h6; cases h6
        have him : i < m := by
          rcases Nat.lt_or_ge i m with h3 | h3
          · exact h3
          · obtain ⟨e, he, hb, h4⟩ := hk.suf i o k0 h3 g1 (by omega)
            obtain ⟨h5, h6⟩ := hedge e he hb
            rcases h4 with h4 | ⟨_, h4⟩
            · rw [h4, hno] at h5; cases h5
            · have := hinv.closed e.on h6 h5 k0 (hk.lt hk0) h4
              rw [hno] at this
              cases this
        have hr : Rdy all masks m (fun k => listed.getD k true) i o := ⟨him, g1, g2, fun k hkl hb => by
          obtain ⟨_, e, he, hbe, h4⟩ := hk.bits i o k him g1 hkl hb
          obtain ⟨h5, h6⟩ := hedge e he hbe
          rcases h4 with h4 | h4
          · rw [← h4]; exact h5
          · exact hinv.closed e.on h6 h5 k hkl h4⟩
        obtain ⟨s1, hat⟩ := ht.at_ i o him g1
        obtain ⟨tmr, c1, c2⟩ := exists_ctx (C i) (o.looksAt ⟨all⟩)
        have hrun : op1B P call all tmr (entry masks rsv i (ivsOf T i) (C i) o (T i)) o = some (V i, s1) := by
          rw [op1B_congr (tm' := C i) fun d hd => c1 d hd]
          exact hat.run
        have htr : TR p tmr.t A.tmps := fun d v h => by
          obtain ⟨h1, h2⟩ := c2 d v h
          exact hinv.tmp d v (hr.tl hinv.closed hk ht h1 h2)
        have hn1 : s1.nx = (T (i + 1)).nx := by rw [hat.next]
        unfold wpOpIn
        have hi' : (⟨all⟩ : Array Oper)[i]? = some o := by simpa using g1
        simp only [hi']
        refine op1B_ok hE hF hcall (hinv.entry ht hc hk h0 hr) htr (by rw [hn1]; exact Nat.le_refl _) hrun g1 (fun p' v' w' k1 k2 k3 => ?_)
        refine ih (by simpa using hsz) (fun k hkm hkl => ?_) (hinv.step ht hc hk h0 hr (fun k => ?_) hat (ht.dst_lt him hat) k1 k2 k3) ?_
        · rw [getD_set (by omega), if_neg (by omega)]; exact hsuf k hkm hkl
        · rw [getD_set (by omega)]
          by_cases e : k = i
          · simp [e]
          · rw [if_neg e]; simp [e]
        · have := left_set (by omega) g2
          omega
/-- regions that draw their order -/
theorem draw_ok (hE : Env P) (hcall : CallOK P call) (hc : CallKp call) : DrawOK P call := by
  intro all masks m tm s tm' s' hok h lm p A w F n Q id hn hfs hF hQ
  have hk := chk hok
  obtain ⟨rsv, C, T, V, ht, hC, hT, hrest⟩ := drawB_trace hk.le h
  subst hC hT
  refine wpIn_region_any hE.mixed ?_
  have hrk := opsB_kp hc hrest
  have hL : ∀ k, k < m → (Array.replicate all.length false).getD k true = false := fun k hkm => by
    rw [Array.getD_eq_getD_getElem?, Array.getElem?_eq_getElem (by simpa using hk.lt hkm)]
    simp
  refine free_ok hE hF hcall hc hk ht ⟨hfs.sim.top, hfs.sim.ban, hfs.sim.low⟩ hrest hn hQ _ (listed := Array.replicate all.length false) (by simp) (fun k _ hkl => ?_) (ht.init hc (Nat.le_trans hrk.nx hn) hfs hL _) ?_
  · rw [Array.getD_eq_getD_getElem?, Array.getElem?_eq_getElem (by simpa using hkl)]
    simp
  · unfold left
    simp
end Go.Ev
