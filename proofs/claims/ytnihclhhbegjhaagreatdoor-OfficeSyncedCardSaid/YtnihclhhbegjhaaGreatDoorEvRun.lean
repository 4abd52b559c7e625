/- The operations, in the walk's words. -/
import Derived.Test.YtnihclhhbegjhaaGreatDoorEvWrite
import Derived.Test.YtnihclhhbegjhaaGreatDoorEvKeep
import Derived.Lib.MakeNoZero
import Derived.Laws.Externs
import Derived.KernelRfl
import Derived.RangeFuncCalls
import Derived.RangeFuncNested
import Derived.RangeFuncLeaves
set_option linter.unusedSectionVars false
set_option linter.unusedSimpArgs false
set_option linter.unusedVariables false
namespace Go.Ev
variable [Ground]
variable {lm : Nat} {P : Program} {p : Pi} {s s' : S} {w : World} {tm : Ctx} {A : Act} {v : Value} {o : Oper} {F : Fence} {n : Nat}

/-- the fences that shut nothing out -/
def Open (F : Fence) : Prop := F = Fence.wide ∨ ∃ b, F = Fence.wide.inRound b
theorem Open.fn (h : Open F) (f : FuncId) : F.fn f := by
  rcases h with rfl | ⟨b, rfl⟩ <;> exact trivial
theorem Open.depth (h : Open F) : F.depth = none := by
  rcases h with rfl | ⟨b, rfl⟩ <;> rfl
structure Env (P : Program) : Prop where
  names : ∀ (f : Nat) fn, P.funcs[f]? = some fn → (fn.name == "runtime.NumGoroutine") = false
  mixed : P.follows .mixedOrders = true

/-- the operation does in the model what it does in the small machine -/
def Does (F : Fence) (n : Nat) (P : Program) (o : Oper) (A : Act) (w : World) (lm : Nat) (p : Pi) (s : S) (v : Value) (s' : S) : Prop :=
  ∀ (K : Act → World → Prop) (Q : Exit → Act → World → Prop),
    (∀ p' v' w', Stp p s w p' s' w' → Sim lm p' s' w' → UR p' v v' → K (A.put o.dst v') w') → o.wpIn F n P A w K Q
theorem Gives.does (hF : Open F) (hd : ∀ c, o.op ≠ .defer c) (h : Gives P lm w (execOp A.eval o) p s v s') : Does F n P o A w lm p s v s' := by
  intro K Q hK
  obtain ⟨p', v', w', r, hr, hv, hst, hsim, hu⟩ := h
  refine ⟨fun f _ => hF.fn f, ?_⟩
  rw [Oper.semAt_eq _ _ _ hd, hr]
  rcases hv with rfl | ⟨rfl, rfl⟩
  · exact hK _ _ _ hst hsim hu
  · exact hK _ _ _ hst hsim hu

/-- what a call ends in -/
def Ret (lm : Nat) (p : Pi) (s : S) (w : World) (v : Value) (s' : S) (e : Ending) (w' : World) : Prop := ∃ p' v', e = .returned v' ∧ Stp p s w p' s' w' ∧ Sim lm p' s' w' ∧ UR p' v v'
def laid (r : Loop) (args : List Value) : Array Value := (r.params.zip ⟨args⟩).foldl (fun tmps (t, a) => tmps.setIfInBounds t a) r.tmps
def CallOK (P : Program) (call : CallB) : Prop := ∀ f args s v s', call f args s = some (v, s') → ∀ lm p w args', s'.nx ≤ lm → Sim lm p s w → LR (UR p) args args' →
  (∀ g, f = .func (.func g) #[] #[] → ∀ n, CallsIn Fence.wide n P g ⟨args'⟩ w (Ret lm p s w v s')) ∧
  (∀ l, f = .func (.yield l) #[] #[] → ∀ b e, p l = some (b, e) → ∃ r : Loop, w.heap[b]? = some (.loop r) ∧ args'.length = r.params.size ∧
    ∀ n, RoundIn Fence.wide n P b r.fn (laid r args') r.assign r.body w (Ret lm p s w v s'))
theorem optMap_ok (hg : Glob p) (ht : TR p tm.t A.tmps) {xs : List Operand} {vs : List Value} (h : optMap (opnd tm) xs = some vs) : LR (UR p) vs (xs.map A.eval) := by
  have h1 := optMap_spec h
  clear h
  induction h1 with
  | nil => exact .nil
  | cons hx _ ih => exact .cons (opnd_ok hg ht hx) ih
theorem LR.brur {xs ys : List Value} (h : LR (BR p) xs ys) : LR (UR p) xs ys := h.mono fun _ _ h => .one h.vr
theorem LR.prur {xs ys : List Value} (h : LR (PR p) xs ys) : LR (UR p) xs ys := h.mono fun _ _ h => h.cr.ur
theorem callFunc_run (hE : Env P) {g : FuncId} {fn : Func} (hf : P.funcs[g]? = some fn) (hb : fn.body.isSome = true) (args : Array Value) (w : World) : (callFunc g args).run P w = .ok (.enter g args) w := by
  have hn := hE.names g fn hf
  have hb' : fn.body.isNone = false := by cases h : fn.body <;> simp_all
  unfold callFunc
  simp only [Sem.run_bind, run_program, Result.andThen_ok, hf, hn, hb', Bool.false_eq_true, if_false, Sem.run_pure]
theorem find_noEscape {fn : Func} (h : fn.name = "internal/abi.NoEscape") : Extern.find fn = some Extern.AbiNoEscape.same := by
  have h1 : Extern.allGenericRows.lookup "internal/abi.NoEscape" = none := by kernel_rfl
  have h2 : Extern.allTypedRows.lookup "internal/abi.NoEscape" = none := by kernel_rfl
  have h3 : Extern.allRows.lookup "internal/abi.NoEscape" = some Extern.AbiNoEscape.same := by kernel_rfl
  unfold Extern.find
  simp only [h, h1, h2, h3]
  rfl
theorem find_makeNoZero {fn : Func} (h : fn.name = "internal/bytealg.MakeNoZero") : Extern.find fn = some (Extern.BytealgMakeNoZero.makeNoZero fn.params fn.resultTypes) := by
  have h1 : Extern.allGenericRows.lookup "internal/bytealg.MakeNoZero" = none := by kernel_rfl
  have h2 : Extern.allTypedRows.lookup "internal/bytealg.MakeNoZero" = some Extern.BytealgMakeNoZero.makeNoZero := by kernel_rfl
  unfold Extern.find
  simp only [h, h1, h2]
  rfl
theorem oneOf_spec {rs : Array TypeId} {t : TypeId} (h : oneOf rs.toList = some t) : rs = #[t] := by
  obtain ⟨l⟩ := rs
  unfold oneOf at h
  split at h
  · rename_i u hl
    simp only [Option.some.injEq] at h
    simp only at hl
    subst h hl
    rfl
  · cases h
theorem opExtern_ok (hE : Env P) (hs : Sim lm p s w) (hm : s'.nx ≤ lm) (ht : TR p tm.t A.tmps) {f : Operand} {g : FuncId} {args : List Operand} {ts : Array TypeId}
    (ho : o.op = .call ⟨.value f, ⟨args⟩, ts⟩) (hf : A.eval f = .func (.func g) #[] #[]) (h : opExtern P tm s g args = some (v, s')) : Gives P lm w (execOp A.eval o) p s v s' := by
  unfold opExtern at h
  simp only [bnd_some, guard_some, Bool.and_eq_true] at h
  obtain ⟨fn, h1, ⟨hb, hn⟩, h⟩ := h
  have hn : Extern.findNext fn = none := by simpa using hn
  have hname := hE.names g fn h1
  have hcall : ∀ e, Extern.find fn = some e → (execOp A.eval o).run P w = ((e ⟨args.map A.eval⟩).run P w).andThen fun v w' => .ok (.value v) w' := by
    intro e he
    have := run_callFunc_extern (P := P) h1 hname hb hn he ⟨args.map A.eval⟩ w
    simp [execOp, ho, resolve, hf, Deferred.ofValue, invoke, this]
  split at h
  · rename_i hnm
    simp only [bnd_some] at h
    obtain ⟨vs, h2, h⟩ := h
    split at h
    · rename_i x
      simp only [guard_some, Option.some.injEq, Prod.mk.injEq] at h
      obtain ⟨g1, rfl, rfl⟩ := h
      have h3 := optMap_ok hs.gr.glob ht h2
      cases args with
      | nil => cases h3
      | cons a l => cases l with
        | cons b l => cases h3 with | cons _ h => cases h
        | nil =>
          cases h3 with
          | cons hx _ =>
            have hr := hcall _ (find_noEscape (eq_of_beq hnm))
            refine .same hs (v' := A.eval a) ?_ hx
            rw [hr]
            rfl
    · cases h
  · split at h
    · rename_i hnm
      simp only [bnd_some] at h
      obtain ⟨vs, h2, h⟩ := h
      split at h
      · rename_i n
        simp only [bnd_some, guard_some, Option.some.injEq, Prod.mk.injEq] at h
        obtain ⟨t, h4, e, h5, g1, g2, rfl, rfl⟩ := h
        have h3 := optMap_ok hs.gr.glob ht h2
        cases args with
        | nil => cases h3
        | cons a l => cases l with
          | cons b l => cases h3 with | cons _ h => cases h
          | nil =>
            cases h3 with
            | cons hx _ =>
              have hxv : A.eval a = .int .i64 n := hx.eq_of_flat rfl
              have hu := sliceElem_spec h5
              have g1' : 0 ≤ n := by simpa using g1
              have g2' : n.toNat ≤ 100000 := Nat.le_of_ble_eq_true g2
              obtain ⟨m, rfl⟩ := Int.eq_ofNat_of_zero_le g1'
              have g2' : m ≤ 100000 := by simpa using g2'
              obtain ⟨cs, hrun, hcs, _⟩ := Lib.run_makeNoZero (P := P) w fn.params t e hu m (by omega)
              have hr := hcall _ (find_makeNoZero (eq_of_beq hnm))
              have hev : (⟨[a].map A.eval⟩ : Array Value) = #[.int .i64 m] := by simp [hxv]
              rw [hev, oneOf_spec h4, hrun] at hr
              obtain ⟨cs⟩ := cs
              simp only [List.size_toArray] at hcs hr
              obtain ⟨p', q1, q2, q3, q4⟩ := (hs.drawn (w.drawn + 1 + 1)).newCells hm (cs := []) (ys := []) (rest := cs) .nil e (some 1) (fun e => by cases e) (0, 0) (cold00 _)
              refine ⟨p', _, _, _, hr, .inl rfl, (Stp.drawn p s w _).trans q4, q3, CR.ur (.slice q1 hcs ?_)⟩
              simp [Room]
      · cases h
    · cases h
theorem opCall_ok (hE : Env P) (hF : Open F) {call : CallB} (hcall : CallOK P call) (hs : Sim lm p s w) (hm : s'.nx ≤ lm) (ht : TR p tm.t A.tmps) {f : Operand} {args : Array Operand} {ts : Array TypeId}
    (ho : o.op = .call ⟨.value f, args, ts⟩) (h : opCall P call tm s o f args.toList = some (v, s')) : Does F n P o A w lm p s v s' := by
  have hpure := fun h => opPure_ok (P := P) (s' := s') (v := v) hs ht (o := o) (by rw [ho]; intros; simp) h
  have hd : ∀ c, o.op ≠ .defer c := by rw [ho]; intros; simp
  obtain ⟨args⟩ := args
  unfold opCall at h
  simp only [bnd_some] at h
  obtain ⟨fv, h1, h⟩ := h
  have hfv := opnd_ok hs.gr.glob ht h1
  split at h
  · rename_i c hc
    obtain ⟨g, fs, cs⟩ := c
    simp only [bnd_some] at h
    obtain ⟨has, ⟨fn, h2, h3⟩, h⟩ := h
    simp only [Option.some.injEq] at h3
    cases has with
    | false =>
      dsimp only at h
      split at h
      · rename_i r hr
        simp only [Option.some.injEq] at h
        subst h
        exact (hpure hr).does hF hd
      · split at h
        · obtain ⟨_, fs', cs', h5, h6', h6⟩ := hfv.cloOf hc
          cases h6'
          cases h6
          exact (opExtern_ok hE hs hm ht ho h5 h).does hF hd
        · cases h
    | true =>
      simp only [bnd_some] at h
      obtain ⟨vs, h4, h⟩ := h
      obtain ⟨_, fs', cs', h5, h6', h6⟩ := hfv.cloOf hc
      have h7 := optMap_ok hs.gr.glob ht h4
      have hok := (hcall _ _ _ _ _ h lm p w _ hm hs (h6'.brur.append (h7.append h6.prur))).1 g rfl
      intro K Q hK
      refine ⟨fun f _ => hF.fn f, ?_⟩
      have hrun : (execOp A.eval o).run P w = .ok (.enter g ⟨fs' ++ (args.map A.eval ++ cs')⟩) w := by
        have := callFunc_run hE h2 h3 ⟨fs' ++ (args.map A.eval ++ cs')⟩ w
        simp [execOp, ho, resolve, h5, Deferred.ofValue, invoke, this]
      rw [Oper.semAt_eq _ _ _ hd, hrun, Oper.uponIn_enter]
      refine ⟨fun hh => (by rw [hF.depth] at hh; cases hh), ?_⟩
      have hcalls : CallsIn F (n - 1) P g ⟨fs' ++ (args.map A.eval ++ cs')⟩ w (Ret lm p s w v s') := by
        rcases hF with rfl | ⟨b, rfl⟩
        · exact hok _
        · exact (hok _).inRound b
      refine hcalls.mono ?_
      rintro e w' ⟨p', v', rfl, k1, k2, k3⟩
      exact hK _ _ _ k1 k2 k3
  · simp only [bnd_some] at h
    obtain ⟨l, h2, vs, h4, h⟩ := h
    obtain ⟨rfl, b, e, h5, h6⟩ := hfv.yieldOf h2
    have h7 := optMap_ok hs.gr.glob ht h4
    obtain ⟨r, k1, k2, hok⟩ := (hcall _ _ _ _ _ h lm p w _ hm hs h7).2 l rfl b e h6
    intro K Q hK
    refine ⟨fun f _ => hF.fn f, ?_⟩
    have hrun : (execOp A.eval o).run P w = .ok (.round b r.fn (laid r (args.map A.eval)) r.assign r.body) w := by
      have := run_yield (P := P) (args := ⟨args.map A.eval⟩) k1 (by simpa using k2)
      simp [execOp, ho, resolve, h5, Deferred.ofValue, invoke, this, laid]
    rw [Oper.semAt_eq _ _ _ hd, hrun, Oper.uponIn_round]
    refine ⟨fun hh => (by rw [hF.depth] at hh; cases hh), ?_⟩
    have hround : RoundIn F (n - 1) P b r.fn (laid r (args.map A.eval)) r.assign r.body w (Ret lm p s w v s') := by
      rcases hF with rfl | ⟨b', rfl⟩
      · exact hok _
      · exact hok _
    refine hround.mono ?_
    rintro e w' ⟨p', v', rfl, k1, k2, k3⟩
    exact hK _ _ _ k1 k2 k3

/-- one operation -/
theorem opB_ok (hE : Env P) (hF : Open F) {call : CallB} (hcall : CallOK P call) (hs : Sim lm p s w) (hm : s'.nx ≤ lm) (ht : TR p tm.t A.tmps)
    (h : opB P call tm s o = some (v, s')) : Does F n P o A w lm p s v s' := by
  unfold opB at h
  split at h
  · rename_i x ho; exact (opMove_ok hs ht (.inl ho) h).does hF (by rw [ho]; intros; simp)
  · rename_i x ho; exact (opMove_ok hs ht (.inr ho) h).does hF (by rw [ho]; intros; simp)
  · rename_i ho; exact (opPick_ok hs ht ho h).does hF (by rw [ho]; intros; simp)
  · rename_i ho; exact (opAlloc_ok hs hm ho h).does hF (by rw [ho]; intros; simp)
  · rename_i ho; exact (opBox_ok hs hm ht ho h).does hF (by rw [ho]; intros; simp)
  · rename_i ho; exact (opLoad_ok hs ht ho h).does hF (by rw [ho]; intros; simp)
  · rename_i ho; exact (opStore_ok hs ht ho h).does hF (by rw [ho]; intros; simp)
  · rename_i ho; exact (opNilCheck_ok hs ht ho h).does hF (by rw [ho]; intros; simp)
  · rename_i ho; exact (opFieldAddr_ok hs ht ho h).does hF (by rw [ho]; intros; simp)
  · rename_i ho; exact (opField_ok hs ht ho h).does hF (by rw [ho]; intros; simp)
  · rename_i ho; exact (opIndexAddr_ok hs ht ho h).does hF (by rw [ho]; intros; simp)
  · rename_i ho; exact (opIndex_ok hs ht ho h).does hF (by rw [ho]; intros; simp)
  · rename_i ho; exact (opExtract_ok hs ht ho h).does hF (by rw [ho]; intros; simp)
  · rename_i ho; exact (opMakeFunc_ok hs ht ho h).does hF (by rw [ho]; intros; simp)
  · rename_i ho; exact (opSlice_ok hs ht ho h).does hF (by rw [ho]; intros; simp)
  · rename_i ho; exact (opSlice3_ok hs ht ho h).does hF (by rw [ho]; intros; simp)
  · rename_i ho; exact (opMakeSlice_ok hs hm ht ho h).does hF (by rw [ho]; intros; simp)
  · rename_i ho; exact (opBuildSlice_ok hs hm ht ho h).does hF (by rw [ho]; intros; simp)
  · rename_i ho; exact (opBuild_ok hs ht ho h).does hF (by rw [ho]; intros; simp)
  · rename_i ho; exact (opRange_ok hs hm ht ho h).does hF (by rw [ho]; intros; simp)
  · rename_i ho; exact (opNext_ok hs ht ho h).does hF (by rw [ho]; intros; simp)
  · rename_i ho; exact (opMakeMap_ok hs hm ht ho h).does hF (by rw [ho]; intros; simp)
  · rename_i ho; exact (opMapUpdate_ok hs ht (.inl ho) h).does hF (by rw [ho]; intros; simp)
  · rename_i ho; exact (opMapUpdate_ok hs ht (.inr ho) h).does hF (by rw [ho]; intros; simp)
  · rename_i ho; exact (opLookup_ok hs ht ho h).does hF (by rw [ho]; intros; simp)
  · rename_i ho; exact (opConvert_ok hs hm ht ho h).does hF (by rw [ho]; intros; simp)
  · rename_i ho; exact (opAppend_ok hs hm ht ho h).does hF (by rw [ho]; intros; simp)
  · rename_i ho; exact (opCopy_ok hs ht ho h).does hF (by rw [ho]; intros; simp)
  · rename_i ho; exact (opCap_ok hs ht ho h).does hF (by rw [ho]; intros; simp)
  · rename_i ho; exact (opSliceData_ok hs ht ho h).does hF (by rw [ho]; intros; simp)
  · rename_i ho; exact (opUnsafeStr_ok hs ht ho h).does hF (by rw [ho]; intros; simp)
  · rename_i ho; exact (opLen_ok hs ht ho h).does hF (by rw [ho]; intros; simp)
  · rename_i ho; exact opCall_ok hE hF hcall hs hm ht ho h
  · rename_i ho; exact (opBin_ok hs ht ho h).does hF (by rw [ho]; intros; simp)
  · cases h
  · cases h
  · rename_i h1 h2
    exact (opPure_ok hs ht (fun cs b e => h2 cs b e) h).does hF (fun c e => h1 c e)
end Go.Ev
