/- StartCalls: the row. -/
import Derived.Test.YtdpdbgcdmpdaoaaGreatDoorLaid
import Derived.Test.YtdpdbgcdmpdaoaaGreatDoorCallN
namespace Go.Proofs.YtdpdbgcdmpdaoaaGreatDoor
open Go.ChangeShapes Go.WideShapes Go.ChangeAt Go.WideMaps Go.WideElems Go.RowKit
theorem cells23 : Tryz.prog.cellsOf 23 = 4 := by kernel_rfl
theorem lawCalls_c {W : World} (hs : W.ShapedOpen Tryz.prog) (hL : laidMetH Tryz.prog laidB W) (n f e m t : Int) :
    Calls Tryz.prog 3 #[.int .i64 n, .agg #[.int .i64 f, .int .i64 e, .int .i64 m, .int .i64 t]] W fun e w' => e = .returned (.bool true) ∧ Gr W w' := by
  have hA := fun W1 hg => awake_c hs hL W1 hg
  cases h1 : decide (40 < n) && decide (n ≤ 160)
  · by_cases h2 : fst2 (callsE n f e) (outE m 0 86399999) = 0
    · obtain ⟨h3, hm⟩ := fst2_zero h2
      have hT := callsE_zero.1 h3
      cases hl : decide (86399999 < f + (n - 1) * e)
      · have hn := hT.n
        have h40 : n.toNat ≤ 40 := by
          by_cases hq : 40 < n
          · rw [decide_eq_true hq, decide_eq_true hn.2] at h1
            cases h1
          · omega
        have hN : n = (n.toNat : Int) := by omega
        rcases outE_or t 0 86399999 with h | h
        · exact lawc_fine n f e m t n.toNat hN h40 hT hm hl h W hA
        · exact lawc_time n f e m t n.toNat hN h40 hT hm hl h W hA
      · exact lawc_late n f e m t h1 hT hm hl W hA
    · exact lawc_bad n f e m t h1 h2 W hA
  · simp only [Bool.and_eq_true, decide_eq_true_eq] at h1
    exact lawc_many n f e m t h1 W hA
section
variable {H : Type} {enc : TypeId × Value → H}
set_option maxRecDepth 100000 in
/-- four times, read -/
theorem open_times {W : World} {b0 : Nat} {v : Value} {d : DataW H} {ps : List MemPlace} (hv : Value.okWide Tryz.prog W .any b0 23 v) (h : DataW.Trod enc Tryz.prog W 0 (fun _ => true) true 23 v d ps) :
    ∃ a b c x : Int, v = .agg #[.int .i64 a, .int .i64 b, .int .i64 c, .int .i64 x] ∧ d = .agg [.lit (.int .i64 a), .lit (.int .i64 b), .lit (.int .i64 c), .lit (.int .i64 x)] ∧ ps = [] ∧ (Lit.int .i64 a).wf = true ∧ (Lit.int .i64 b).wf = true ∧ (Lit.int .i64 c).wf = true ∧ (Lit.int .i64 x).wf = true := by
  obtain ⟨cs, rfl, hsz⟩ := okWide_struct Tryz.underlying23 hv
  rw [cells23] at hsz
  obtain ⟨l⟩ := cs
  match l, hsz with
  | [c0, c1, c2, c3], _ =>
  obtain ⟨fuel, hf⟩ := h
  obtain ⟨ys, m, _, hx, _, hl, hfs⟩ := DataW.trod_struct Tryz.underlying23 hf
  match ys, hl, hx with
  | [y0, y1, y2, y3], _, hx =>
    have e0 := hfs 0 _ rfl
    have e1 := hfs 1 _ rfl
    have e2 := hfs 2 _ rfl
    have e3 := hfs 3 _ rfl
    simp [Value.cells, cells3] at e0 e1 e2 e3
    obtain ⟨a, b0, rfl, wa⟩ := DataW.trod_int Tryz.underlying3 e0
    obtain ⟨b, b1, rfl, wb⟩ := DataW.trod_int Tryz.underlying3 e1
    obtain ⟨c, b2, rfl, wc⟩ := DataW.trod_int Tryz.underlying3 e2
    obtain ⟨x, b3, rfl, wx⟩ := DataW.trod_int Tryz.underlying3 e3
    simp at b0 b1 b2 b3
    subst b0 b1 b2 b3
    simp only [Prod.mk.injEq, List.map_cons, List.map_nil, List.flatMap_cons, List.flatMap_nil, List.append_nil] at hx
    obtain ⟨rfl, rfl⟩ := hx
    exact ⟨a, b, c, x, rfl, rfl, rfl, wa, wb, wc, wx⟩
theorem shut_times {W : World} {a b c x : Int} (wa : (Lit.int .i64 a).wf = true) (wb : (Lit.int .i64 b).wf = true) (wc : (Lit.int .i64 c).wf = true) (wx : (Lit.int .i64 x).wf = true) (sp : Nat → Bool) :
    DataW.Trod enc Tryz.prog W 0 sp true 23 (.agg #[.int .i64 a, .int .i64 b, .int .i64 c, .int .i64 x]) (.agg [.lit (.int .i64 a), .lit (.int .i64 b), .lit (.int .i64 c), .lit (.int .i64 x)]) [] := ⟨2, by
  have f0 : ∀ (n : Int), (Lit.int .i64 n).wf = true → DataW.trod enc Tryz.prog W 0 sp true 1 3 [.int .i64 n] = some (.lit (.int .i64 n), []) := fun n hn => by simp [DataW.trod, Tryz.underlying3, hn]
  have k0 := f0 a wa
  have k1 := f0 b wb
  have k2 := f0 c wc
  have k3 := f0 x wx
  unfold DataW.trod
  simp [Tryz.underlying23, cells23, cells3, Value.cells, k0, k1, k2, k3]⟩
end
set_option maxRecDepth 100000 in
theorem liftedCalls (os : Os) (started : os.Started) (H : Type) (enc : TypeId × Value → H) :
    ReturnsInHanded {} Tryz.checked os 3 .any (fun w args => (Rows.startCallsSpec.pre enc Tryz.prog Tryz.f3 [] false w args ∧ laidMetH Tryz.prog laidB w) ∧ sizedMet enc Tryz.prog Tryz.f3 (OpenSpec.ofChange Rows.startCallsSpec) false w args)
      (Rows.startCallsSpec.post enc Tryz.prog Tryz.f3 false true false false) := by
  refine returnsInHanded_of_calls (C := Tryz.checked) own started (by kernel_rfl)
    (ChangeSpec.witness_shaped (enc := enc) (C := Tryz.checked) (os := os) (X := fun w _ => laidMetH Tryz.prog laidB w) false (World.doorLaid Tryz.prog 400 os) #[.int .i64 0, .agg #[.int .i64 0, .int .i64 0, .int .i64 0, .int .i64 0]] 8 rfl (World.shaped_of_RefB (by kernel_rfl) (by kernel_rfl)) (by kernel_rfl) (by kernel_rfl) (by kernel_rfl) (door_met os _)) ?_
  intro w tape i _ hsh _ hok hpre _
  obtain ⟨_, _, _, fn', hfn', _, _, _, _, hval0⟩ := hok
  have e : fn' = Tryz.f3 := Option.some.inj (hfn'.symm.trans Tryz.func3)
  subst e
  obtain ⟨⟨⟨ds, gs, before, hw, hc⟩, hx⟩, hz⟩ := hpre
  have hW0 := DataW.Whole.of_heap (w' := w.forCall tape i) (by rfl) hw
  have hL : laidMetH Tryz.prog laidB (w.forCall tape i) := hx.of_heap (by rfl)
  clear hw hx hc hz
  have hsh' : (w.forCall tape i).ShapedOpen Tryz.prog := hsh
  generalize w.forCall tape i = W at *
  generalize i.args = args at *
  have hval : ∀ (j : Nat) t v, Tryz.f3.params[j]? = some t → args[j]? = some v → Value.okWide Tryz.prog W .any w.heap.size t v := hval0
  have hW' := hW0
  obtain ⟨p, q, hA0, hV, rfl, hfz, hnd⟩ := hW0
  have hA : DataW.TrodAll enc Tryz.prog W 0 (fun _ => true) true Tryz.f3.params.toList args.toList ds p := hA0
  rw [Tryz.params3] at hA hval
  obtain ⟨v0, v1, d0, d1, p0, p1, rfl, rfl, rfl, h0, h1⟩ := trodAll_two hA
  obtain ⟨rfl, rfl⟩ := trodVars_none hV
  obtain ⟨n, rfl, rfl, rfl, wn⟩ := open_int Tryz.underlying3 (hval 0 3 v0 rfl rfl) h0
  obtain ⟨f, e, m, t, rfl, rfl, rfl, wf, we, wm, wt⟩ := open_times (hval 1 23 v1 rfl rfl) h1
  clear hA0 hval0 hval hA h0 h1 hV
  refine (lawCalls_c hsh' hL n f e m t).mono fun x W' ⟨he, hg⟩ => ?_
  subst he
  refine ChangeSpec.post_blind (s := Rows.startCallsSpec) ?_
  have hW2 : DataW.Whole enc Tryz.prog Tryz.f3.params.toList Rows.startCallsSpec.vars false W [.int .i64 n, .agg #[.int .i64 f, .int .i64 e, .int .i64 m, .int .i64 t]]
    [.lit (.int .i64 n), .agg [.lit (.int .i64 f), .lit (.int .i64 e), .lit (.int .i64 m), .lit (.int .i64 t)]] [] [] := hW'
  refine ⟨_, _, [], [], [], [], hW2, ?_, ?_, rfl, Below.frame hg _, fun h => by cases h⟩
  · exact trodAll_mk1 (shut_bool Tryz.underlying4 _)
  · rw [Tryz.params3]
    exact trodAll_mk2 (shut_int Tryz.underlying3 wn) (shut_times wf we wm wt _)
theorem startCalls_holds : Rows.StartCallsSaid :=
  OpenClaim.holds_of_wide 3 Tryz.f3 rfl rfl rfl rfl rfl rfl rfl ⟨rfl, rfl, rfl, rfl, rfl⟩ rfl rfl rfl rfl rfl (by kernel_rfl) Tryz.func3 (by kernel_rfl)
    (of_decide_eq_true (by kernel_rfl)) (by unfold Func.isWrapper; first | (rw [if_pos (by decide +kernel)]; kernel_rfl) | (rw [if_neg (by decide +kernel)]; exact ⟨rfl, rfl⟩))
    (fun os started H enc _ => liftedCalls os started H enc)
#print axioms startCalls_holds
end Go.Proofs.YtdpdbgcdmpdaoaaGreatDoor
