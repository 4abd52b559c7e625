/- StartSeeds: the row. -/
import Derived.Test.YtekpcmgkpbfcjaaGreatDoorLaid
import Derived.Test.YtekpcmgkpbfcjaaGreatDoorSeedL
namespace Go.Proofs.YtekpcmgkpbfcjaaGreatDoor
open Go.ChangeShapes Go.WideShapes Go.ChangeAt Go.WideMaps Go.WideElems Go.RowKit
section
variable {H : Type} {enc : TypeId × Value → H}
set_option maxRecDepth 100000 in
theorem open_bytes2 {W : World} {b0 : Nat} {v : Value} {d : DataW H} {ps : List MemPlace} (hv : Value.okWide Tryz.prog W .any b0 45 v) (h : DataW.Trod enc Tryz.prog W 0 (fun _ => true) true 45 v d ps) :
    ∃ a b : Int, v = .agg #[.int .u8 a, .int .u8 b] ∧ d = .agg [.lit (.int .u8 a), .lit (.int .u8 b)] ∧ ps = [] ∧ (Lit.int .u8 a).wf = true ∧ (Lit.int .u8 b).wf = true := by
  have hu := Tryz.underlying45
  simp only [Value.okWide, hu] at hv
  obtain ⟨cs, rfl, hsz, _⟩ := hv
  rw [cells41] at hsz
  obtain ⟨l⟩ := cs
  match l, hsz with
  | [c0, c1], _ =>
  obtain ⟨fuel, hf⟩ := h
  obtain ⟨xs, m, rfl, hx, _, hn, hel⟩ := DataW.trod_array hu hf
  have e0 := hel 0 (by decide)
  have e1 := hel 1 (by decide)
  match xs, hn, hx, e0, e1 with
  | [x0, x1], _, hx, e0, e1 =>
    rw [cells5] at e0 e1
    simp [Value.cells] at e0 e1
    obtain ⟨a, b0, rfl, wa⟩ := DataW.trod_int Tryz.underlying5 e0
    obtain ⟨b, b1, rfl, wb⟩ := DataW.trod_int Tryz.underlying5 e1
    simp at b0 b1
    subst b0 b1
    simp only [Prod.mk.injEq, List.map_cons, List.map_nil, List.flatMap_cons, List.flatMap_nil, List.append_nil] at hx
    obtain ⟨rfl, rfl⟩ := hx
    exact ⟨a, b, rfl, rfl, rfl, wa, wb⟩
theorem shut_bytes2 {W : World} {a b : Int} (wa : (Lit.int .u8 a).wf = true) (wb : (Lit.int .u8 b).wf = true) (sp : Nat → Bool) : DataW.Trod enc Tryz.prog W 0 sp true 45 (.agg #[.int .u8 a, .int .u8 b]) (.agg [.lit (.int .u8 a), .lit (.int .u8 b)]) [] := ⟨2, by
  have f0 : DataW.trod enc Tryz.prog W 0 sp true 1 5 [.int .u8 a] = some (.lit (.int .u8 a), []) := by simp [DataW.trod, Tryz.underlying5, wa]
  have f1 : DataW.trod enc Tryz.prog W 0 sp true 1 5 [.int .u8 b] = some (.lit (.int .u8 b), []) := by simp [DataW.trod, Tryz.underlying5, wb]
  unfold DataW.trod
  simp [Tryz.underlying45, cells41, cells5, Value.cells, List.range, List.range.loop, f0, f1]⟩
end
set_option maxRecDepth 100000 in
theorem liftedSeeds (os : Os) (started : os.Started) (H : Type) (enc : TypeId × Value → H) :
    ReturnsInHanded {} Tryz.checked os 4 .any (fun w args => (Rows.startSeedsSpec.pre enc Tryz.prog Tryz.f4 [] false w args ∧ laidMetH Tryz.prog laidB w) ∧ sizedMet enc Tryz.prog Tryz.f4 (OpenSpec.ofChange Rows.startSeedsSpec) false w args)
      (Rows.startSeedsSpec.post enc Tryz.prog Tryz.f4 false true false false) := by
  refine returnsInHanded_of_calls (C := Tryz.checked) own started (by kernel_rfl)
    (ChangeSpec.witness_shaped (enc := enc) (C := Tryz.checked) (os := os) (X := fun w _ => laidMetH Tryz.prog laidB w) false (World.doorLaid Tryz.prog 400 os) #[.int .i64 0, .agg #[.int .u8 0, .int .u8 0]] 8 rfl (World.shaped_of_RefB (by kernel_rfl) (by kernel_rfl)) (by kernel_rfl) (by kernel_rfl) (by kernel_rfl) (door_met os _)) ?_
  intro w tape i _ hsh _ hok hpre _
  obtain ⟨_, _, _, fn', hfn', _, _, _, _, hval0⟩ := hok
  have e : fn' = Tryz.f4 := Option.some.inj (hfn'.symm.trans Tryz.func4)
  subst e
  obtain ⟨⟨⟨ds, gs, before, hw, hc⟩, hx⟩, hz⟩ := hpre
  have hW0 := DataW.Whole.of_heap (w' := w.forCall tape i) (by rfl) hw
  have hL : laidMetH Tryz.prog laidB (w.forCall tape i) := hx.of_heap (by rfl)
  clear hw hx hc hz
  have hsh' : (w.forCall tape i).ShapedOpen Tryz.prog := hsh
  generalize w.forCall tape i = W at *
  generalize i.args = args at *
  have hval : ∀ (j : Nat) t v, Tryz.f4.params[j]? = some t → args[j]? = some v → Value.okWide Tryz.prog W .any w.heap.size t v := hval0
  have hW' := hW0
  obtain ⟨p, q, hA0, hV, rfl, hfz, hnd⟩ := hW0
  have hA : DataW.TrodAll enc Tryz.prog W 0 (fun _ => true) true Tryz.f4.params.toList args.toList ds p := hA0
  rw [Tryz.params4] at hA hval
  obtain ⟨v0, v1, d0, d1, p0, p1, rfl, rfl, rfl, h0, h1⟩ := trodAll_two hA
  obtain ⟨rfl, rfl⟩ := trodVars_none hV
  obtain ⟨n, rfl, rfl, rfl, wn⟩ := open_int Tryz.underlying3 (hval 0 3 v0 rfl rfl) h0
  obtain ⟨l0, l1, rfl, rfl, rfl, wl0, wl1⟩ := open_bytes2 (hval 1 45 v1 rfl rfl) h1
  clear hA0 hval0 hval hA h0 h1 hV
  refine (lawseeds_c n l0 l1 (bounds_u8 wl0) (bounds_u8 wl1) W (fun W1 hg => awake_c hsh' hL W1 hg)).mono fun x W' ⟨he, hg⟩ => ?_
  subst he
  refine ChangeSpec.post_blind (s := Rows.startSeedsSpec) ?_
  have hW2 : DataW.Whole enc Tryz.prog Tryz.f4.params.toList Rows.startSeedsSpec.vars false W [.int .i64 n, .agg #[.int .u8 l0, .int .u8 l1]]
    [.lit (.int .i64 n), .agg [.lit (.int .u8 l0), .lit (.int .u8 l1)]] [] [] := hW'
  refine ⟨_, _, [], [], [], [], hW2, ?_, ?_, rfl, Below.frame hg _, fun h => by cases h⟩
  · exact trodAll_mk1 (shut_bool Tryz.underlying4 _)
  · rw [Tryz.params4]
    exact trodAll_mk2 (shut_int Tryz.underlying3 wn) (shut_bytes2 wl0 wl1 _)
theorem startSeeds_holds : Rows.StartSeedsSaid :=
  OpenClaim.holds_of_wide 4 Tryz.f4 rfl rfl rfl rfl rfl rfl rfl ⟨rfl, rfl, rfl, rfl, rfl⟩ rfl rfl rfl rfl rfl (by kernel_rfl) Tryz.func4 (by kernel_rfl)
    (of_decide_eq_true (by kernel_rfl)) (by unfold Func.isWrapper; first | (rw [if_pos (by decide +kernel)]; kernel_rfl) | (rw [if_neg (by decide +kernel)]; exact ⟨rfl, rfl⟩))
    (fun os started H enc _ => liftedSeeds os started H enc)
#print axioms startSeeds_holds
end Go.Proofs.YtekpcmgkpbfcjaaGreatDoor
