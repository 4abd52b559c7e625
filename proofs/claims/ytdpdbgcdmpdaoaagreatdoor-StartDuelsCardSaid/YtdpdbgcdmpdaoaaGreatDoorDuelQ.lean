/- StartDuels: the row. -/
import Derived.Test.YtdpdbgcdmpdaoaaGreatDoorDuelP
namespace Go.Proofs.YtdpdbgcdmpdaoaaGreatDoor
open Go.ChangeShapes Go.WideShapes Go.ChangeAt Go.WideMaps Go.WideElems Go.RowKit
theorem law_c {W : World} (hs : W.ShapedOpen Tryz.prog) (hL : laidMetH Tryz.prog laidB W) (r t r2 t2 l0 l1 : Int) (hl0 : 0 ≤ l0 ∧ l0 ≤ 255) (hl1 : 0 ≤ l1 ∧ l1 ≤ 255) :
    Calls Tryz.prog 4 #[.agg #[.int .i64 r, .int .i64 t], .agg #[.int .i64 r2, .int .i64 t2], .agg #[.int .u8 l0, .int .u8 l1]] W fun e w' => e = .returned (.bool true) ∧ Gr W w' := by
  by_cases h : runOk r t = true ∧ runOk r2 t2 = true
  · exact law_yes r t r2 t2 l0 l1 W (fun W1 hg => awake_c hs hL W1 hg) (runOk_iff.1 h.1) (runOk_iff.1 h.2) hl0 hl1
  · refine law_no r t r2 t2 l0 l1 W (fun W1 hg => awake_c hs hL W1 hg) ?_
    cases h1 : runOk r t
    · exact .inl rfl
    · refine .inr ?_
      cases h2 : runOk r2 t2
      · rfl
      · exact absurd ⟨h1, h2⟩ h
set_option maxRecDepth 100000 in
theorem lifted (os : Os) (started : os.Started) (H : Type) (enc : TypeId × Value → H) :
    ReturnsInHanded {} Tryz.checked os 4 .any (fun w args => (Rows.startDuelsSpec.pre enc Tryz.prog Tryz.f4 [] false w args ∧ laidMetH Tryz.prog laidB w) ∧ sizedMet enc Tryz.prog Tryz.f4 (OpenSpec.ofChange Rows.startDuelsSpec) false w args)
      (Rows.startDuelsSpec.post enc Tryz.prog Tryz.f4 false true false false) := by
  refine returnsInHanded_of_calls (C := Tryz.checked) own started (by kernel_rfl)
    (ChangeSpec.witness_shaped (enc := enc) (C := Tryz.checked) (os := os) (X := fun w _ => laidMetH Tryz.prog laidB w) false (World.doorLaid Tryz.prog 400 os) #[.agg #[.int .i64 0, .int .i64 0], .agg #[.int .i64 0, .int .i64 0], .agg #[.int .u8 0, .int .u8 0]] 8 rfl (World.shaped_of_RefB (by kernel_rfl) (by kernel_rfl)) (by kernel_rfl) (by kernel_rfl) (by kernel_rfl) (door_met os _)) ?_
  intro w tape i _ hsh _ hok hpre _
  obtain ⟨_, _, _, fn', hfn', _, _, _, _, hval0⟩ := hok
  have e : fn' = Tryz.f4 := Option.some.inj (hfn'.symm.trans Tryz.func4)
  subst e
  obtain ⟨⟨⟨ds, gs, before, hw, hc⟩, hx⟩, hz⟩ := hpre
  have hW0 := DataW.Whole.of_heap (w' := w.forCall tape i) (by rfl) hw
  have hL : laidMetH Tryz.prog laidB (w.forCall tape i) := hx.of_heap (by rfl)
  clear hw hx hc hz
  have hsh' : (w.forCall tape i).ShapedOpen Tryz.prog := hsh
  generalize w.forCall tape i = W at *
  generalize i.args = args at *
  have hval : ∀ (j : Nat) t v, Tryz.f4.params[j]? = some t → args[j]? = some v → Value.okWide Tryz.prog W .any w.heap.size t v := hval0
  have hW' := hW0
  obtain ⟨p, q, hA0, hV, rfl, hfz, hnd⟩ := hW0
  have hA : DataW.TrodAll enc Tryz.prog W 0 (fun _ => true) true Tryz.f4.params.toList args.toList ds p := hA0
  rw [Tryz.params4] at hA hval
  obtain ⟨v0, v1, v2, d0, d1, d2, p0, p1, p2, rfl, rfl, rfl, h0, h1, h2⟩ := trodAll_three hA
  obtain ⟨rfl, rfl⟩ := trodVars_none hV
  obtain ⟨r, t, rfl, rfl, rfl, wr, wt⟩ := open_run (hval 0 40 v0 rfl rfl) h0
  obtain ⟨r2, t2, rfl, rfl, rfl, wr2, wt2⟩ := open_run (hval 1 40 v1 rfl rfl) h1
  obtain ⟨l0, l1, rfl, rfl, rfl, wl0, wl1⟩ := open_bytes2 (hval 2 41 v2 rfl rfl) h2
  clear hA0 hval0 hval hA h0 h1 h2 hV
  refine (law_c hsh' hL r t r2 t2 l0 l1 (bounds_u8 wl0) (bounds_u8 wl1)).mono fun e W' ⟨he, hg⟩ => ?_
  subst he
  refine ChangeSpec.post_blind (s := Rows.startDuelsSpec) ?_
  have hW2 : DataW.Whole enc Tryz.prog Tryz.f4.params.toList Rows.startDuelsSpec.vars false W [.agg #[.int .i64 r, .int .i64 t], .agg #[.int .i64 r2, .int .i64 t2], .agg #[.int .u8 l0, .int .u8 l1]]
    [.agg [.lit (.int .i64 r), .lit (.int .i64 t)], .agg [.lit (.int .i64 r2), .lit (.int .i64 t2)], .agg [.lit (.int .u8 l0), .lit (.int .u8 l1)]] [] [] := hW'
  refine ⟨_, _, [], [], [], [], hW2, ?_, ?_, rfl, Below.frame hg _, fun h => by cases h⟩
  · exact trodAll_mk1 (shut_bool Tryz.underlying4 _)
  · rw [Tryz.params4]
    exact trodAll_mk3 (shut_run wr wt _) (shut_run wr2 wt2 _) (shut_bytes2 wl0 wl1 _)
theorem startDuels_holds : Rows.StartDuelsSaid :=
  OpenClaim.holds_of_wide 4 Tryz.f4 rfl rfl rfl rfl rfl rfl rfl ⟨rfl, rfl, rfl, rfl, rfl⟩ rfl rfl rfl rfl rfl (by kernel_rfl) Tryz.func4 (by kernel_rfl)
    (of_decide_eq_true (by kernel_rfl)) (by unfold Func.isWrapper; first | (rw [if_pos (by decide +kernel)]; kernel_rfl) | (rw [if_neg (by decide +kernel)]; exact ⟨rfl, rfl⟩))
    (fun os started H enc _ => lifted os started H enc)
#print axioms startDuels_holds
end Go.Proofs.YtdpdbgcdmpdaoaaGreatDoor
