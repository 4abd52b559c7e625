/- StartSpreads: the row. -/
import Derived.Test.YtcnpmebihdonoaaGreatDoorGSpV
import Derived.ChangeMaps5
namespace Go.Proofs.YtcnpmebihdonoaaGreatDoor
open Go.ChangeShapes Go.WideShapes Go.ChangeAt Go.WideMaps Go.WideElems Go.RowKit Go.ChangeMaps
set_option linter.unusedVariables false
theorem cellsP3 : Tryz.prog.cellsOf 45 = 3 := by kernel_rfl
section
variable {H : Type} {enc : TypeId × Value → H}
set_option maxRecDepth 100000 in
theorem open_bytes3 {W : World} {b0 : Nat} {v : Value} {d : DataW H} {ps : List MemPlace} (hv : Value.okWide Tryz.prog W .any b0 45 v) (h : DataW.Trod enc Tryz.prog W 0 (fun _ => true) true 45 v d ps) :
    ∃ a b c : Int, v = .agg #[.int .u8 a, .int .u8 b, .int .u8 c] ∧ d = .agg [.lit (.int .u8 a), .lit (.int .u8 b), .lit (.int .u8 c)] ∧ ps = [] ∧ (Lit.int .u8 a).wf = true ∧ (Lit.int .u8 b).wf = true ∧ (Lit.int .u8 c).wf = true := by
  have hu := Tryz.underlying45
  simp only [Value.okWide, hu] at hv
  obtain ⟨cs, rfl, hsz, _⟩ := hv
  rw [cellsP3] at hsz
  obtain ⟨l⟩ := cs
  match l, hsz with
  | [c0, c1, c2], _ =>
  obtain ⟨fuel, hf⟩ := h
  obtain ⟨xs, m, rfl, hx, _, hn, hel⟩ := DataW.trod_array hu hf
  have e0 := hel 0 (by decide)
  have e1 := hel 1 (by decide)
  have e2 := hel 2 (by decide)
  match xs, hn, hx, e0, e1, e2 with
  | [x0, x1, x2], _, hx, e0, e1, e2 =>
    rw [cells5] at e0 e1 e2
    simp [Value.cells] at e0 e1 e2
    obtain ⟨a, b0, rfl, wa⟩ := DataW.trod_int Tryz.underlying5 e0
    obtain ⟨b, b1, rfl, wb⟩ := DataW.trod_int Tryz.underlying5 e1
    obtain ⟨c, b2, rfl, wc⟩ := DataW.trod_int Tryz.underlying5 e2
    simp at b0 b1 b2
    subst b0 b1 b2
    simp only [Prod.mk.injEq, List.map_cons, List.map_nil, List.flatMap_cons, List.flatMap_nil, List.append_nil] at hx
    obtain ⟨rfl, rfl⟩ := hx
    exact ⟨a, b, c, rfl, rfl, rfl, wa, wb, wc⟩
theorem shut_bytes3 {W : World} {a b c : Int} (wa : (Lit.int .u8 a).wf = true) (wb : (Lit.int .u8 b).wf = true) (wc : (Lit.int .u8 c).wf = true) (sp : Nat → Bool) : DataW.Trod enc Tryz.prog W 0 sp true 45 (.agg #[.int .u8 a, .int .u8 b, .int .u8 c]) (.agg [.lit (.int .u8 a), .lit (.int .u8 b), .lit (.int .u8 c)]) [] := ⟨2, by
  have f0 : DataW.trod enc Tryz.prog W 0 sp true 1 5 [.int .u8 a] = some (.lit (.int .u8 a), []) := by simp [DataW.trod, Tryz.underlying5, wa]
  have f1 : DataW.trod enc Tryz.prog W 0 sp true 1 5 [.int .u8 b] = some (.lit (.int .u8 b), []) := by simp [DataW.trod, Tryz.underlying5, wb]
  have f2 : DataW.trod enc Tryz.prog W 0 sp true 1 5 [.int .u8 c] = some (.lit (.int .u8 c), []) := by simp [DataW.trod, Tryz.underlying5, wc]
  unfold DataW.trod
  simp [Tryz.underlying45, cellsP3, cells5, Value.cells, List.range, List.range.loop, f0, f1, f2]⟩
end
set_option maxRecDepth 100000 in
theorem liftedSpreads (os : Os) (started : os.Started) (H : Type) (enc : TypeId × Value → H) :
    ReturnsInHanded {} Tryz.checked os 4 .any (fun w args => (Rows.startSpreadsSpec.pre enc Tryz.prog Tryz.f4 [] false w args ∧ laidMetH Tryz.prog laidB w) ∧ sizedMet enc Tryz.prog Tryz.f4 (OpenSpec.ofChange Rows.startSpreadsSpec) false w args)
      (Rows.startSpreadsSpec.post enc Tryz.prog Tryz.f4 false true false false) := by
  refine returnsInHanded_of_calls (C := Tryz.checked) own started (by kernel_rfl)
    (ChangeSpec.witness_shaped (enc := enc) (C := Tryz.checked) (os := os) (X := fun w _ => laidMetH Tryz.prog laidB w) false (World.doorLaid Tryz.prog 400 os) #[.slice none 0 0, .slice none 0 0, .agg #[.int .u8 0, .int .u8 0, .int .u8 0]] 8 rfl (World.shaped_of_RefB (by kernel_rfl) (by kernel_rfl)) (by kernel_rfl) (by kernel_rfl) (by kernel_rfl) (door_met os _)) ?_
  intro w tape i _ hsh _ hok hpre _
  obtain ⟨_, _, _, fn', hfn', _, _, _, _, hval0⟩ := hok
  have e : fn' = Tryz.f4 := Option.some.inj (hfn'.symm.trans Tryz.func4)
  subst e
  obtain ⟨⟨⟨ds, gs, before, hw, hc⟩, hx⟩, hz⟩ := hpre
  have hsz : (DataW.weightsEach Tryz.prog (Tryz.f4.params.toList ++ (OpenSpec.ofChange Rows.startSpreadsSpec).bare.plain.varTypes Tryz.prog) (ds ++ gs)).all (· ≤ reachBytes) = true := hz.weights hw
  have hW0 := DataW.Whole.of_heap (w' := w.forCall tape i) (by rfl) hw
  have hL : laidMetH Tryz.prog laidB (w.forCall tape i) := hx.of_heap (by rfl)
  clear hw hx hc hz
  have hsh' : (w.forCall tape i).ShapedOpen Tryz.prog := hsh
  generalize w.forCall tape i = W at *
  generalize i.args = args at *
  have hval : ∀ (j : Nat) t v, Tryz.f4.params[j]? = some t → args[j]? = some v → Value.okWide Tryz.prog W .any w.heap.size t v := hval0
  have hW' := hW0
  have hlt := hW0.lt
  obtain ⟨p, q, hA0, hV, rfl, hfz, hnd⟩ := hW0
  have hA : DataW.TrodAll enc Tryz.prog W 0 (fun _ => true) true Tryz.f4.params.toList args.toList ds p := hA0
  rw [Tryz.params4] at hA hval hsz
  obtain ⟨v0, v1, v2, d0, d1, d2, p0, p1, p2, rfl, rfl, rfl, h0, h1, h2⟩ := trodAll_three hA
  obtain ⟨rfl, rfl⟩ := trodVars_none hV
  obtain ⟨xs, i0, l0⟩ := openEnt (hval 0 22 v0 rfl rfl) h0
  obtain ⟨zs, pz, cz, rfl, hzc, hzd⟩ := openNums (hval 1 23 v1 rfl rfl) h1
  obtain ⟨a, b, c, rfl, rfl, rfl, wa, wb, wc⟩ := open_bytes3 (hval 2 45 v2 rfl rfl) h2
  obtain ⟨ba1, ba2⟩ := bounds_u8 wa
  obtain ⟨bb1, bb2⟩ := bounds_u8 wb
  obtain ⟨bc1, bc2⟩ := bounds_u8 wc
  obtain ⟨a, rfl⟩ : ∃ k : Nat, a = k := ⟨a.toNat, by omega⟩
  obtain ⟨b, rfl⟩ : ∃ k : Nat, b = k := ⟨b.toNat, by omega⟩
  obtain ⟨c, rfl⟩ : ∃ k : Nat, c = k := ⟨c.toNat, by omega⟩
  have hb : xs.length * 40 ≤ 140737488355328 := bound_of (j := 0) hsz rfl rfl Tryz.underlying22 bytesEnt l0
  clear hA0 hval0 hval hA hV
  refine (lawSpreads_c insN_ok insT_ok xs v0 zs pz zs.length cz a b c W i0 hb rfl hzc hzd (by omega) (by omega) (by omega) (fun W1 hg => awake_c hsh' hL W1 hg)).mono fun x W' ⟨he, hg⟩ => ?_
  subst he
  refine ChangeSpec.post_blind (s := Rows.startSpreadsSpec) ?_
  refine ⟨[d0, d1, .agg [.lit (.int .u8 (a : Int)), .lit (.int .u8 (b : Int)), .lit (.int .u8 (c : Int))]], [], (p0 ++ p1 ++ []) ++ [], [], p0 ++ (p1 ++ []), [], by simpa using hW', ?_, ?_, rfl, Below.frame hg _, fun h => by cases h⟩
  · exact trodAll_mk1 (shut_bool Tryz.underlying4 _)
  · rw [Tryz.params4]
    have k0 := Below.trod laidOutM recEnt rowEnt h0 hg (fun x hx => hlt x (by simp [hx]))
    have k1 := Below.trod laidOutM recInts rowInts h1 hg (fun x hx => hlt x (by simp [hx]))
    exact trodAll_mk3 k0 k1 (shut_bytes3 wa wb wc _)
theorem startSpreads_holds : Rows.StartSpreadsSaid :=
  OpenClaim.holds_of_wide 4 Tryz.f4 rfl rfl rfl rfl rfl rfl rfl ⟨rfl, rfl, rfl, rfl, rfl⟩ rfl rfl rfl rfl rfl (by kernel_rfl) Tryz.func4 (by kernel_rfl)
    (of_decide_eq_true (by kernel_rfl)) (by unfold Func.isWrapper; first | (rw [if_pos (by decide +kernel)]; kernel_rfl) | (rw [if_neg (by decide +kernel)]; exact ⟨rfl, rfl⟩))
    (fun os started H enc _ => liftedSpreads os started H enc)
#print axioms startSpreads_holds
end Go.Proofs.YtcnpmebihdonoaaGreatDoor
