/- StartTitles: the row. -/
import Derived.Test.YthfmgficbnmmnaaGreatDoorLaid
import Derived.Test.YthfmgficbnmmnaaGreatDoorTtV
import Derived.ChangeMaps5
namespace Go.Proofs.YthfmgficbnmmnaaGreatDoor
open Go.ChangeShapes Go.WideShapes Go.ChangeAt Go.WideMaps Go.WideElems Go.RowKit Go.ChangeMaps
set_option linter.unusedVariables false
set_option maxRecDepth 100000 in
theorem liftedTitles (os : Os) (started : os.Started) (H : Type) (enc : TypeId × Value → H) :
    ReturnsInHanded {} Tryz.checked os 4 .any (fun w args => (Rows.startTitlesSpec.pre enc Tryz.prog Tryz.f4 [] false w args ∧ laidMetH Tryz.prog laidB w) ∧ sizedMet enc Tryz.prog Tryz.f4 (OpenSpec.ofChange Rows.startTitlesSpec) false w args)
      (Rows.startTitlesSpec.post enc Tryz.prog Tryz.f4 false true false false) := by
  refine returnsInHanded_of_calls (C := Tryz.checked) own started (by kernel_rfl)
    (ChangeSpec.witness_shaped (enc := enc) (C := Tryz.checked) (os := os) (X := fun w _ => laidMetH Tryz.prog laidB w) false (World.doorLaid Tryz.prog 400 os) #[.slice none 0 0, .slice none 0 0] 8 rfl (World.shaped_of_RefB (by kernel_rfl) (by kernel_rfl)) (by kernel_rfl) (by kernel_rfl) (by kernel_rfl) (door_met os _)) ?_
  intro w tape i _ hsh _ hok hpre _
  obtain ⟨_, _, _, fn', hfn', _, _, _, _, hval0⟩ := hok
  have e : fn' = Tryz.f4 := Option.some.inj (hfn'.symm.trans Tryz.func4)
  subst e
  obtain ⟨⟨⟨ds, gs, before, hw, hc⟩, hx⟩, hz⟩ := hpre
  have hsz : (DataW.weightsEach Tryz.prog (Tryz.f4.params.toList ++ (OpenSpec.ofChange Rows.startTitlesSpec).bare.plain.varTypes Tryz.prog) (ds ++ gs)).all (· ≤ reachBytes) = true := hz.weights hw
  have hW0 := DataW.Whole.of_heap (w' := w.forCall tape i) (by rfl) hw
  have hL : laidMetH Tryz.prog laidB (w.forCall tape i) := hx.of_heap (by rfl)
  clear hw hx hc hz
  have hsh' : (w.forCall tape i).ShapedOpen Tryz.prog := hsh
  generalize w.forCall tape i = W at *
  generalize i.args = args at *
  have hval : ∀ (j : Nat) t v, Tryz.f4.params[j]? = some t → args[j]? = some v → Value.okWide Tryz.prog W .any w.heap.size t v := hval0
  have hW' := hW0
  have hlt := hW0.lt
  obtain ⟨p, q, hA0, hV, rfl, hfz, hnd⟩ := hW0
  have hA : DataW.TrodAll enc Tryz.prog W 0 (fun _ => true) true Tryz.f4.params.toList args.toList ds p := hA0
  rw [Tryz.params4] at hA hval hsz
  obtain ⟨v0, v1, d0, d1, p0, p1, rfl, rfl, rfl, h0, h1⟩ := trodAll_two hA
  obtain ⟨rfl, rfl⟩ := trodVars_none hV
  obtain ⟨xs, i0⟩ := openStrT (hval 0 48 v0 rfl rfl) h0
  obtain ⟨ds, i1⟩ := openU8T (hval 1 49 v1 rfl rfl) h1
  clear hA0 hval0 hval hA hV
  refine (lawTitles_c i0 i1 (fun W1 hg => awake_c hsh' hL W1 hg)).mono fun x W' ⟨he, hg⟩ => ?_
  subst he
  refine ChangeSpec.post_blind (s := Rows.startTitlesSpec) ?_
  refine ⟨[d0, d1], [], (p0 ++ p1) ++ [], [], p0 ++ p1, [], by simpa using hW', ?_, ?_, rfl, Below.frame hg _, fun h => by cases h⟩
  · exact trodAll_mk1 (shut_bool Tryz.underlying4 _)
  · rw [Tryz.params4]
    have k0 := Below.trod laidOutT recStrT rowStrT h0 hg (fun x hx => hlt x (by simp [hx]))
    have k1 := Below.trod laidOutT recU8T rowU8T h1 hg (fun x hx => hlt x (by simp [hx]))
    exact trodAll_mk2 k0 k1
theorem startTitles_holds : Rows.StartTitlesSaid :=
  OpenClaim.holds_of_wide 4 Tryz.f4 rfl rfl rfl rfl rfl rfl rfl ⟨rfl, rfl, rfl, rfl, rfl⟩ rfl rfl rfl rfl rfl (by kernel_rfl) Tryz.func4 (by kernel_rfl)
    (of_decide_eq_true (by kernel_rfl)) (by unfold Func.isWrapper; first | (rw [if_pos (by decide +kernel)]; kernel_rfl) | (rw [if_neg (by decide +kernel)]; exact ⟨rfl, rfl⟩))
    (fun os started H enc _ => liftedTitles os started H enc)
end Go.Proofs.YthfmgficbnmmnaaGreatDoor
