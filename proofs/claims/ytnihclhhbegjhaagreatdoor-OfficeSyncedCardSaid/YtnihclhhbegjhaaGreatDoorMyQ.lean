/- OfficeSynced: the row. -/
import Derived.Test.YtnihclhhbegjhaaGreatDoorMyW
import Derived.Test.YtnihclhhbegjhaaGreatDoorOvV
import Derived.Test.YtnihclhhbegjhaaGreatDoorMyC
import Derived.ChangeMaps5
namespace Go.Proofs.YtnihclhhbegjhaaGreatDoor
open Go.ChangeShapes Go.WideShapes Go.ChangeAt Go.WideMaps Go.WideElems Go.RowKit Go.ChangeMaps
set_option linter.unusedVariables false
set_option maxRecDepth 100000 in
theorem liftedOfficeSynced (os : Os) (started : os.Started) (H : Type) (enc : TypeId × Value → H) :
    ReturnsInHanded {} Tryz.checked os 6 .any (fun w args => (Rows.officeSyncedSpec.pre enc Tryz.prog Tryz.f6 [] false w args ∧ laidMetH Tryz.prog laidT w) ∧ sizedMet enc Tryz.prog Tryz.f6 (OpenSpec.ofChange Rows.officeSyncedSpec) false w args)
      (Rows.officeSyncedSpec.post enc Tryz.prog Tryz.f6 false true false false) := by
  refine returnsInHanded_of_calls (C := Tryz.checked) own started (by kernel_rfl)
    (ChangeSpec.witness_shaped (enc := enc) (C := Tryz.checked) (os := os) (X := fun w _ => laidMetH Tryz.prog laidT w) false (World.laidAll Tryz.prog os laidT) #[.agg #[.slice none 0 0], .int .u16 0] 8 (World.laidAll_os _ _ _) (door_shaped os _) (by kernel_rfl) (by kernel_rfl) (by kernel_rfl) (door_met os _)) ?_
  intro w tape i _ hsh _ hok hpre _
  obtain ⟨_, _, _, fn', hfn', _, _, _, _, hval0⟩ := hok
  have e : fn' = Tryz.f6 := Option.some.inj (hfn'.symm.trans Tryz.func6)
  subst e
  obtain ⟨⟨⟨ds, gs, before, hw, hc⟩, hx⟩, hz⟩ := hpre
  have hsz : (DataW.weightsEach Tryz.prog (Tryz.f6.params.toList ++ (OpenSpec.ofChange Rows.officeSyncedSpec).bare.plain.varTypes Tryz.prog) (ds ++ gs)).all (· ≤ reachBytes) = true := hz.weights hw
  have hW0 := DataW.Whole.of_heap (w' := w.forCall tape i) (by rfl) hw
  have hL : laidMetH Tryz.prog laidT (w.forCall tape i) := hx.of_heap (by rfl)
  clear hw hx hc hz
  have hsh' : (w.forCall tape i).ShapedOpen Tryz.prog := hsh
  generalize w.forCall tape i = W at *
  generalize i.args = args at *
  have hval : ∀ (j : Nat) t v, Tryz.f6.params[j]? = some t → args[j]? = some v → Value.okWide Tryz.prog W .any w.heap.size t v := hval0
  have hW' := hW0
  have hlt := hW0.lt
  obtain ⟨p, q, hA0, hV, rfl, hfz, hnd⟩ := hW0
  have hA : DataW.TrodAll enc Tryz.prog W 0 (fun _ => true) true Tryz.f6.params.toList args.toList ds p := hA0
  rw [Tryz.params6] at hA hval hsz
  obtain ⟨v0, v1, d0, d1, p0, p1, rfl, rfl, rfl, h0, h1⟩ := trodAll_two hA
  obtain ⟨rfl, rfl⟩ := trodVars_none hV
  obtain ⟨q1, n1, c1, l1, rfl, hn1, hc1, hx1, hE1, hb1⟩ := openArchive (j := 0) (hval 0 24 v0 rfl rfl) h0 hsz rfl rfl
  obtain ⟨cut, rfl, rfl, rfl, wn⟩ := open_int Tryz.underlying73 (hval 1 73 v1 rfl rfl) h1
  have hcut : 0 ≤ cut ∧ cut < 65536 := by
    have e1 : IntKind.u16.min = 0 := by decide
    have e2 : IntKind.u16.max = 65535 := by decide
    have h := wn
    simp only [Lit.wf, e1, e2, Bool.and_eq_true, decide_eq_true_eq] at h
    omega
  clear hA0 hval0 hval hA hV
  refine (lawSynced_c cut hcut hE1 hn1 ⟨hc1, hx1⟩ hb1 (fun W1 hg => awake_c hsh' hL W1 hg)).mono fun x W' ⟨he, hg⟩ => ?_
  subst he
  refine ChangeSpec.post_blind (s := Rows.officeSyncedSpec) ?_
  refine ⟨[d0, .lit (.int .u16 cut)], [], (p0 ++ []) ++ [], [], p0 ++ [], [], by simpa using hW', ?_, ?_, rfl, Below.frame hg _, fun h => by cases h⟩
  · exact trodAll_mk1 (shut_bool Tryz.underlying4 _)
  · rw [Tryz.params6]
    have k0 := Below.trod laidOutO recArchive rowArchive h0 hg (fun x hx => hlt x (by simp [hx]))
    exact trodAll_mk2 k0 (shut_int Tryz.underlying73 wn)
set_option maxHeartbeats 4000000 in
theorem closedOfficeSynced : joinedFacts Tryz.pinned.checked.prog 6 Tryz.f6 Rows.officeSyncedSpec Rows.officeSyncedRow = true := by
  unfold joinedFacts
  simp only [Bool.and_eq_true]
  repeat' apply And.intro
  all_goals (as_aux_lemma => kernel_rfl)
theorem officeSynced_holds : Rows.OfficeSyncedSaid :=
  OpenClaim.holds_of_wide 6 Tryz.f6 rfl rfl rfl rfl rfl rfl rfl ⟨rfl, rfl, rfl, rfl, rfl⟩ rfl rfl rfl rfl rfl (by kernel_rfl) Tryz.func6 closedOfficeSynced
    (of_decide_eq_true (by kernel_rfl)) (by unfold Func.isWrapper; first | (rw [if_pos (by decide +kernel)]; kernel_rfl) | (rw [if_neg (by decide +kernel)]; exact ⟨rfl, rfl⟩))
    (fun os started H enc _ => liftedOfficeSynced os started H enc)
end Go.Proofs.YtnihclhhbegjhaaGreatDoor
