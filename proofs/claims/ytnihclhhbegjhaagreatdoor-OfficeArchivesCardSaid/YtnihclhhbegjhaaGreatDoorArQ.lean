/- OfficeArchives: the row. -/
import Derived.Test.YtnihclhhbegjhaaGreatDoorArW
import Derived.Test.YtnihclhhbegjhaaGreatDoorMgV
import Derived.Test.YtnihclhhbegjhaaGreatDoorMgS
import Derived.ChangeMaps5
namespace Go.Proofs.YtnihclhhbegjhaaGreatDoor
open Go.ChangeShapes Go.WideShapes Go.ChangeAt Go.WideMaps Go.WideElems Go.RowKit Go.ChangeMaps
set_option linter.unusedVariables false
set_option maxRecDepth 100000 in
theorem liftedOfficeArchives (os : Os) (started : os.Started) (H : Type) (enc : TypeId × Value → H) :
    ReturnsInHanded {} Tryz.checked os 3 .any (fun w args => (Rows.officeArchivesSpec.pre enc Tryz.prog Tryz.f3 [] false w args ∧ laidMetH Tryz.prog laidT w) ∧ sizedMet enc Tryz.prog Tryz.f3 (OpenSpec.ofChange Rows.officeArchivesSpec) false w args)
      (Rows.officeArchivesSpec.post enc Tryz.prog Tryz.f3 false true false false) := by
  refine returnsInHanded_of_calls (C := Tryz.checked) own started (by kernel_rfl)
    (ChangeSpec.witness_shaped (enc := enc) (C := Tryz.checked) (os := os) (X := fun w _ => laidMetH Tryz.prog laidT w) false (World.laidAll Tryz.prog os laidT) #[.agg #[.slice none 0 0], .agg #[.slice none 0 0], .agg #[.string ⟨#[]⟩, .string ⟨#[]⟩, .int .i64 0, .string ⟨#[]⟩, .slice none 0 0]] 8 (World.laidAll_os _ _ _) (door_shaped os _) (by kernel_rfl) (by kernel_rfl) (by kernel_rfl) (door_met os _)) ?_
  intro w tape i _ hsh _ hok hpre _
  obtain ⟨_, _, _, fn', hfn', _, _, _, _, hval0⟩ := hok
  have e : fn' = Tryz.f3 := Option.some.inj (hfn'.symm.trans Tryz.func3)
  subst e
  obtain ⟨⟨⟨ds, gs, before, hw, hc⟩, hx⟩, hz⟩ := hpre
  have hsz : (DataW.weightsEach Tryz.prog (Tryz.f3.params.toList ++ (OpenSpec.ofChange Rows.officeArchivesSpec).bare.plain.varTypes Tryz.prog) (ds ++ gs)).all (· ≤ reachBytes) = true := hz.weights hw
  have hW0 := DataW.Whole.of_heap (w' := w.forCall tape i) (by rfl) hw
  have hL : laidMetH Tryz.prog laidT (w.forCall tape i) := hx.of_heap (by rfl)
  clear hw hx hc hz
  have hsh' : (w.forCall tape i).ShapedOpen Tryz.prog := hsh
  generalize w.forCall tape i = W at *
  generalize i.args = args at *
  have hval : ∀ (j : Nat) t v, Tryz.f3.params[j]? = some t → args[j]? = some v → Value.okWide Tryz.prog W .any w.heap.size t v := hval0
  have hW' := hW0
  have hlt := hW0.lt
  obtain ⟨p, q, hA0, hV, rfl, hfz, hnd⟩ := hW0
  have hA : DataW.TrodAll enc Tryz.prog W 0 (fun _ => true) true Tryz.f3.params.toList args.toList ds p := hA0
  rw [Tryz.params3] at hA hval hsz
  obtain ⟨v0, v1, v2, d0, d1, d2, p0, p1, p2, rfl, rfl, rfl, h0, h1, h2⟩ := trodAll_three hA
  obtain ⟨rfl, rfl⟩ := trodVars_none hV
  obtain ⟨q1, n1, c1, l1, rfl, hn1, hc1, hx1, hE1, hb1⟩ := openArchive (j := 0) (hval 0 24 v0 rfl rfl) h0 hsz rfl rfl
  obtain ⟨q2, n2, c2, l2, rfl, hn2, hc2, hx2, hE2, hb2⟩ := openArchive (j := 1) (hval 1 24 v1 rfl rfl) h1 hsz rfl rfl
  obtain ⟨de, ro, va, st, p3, n3, c3, xs3, rfl, hR3⟩ := openPosted (hval 2 29 v2 rfl rfl) h2
  clear hA0 hval0 hval hA hV
  refine (lawArchives_c de ro va st hE1 hn1 ⟨hc1, hx1⟩ hb1 hE2 hn2 ⟨hc2, hx2⟩ hb2 hR3 (fun W1 hg => awake_c hsh' hL W1 hg)).mono fun x W' ⟨he, hg⟩ => ?_
  subst he
  refine ChangeSpec.post_blind (s := Rows.officeArchivesSpec) ?_
  refine ⟨[d0, d1, d2], [], (p0 ++ (p1 ++ p2)) ++ [], [], p0 ++ (p1 ++ p2), [], by simpa using hW', ?_, ?_, rfl, Below.frame hg _, fun h => by cases h⟩
  · exact trodAll_mk1 (shut_bool Tryz.underlying4 _)
  · rw [Tryz.params3]
    have k0 := Below.trod laidOutO recArchive rowArchive h0 hg (fun x hx => hlt x (by simp [hx]))
    have k1 := Below.trod laidOutO recArchive rowArchive h1 hg (fun x hx => hlt x (by simp [hx]))
    have k2 := Below.trod laidOutO recPosted rowPosted h2 hg (fun x hx => hlt x (by simp [hx]))
    exact trodAll_mk3 k0 k1 k2
set_option maxHeartbeats 4000000 in
theorem closedOfficeArchives : joinedFacts Tryz.pinned.checked.prog 3 Tryz.f3 Rows.officeArchivesSpec Rows.officeArchivesRow = true := by
  unfold joinedFacts
  simp only [Bool.and_eq_true]
  repeat' apply And.intro
  all_goals (as_aux_lemma => kernel_rfl)
theorem officeArchives_holds : Rows.OfficeArchivesSaid :=
  OpenClaim.holds_of_wide 3 Tryz.f3 rfl rfl rfl rfl rfl rfl rfl ⟨rfl, rfl, rfl, rfl, rfl⟩ rfl rfl rfl rfl rfl (by kernel_rfl) Tryz.func3 closedOfficeArchives
    (of_decide_eq_true (by kernel_rfl)) (by unfold Func.isWrapper; first | (rw [if_pos (by decide +kernel)]; kernel_rfl) | (rw [if_neg (by decide +kernel)]; exact ⟨rfl, rfl⟩))
    (fun os started H enc _ => liftedOfficeArchives os started H enc)
end Go.Proofs.YtnihclhhbegjhaaGreatDoor
