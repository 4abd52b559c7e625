/- MemberLapses, as it was given: for whatever licences, climber and day: where there are at most twelve, right, the name is one and the day in its range, the day that member.Lapse returns is the first one from the day on without a licence, whatever the order, and not earlier with a further one; member.Licensed says so, too; and the law's own test passes. Conditions: none. -/
import Derived.Test.YtmlmbgifkmkmgaaGreatMbVd
import Derived.Test.YtmlmbgifkmkmgaaGreatMbZb
namespace Go.Proofs.YtmlmbgifkmkmgaaGreat
open Go.ChangeShapes Go.WideShapes Go.ChangeAt Go.WideMaps Go.WideElems Go.RowKit Go.ChangeMaps
set_option linter.unusedVariables false
set_option maxRecDepth 100000 in
theorem liftedMemberLapses (os : Os) (started : os.Started) (H : Type) (enc : TypeId × Value → H) :
    ReturnsInHanded {} Tryz.checked os 6 .any (Rows.memberLapsesSpec.pre6 enc Tryz.prog Tryz.f6 Rows.memberLapsesRow.domain false) (Rows.memberLapsesSpec.post enc Tryz.prog Tryz.f6 false true false false) := by
  refine returnsInHanded_of_calls (C := Tryz.checked) own started (by kernel_rfl)
    (ChangeSpec.witness6 (enc := enc) (C := Tryz.checked) false ⟨#[], #[.slice none 0 0, .string ⟨#[]⟩, .int .i64 0], []⟩ 8 (by kernel_rfl) (by kernel_rfl) (by kernel_rfl) (by kernel_rfl)) ?_
  intro w tape i _ _ _ hok hpre _
  obtain ⟨_, _, _, fn', hfn', _, _, _, _, hval0⟩ := hok
  have e : fn' = Tryz.f6 := Option.some.inj (hfn'.symm.trans Tryz.func6)
  subst e
  obtain ⟨⟨ds, gs, before, hw, hc⟩, hz⟩ := hpre
  have hsz : (DataW.weightsEach Tryz.prog (Tryz.f6.params.toList ++ Rows.memberLapsesSpec.plain.varTypes Tryz.prog) (ds ++ gs)).all (· ≤ reachBytes) = true := hz.weights hw
  have hW0 := DataW.Whole.of_heap (w' := w.forCall tape i) (by rfl) hw
  clear hw hc hz
  generalize w.forCall tape i = W at *
  generalize i.args = args at *
  have hval : ∀ (j : Nat) t v, Tryz.f6.params[j]? = some t → args[j]? = some v → Value.okWide Tryz.prog W .any w.heap.size t v := hval0
  have hW' := hW0
  have hlt := hW0.lt
  obtain ⟨p, q, hA0, hV, rfl, hfz, hnd⟩ := hW0
  have hA : DataW.TrodAll enc Tryz.prog W 0 (fun _ => true) true Tryz.f6.params.toList args.toList ds p := hA0
  rw [Tryz.params6] at hA hval hsz
  obtain ⟨v0, v1, v2, d0, d1, d2, p0, p1, p2, rfl, rfl, rfl, h0, h1, h2⟩ := trodAll_three hA
  obtain ⟨rfl, rfl⟩ := trodVars_none hV
  obtain ⟨xs, i0, l0⟩ := openLic (hval 0 52 v0 rfl rfl) h0
  obtain ⟨s1, rfl, rfl, rfl, ws1⟩ := open_string Tryz.underlying9 (hval 1 9 v1 rfl rfl) h1
  obtain ⟨m2, rfl, rfl, rfl, wm2⟩ := open_int Tryz.underlying3 (hval 2 3 v2 rfl rfl) h2
  have hb : xs.length * 32 ≤ 140737488355328 := bound_of (j := 0) hsz rfl rfl Tryz.underlying52 bytesLic l0
  clear hA0 hval0 hval hA hV
  refine (lawLap_c xs v0 s1 m2 W i0 hb (awake_ok W)).mono fun x W' ⟨he, hg⟩ => ?_
  subst he
  refine ChangeSpec.post_blind (s := Rows.memberLapsesSpec) ?_
  refine ⟨[d0, .lit (.string s1.data.toList), .lit (.int .i64 m2)], [], (p0 ++ ([] ++ [])) ++ [], [], p0 ++ ([] ++ []), [], by simpa using hW', ?_, ?_, rfl, Below.frame hg _, fun h => by cases h⟩
  · exact trodAll_mk1 (shut_bool Tryz.underlying4 _)
  · rw [Tryz.params6]
    have k0 := Below.trod laidOutM recLic rowLic h0 hg (fun x hx => hlt x (by simp [hx]))
    exact trodAll_mk3 k0 (shut_string Tryz.underlying9 ws1) ⟨1, trod_int_mk 0 Tryz.underlying3 wm2⟩
theorem memberLapses_holds : Rows.MemberLapsesSaid :=
  OpenClaim.holds_of_wide 6 Tryz.f6 rfl rfl rfl rfl rfl rfl rfl ⟨rfl, rfl, rfl, rfl, rfl⟩ rfl rfl rfl rfl rfl (by kernel_rfl) Tryz.func6 (by kernel_rfl)
    (of_decide_eq_true (by kernel_rfl)) (by unfold Func.isWrapper; first | (rw [if_pos (by decide +kernel)]; kernel_rfl) | (rw [if_neg (by decide +kernel)]; exact ⟨rfl, rfl⟩))
    (fun os started H enc _ => liftedMemberLapses os started H enc)
#print axioms memberLapses_holds
end Go.Proofs.YtmlmbgifkmkmgaaGreat
