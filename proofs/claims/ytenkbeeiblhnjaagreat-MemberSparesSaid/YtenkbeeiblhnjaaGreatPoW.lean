/- MemberSpares, as it was given: for whatever names, tests and draw: where there are at most 12 climbers and 20 tests, all right, the pool that member.Pool returns is the beginning of the one of all climbers, which has just those that member.Late returns, each once, those tested earlier first, and nobody tested within the days that are spared; and the law's own test passes. Conditions: none. -/
import Derived.Test.YtenkbeeiblhnjaaGreatPoV
import Derived.Test.YtenkbeeiblhnjaaGreatPoS
import Derived.Test.YtenkbeeiblhnjaaGreatPoT
namespace Go.Proofs.YtenkbeeiblhnjaaGreat
open Go.ChangeShapes Go.WideShapes Go.ChangeAt Go.WideMaps Go.WideElems Go.RowKit Go.ChangeMaps
set_option linter.unusedVariables false
set_option maxRecDepth 100000 in
theorem liftedMemberSpares (os : Os) (started : os.Started) (H : Type) (enc : TypeId × Value → H) :
    ReturnsInHanded {} Tryz.checked os 5 .any (Rows.memberSparesSpec.pre6 enc Tryz.prog Tryz.f5 Rows.memberSparesRow.domain false) (Rows.memberSparesSpec.post enc Tryz.prog Tryz.f5 false true false false) := by
  refine returnsInHanded_of_calls (C := Tryz.checked) own started (by kernel_rfl)
    (ChangeSpec.witness6 (enc := enc) (C := Tryz.checked) false ⟨#[], #[.slice none 0 0, .slice none 0 0, .agg #[.int .i64 0, .int .i64 0, .int .i64 0, .int .i64 0, .int .i64 0]], []⟩ 8 (by kernel_rfl) (by kernel_rfl) (by kernel_rfl) (by kernel_rfl)) ?_
  intro w tape i _ _ _ hok hpre _
  obtain ⟨_, _, _, fn', hfn', _, _, _, _, hval0⟩ := hok
  have e : fn' = Tryz.f5 := Option.some.inj (hfn'.symm.trans Tryz.func5)
  subst e
  obtain ⟨⟨ds, gs, before, hw, hc⟩, hz⟩ := hpre
  have hsz : (DataW.weightsEach Tryz.prog (Tryz.f5.params.toList ++ Rows.memberSparesSpec.plain.varTypes Tryz.prog) (ds ++ gs)).all (· ≤ reachBytes) = true := hz.weights hw
  have hW0 := DataW.Whole.of_heap (w' := w.forCall tape i) (by rfl) hw
  clear hw hc hz
  generalize w.forCall tape i = W at *
  generalize i.args = args at *
  have hval : ∀ (j : Nat) t v, Tryz.f5.params[j]? = some t → args[j]? = some v → Value.okWide Tryz.prog W .any w.heap.size t v := hval0
  have hW' := hW0
  have hlt := hW0.lt
  obtain ⟨p, q, hA0, hV, rfl, hfz, hnd⟩ := hW0
  have hA : DataW.TrodAll enc Tryz.prog W 0 (fun _ => true) true Tryz.f5.params.toList args.toList ds p := hA0
  rw [Tryz.params5] at hA hval hsz
  obtain ⟨v0, v1, v2, d0, d1, d2, p0, p1, p2, rfl, rfl, rfl, h0, h1, h2⟩ := trodAll_three hA
  obtain ⟨rfl, rfl⟩ := trodVars_none hV
  obtain ⟨cs, i0, l0⟩ := openStr (hval 0 22 v0 rfl rfl) h0
  obtain ⟨xs, i1, l1⟩ := openTst (hval 1 23 v1 rfl rfl) h1
  obtain ⟨c, sp, key, dd, d, rfl⟩ := openDraw (hval 2 27 v2 rfl rfl) h2
  have hb : xs.length * 24 ≤ 140737488355328 := bound_of (j := 1) hsz rfl rfl Tryz.underlying23 bytesTst l1
  clear hA0 hval0 hval hA hV
  refine (lawSpares_c insS_ok cs xs v0 v1 c sp key dd d W i0 i1 hb (awake_ok W)).mono fun x W' ⟨he, hg⟩ => ?_
  subst he
  refine ChangeSpec.post_blind (s := Rows.memberSparesSpec) ?_
  refine ⟨[d0, d1, d2], [], (p0 ++ (p1 ++ p2)) ++ [], [], p0 ++ (p1 ++ p2), [], by simpa using hW', ?_, ?_, rfl, Below.frame hg _, fun h => by cases h⟩
  · exact trodAll_mk1 (shut_bool Tryz.underlying4 _)
  · rw [Tryz.params5]
    have k0 := Below.trod laidOutM recStr rowStr h0 hg (fun x hx => hlt x (by simp [hx]))
    have k1 := Below.trod laidOutM recTst rowTst h1 hg (fun x hx => hlt x (by simp [hx]))
    have k2 := Below.trod laidOutM recDraw rowDraw h2 hg (fun x hx => hlt x (by simp [hx]))
    exact trodAll_mk3 k0 k1 k2
theorem memberSpares_holds : Rows.MemberSparesSaid :=
  OpenClaim.holds_of_wide 5 Tryz.f5 rfl rfl rfl rfl rfl rfl rfl ⟨rfl, rfl, rfl, rfl, rfl⟩ rfl rfl rfl rfl rfl (by kernel_rfl) Tryz.func5 (by kernel_rfl)
    (of_decide_eq_true (by kernel_rfl)) (by unfold Func.isWrapper; first | (rw [if_pos (by decide +kernel)]; kernel_rfl) | (rw [if_neg (by decide +kernel)]; exact ⟨rfl, rfl⟩))
    (fun os started H enc _ => liftedMemberSpares os started H enc)
#print axioms memberSpares_holds
end Go.Proofs.YtenkbeeiblhnjaaGreat
