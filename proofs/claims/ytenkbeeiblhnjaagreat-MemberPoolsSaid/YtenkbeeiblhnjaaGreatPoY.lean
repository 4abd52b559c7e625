/- MemberPools, as it was given: for whatever names, tests and draw: where the lists are short, member.Pool and member.Late return what the reference returns, names and error alike, with the first error in the order of the document. Conditions: none. -/
import Derived.Test.YtenkbeeiblhnjaaGreatPoV
import Derived.Test.YtenkbeeiblhnjaaGreatPoX
import Derived.Test.YtenkbeeiblhnjaaGreatPoT
namespace Go.Proofs.YtenkbeeiblhnjaaGreat
open Go.ChangeShapes Go.WideShapes Go.ChangeAt Go.WideMaps Go.WideElems Go.RowKit Go.ChangeMaps
set_option linter.unusedVariables false
set_option maxRecDepth 100000 in
theorem liftedMemberPools (os : Os) (started : os.Started) (H : Type) (enc : TypeId × Value → H) :
    ReturnsInHanded {} Tryz.checked os 3 .any (Rows.memberPoolsSpec.pre6 enc Tryz.prog Tryz.f3 Rows.memberPoolsRow.domain false) (Rows.memberPoolsSpec.post enc Tryz.prog Tryz.f3 false true false false) := by
  refine returnsInHanded_of_calls (C := Tryz.checked) own started (by kernel_rfl)
    (ChangeSpec.witness6 (enc := enc) (C := Tryz.checked) false ⟨#[], #[.slice none 0 0, .slice none 0 0, .agg #[.int .i64 0, .int .i64 0, .int .i64 0, .int .i64 0, .int .i64 0]], []⟩ 8 (by kernel_rfl) (by kernel_rfl) (by kernel_rfl) (by kernel_rfl)) ?_
  intro w tape i _ _ _ hok hpre _
  obtain ⟨_, _, _, fn', hfn', _, _, _, _, hval0⟩ := hok
  have e : fn' = Tryz.f3 := Option.some.inj (hfn'.symm.trans Tryz.func3)
  subst e
  obtain ⟨⟨ds, gs, before, hw, hc⟩, hz⟩ := hpre
  have hsz : (DataW.weightsEach Tryz.prog (Tryz.f3.params.toList ++ Rows.memberPoolsSpec.plain.varTypes Tryz.prog) (ds ++ gs)).all (· ≤ reachBytes) = true := hz.weights hw
  have hW0 := DataW.Whole.of_heap (w' := w.forCall tape i) (by rfl) hw
  clear hw hc hz
  generalize w.forCall tape i = W at *
  generalize i.args = args at *
  have hval : ∀ (j : Nat) t v, Tryz.f3.params[j]? = some t → args[j]? = some v → Value.okWide Tryz.prog W .any w.heap.size t v := hval0
  have hW' := hW0
  have hlt := hW0.lt
  obtain ⟨p, q, hA0, hV, rfl, hfz, hnd⟩ := hW0
  have hA : DataW.TrodAll enc Tryz.prog W 0 (fun _ => true) true Tryz.f3.params.toList args.toList ds p := hA0
  rw [Tryz.params3] at hA hval hsz
  obtain ⟨v0, v1, v2, d0, d1, d2, p0, p1, p2, rfl, rfl, rfl, h0, h1, h2⟩ := trodAll_three hA
  obtain ⟨rfl, rfl⟩ := trodVars_none hV
  obtain ⟨cs, i0, l0⟩ := openStr (hval 0 22 v0 rfl rfl) h0
  obtain ⟨xs, i1, l1⟩ := openTst (hval 1 23 v1 rfl rfl) h1
  obtain ⟨c, sp, key, dd, d, rfl⟩ := openDraw (hval 2 27 v2 rfl rfl) h2
  have hb : xs.length * 24 ≤ 140737488355328 := bound_of (j := 1) hsz rfl rfl Tryz.underlying23 bytesTst l1
  clear hA0 hval0 hval hA hV
  refine (lawPools_c insS_ok cs xs v0 v1 c sp key dd d W i0 i1 hb (awake_ok W)).mono fun x W' ⟨he, hg⟩ => ?_
  subst he
  refine ChangeSpec.post_blind (s := Rows.memberPoolsSpec) ?_
  refine ⟨[d0, d1, d2], [], (p0 ++ (p1 ++ p2)) ++ [], [], p0 ++ (p1 ++ p2), [], by simpa using hW', ?_, ?_, rfl, Below.frame hg _, fun h => by cases h⟩
  · exact trodAll_mk1 (shut_bool Tryz.underlying4 _)
  · rw [Tryz.params3]
    have k0 := Below.trod laidOutM recStr rowStr h0 hg (fun x hx => hlt x (by simp [hx]))
    have k1 := Below.trod laidOutM recTst rowTst h1 hg (fun x hx => hlt x (by simp [hx]))
    have k2 := Below.trod laidOutM recDraw rowDraw h2 hg (fun x hx => hlt x (by simp [hx]))
    exact trodAll_mk3 k0 k1 k2
theorem memberPools_holds : Rows.MemberPoolsSaid :=
  OpenClaim.holds_of_wide 3 Tryz.f3 rfl rfl rfl rfl rfl rfl rfl ⟨rfl, rfl, rfl, rfl, rfl⟩ rfl rfl rfl rfl rfl (by kernel_rfl) Tryz.func3 (by kernel_rfl)
    (of_decide_eq_true (by kernel_rfl)) (by unfold Func.isWrapper; first | (rw [if_pos (by decide +kernel)]; kernel_rfl) | (rw [if_neg (by decide +kernel)]; exact ⟨rfl, rfl⟩))
    (fun os started H enc _ => liftedMemberPools os started H enc)
#print axioms memberPools_holds
end Go.Proofs.YtenkbeeiblhnjaaGreat
