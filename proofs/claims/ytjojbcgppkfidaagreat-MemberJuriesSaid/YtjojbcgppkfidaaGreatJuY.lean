/- MemberJuries, as it was given: for whatever jury, appointment and two numbers: where the names and the lists are short, member.CheckJury, member.Serves and member.CheckAppointment return what the reference returns, the first error included. Conditions: none. -/
import Derived.Test.YtjojbcgppkfidaaGreatJuV
import Derived.Test.YtjojbcgppkfidaaGreatJuW
import Derived.Test.YtjojbcgppkfidaaGreatJuP
namespace Go.Proofs.YtjojbcgppkfidaaGreat
open Go.ChangeShapes Go.WideShapes Go.ChangeAt Go.WideMaps Go.WideElems Go.RowKit Go.ChangeMaps
set_option linter.unusedVariables false
set_option maxRecDepth 100000 in
theorem liftedMemberJuries (os : Os) (started : os.Started) (H : Type) (enc : TypeId × Value → H) :
    ReturnsInHanded {} Tryz.checked os 3 .any (Rows.memberJuriesSpec.pre6 enc Tryz.prog Tryz.f3 Rows.memberJuriesRow.domain false) (Rows.memberJuriesSpec.post enc Tryz.prog Tryz.f3 false true false false) := by
  refine returnsInHanded_of_calls (C := Tryz.checked) ownJ started (by kernel_rfl)
    (ChangeSpec.witness6 (enc := enc) (C := Tryz.checked) false ⟨#[], #[.agg #[.slice none 0 0, .slice none 0 0], .slice none 0 0, .agg #[.int .i64 0, .int .i64 0]], []⟩ 8 (by kernel_rfl) (by kernel_rfl) (by kernel_rfl) (by kernel_rfl)) ?_
  intro w tape i _ _ _ hok hpre _
  obtain ⟨_, _, _, fn', hfn', _, _, _, _, hval0⟩ := hok
  have e : fn' = Tryz.f3 := Option.some.inj (hfn'.symm.trans Tryz.func3)
  subst e
  obtain ⟨⟨ds, gs, before, hw, hc⟩, hz⟩ := hpre
  have hsz : (DataW.weightsEach Tryz.prog (Tryz.f3.params.toList ++ Rows.memberJuriesSpec.plain.varTypes Tryz.prog) (ds ++ gs)).all (· ≤ reachBytes) = true := hz.weights hw
  have hW0 := DataW.Whole.of_heap (w' := w.forCall tape i) (by rfl) hw
  clear hw hc hz
  generalize w.forCall tape i = W at *
  generalize i.args = args at *
  have hval : ∀ (j : Nat) t v, Tryz.f3.params[j]? = some t → args[j]? = some v → Value.okWide Tryz.prog W .any w.heap.size t v := hval0
  have hW' := hW0
  have hlt := hW0.lt
  obtain ⟨p, q, hA0, hV, rfl, hfz, hnd⟩ := hW0
  have hA : DataW.TrodAll enc Tryz.prog W 0 (fun _ => true) true Tryz.f3.params.toList args.toList ds p := hA0
  rw [Tryz.params3] at hA hval hsz
  obtain ⟨v0, v1, v2, d0, d1, d2, p0, p1, p2, rfl, rfl, rfl, h0, h1, h2⟩ := trodAll_three hA
  obtain ⟨rfl, rfl⟩ := trodVars_none hV
  obtain ⟨vo, vp, os, xs, rfl, i0, i1, hb1, hb2⟩ := openJury (hval 0 25 v0 rfl rfl) h0 hsz rfl rfl
  obtain ⟨a, i2⟩ := openInts (hval 1 26 v1 rfl rfl) h1
  obtain ⟨n0, n1, rfl⟩ := openTwo (hval 2 27 v2 rfl rfl) h2
  clear hA0 hval0 hval hA hV
  refine (lawJuries_c os xs a vo vp v1 n0 n1 W i0 i1 i2 hb1 hb2 (awake_ok W)).mono fun x W' ⟨he, hg⟩ => ?_
  subst he
  refine ChangeSpec.post_blind (s := Rows.memberJuriesSpec) ?_
  refine ⟨[d0, d1, d2], [], (p0 ++ (p1 ++ p2)) ++ [], [], p0 ++ (p1 ++ p2), [], by simpa using hW', ?_, ?_, rfl, Below.frame hg _, fun h => by cases h⟩
  · exact trodAll_mk1 (shut_bool Tryz.underlying4 _)
  · rw [Tryz.params3]
    have k0 := Below.trod laidOutM recJury rowJury h0 hg (fun x hx => hlt x (by simp [hx]))
    have k1 := Below.trod laidOutM recInts rowInts h1 hg (fun x hx => hlt x (by simp [hx]))
    have k2 := Below.trod laidOutM recTwo rowTwo h2 hg (fun x hx => hlt x (by simp [hx]))
    exact trodAll_mk3 k0 k1 k2
theorem memberJuries_holds : Rows.MemberJuriesSaid :=
  OpenClaim.holds_of_wide 3 Tryz.f3 rfl rfl rfl rfl rfl rfl rfl ⟨rfl, rfl, rfl, rfl, rfl⟩ rfl rfl rfl rfl rfl (by kernel_rfl) Tryz.func3 (by kernel_rfl)
    (of_decide_eq_true (by kernel_rfl)) (by unfold Func.isWrapper; first | (rw [if_pos (by decide +kernel)]; kernel_rfl) | (rw [if_neg (by decide +kernel)]; exact ⟨rfl, rfl⟩))
    (fun os started H enc _ => liftedMemberJuries os started H enc)
#print axioms memberJuries_holds
end Go.Proofs.YtjojbcgppkfidaaGreat
