/- TopKarabinerPool, as it was given: for whatever names, tests and pick: where there are at most 8 climbers and 12 tests, all right, member.Pool without tests is the order that number.Draw draws; with the tests turned round, and one of somebody else, it is the same pool; two a day, each tested on that day, are drawn and none twice until all have been; and the law's own test passes. Conditions: none. -/
import Derived.Test.YtaapaijdcgpdkaaPoV
import Derived.Test.YtaapaijdcgpdkaaPqS
import Derived.Test.YtaapaijdcgpdkaaPoT
namespace Go.Proofs.Ytaapaijdcgpdkaa
open Go.ChangeShapes Go.WideShapes Go.ChangeAt Go.WideMaps Go.WideElems Go.RowKit Go.ChangeMaps
set_option linter.unusedVariables false
theorem drawn_ok (W : World) : DrawnOK W := fun W1 _ => by
  refine A9.top W1 (fun x hx => by cases hx) env ?_ orcKp
  intro f args s r s' h
  have h' : (none : Option Go.Ev.Res) = some (some (r, s')) := h
  cases h'
theorem recPick : Try.prog.readableRec 25 = true := by kernel_rfl
theorem rowPick : 25 < Try.prog.types.size := of_decide_eq_true (by kernel_rfl)
section
variable {H : Type} {enc : TypeId × Value → H}
set_option maxRecDepth 100000 in
/-- a pick, read -/
theorem openPick {W : World} {b0 : Nat} {v : Value} {d : DataW H} {ps : List MemPlace} (hv : Value.okWide Try.prog W .any b0 25 v) (h : DataW.Trod enc Try.prog W 0 (fun _ => true) true 25 v d ps) :
    ∃ a b c : Int, v = .agg #[.int .i64 a, .int .i64 b, .int .i64 c] := by
  have hu := Try.underlying25
  simp only [Value.okWide, hu] at hv
  obtain ⟨cs, rfl, hsz, _⟩ := hv
  rw [cellsPick] at hsz
  obtain ⟨l⟩ := cs
  match l, hsz with
  | [c0, c1, c2], _ =>
  obtain ⟨fuel, hf⟩ := h
  obtain ⟨ys, m, _, hx, _, hl, hfs⟩ := DataW.trod_struct hu hf
  match ys, hl, hx with
  | [y0, y1, y2], _, hx =>
    have e0 := hfs 0 _ rfl
    have e1 := hfs 1 _ rfl
    have e2 := hfs 2 _ rfl
    simp [cellsInt, Value.cells] at e0 e1 e2
    obtain ⟨v0, q0, _, _⟩ := DataW.trod_int Try.underlying3 e0
    obtain ⟨v1, q1, _, _⟩ := DataW.trod_int Try.underlying3 e1
    obtain ⟨v2, q2, _, _⟩ := DataW.trod_int Try.underlying3 e2
    simp at q0 q1 q2
    subst q0 q1 q2
    exact ⟨v0, v1, v2, rfl⟩
end
set_option maxRecDepth 100000 in
theorem liftedTopKarabinerPool (os : Os) (started : os.Started) (H : Type) (enc : TypeId × Value → H) :
    ReturnsInHanded {} Try.checked os 3 .any (Rows.topKarabinerPoolSpec.pre6 enc Try.prog Try.f3 Rows.topKarabinerPoolRow.domain false) (Rows.topKarabinerPoolSpec.post enc Try.prog Try.f3 false true false false) := by
  refine returnsInHanded_of_calls (C := Try.checked) own started (by kernel_rfl)
    (ChangeSpec.witness6 (enc := enc) (C := Try.checked) false ⟨#[], #[.slice none 0 0, .slice none 0 0, .agg #[.int .i64 0, .int .i64 0, .int .i64 0]], []⟩ 8 (by kernel_rfl) (by kernel_rfl) (by kernel_rfl) (by kernel_rfl)) ?_
  intro w tape i _ _ _ hok hpre _
  obtain ⟨_, _, _, fn', hfn', _, _, _, _, hval0⟩ := hok
  have e : fn' = Try.f3 := Option.some.inj (hfn'.symm.trans Try.func3)
  subst e
  obtain ⟨⟨ds, gs, before, hw, hc⟩, hz⟩ := hpre
  have hsz : (DataW.weightsEach Try.prog (Try.f3.params.toList ++ Rows.topKarabinerPoolSpec.plain.varTypes Try.prog) (ds ++ gs)).all (· ≤ reachBytes) = true := hz.weights hw
  have hW0 := DataW.Whole.of_heap (w' := w.forCall tape i) (by rfl) hw
  clear hw hc hz
  generalize w.forCall tape i = W at *
  generalize i.args = args at *
  have hval : ∀ (j : Nat) t v, Try.f3.params[j]? = some t → args[j]? = some v → Value.okWide Try.prog W .any w.heap.size t v := hval0
  have hW' := hW0
  have hlt := hW0.lt
  obtain ⟨p, q, hA0, hV, rfl, hfz, hnd⟩ := hW0
  have hA : DataW.TrodAll enc Try.prog W 0 (fun _ => true) true Try.f3.params.toList args.toList ds p := hA0
  rw [Try.params3] at hA hval hsz
  obtain ⟨v0, v1, v2, d0, d1, d2, p0, p1, p2, rfl, rfl, rfl, h0, h1, h2⟩ := trodAll_three hA
  obtain ⟨rfl, rfl⟩ := trodVars_none hV
  obtain ⟨cs, i0, l0⟩ := openStr (hval 0 22 v0 rfl rfl) h0
  obtain ⟨xs, i1, l1⟩ := openTst (hval 1 23 v1 rfl rfl) h1
  obtain ⟨c, sp, key, rfl⟩ := openPick (hval 2 25 v2 rfl rfl) h2
  have hb : xs.length * 24 ≤ 140737488355328 := bound_of (j := 1) hsz rfl rfl Try.underlying23 bytesTst l1
  clear hA0 hval0 hval hA hV
  refine (lawPool_c insS_ok cs xs v0 v1 c sp key W i0 i1 hb (drawn_ok W)).mono fun x W' ⟨he, hg⟩ => ?_
  subst he
  refine ChangeSpec.post_blind (s := Rows.topKarabinerPoolSpec) ?_
  refine ⟨[d0, d1, d2], [], (p0 ++ (p1 ++ p2)) ++ [], [], p0 ++ (p1 ++ p2), [], by simpa using hW', ?_, ?_, rfl, Below.frame hg _, fun h => by cases h⟩
  · exact trodAll_mk1 (shut_bool Try.underlying4 _)
  · rw [Try.params3]
    have k0 := Below.trod laidOutM recStr rowStr h0 hg (fun x hx => hlt x (by simp [hx]))
    have k1 := Below.trod laidOutM recTst rowTst h1 hg (fun x hx => hlt x (by simp [hx]))
    have k2 := Below.trod laidOutM recPick rowPick h2 hg (fun x hx => hlt x (by simp [hx]))
    exact trodAll_mk3 k0 k1 k2
theorem topKarabinerPool_holds : Rows.TopKarabinerPoolSaid :=
  OpenClaim.holds_of_wide 3 Try.f3 rfl rfl rfl rfl rfl rfl rfl ⟨rfl, rfl, rfl, rfl, rfl⟩ rfl rfl rfl rfl rfl (by kernel_rfl) Try.func3 (by kernel_rfl)
    (of_decide_eq_true (by kernel_rfl)) (by unfold Func.isWrapper; first | (rw [if_pos (by decide +kernel)]; kernel_rfl) | (rw [if_neg (by decide +kernel)]; exact ⟨rfl, rfl⟩))
    (fun os started H enc _ => liftedTopKarabinerPool os started H enc)
#print axioms topKarabinerPool_holds
end Go.Proofs.Ytaapaijdcgpdkaa
