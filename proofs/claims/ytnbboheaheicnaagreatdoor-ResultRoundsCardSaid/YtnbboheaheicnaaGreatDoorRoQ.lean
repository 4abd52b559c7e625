/- ResultRounds: the row. -/
import Derived.Test.YtnbboheaheicnaaGreatDoorLaidO
import Derived.Test.YtnbboheaheicnaaGreatDoorRoCL
import Derived.Test.YtnbboheaheicnaaGreatDoorThRk
namespace Go.Proofs.YtnbboheaheicnaaGreatDoor
open Go.ChangeShapes Go.WideShapes Go.ChangeAt Go.WideMaps Go.WideElems Go.RowKit
theorem lawRounds_c {W : World} {v : Value} {xs : List RowR} (h : Rows0V W v xs) (m : Int) (hSt : StatesIn W) (hA : AwakeOn W) :
    Calls Tryz.prog 3 #[v, .int .i64 m] W fun e w' => e = .returned (.bool true) ∧ Gr W w' := by
  obtain ⟨⟨p, cap, rfl, hcap, hh⟩⟩ := h
  have key : ∀ (hl : ∀ x ∈ xs, x.xs.length ≤ 10) (hn : xs.length ≤ 10 ∨ 160 < xs.length ∧ xs.length ≤ 162) (hS : Calls Tryz.prog 5 #[.slice p xs.length cap, .int .i64 10] W fun e w' => e = .returned (.bool true) ∧ W = w'),
      Calls Tryz.prog 3 #[.slice p xs.length cap, .int .i64 m] W fun e w' => e = .returned (.bool true) ∧ Gr W w' := fun hl hn hS => by
    have hr : RowsV W (.slice p xs.length cap) xs := ⟨p, cap, rfl, hcap, fun h0 => by
      obtain ⟨b, off, e, hc⟩ := hh h0
      exact ⟨b, off, e, fun i x hx => (hc i x hx).at (by have := hl x (List.mem_of_getElem? hx); omega)⟩⟩
    by_cases hE : roundE xs = 0
    · have h160 := (valid_any hE).2
      by_cases hm : m < 0 ∨ 160 < m
      · exact rounds_range sortF_ok xs p _ cap m W rfl hr hl (by omega) hSt hA hE hm hS
      · exact rounds_fine sortF_ok ins_ok xs p _ cap m W rfl hr hl (by omega) hSt hA hE (by omega) (by omega) hS
    · exact rounds_bad xs p _ cap m W rfl hr hl (by omega) hSt hA hE hS
  by_cases h0 : 0 < xs.length
  · obtain ⟨b, off, rfl, hc⟩ := hh h0
    obtain ⟨r, hr, hS⟩ := short_val xs xs.length b off cap 10 (by omega) W rfl (Nat.le_trans hcap.1 hcap.2) hc
    cases r
    · exact rounds_short _ _ cap _ W hA (hS W (Gr.refl _))
    · obtain ⟨hn, hsh⟩ := hr.1 rfl
      exact key (fun x hx => by
        cases hsh x hx with
        | yes a b c => exact c) (by omega) (hS W (Gr.refl _))
  · have hz : xs = [] := List.length_eq_zero_iff.1 (by omega)
    subst hz
    exact key (fun x hx => by cases hx) (.inl (by simp)) (short_nil p cap 10 (by omega) W)
set_option maxRecDepth 100000 in
theorem liftedRounds (os : Os) (started : os.Started) (H : Type) (enc : TypeId × Value → H) :
    ReturnsInHanded {} Tryz.checked os 3 .any (fun w args => (Rows.resultRoundsSpec.pre enc Tryz.prog Tryz.f3 [] false w args ∧ laidMetH Tryz.prog laidB w) ∧ sizedMet enc Tryz.prog Tryz.f3 (OpenSpec.ofChange Rows.resultRoundsSpec) false w args)
      (Rows.resultRoundsSpec.post enc Tryz.prog Tryz.f3 false true false false) := by
  refine returnsInHanded_of_calls (C := Tryz.checked) own started (by kernel_rfl)
    (ChangeSpec.witness_shaped (enc := enc) (C := Tryz.checked) (os := os) (X := fun w _ => laidMetH Tryz.prog laidB w) false (World.doorLaid Tryz.prog 400 os) #[.slice none 0 0, .int .i64 0] 8 rfl (World.shaped_of_RefB (by kernel_rfl) (by kernel_rfl)) (by kernel_rfl) (by kernel_rfl) (by kernel_rfl) (door_met os _)) ?_
  intro w tape i _ hsh _ hok hpre _
  obtain ⟨_, _, _, fn', hfn', _, _, _, _, hval0⟩ := hok
  have e : fn' = Tryz.f3 := Option.some.inj (hfn'.symm.trans Tryz.func3)
  subst e
  obtain ⟨⟨⟨ds, gs, before, hw, hc⟩, hx⟩, hz⟩ := hpre
  have hW0 := DataW.Whole.of_heap (w' := w.forCall tape i) (by rfl) hw
  have hL : laidMetH Tryz.prog laidB (w.forCall tape i) := hx.of_heap (by rfl)
  clear hw hx hc hz
  have hsh' : (w.forCall tape i).ShapedOpen Tryz.prog := hsh
  generalize w.forCall tape i = W at *
  generalize i.args = args at *
  have hval : ∀ (j : Nat) t v, Tryz.f3.params[j]? = some t → args[j]? = some v → Value.okWide Tryz.prog W .any w.heap.size t v := hval0
  have hW' := hW0
  have hlt := hW0.lt
  obtain ⟨p, q, hA0, hV, rfl, hfz, hnd⟩ := hW0
  have hA : DataW.TrodAll enc Tryz.prog W 0 (fun _ => true) true Tryz.f3.params.toList args.toList ds p := hA0
  rw [Tryz.params3] at hA hval
  obtain ⟨v0, v1, d0, d1, p0, p1, rfl, rfl, rfl, h0, h1⟩ := trodAll_two hA
  obtain ⟨rfl, rfl⟩ := trodVars_none hV
  obtain ⟨xs, i0⟩ := open_rows (hval 0 22 v0 rfl rfl) h0
  obtain ⟨m, rfl, rfl, rfl, wm⟩ := open_int Tryz.underlying3 (hval 1 3 v1 rfl rfl) h1
  clear hA0 hval0 hval hA hV
  refine (lawRounds_c i0 m (of_laid hL) (fun W1 hg => awake_c hsh' hL W1 hg)).mono fun x W' ⟨he, hg⟩ => ?_
  subst he
  refine ChangeSpec.post_blind (s := Rows.resultRoundsSpec) ?_
  refine ⟨[d0, .lit (.int .i64 m)], [], (p0 ++ []) ++ [], [], p0 ++ [], [], hW', ?_, ?_, rfl, Below.frame hg _, fun h => by cases h⟩
  · exact trodAll_mk1 (shut_bool Tryz.underlying4 _)
  · rw [Tryz.params3]
    have k0 := Below.trod laidOutRs recRs rowRs h0 hg (fun x hx => hlt x (by simp [hx]))
    exact trodAll_mk2 k0 ⟨1, trod_int_mk 0 Tryz.underlying3 wm⟩
theorem resultRounds_holds : Rows.ResultRoundsSaid :=
  OpenClaim.holds_of_wide 3 Tryz.f3 rfl rfl rfl rfl rfl rfl rfl ⟨rfl, rfl, rfl, rfl, rfl⟩ rfl rfl rfl rfl rfl (by kernel_rfl) Tryz.func3 (by kernel_rfl)
    (of_decide_eq_true (by kernel_rfl)) (by unfold Func.isWrapper; first | (rw [if_pos (by decide +kernel)]; kernel_rfl) | (rw [if_neg (by decide +kernel)]; exact ⟨rfl, rfl⟩))
    (fun os started H enc _ => liftedRounds os started H enc)
#print axioms resultRounds_holds
end Go.Proofs.YtnbboheaheicnaaGreatDoor
