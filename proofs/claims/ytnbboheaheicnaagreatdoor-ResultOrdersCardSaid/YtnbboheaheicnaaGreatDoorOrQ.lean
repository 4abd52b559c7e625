/- ResultOrders: the row. -/
import Derived.Test.YtnbboheaheicnaaGreatDoorLaidO
import Derived.Test.YtnbboheaheicnaaGreatDoorOrW
import Derived.Test.YtnbboheaheicnaaGreatDoorThRk
namespace Go.Proofs.YtnbboheaheicnaaGreatDoor
open Go.ChangeShapes Go.WideShapes Go.ChangeAt Go.WideMaps Go.WideElems Go.RowKit
theorem lawOrders_c {W : World} {v : Value} {xs : List RowR} (h : Rows0V W v xs) (pk : Nat) (hpk : pk < 256) (hSt : StatesIn W) (hA : AwakeOn W) :
    Calls Tryz.prog 4 #[v, .int .u8 (pk : Int)] W fun e w' => e = .returned (.bool true) ∧ Gr W w' := by
  obtain ⟨⟨p, cap, rfl, hcap, hh⟩⟩ := h
  by_cases h0 : 0 < xs.length
  · obtain ⟨b, off, rfl, hc⟩ := hh h0
    obtain ⟨r, hr, hS⟩ := short_val xs xs.length b off cap 8 (by omega) W rfl (Nat.le_trans hcap.1 hcap.2) hc
    cases r
    · exact ord_short _ _ cap _ W hA (hS W (Gr.refl _))
    · obtain ⟨hn, hsh⟩ := hr.1 rfl
      by_cases h8 : xs.length ≤ 8
      · have hl : ∀ x ∈ xs, x.xs.length ≤ 10 := fun x hx => by
          cases hsh x hx with
          | yes a b c => exact c
        have hc' : ∀ i x, xs[i]? = some x → RowAt W b (off + i * 3) x := fun i x hx => (hc i x hx).at (by have := hl x (List.mem_of_getElem? hx); omega)
        have hC := refRound_pos xs xs.length b off cap W rfl (by omega) hcap.1 hcap.2 hc'
        by_cases hE : rowFrom xs (firstV xs) xs.length 0 = 0
        · rw [hE] at hC
          exact ord_fine sortF_ok ins_ok xs xs.length b off cap pk W rfl h0 h8 hcap.1 hcap.2 hpk hSt hA hc' hl (valid_of_zero hE) (hS W (Gr.refl _)) hC
        · exact ord_bad _ _ cap _ W hA h8 h0 _ hE (hS W (Gr.refl _)) hC
      · exact ord_many _ _ cap _ W hA (.inl (by omega)) (hS W (Gr.refl _))
  · have hz : xs.length = 0 := by omega
    rw [hz]
    exact ord_many p 0 cap _ W hA (.inr rfl) (short_nil p cap 8 (by omega) W)
set_option maxRecDepth 100000 in
theorem liftedOrders (os : Os) (started : os.Started) (H : Type) (enc : TypeId × Value → H) :
    ReturnsInHanded {} Tryz.checked os 4 .any (fun w args => (Rows.resultOrdersSpec.pre enc Tryz.prog Tryz.f4 [] false w args ∧ laidMetH Tryz.prog laidB w) ∧ sizedMet enc Tryz.prog Tryz.f4 (OpenSpec.ofChange Rows.resultOrdersSpec) false w args)
      (Rows.resultOrdersSpec.post enc Tryz.prog Tryz.f4 false true false false) := by
  refine returnsInHanded_of_calls (C := Tryz.checked) own started (by kernel_rfl)
    (ChangeSpec.witness_shaped (enc := enc) (C := Tryz.checked) (os := os) (X := fun w _ => laidMetH Tryz.prog laidB w) false (World.doorLaid Tryz.prog 400 os) #[.slice none 0 0, .int .u8 0] 8 rfl (World.shaped_of_RefB (by kernel_rfl) (by kernel_rfl)) (by kernel_rfl) (by kernel_rfl) (by kernel_rfl) (door_met os _)) ?_
  intro w tape i _ hsh _ hok hpre _
  obtain ⟨_, _, _, fn', hfn', _, _, _, _, hval0⟩ := hok
  have e : fn' = Tryz.f4 := Option.some.inj (hfn'.symm.trans Tryz.func4)
  subst e
  obtain ⟨⟨⟨ds, gs, before, hw, hc⟩, hx⟩, hz⟩ := hpre
  have hW0 := DataW.Whole.of_heap (w' := w.forCall tape i) (by rfl) hw
  have hL : laidMetH Tryz.prog laidB (w.forCall tape i) := hx.of_heap (by rfl)
  clear hw hx hc hz
  have hsh' : (w.forCall tape i).ShapedOpen Tryz.prog := hsh
  generalize w.forCall tape i = W at *
  generalize i.args = args at *
  have hval : ∀ (j : Nat) t v, Tryz.f4.params[j]? = some t → args[j]? = some v → Value.okWide Tryz.prog W .any w.heap.size t v := hval0
  have hW' := hW0
  have hlt := hW0.lt
  obtain ⟨p, q, hA0, hV, rfl, hfz, hnd⟩ := hW0
  have hA : DataW.TrodAll enc Tryz.prog W 0 (fun _ => true) true Tryz.f4.params.toList args.toList ds p := hA0
  rw [Tryz.params4] at hA hval
  obtain ⟨v0, v1, d0, d1, p0, p1, rfl, rfl, rfl, h0, h1⟩ := trodAll_two hA
  obtain ⟨rfl, rfl⟩ := trodVars_none hV
  obtain ⟨xs, i0⟩ := open_rows (hval 0 22 v0 rfl rfl) h0
  obtain ⟨m, rfl, rfl, rfl, wm⟩ := open_int Tryz.underlying5 (hval 1 5 v1 rfl rfl) h1
  clear hA0 hval0 hval hA hV
  have hm := bounds_u8 wm
  obtain ⟨pk, rfl⟩ : ∃ pk : Nat, m = pk := ⟨m.toNat, by omega⟩
  refine (lawOrders_c i0 pk (by omega) (of_laid hL) (fun W1 hg => awake_c hsh' hL W1 hg)).mono fun x W' ⟨he, hg⟩ => ?_
  subst he
  refine ChangeSpec.post_blind (s := Rows.resultOrdersSpec) ?_
  refine ⟨[d0, .lit (.int .u8 pk)], [], (p0 ++ []) ++ [], [], p0 ++ [], [], hW', ?_, ?_, rfl, Below.frame hg _, fun h => by cases h⟩
  · exact trodAll_mk1 (shut_bool Tryz.underlying4 _)
  · rw [Tryz.params4]
    have k0 := Below.trod laidOutRs recRs rowRs h0 hg (fun x hx => hlt x (by simp [hx]))
    exact trodAll_mk2 k0 ⟨1, trod_int_mk 0 Tryz.underlying5 wm⟩
theorem resultOrders_holds : Rows.ResultOrdersSaid :=
  OpenClaim.holds_of_wide 4 Tryz.f4 rfl rfl rfl rfl rfl rfl rfl ⟨rfl, rfl, rfl, rfl, rfl⟩ rfl rfl rfl rfl rfl (by kernel_rfl) Tryz.func4 (by kernel_rfl)
    (of_decide_eq_true (by kernel_rfl)) (by unfold Func.isWrapper; first | (rw [if_pos (by decide +kernel)]; kernel_rfl) | (rw [if_neg (by decide +kernel)]; exact ⟨rfl, rfl⟩))
    (fun os started H enc _ => liftedOrders os started H enc)
#print axioms resultOrders_holds
end Go.Proofs.YtnbboheaheicnaaGreatDoor
