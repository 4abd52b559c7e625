/- Lists of integers compared; the question at rank 1. -/
import Derived.Test.YtigmonaggppehaaGreatDoorOpPR
import Derived.Test.YtigmonaggppehaaGreatDoorOpU
namespace Go.Proofs.YtigmonaggppehaaGreatDoor
open Go.RowKit Go.Lib
set_option linter.unusedSimpArgs false
set_option linter.unusedVariables false
/-- the slice v reads as the integers xs -/
structure ReadsI (w : World) (v : Value) (xs : List Int) : Prop where
  mk' ::
  out : ∃ p cap, v = .slice p xs.length cap ∧ (0 < xs.length → ∃ g, p = some ⟨g, 0, none⟩ ∧ ∀ i x, xs[i]? = some x → w.cell? ⟨g, i, none⟩ = some (.int .i64 x))
theorem ReadsI.gr {w w' : World} {v : Value} {xs : List Int} (h : ReadsI w v xs) (k : Gr w w') : ReadsI w' v xs := by
  obtain ⟨⟨p, cap, rfl, hh⟩⟩ := h
  refine ⟨p, cap, rfl, fun h0 => ?_⟩
  obtain ⟨g, h1, h2⟩ := hh h0
  exact ⟨g, h1, fun i x hx => k.cell (h2 i x hx)⟩
theorem reads_of_owns {w : World} {base : Nat} {v : Value} {xs : List Int} (h : w.ownsRow base 3 1 v xs.length (ints xs)) : ReadsI w v xs := by
  rcases h.2 with ⟨rfl, h0⟩ | ⟨g, cap, cur, rfl, _⟩
  · exact ⟨none, 0, by rw [h0], fun h => by omega⟩
  · refine ⟨some ⟨g, 0, none⟩, cap, rfl, fun _ => ⟨g, rfl, fun i x hx => ?_⟩⟩
    have := h.cells (g := g) rfl i (.int .i64 x) (by simp [ints, hx])
    rwa [show (⟨g, 0, none⟩ : Addr).add i = ⟨g, i, none⟩ by unfold Addr.add; split <;> simp_all] at this
set_option maxHeartbeats 1000000 in
set_option maxRecDepth 100000 in
theorem same_pos (xs : List Int) (n g g2 c c2 : Nat) (w : World) (hn : xs.length = n) (ha : ∀ i x, xs[i]? = some x → w.cell? ⟨g, i, none⟩ = some (.int .i64 x)) (hb : ∀ i x, xs[i]? = some x → w.cell? ⟨g2, i, none⟩ = some (.int .i64 x)) (hs : n ≤ 1000) :
    Calls Tryz.prog 15 #[.slice (some ⟨g, 0, none⟩) n c, .slice (some ⟨g2, 0, none⟩) n c2] w fun e w' => e = .returned (.bool true) ∧ Gr w w' := by
  have HA := Lib.hid ha
  have HB := Lib.hid hb
  have HN := Lib.hid hn
  clear ha hb hn
  go_enter Tryz.func15, Tryz.ntmps15
  go_wp2_with fail
  go_loopg [5] n (fun gk s5 wr => ∃ k : Nat, s5 = .int .i64 k ∧ gk + k = n ∧ Gr w wr)
  case atStart => exact ⟨0, rfl, by omega, Gr.refl _⟩
  case round =>
    obtain ⟨k, rfl, hk, hg⟩ := hrel
    by_cases hlt : k < n
    · obtain ⟨x, hx⟩ : ∃ x, xs[k]? = some x := ⟨xs[k]'(by have := HN.out; omega), List.getElem?_eq_getElem _⟩
      have a0 : wr.cell? ⟨g, k, none⟩ = some (.int .i64 x) := hg.cell (HA.out k x hx)
      have b0 : wr.cell? ⟨g2, k, none⟩ = some (.int .i64 x) := hg.cell (HB.out k x hx)
      have hi : (k : Int) < (n : Int) := by omega
      clear hx
      go_wp2_with fail
      go_quiet (fail)
      go_wp2_with fail
      go_roundg (gk - 1)
      case measure => omega
      case rel => exact ⟨k + 1, by go_num, by omega, hg.drewN _⟩
    · have : k = n := by omega
      subst this
      go_wp2_with fail
      go_ret
      exact ⟨rfl, hg⟩
set_option maxRecDepth 100000 in
theorem same_nil (p p2 : Option Addr) (c c2 : Nat) (w : World) :
    Calls Tryz.prog 15 #[.slice p 0 c, .slice p2 0 c2] w fun e w' => e = .returned (.bool true) ∧ w = w' := by
  go_enter Tryz.func15, Tryz.ntmps15
  go_wp2_with fail
  refine wp_loop_rounds 1 ?_
  rw [rounds_succ]
  go_wp2_with fail
  go_ret
  exact ⟨rfl, rfl⟩
theorem same_c {xs : List Int} {v v2 : Value} {w : World} (h : ReadsI w v xs) (h2 : ReadsI w v2 xs) (hs : xs.length ≤ 1000) :
    Calls Tryz.prog 15 #[v, v2] w fun e w' => e = .returned (.bool true) ∧ Gr w w' := by
  obtain ⟨⟨p, cap, rfl, ha⟩⟩ := h
  obtain ⟨⟨p2, cap2, rfl, hb⟩⟩ := h2
  by_cases h0 : 0 < xs.length
  · obtain ⟨g, rfl, a⟩ := ha h0
    obtain ⟨g2, rfl, b⟩ := hb h0
    exact same_pos xs _ g g2 cap cap2 w rfl a b hs
  · rw [show xs.length = 0 by omega]
    refine (same_nil p p2 cap cap2 w).mono ?_
    rintro e w' ⟨rfl, rfl⟩
    exact ⟨rfl, Gr.refl _⟩
set_option maxHeartbeats 1000000 in
set_option maxRecDepth 100000 in
theorem asked_c {v : Value} {xs : List OpR} {w : World} (cl : Int) (h : OpsV w v xs) :
    Calls Tryz.prog 10 #[v, .int .i64 cl, .int .i64 1] w fun e w' => e = .returned (.int .i64 (ranksE xs cl)) ∧ Gr w w' := by
  obtain ⟨p, cap, rfl⟩ := opsV_slice h
  have HO := Lib.hid (refOpen_c h)
  by_cases h0 : openE xs = 0
  · have hok := ok_of h0
    have hl0 := hok.len0
    rw [h0] at HO
    by_cases h1 : cl < 0
    · have HE : Hid (ranksE xs cl = 10) := by unfold Hid ranksE firstE firstE climbE; rw [if_pos h0, if_pos (Or.inl h1)]; rfl
      clear hok h0 h
      generalize xs.length = n at *
      go_enter Tryz.func10, Tryz.ntmps10
      go_wp2_with fail
      refine HO.out.mono ?_
      rintro e w1 ⟨rfl, g⟩
      go_wp2_with fail
      go_ret
      exact ⟨by rw [HE.out]; rfl, g⟩
    · by_cases h2 : (xs.length : Int) ≤ cl
      · have HE : Hid (ranksE xs cl = 10) := by unfold Hid ranksE firstE firstE climbE; rw [if_pos h0, if_pos (Or.inr h2)]; rfl
        clear hok h0 h
        generalize xs.length = n at *
        go_enter Tryz.func10, Tryz.ntmps10
        go_wp2_with fail
        refine HO.out.mono ?_
        rintro e w1 ⟨rfl, g⟩
        go_wp2_with fail
        go_ret
        exact ⟨by rw [HE.out]; rfl, g⟩
      · have hc0 : climbE cl xs.length = 0 := by unfold climbE; rw [if_neg (by omega)]
        have HE : Hid (ranksE xs cl = 0) := by unfold Hid ranksE; rw [h0, hc0]; rfl
        clear hc0
        clear hok h0 h
        generalize xs.length = n at *
        have h3 : ¬ (n : Int) < 1 := by omega
        go_enter Tryz.func10, Tryz.ntmps10
        go_wp2_with fail
        refine HO.out.mono ?_
        rintro e w1 ⟨rfl, g⟩
        go_wp2_with fail
        go_ret
        exact ⟨by rw [HE.out]; rfl, g⟩
  · have HE : Hid (ranksE xs cl = openE xs) := by unfold Hid ranksE firstE; rw [if_neg h0]
    rw [HE.out]
    have hz : (openE xs == 0) = false := beq_eq_false_iff_ne.2 h0
    clear HE h0 h
    generalize xs.length = n at *
    generalize openE xs = E at *
    go_enter Tryz.func10, Tryz.ntmps10
    go_wp2_with fail
    refine HO.out.mono ?_
    rintro e w1 ⟨rfl, g⟩
    go_wp2_with fail
    go_ret
    exact ⟨rfl, g⟩
/-- the world in which awake() is called -/
abbrev AwakeIn (w : World) : Prop := ∀ W1, Gr w W1 → Calls Tryz.prog 6 #[] W1 fun e w' => e = .returned (.bool true) ∧ Gr W1 w'
end Go.Proofs.YtigmonaggppehaaGreatDoor
