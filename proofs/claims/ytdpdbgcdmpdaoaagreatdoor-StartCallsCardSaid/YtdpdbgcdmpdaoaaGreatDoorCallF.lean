/- Lists of integers compared. -/
import Derived.Test.YtdpdbgcdmpdaoaaGreatDoorCallE
namespace Go.Proofs.YtdpdbgcdmpdaoaaGreatDoor
open Go.RowKit Go.Lib
/-- the slice v reads as the integers xs -/
structure ReadsI (w : World) (v : Value) (xs : List Int) : Prop where
  mk' ::
  out : ∃ p cap, v = .slice p xs.length cap ∧ (0 < xs.length → ∃ g, p = some ⟨g, 0, none⟩ ∧ ∀ i x, xs[i]? = some x → w.cell? ⟨g, i, none⟩ = some (.int .i64 x))
theorem ReadsI.gr {w w' : World} {v : Value} {xs : List Int} (h : ReadsI w v xs) (k : Gr w w') : ReadsI w' v xs := by
  obtain ⟨⟨p, cap, rfl, hh⟩⟩ := h
  refine ⟨p, cap, rfl, fun h0 => ?_⟩
  obtain ⟨g, h1, h2⟩ := hh h0
  exact ⟨g, h1, fun i x hx => k.cell (h2 i x hx)⟩
theorem reads_of_owns {w : World} {base : Nat} {v : Value} {xs : List Int} (h : w.ownsRow base 3 1 v xs.length (ints xs)) : ReadsI w v xs := by
  rcases h.2 with ⟨rfl, h0⟩ | ⟨g, cap, cur, rfl, _⟩
  · exact ⟨none, 0, by rw [h0], fun h => by omega⟩
  · refine ⟨some ⟨g, 0, none⟩, cap, rfl, fun _ => ⟨g, rfl, fun i x hx => ?_⟩⟩
    have := h.cells (g := g) rfl i (.int .i64 x) (by simp [ints, hx])
    rwa [show (⟨g, 0, none⟩ : Addr).add i = ⟨g, i, none⟩ by unfold Addr.add; split <;> simp_all] at this
set_option maxHeartbeats 1000000 in
set_option maxRecDepth 100000 in
theorem same_pos (xs : List Int) (n g g2 c c2 : Nat) (w : World) (hn : xs.length = n) (ha : ∀ i x, xs[i]? = some x → w.cell? ⟨g, i, none⟩ = some (.int .i64 x)) (hb : ∀ i x, xs[i]? = some x → w.cell? ⟨g2, i, none⟩ = some (.int .i64 x)) (hs : n ≤ 1000) :
    Calls Tryz.prog 29 #[.slice (some ⟨g, 0, none⟩) n c, .slice (some ⟨g2, 0, none⟩) n c2] w fun e w' => e = .returned (.bool true) ∧ Gr w w' := by
  have HA := Lib.hid ha
  have HB := Lib.hid hb
  have HN := Lib.hid hn
  clear ha hb hn
  go_enter Tryz.func29, Tryz.ntmps29
  go_wp2_with fail
  go_loopg [5] n (fun gk s5 wr => ∃ k : Nat, s5 = .int .i64 k ∧ gk + k = n ∧ Gr w wr)
  case atStart => exact ⟨0, rfl, by omega, Gr.refl _⟩
  case round =>
    obtain ⟨k, rfl, hk, hg⟩ := hrel
    by_cases hlt : k < n
    · obtain ⟨x, hx⟩ : ∃ x, xs[k]? = some x := ⟨xs[k]'(by have := HN.out; omega), List.getElem?_eq_getElem _⟩
      have a0 : wr.cell? ⟨g, k, none⟩ = some (.int .i64 x) := hg.cell (HA.out k x hx)
      have b0 : wr.cell? ⟨g2, k, none⟩ = some (.int .i64 x) := hg.cell (HB.out k x hx)
      have hi : (k : Int) < (n : Int) := by omega
      clear hx
      go_wp2_with fail
      go_quiet (fail)
      go_wp2_with fail
      go_roundg (gk - 1)
      case measure => omega
      case rel => exact ⟨k + 1, by go_num, by omega, hg.drewN _⟩
    · have : k = n := by omega
      subst this
      go_wp2_with fail
      go_ret
      exact ⟨rfl, hg⟩
set_option maxRecDepth 100000 in
theorem same_nil (p p2 : Option Addr) (c c2 : Nat) (w : World) :
    Calls Tryz.prog 29 #[.slice p 0 c, .slice p2 0 c2] w fun e w' => e = .returned (.bool true) ∧ w = w' := by
  go_enter Tryz.func29, Tryz.ntmps29
  go_wp2_with fail
  refine wp_loop_rounds 1 ?_
  rw [rounds_succ]
  go_wp2_with fail
  go_ret
  exact ⟨rfl, rfl⟩
theorem same_c {xs : List Int} {v v2 : Value} {w : World} (h : ReadsI w v xs) (h2 : ReadsI w v2 xs) (hs : xs.length ≤ 1000) :
    Calls Tryz.prog 29 #[v, v2] w fun e w' => e = .returned (.bool true) ∧ Gr w w' := by
  obtain ⟨⟨p, cap, rfl, ha⟩⟩ := h
  obtain ⟨⟨p2, cap2, rfl, hb⟩⟩ := h2
  by_cases h0 : 0 < xs.length
  · obtain ⟨g, rfl, a⟩ := ha h0
    obtain ⟨g2, rfl, b⟩ := hb h0
    exact same_pos xs _ g g2 cap cap2 w rfl a b hs
  · rw [show xs.length = 0 by omega]
    refine (same_nil p p2 cap cap2 w).mono ?_
    rintro e w' ⟨rfl, rfl⟩
    exact ⟨rfl, Gr.refl _⟩
set_option maxRecDepth 100000 in
theorem list_ok {xs : List Int} {v v2 : Value} {w : World} (h : ReadsI w v xs) (h2 : ReadsI w v2 xs) (hs : xs.length ≤ 1000) :
    Calls Tryz.prog 12 #[v, .int .i64 0, .int .i64 0, v2] w fun e w' => e = .returned (.bool true) ∧ Gr w w' := by
  have HS := Lib.hid (fun W hg => same_c (h.gr (w' := W) hg) (h2.gr hg) hs)
  clear h h2
  go_enter Tryz.func12, Tryz.ntmps12
  go_wp2_with fail
  refine (HS.out _ (Gr.refl _)).mono ?_
  rintro e w4 ⟨rfl, hg⟩
  go_wp2_with fail
  go_ret
  exact ⟨rfl, hg⟩
set_option maxRecDepth 100000 in
theorem list_err (e : Int) (he : e ≠ 0) (w : World) :
    Calls Tryz.prog 12 #[.slice none 0 0, .int .i64 e, .int .i64 e, .slice none 0 0] w fun x w' => x = .returned (.bool true) ∧ w = w' := by
  have h1 : (e == 0) = false := by simpa using he
  have h2 : (e != 0) = true := by simpa [bne] using h1
  go_enter Tryz.func12, Tryz.ntmps12
  go_wp2_with fail
  go_ret
  exact ⟨by simp, rfl⟩
end Go.Proofs.YtdpdbgcdmpdaoaaGreatDoor
