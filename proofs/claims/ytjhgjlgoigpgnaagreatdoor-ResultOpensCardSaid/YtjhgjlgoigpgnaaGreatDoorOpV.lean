/- Lists of integers compared; the library's sort. The law ResultOpens, walked. -/
import Derived.Test.YtjhgjlgoigpgnaaGreatDoorOpR
import Derived.Test.YtjhgjlgoigpgnaaGreatDoorOpU
namespace Go.Proofs.YtjhgjlgoigpgnaaGreatDoor
open Go.RowKit Go.Lib
set_option linter.unusedSimpArgs false
set_option linter.unusedVariables false
/-- the slice v reads as the integers xs -/
structure ReadsI (w : World) (v : Value) (xs : List Int) : Prop where
  mk' ::
  out : ∃ p cap, v = .slice p xs.length cap ∧ (0 < xs.length → ∃ g, p = some ⟨g, 0, none⟩ ∧ ∀ i x, xs[i]? = some x → w.cell? ⟨g, i, none⟩ = some (.int .i64 x))
theorem ReadsI.gr {w w' : World} {v : Value} {xs : List Int} (h : ReadsI w v xs) (k : Gr w w') : ReadsI w' v xs := by
  obtain ⟨⟨p, cap, rfl, hh⟩⟩ := h
  refine ⟨p, cap, rfl, fun h0 => ?_⟩
  obtain ⟨g, h1, h2⟩ := hh h0
  exact ⟨g, h1, fun i x hx => k.cell (h2 i x hx)⟩
theorem reads_of_owns {w : World} {base : Nat} {v : Value} {xs : List Int} (h : w.ownsRow base 3 1 v xs.length (ints xs)) : ReadsI w v xs := by
  rcases h.2 with ⟨rfl, h0⟩ | ⟨g, cap, cur, rfl, _⟩
  · exact ⟨none, 0, by rw [h0], fun h => by omega⟩
  · refine ⟨some ⟨g, 0, none⟩, cap, rfl, fun _ => ⟨g, rfl, fun i x hx => ?_⟩⟩
    have := h.cells (g := g) rfl i (.int .i64 x) (by simp [ints, hx])
    rwa [show (⟨g, 0, none⟩ : Addr).add i = ⟨g, i, none⟩ by unfold Addr.add; split <;> simp_all] at this
set_option maxHeartbeats 1000000 in
set_option maxRecDepth 100000 in
theorem same_pos (xs : List Int) (n g g2 c c2 : Nat) (w : World) (hn : xs.length = n) (ha : ∀ i x, xs[i]? = some x → w.cell? ⟨g, i, none⟩ = some (.int .i64 x)) (hb : ∀ i x, xs[i]? = some x → w.cell? ⟨g2, i, none⟩ = some (.int .i64 x)) (hs : n ≤ 1000) :
    Calls Tryz.prog 17 #[.slice (some ⟨g, 0, none⟩) n c, .slice (some ⟨g2, 0, none⟩) n c2] w fun e w' => e = .returned (.bool true) ∧ Gr w w' := by
  have HA := Lib.hid ha
  have HB := Lib.hid hb
  have HN := Lib.hid hn
  clear ha hb hn
  go_enter Tryz.func17, Tryz.ntmps17
  go_wp2_with fail
  go_loopg [5] n (fun gk s5 wr => ∃ k : Nat, s5 = .int .i64 k ∧ gk + k = n ∧ Gr w wr)
  case atStart => exact ⟨0, rfl, by omega, Gr.refl _⟩
  case round =>
    obtain ⟨k, rfl, hk, hg⟩ := hrel
    by_cases hlt : k < n
    · obtain ⟨x, hx⟩ : ∃ x, xs[k]? = some x := ⟨xs[k]'(by have := HN.out; omega), List.getElem?_eq_getElem _⟩
      have a0 : wr.cell? ⟨g, k, none⟩ = some (.int .i64 x) := hg.cell (HA.out k x hx)
      have b0 : wr.cell? ⟨g2, k, none⟩ = some (.int .i64 x) := hg.cell (HB.out k x hx)
      have hi : (k : Int) < (n : Int) := by omega
      clear hx
      go_wp2_with fail
      go_quiet (fail)
      go_wp2_with fail
      go_roundg (gk - 1)
      case measure => omega
      case rel => exact ⟨k + 1, by go_num, by omega, hg.drewN _⟩
    · have : k = n := by omega
      subst this
      go_wp2_with fail
      go_ret
      exact ⟨rfl, hg⟩
set_option maxRecDepth 100000 in
theorem same_nil (p p2 : Option Addr) (c c2 : Nat) (w : World) :
    Calls Tryz.prog 17 #[.slice p 0 c, .slice p2 0 c2] w fun e w' => e = .returned (.bool true) ∧ w = w' := by
  go_enter Tryz.func17, Tryz.ntmps17
  go_wp2_with fail
  refine wp_loop_rounds 1 ?_
  rw [rounds_succ]
  go_wp2_with fail
  go_ret
  exact ⟨rfl, rfl⟩
theorem same_c {xs : List Int} {v v2 : Value} {w : World} (h : ReadsI w v xs) (h2 : ReadsI w v2 xs) (hs : xs.length ≤ 1000) :
    Calls Tryz.prog 17 #[v, v2] w fun e w' => e = .returned (.bool true) ∧ Gr w w' := by
  obtain ⟨⟨p, cap, rfl, ha⟩⟩ := h
  obtain ⟨⟨p2, cap2, rfl, hb⟩⟩ := h2
  by_cases h0 : 0 < xs.length
  · obtain ⟨g, rfl, a⟩ := ha h0
    obtain ⟨g2, rfl, b⟩ := hb h0
    exact same_pos xs _ g g2 cap cap2 w rfl a b hs
  · rw [show xs.length = 0 by omega]
    refine (same_nil p p2 cap cap2 w).mono ?_
    rintro e w' ⟨rfl, rfl⟩
    exact ⟨rfl, Gr.refl _⟩
set_option maxHeartbeats 1000000 in
set_option maxRecDepth 100000 in
theorem asked_c {v : Value} {xs : List OpR} {w : World} (cl : Int) (h : OpsV w v xs) :
    Calls Tryz.prog 14 #[v, .int .i64 cl, .int .i64 1] w fun e w' => e = .returned (.int .i64 (ranksE xs cl)) ∧ Gr w w' := by
  obtain ⟨p, cap, rfl⟩ := opsV_slice h
  have HO := Lib.hid (refOpen_c h)
  by_cases h0 : openE xs = 0
  · have hok := ok_of h0
    have hl0 := hok.len0
    rw [h0] at HO
    by_cases h1 : cl < 0
    · have HE : Hid (ranksE xs cl = 10) := by unfold Hid ranksE firstE firstE climbE; rw [if_pos h0, if_pos (Or.inl h1)]; rfl
      clear hok h0 h
      generalize xs.length = n at *
      go_enter Tryz.func14, Tryz.ntmps14
      go_wp2_with fail
      refine HO.out.mono ?_
      rintro e w1 ⟨rfl, g⟩
      go_wp2_with fail
      go_ret
      exact ⟨by rw [HE.out]; rfl, g⟩
    · by_cases h2 : (xs.length : Int) ≤ cl
      · have HE : Hid (ranksE xs cl = 10) := by unfold Hid ranksE firstE firstE climbE; rw [if_pos h0, if_pos (Or.inr h2)]; rfl
        clear hok h0 h
        generalize xs.length = n at *
        go_enter Tryz.func14, Tryz.ntmps14
        go_wp2_with fail
        refine HO.out.mono ?_
        rintro e w1 ⟨rfl, g⟩
        go_wp2_with fail
        go_ret
        exact ⟨by rw [HE.out]; rfl, g⟩
      · have hc0 : climbE cl xs.length = 0 := by unfold climbE; rw [if_neg (by omega)]
        have HE : Hid (ranksE xs cl = 0) := by unfold Hid ranksE; rw [h0, hc0]; rfl
        clear hc0
        clear hok h0 h
        generalize xs.length = n at *
        have h3 : ¬ (n : Int) < 1 := by omega
        go_enter Tryz.func14, Tryz.ntmps14
        go_wp2_with fail
        refine HO.out.mono ?_
        rintro e w1 ⟨rfl, g⟩
        go_wp2_with fail
        go_ret
        exact ⟨by rw [HE.out]; rfl, g⟩
  · have HE : Hid (ranksE xs cl = openE xs) := by unfold Hid ranksE firstE; rw [if_neg h0]
    rw [HE.out]
    have hz : (openE xs == 0) = false := beq_eq_false_iff_ne.2 h0
    clear HE h0 h
    generalize xs.length = n at *
    generalize openE xs = E at *
    go_enter Tryz.func14, Tryz.ntmps14
    go_wp2_with fail
    refine HO.out.mono ?_
    rintro e w1 ⟨rfl, g⟩
    go_wp2_with fail
    go_ret
    exact ⟨rfl, g⟩
/-- the world in which awake() is called -/
abbrev AwakeIn (w : World) : Prop := ∀ W1, Gr w W1 → Calls Tryz.prog 7 #[] W1 fun e w' => e = .returned (.bool true) ∧ Gr W1 w'
set_option maxHeartbeats 1000000 in
set_option maxRecDepth 100000 in
theorem lawO_err {v : Value} {xs : List OpR} {w : World} (cl : Int) (h : OpsV w v xs) (hE : ranksE xs cl ≠ 0) (hA : AwakeIn w) :
    Calls Tryz.prog 4 #[v, .int .i64 cl] w fun e w' => e = .returned (.bool true) ∧ Gr w w' := by
  have HS := Lib.hid (short_c h)
  have HOp := Lib.hid (fun (W : World) (g : Gr w W) (hl : xs.length ≤ 1000) => opens_c (h.gr g) hl)
  have HRk := Lib.hid (fun (u : Value) (W : World) (hu : OpsV W u xs) => ranks_err cl hu hE)
  have HAs := Lib.hid (fun (W : World) (g : Gr w W) => asked_c cl (h.gr g))
  have HCh := Lib.hid (fun (u : Value) (W : World) (hu : OpsV W u xs) => checkOpen_c hu)
  have HRf := Lib.hid (fun (W : World) (g : Gr w W) => refOpen_c (h.gr g))
  have HA := Lib.hid hA
  clear hA
  have hz : (ranksE xs cl == 0) = false := beq_eq_false_iff_ne.2 hE
  have hz2 : (ranksE xs cl != 0) = true := by rw [bne, hz]; rfl
  generalize ranksE xs cl = E at *
  generalize openE xs = E0 at *
  clear h
  go_enter Tryz.func4, Tryz.ntmps4
  go_wp2_with fail
  refine HS.out.mono ?_
  rintro e w1 ⟨B, rfl, hB, g⟩
  cases B
  · go_wp2_with fail
    refine (HA.out _ g).mono ?_
    rintro e w2 ⟨rfl, g2⟩
    go_wp2_with fail
    go_ret
    exact ⟨rfl, g.trans g2⟩
  · have hl : xs.length ≤ 1000 := by have := hB rfl; omega
    clear hB
    go_wp2_with fail
    refine (HOp.out _ g hl).mono ?_
    rintro e w2 ⟨u, rfl, hu, g2⟩
    replace g := g.trans g2
    clear g2
    go_wp2_with fail
    refine (HRk.out _ _ hu).mono ?_
    rintro e w3 ⟨rfl, g3⟩
    replace g := g.trans g3
    clear g3 hu
    go_wp2_with fail
    refine (HAs.out _ g).mono ?_
    rintro e w4 ⟨rfl, g4⟩
    replace g := g.trans g4
    clear g4
    go_wp2_with fail
    refine (HOp.out _ g hl).mono ?_
    rintro e w5 ⟨u2, rfl, hu, g5⟩
    replace g := g.trans g5
    clear g5
    go_wp2_with fail
    refine (HCh.out _ _ hu).mono ?_
    rintro e w6 ⟨rfl, g6⟩
    replace g := g.trans g6
    clear g6 hu
    go_wp2_with fail
    refine (HRf.out _ g).mono ?_
    rintro e w7 ⟨rfl, g7⟩
    replace g := g.trans g7
    clear g7
    go_wp2_with fail
    refine (HA.out _ g).mono ?_
    rintro e w8 ⟨rfl, g8⟩
    go_wp2_with fail
    go_ret
    exact ⟨rfl, g.trans g8⟩
set_option maxHeartbeats 1000000 in
set_option maxRecDepth 100000 in
theorem lawO_ok (hSO : SortOK) {v : Value} {xs : List OpR} {w : World} (cl : Nat) (x : OpR) (h : OpsV w v xs) (hx : xs[cl]? = some x) (hE : ranksE xs cl = 0) (hE0 : openE xs = 0) (hA : AwakeIn w) :
    Calls Tryz.prog 4 #[v, .int .i64 cl] w fun e w' => e = .returned (.bool true) ∧ Gr w w' := by
  have hok := ok_of hE0
  have hl := hok.len
  obtain ⟨hx0, hx1, hx2⟩ := hok.ends cl x hx
  have hpos := hok.len0
  have HS := Lib.hid (short_c h)
  have HOp := Lib.hid (fun (W : World) (g : Gr w W) => opens_c (h.gr g) (by omega))
  have HRk := Lib.hid (fun (u : Value) (W : World) (hu : OpsV W u xs) => ranks_ok hSO cl x hu hx hE hl hx1)
  have HAs := Lib.hid (fun (W : World) (g : Gr w W) => asked_c cl (h.gr g))
  have HCh := Lib.hid (fun (u : Value) (W : World) (hu : OpsV W u xs) => checkOpen_c hu)
  have HRf := Lib.hid (fun (W : World) (g : Gr w W) => refOpen_c (h.gr g))
  have HRR : Hid (∀ W, Gr w W → Calls Tryz.prog 18 #[v, .int .i64 cl] W fun e w' => ∃ u, e = .returned u ∧ w'.ownsRow W.heap.size 3 1 u (ranksK xs cl x xs.length).length (ints (ranksK xs cl x xs.length)) ∧ Gr W w') := by
    intro W g
    obtain ⟨⟨p, cap, rfl, hcap, hh⟩⟩ := h.gr g
    obtain ⟨b, off, rfl, hc⟩ := hh hpos
    exact refRanks_c xs _ b off cap cl x W rfl hl hc hx hx0 hx1 hx2
  have hlen := ranksK_len xs cl x xs.length
  have HSm := Lib.hid (fun (u u2 : Value) (W : World) (hu : ReadsI W u (ranksK xs cl x xs.length)) (hu2 : ReadsI W u2 (ranksK xs cl x xs.length)) => same_c hu hu2 (by omega))
  have HA := Lib.hid hA
  clear hA
  rw [hE] at HAs
  clear hok hx hx0 hx1 hx2 hE hE0 h
  generalize ranksK xs cl x xs.length = R at *
  generalize openE xs = E0 at *
  go_enter Tryz.func4, Tryz.ntmps4
  go_wp2_with fail
  refine HS.out.mono ?_
  rintro e w1 ⟨B, rfl, hB, g⟩
  cases B
  · go_wp2_with fail
    refine (HA.out _ g).mono ?_
    rintro e w2 ⟨rfl, g2⟩
    go_wp2_with fail
    go_ret
    exact ⟨rfl, g.trans g2⟩
  · clear hB
    go_wp2_with fail
    refine (HOp.out _ g).mono ?_
    rintro e w2 ⟨u, rfl, hu, g2⟩
    replace g := g.trans g2
    clear g2
    go_wp2_with fail
    refine (HRk.out _ _ hu).mono ?_
    rintro e w3 ⟨r1, rfl, hown, g3⟩
    replace g := g.trans g3
    have hr1 := reads_of_owns hown
    clear g3 hu hown
    go_wp2_with fail
    refine (HAs.out _ g).mono ?_
    rintro e w4 ⟨rfl, g4⟩
    replace g := g.trans g4
    replace hr1 := hr1.gr g4
    clear g4
    go_wp2_with fail
    refine (HOp.out _ g).mono ?_
    rintro e w5 ⟨u2, rfl, hu, g5⟩
    replace g := g.trans g5
    replace hr1 := hr1.gr g5
    clear g5
    go_wp2_with fail
    refine (HCh.out _ _ hu).mono ?_
    rintro e w6 ⟨rfl, g6⟩
    replace g := g.trans g6
    replace hr1 := hr1.gr g6
    clear g6 hu
    go_wp2_with fail
    refine (HRf.out _ g).mono ?_
    rintro e w7 ⟨rfl, g7⟩
    replace g := g.trans g7
    replace hr1 := hr1.gr g7
    clear g7
    go_wp2_with fail
    refine (HRR.out _ g).mono ?_
    rintro e w8 ⟨r2, rfl, hown, g8⟩
    replace g := g.trans g8
    replace hr1 := hr1.gr g8
    have hr2 := reads_of_owns hown
    clear g8 hown
    go_wp2_with fail
    refine (HSm.out _ _ _ hr1 hr2).mono ?_
    rintro e w9 ⟨rfl, g9⟩
    replace g := g.trans g9
    clear g9 hr1 hr2
    go_wp2_with fail
    refine (HA.out _ g).mono ?_
    rintro e wa ⟨rfl, ga⟩
    go_wp2_with fail
    go_ret
    exact ⟨rfl, g.trans ga⟩
theorem lawOpens_c (hSO : SortOK) {v : Value} {xs : List OpR} {w : World} (cl : Int) (h : OpsV w v xs) (hA : AwakeIn w) :
    Calls Tryz.prog 4 #[v, .int .i64 cl] w fun e w' => e = .returned (.bool true) ∧ Gr w w' := by
  by_cases hE : ranksE xs cl = 0
  · have hE0 : openE xs = 0 := by
      refine Classical.byContradiction fun hn => ?_
      unfold ranksE firstE at hE
      rw [if_neg hn] at hE
      exact hn hE
    have hc : ¬ (cl < 0 ∨ (xs.length : Int) ≤ cl) := fun hc => by
      unfold ranksE firstE firstE climbE at hE
      rw [if_pos hE0, if_pos hc] at hE
      cases hE
    obtain ⟨c, rfl⟩ : ∃ c : Nat, cl = c := ⟨cl.toNat, by omega⟩
    obtain ⟨x, hx⟩ : ∃ x, xs[c]? = some x := ⟨xs[c]'(by omega), List.getElem?_eq_getElem _⟩
    exact lawO_ok hSO c x h hx hE hE0 hA
  · exact lawO_err cl h hE hA
end Go.Proofs.YtjhgjlgoigpgnaaGreatDoor
