/- Races: one behind others, all of them. -/
import Derived.Test.YthfmgficbnmmnaaGreatDoorRdI
namespace Go.Proofs.YthfmgficbnmmnaaGreatDoor
open Go.RowKit Go.Lib
set_option linter.unusedSimpArgs false
set_option linter.unusedVariables false
/-- the error of a race behind others -/
def raE0 (l : List RaR) (r : RaR) : Int := firstE [if (!r.a.toList.isEmpty && !decide (Nm r.a)) || (!r.b.toList.isEmpty && !decide (Nm r.b)) then 8 else 0, if (!r.a.toList.isEmpty && r.a.toList == r.b.toList) || sharesB r.a r.b l then 9 else 0, outE r.w 0 3, if !(walkW r.a r.b == 0) && !(r.w == walkW r.a r.b) then 19 else 0]
theorem checkBehind_c {l : List RaR} {p : Option Addr} {n c : Nat} {w : World} (r : RaR) (h : RaS w p l) (hl : l.length = n) (hn : n ≤ 1000) (hc : n ≤ c) :
    Calls Tryz.prog 100 #[raV r, .slice p n c] w fun e w' => e = .returned (.int .i64 (raE0 l r)) ∧ Gr w w' := by
  have hR : raE0 l r = firstE [if (!r.a.toList.isEmpty && !decide (Nm r.a)) || (!r.b.toList.isEmpty && !decide (Nm r.b)) then 8 else 0, if (!r.a.toList.isEmpty && r.a.toList == r.b.toList) || sharesB r.a r.b l then 9 else 0, outE r.w 0 3, if !(walkW r.a r.b == 0) && !(r.w == walkW r.a r.b) then 19 else 0] := rfl
  have H3 := fun V => range_c r.w 0 3 V
  have H1 := fun V => if_c ((!r.a.toList.isEmpty && !decide (Nm r.a)) || (!r.b.toList.isEmpty && !decide (Nm r.b))) 8 V
  have H2 := fun V => if_c ((!r.a.toList.isEmpty && r.a.toList == r.b.toList) || sharesB r.a r.b l) 9 V
  have H4 := fun V => if_c (!(walkW r.a r.b == 0) && !(r.w == walkW r.a r.b)) 19 V
  have HA : (r.a.toList = [] ∧ r.a.toList.isEmpty = true) ∨ (¬ r.a.toList = [] ∧ r.a.toList.isEmpty = false) := by cases r.a.toList <;> simp
  have HB : (r.b.toList = [] ∧ r.b.toList.isEmpty = true) ∨ (¬ r.b.toList = [] ∧ r.b.toList.isEmpty = false) := by cases r.b.toList <;> simp
  have HWW : walkW r.a r.b = if r.a.toList = [] then (if r.b.toList = [] then 3 else 2) else if r.b.toList = [] then 1 else 0 := rfl
  generalize raE0 l r = err at *
  unfold raV
  rcases HA with ⟨ha, ha2⟩ | ⟨ha, ha2⟩ <;> rcases HB with ⟨hb, hb2⟩ | ⟨hb, hb2⟩
  · rw [if_pos ha, if_pos hb] at HWW
    have hww : ¬ walkW r.a r.b = 0 := by rw [HWW]; decide
    have hww2 : (walkW r.a r.b == 0) = false := beq_eq_false_iff_ne.2 hww
    simp only [ha2, hb2, hww2, Bool.not_true, Bool.not_false, Bool.false_and, Bool.true_and, Bool.false_or, Bool.true_or, Bool.or_false] at hR
    simp only [ha2, hb2, hww2, Bool.not_true, Bool.not_false, Bool.false_and, Bool.true_and, Bool.false_or, Bool.true_or, Bool.or_false] at H1
    simp only [ha2, hb2, hww2, Bool.not_true, Bool.not_false, Bool.false_and, Bool.true_and, Bool.false_or, Bool.true_or, Bool.or_false] at H2
    simp only [ha2, hb2, hww2, Bool.not_true, Bool.not_false, Bool.false_and, Bool.true_and, Bool.false_or, Bool.true_or, Bool.or_false] at H4
    exact cb_ffff r.a r.b r.w (walkW r.a r.b) _ _ _ _ _ p n c w hww ha ha2 hb hb2 (sharesB r.a r.b l) (Lib.hid fun V g => shares_c r.a r.b r.w (h.gr g) hl hn hc) (Lib.hid H1) (Lib.hid H2) (Lib.hid H3) (Lib.hid H4) (Lib.hid fun V => by have := raceOf_c r.a r.b V; unfold raV raB at this;  exact this) (Lib.hid fun b cap V h0 h1 h2 h3 => by have := first_four _ _ _ _ b cap V h0 h1 h2 h3; rw [← hR] at this; exact this)
  · rw [if_pos ha, if_neg hb] at HWW
    have hww : ¬ walkW r.a r.b = 0 := by rw [HWW]; decide
    have hww2 : (walkW r.a r.b == 0) = false := beq_eq_false_iff_ne.2 hww
    simp only [ha2, hb2, hww2, Bool.not_true, Bool.not_false, Bool.false_and, Bool.true_and, Bool.false_or, Bool.true_or, Bool.or_false] at hR
    simp only [ha2, hb2, hww2, Bool.not_true, Bool.not_false, Bool.false_and, Bool.true_and, Bool.false_or, Bool.true_or, Bool.or_false] at H1
    simp only [ha2, hb2, hww2, Bool.not_true, Bool.not_false, Bool.false_and, Bool.true_and, Bool.false_or, Bool.true_or, Bool.or_false] at H2
    simp only [ha2, hb2, hww2, Bool.not_true, Bool.not_false, Bool.false_and, Bool.true_and, Bool.false_or, Bool.true_or, Bool.or_false] at H4
    exact cb_ftff r.a r.b r.w (walkW r.a r.b) _ _ _ _ _ p n c w hww ha ha2 hb hb2 (decide (Nm r.b)) (Lib.hid fun V => isName_c r.b V) (sharesB r.a r.b l) (Lib.hid fun V g => shares_c r.a r.b r.w (h.gr g) hl hn hc) (Lib.hid H1) (Lib.hid H2) (Lib.hid H3) (Lib.hid H4) (Lib.hid fun V => by have := raceOf_c r.a r.b V; unfold raV raB at this;  exact this) (Lib.hid fun b cap V h0 h1 h2 h3 => by have := first_four _ _ _ _ b cap V h0 h1 h2 h3; rw [← hR] at this; exact this)
  · rw [if_neg ha, if_pos hb] at HWW
    have hww : ¬ walkW r.a r.b = 0 := by rw [HWW]; decide
    have hww2 : (walkW r.a r.b == 0) = false := beq_eq_false_iff_ne.2 hww
    have hq : (r.a.toList == r.b.toList) = false := by rw [hb]; exact beq_eq_false_iff_ne.2 ha
    cases hp1 : decide (Nm r.a)
    · simp only [ha2, hb2, hww2, Bool.not_true, Bool.not_false, Bool.false_and, Bool.true_and, Bool.false_or, Bool.true_or, Bool.or_false, hp1, hq] at hR
      simp only [ha2, hb2, hww2, Bool.not_true, Bool.not_false, Bool.false_and, Bool.true_and, Bool.false_or, Bool.true_or, Bool.or_false, hp1, hq] at H1
      simp only [ha2, hb2, hww2, Bool.not_true, Bool.not_false, Bool.false_and, Bool.true_and, Bool.false_or, Bool.true_or, Bool.or_false, hp1, hq] at H2
      simp only [ha2, hb2, hww2, Bool.not_true, Bool.not_false, Bool.false_and, Bool.true_and, Bool.false_or, Bool.true_or, Bool.or_false, hp1, hq] at H4
      exact cb_tfff r.a r.b r.w (walkW r.a r.b) _ _ _ _ _ p n c w hww ha ha2 hb hb2 (Lib.hid fun V => by have := isName_c r.a V; rw [hp1] at this; exact this) hq (sharesB r.a r.b l) (Lib.hid fun V g => shares_c r.a r.b r.w (h.gr g) hl hn hc) (Lib.hid H1) (Lib.hid H2) (Lib.hid H3) (Lib.hid H4) (Lib.hid fun V => by have := raceOf_c r.a r.b V; unfold raV raB at this;  exact this) (Lib.hid fun b cap V h0 h1 h2 h3 => by have := first_four _ _ _ _ b cap V h0 h1 h2 h3; rw [← hR] at this; exact this)
    · simp only [ha2, hb2, hww2, Bool.not_true, Bool.not_false, Bool.false_and, Bool.true_and, Bool.false_or, Bool.true_or, Bool.or_false, hp1, hq] at hR
      simp only [ha2, hb2, hww2, Bool.not_true, Bool.not_false, Bool.false_and, Bool.true_and, Bool.false_or, Bool.true_or, Bool.or_false, hp1, hq] at H1
      simp only [ha2, hb2, hww2, Bool.not_true, Bool.not_false, Bool.false_and, Bool.true_and, Bool.false_or, Bool.true_or, Bool.or_false, hp1, hq] at H2
      simp only [ha2, hb2, hww2, Bool.not_true, Bool.not_false, Bool.false_and, Bool.true_and, Bool.false_or, Bool.true_or, Bool.or_false, hp1, hq] at H4
      exact cb_tftf r.a r.b r.w (walkW r.a r.b) _ _ _ _ _ p n c w hww ha ha2 hb hb2 (Lib.hid fun V => by have := isName_c r.a V; rw [hp1] at this; exact this) hq (sharesB r.a r.b l) (Lib.hid fun V g => shares_c r.a r.b r.w (h.gr g) hl hn hc) (Lib.hid H1) (Lib.hid H2) (Lib.hid H3) (Lib.hid H4) (Lib.hid fun V => by have := raceOf_c r.a r.b V; unfold raV raB at this;  exact this) (Lib.hid fun b cap V h0 h1 h2 h3 => by have := first_four _ _ _ _ b cap V h0 h1 h2 h3; rw [← hR] at this; exact this)
  · rw [if_neg ha, if_neg hb] at HWW
    have hww : walkW r.a r.b = 0 := HWW
    have hww2 : (walkW r.a r.b == 0) = true := by rw [hww]; rfl
    cases hp1 : decide (Nm r.a) <;> cases hq : (r.a.toList == r.b.toList)
    · simp only [ha2, hb2, hww2, Bool.not_true, Bool.not_false, Bool.false_and, Bool.true_and, Bool.false_or, Bool.true_or, Bool.or_false, hp1, hq] at hR
      simp only [ha2, hb2, hww2, Bool.not_true, Bool.not_false, Bool.false_and, Bool.true_and, Bool.false_or, Bool.true_or, Bool.or_false, hp1, hq] at H1
      simp only [ha2, hb2, hww2, Bool.not_true, Bool.not_false, Bool.false_and, Bool.true_and, Bool.false_or, Bool.true_or, Bool.or_false, hp1, hq] at H2
      simp only [ha2, hb2, hww2, Bool.not_true, Bool.not_false, Bool.false_and, Bool.true_and, Bool.false_or, Bool.true_or, Bool.or_false, hp1, hq] at H4
      exact cb_ttff r.a r.b r.w _ _ _ _ _ p n c w ha ha2 hb hb2 (Lib.hid fun V => by have := isName_c r.a V; rw [hp1] at this; exact this) hq (sharesB r.a r.b l) (Lib.hid fun V g => shares_c r.a r.b r.w (h.gr g) hl hn hc) (Lib.hid H1) (Lib.hid H2) (Lib.hid H3) (Lib.hid H4) (Lib.hid fun V => by have := raceOf_c r.a r.b V; unfold raV raB at this; rw [hww] at this; exact this) (Lib.hid fun b cap V h0 h1 h2 h3 => by have := first_four _ _ _ _ b cap V h0 h1 h2 h3; rw [← hR] at this; exact this)
    · simp only [ha2, hb2, hww2, Bool.not_true, Bool.not_false, Bool.false_and, Bool.true_and, Bool.false_or, Bool.true_or, Bool.or_false, hp1, hq] at hR
      simp only [ha2, hb2, hww2, Bool.not_true, Bool.not_false, Bool.false_and, Bool.true_and, Bool.false_or, Bool.true_or, Bool.or_false, hp1, hq] at H1
      simp only [ha2, hb2, hww2, Bool.not_true, Bool.not_false, Bool.false_and, Bool.true_and, Bool.false_or, Bool.true_or, Bool.or_false, hp1, hq] at H2
      simp only [ha2, hb2, hww2, Bool.not_true, Bool.not_false, Bool.false_and, Bool.true_and, Bool.false_or, Bool.true_or, Bool.or_false, hp1, hq] at H4
      exact cb_ttft r.a r.b r.w _ _ _ _ _ p n c w ha ha2 hb hb2 (Lib.hid fun V => by have := isName_c r.a V; rw [hp1] at this; exact this) hq (Lib.hid H1) (Lib.hid H2) (Lib.hid H3) (Lib.hid H4) (Lib.hid fun V => by have := raceOf_c r.a r.b V; unfold raV raB at this; rw [hww] at this; exact this) (Lib.hid fun b cap V h0 h1 h2 h3 => by have := first_four _ _ _ _ b cap V h0 h1 h2 h3; rw [← hR] at this; exact this)
    · simp only [ha2, hb2, hww2, Bool.not_true, Bool.not_false, Bool.false_and, Bool.true_and, Bool.false_or, Bool.true_or, Bool.or_false, hp1, hq] at hR
      simp only [ha2, hb2, hww2, Bool.not_true, Bool.not_false, Bool.false_and, Bool.true_and, Bool.false_or, Bool.true_or, Bool.or_false, hp1, hq] at H1
      simp only [ha2, hb2, hww2, Bool.not_true, Bool.not_false, Bool.false_and, Bool.true_and, Bool.false_or, Bool.true_or, Bool.or_false, hp1, hq] at H2
      simp only [ha2, hb2, hww2, Bool.not_true, Bool.not_false, Bool.false_and, Bool.true_and, Bool.false_or, Bool.true_or, Bool.or_false, hp1, hq] at H4
      exact cb_tttf r.a r.b r.w _ _ _ _ _ p n c w ha ha2 hb hb2 (Lib.hid fun V => by have := isName_c r.a V; rw [hp1] at this; exact this) (decide (Nm r.b)) (Lib.hid fun V => isName_c r.b V) hq (sharesB r.a r.b l) (Lib.hid fun V g => shares_c r.a r.b r.w (h.gr g) hl hn hc) (Lib.hid H1) (Lib.hid H2) (Lib.hid H3) (Lib.hid H4) (Lib.hid fun V => by have := raceOf_c r.a r.b V; unfold raV raB at this; rw [hww] at this; exact this) (Lib.hid fun b cap V h0 h1 h2 h3 => by have := first_four _ _ _ _ b cap V h0 h1 h2 h3; rw [← hR] at this; exact this)
    · simp only [ha2, hb2, hww2, Bool.not_true, Bool.not_false, Bool.false_and, Bool.true_and, Bool.false_or, Bool.true_or, Bool.or_false, hp1, hq] at hR
      simp only [ha2, hb2, hww2, Bool.not_true, Bool.not_false, Bool.false_and, Bool.true_and, Bool.false_or, Bool.true_or, Bool.or_false, hp1, hq] at H1
      simp only [ha2, hb2, hww2, Bool.not_true, Bool.not_false, Bool.false_and, Bool.true_and, Bool.false_or, Bool.true_or, Bool.or_false, hp1, hq] at H2
      simp only [ha2, hb2, hww2, Bool.not_true, Bool.not_false, Bool.false_and, Bool.true_and, Bool.false_or, Bool.true_or, Bool.or_false, hp1, hq] at H4
      exact cb_tttt r.a r.b r.w _ _ _ _ _ p n c w ha ha2 hb hb2 (Lib.hid fun V => by have := isName_c r.a V; rw [hp1] at this; exact this) (decide (Nm r.b)) (Lib.hid fun V => isName_c r.b V) hq (Lib.hid H1) (Lib.hid H2) (Lib.hid H3) (Lib.hid H4) (Lib.hid fun V => by have := raceOf_c r.a r.b V; unfold raV raB at this; rw [hww] at this; exact this) (Lib.hid fun b cap V h0 h1 h2 h3 => by have := first_four _ _ _ _ b cap V h0 h1 h2 h3; rw [← hR] at this; exact this)
/-- the error of the race at i -/
def raE (l : List RaR) (i : Nat) (r : RaR) : Int := raE0 (l.take i) r
/-- the cells of one at a place -/
structure RaAt (w : World) (b off : Nat) (x : RaR) : Prop where
  fa : w.cell? ⟨b, off, none⟩ = some (.string x.a)
  fb : w.cell? ⟨b, off + 1, none⟩ = some (.string x.b)
  fw : w.cell? ⟨b, off + 2, none⟩ = some (.int .i64 x.w)
theorem RaAt.gr {w w' : World} {b off : Nat} {x : RaR} (h : RaAt w b off x) (k : Gr w w') : RaAt w' b off x := ⟨k.cell h.fa, k.cell h.fb, k.cell h.fw⟩
set_option maxHeartbeats 1000000 in
set_option maxRecDepth 100000 in
theorem oneRa_c (xs : List RaR) (i n b off cap L : Nat) (x : RaR) (w : World) (hn : xs.length = n) (hi : i < n) (h1 : n ≤ 1000) (hcap : n ≤ cap) (hmx : cap ≤ maxLen) (hc : ∀ i x, xs[i]? = some x → RaAt w b (off + i * 3) x) (hL : w.cell? ⟨L, 0, none⟩ = some (.slice (some ⟨b, off, none⟩) n cap)) :
    Calls Tryz.prog 99 #[.int .i64 i, raV x, .pointer (some ⟨L, 0, none⟩)] w fun e w' => e = .returned (.int .i64 (raE xs i x)) ∧ Gr w w' := by
  have HO : Hid (∀ V, Gr w V → Calls Tryz.prog 100 #[raV x, .slice (some ⟨b, off, none⟩) i cap] V fun e w' => e = .returned (.int .i64 (raE xs i x)) ∧ Gr V w') := fun V g =>
    checkBehind_c (l := xs.take i) x ⟨fun _ => ⟨b, off, rfl, fun j r hj => by
      have hj2 : xs[j]? = some r := by
        rw [List.getElem?_take] at hj
        split at hj
        · exact hj
        · cases hj
      have := (hc j r hj2).gr g
      exact ⟨this.fa, this.fb, this.fw⟩⟩⟩ (by rw [List.length_take]; omega) (by omega) (by omega)
  generalize raE xs i x = z at *
  obtain ⟨xa, xb, xw⟩ := x
  unfold raV at HO
  unfold raV
  simp only at HO ⊢
  obtain ⟨W, hW, g, a0, a1, a2⟩ := box3 w (.string xa) (.string xb) (.int .i64 xw) 55
  have l0 := g.cell hL
  have HW := Lib.hid hW
  have hi1 : (i : Int) ≤ cap := by omega
  have hi0 : (0 : Int) ≤ i := by omega
  clear hW hc hL hn
  go_enter Tryz.func99, Tryz.ntmps99
  go_wp2_with fail
  rw [HW.out]
  generalize w.heap.size = Bx at *
  clear HW
  have gd := (Gr.refl W).drew
  replace a0 := gd.cell a0
  replace a1 := gd.cell a1
  replace a2 := gd.cell a2
  replace l0 := gd.cell l0
  replace g := g.trans gd
  clear gd
  refine wp_region_held_drew (S := (fun w' => w'.cell? ⟨Bx, 0, none⟩ = some (.string xa) ∧ w'.cell? ⟨Bx, 1, none⟩ = some (.string xb) ∧ w'.cell? ⟨Bx, 2, none⟩ = some (.int .i64 xw) ∧ w'.cell? ⟨L, 0, none⟩ = some (.slice (some ⟨b, off, none⟩) n cap))) (by kernel_rfl) ⟨a0, a1, a2, l0⟩ (fun hHeld => ?_)
  generalize W.drew = V at *
  refine wpAnyH_take (i := 0) (v := (.agg #[.string xa, .string xb, .int .i64 xw])) (op_at rfl) (by kernel_rfl) (by kernel_rfl) (by kernel_rfl) (fun _ _ _ h => h) (Or.inl ⟨rfl, fun w hSw => ?_⟩) (by assumption) ?_
  · (try dsimp only at hSw); go_simp; try with_reducible rfl
  (try simp only [Act.put, List.setIfInBounds_toArray, List.set_cons_zero, List.set_cons_succ])
  refine wpAnyH_take (i := 1) (v := (.slice (some ⟨b, off, none⟩) n cap)) (op_at rfl) (by kernel_rfl) (by kernel_rfl) (by kernel_rfl) (fun _ _ _ h => h) (Or.inl ⟨rfl, fun w hSw => ?_⟩) (by assumption) ?_
  · (try dsimp only at hSw); go_simp; try with_reducible rfl
  (try simp only [Act.put, List.setIfInBounds_toArray, List.set_cons_zero, List.set_cons_succ])
  refine wpAnyH_take (i := 2) (v := (.int .i64 i)) (op_at rfl) (by kernel_rfl) (by kernel_rfl) (by kernel_rfl) (fun _ _ _ h => h) (Or.inl ⟨rfl, fun w hSw => ?_⟩) (by assumption) ?_
  · (try dsimp only at hSw); go_simp; try with_reducible rfl
  (try simp only [Act.put, List.setIfInBounds_toArray, List.set_cons_zero, List.set_cons_succ])
  refine wpAnyH_take (i := 3) (v := (.slice (some ⟨b, off, none⟩) i cap)) (op_at rfl) (by kernel_rfl) (by kernel_rfl) (by kernel_rfl) (fun _ _ _ h => h) (Or.inl ⟨rfl, fun w hSw => ?_⟩) (by assumption) ?_
  · (try dsimp only at hSw); go_simp; try with_reducible rfl
  (try simp only [Act.put, List.setIfInBounds_toArray, List.set_cons_zero, List.set_cons_succ])
  refine wpAnyH_ready (rs := [4]) (by kernel_rfl) (by simp) (AllReadyH.cons (op_at rfl) (fun K hK => ?_) AllReadyH.nil)
  go_simp
  (refine (HO.out _ g).mono ?_; rintro e W1 ⟨rfl, hg⟩; replace a0 := hg.cell a0; replace a1 := hg.cell a1; replace a2 := hg.cell a2; replace l0 := hg.cell l0; replace g := g.trans hg; clear hg)
  go_wp2_with fail
  refine hK.out _ _ ⟨a0, a1, a2, l0⟩ (fun hHeld => ?_)
  clear hK K
  (try simp only [Act.put, List.setIfInBounds_toArray, List.set_cons_zero, List.set_cons_succ])
  refine wpAnyH_take (i := 5) (v := (.int .i64 z)) (op_at rfl) (by kernel_rfl) (by kernel_rfl) (by kernel_rfl) (fun _ _ _ h => h) (Or.inl ⟨rfl, fun w hSw => ?_⟩) (by assumption) ?_
  · (try dsimp only at hSw); go_simp; try with_reducible rfl
  (try simp only [Act.put, List.setIfInBounds_toArray, List.set_cons_zero, List.set_cons_succ])
  refine wpAnyH_done (by kernel_rfl) ?_ _
  go_wp2_with fail
  go_ret
  exact ⟨rfl, g⟩
set_option maxHeartbeats 1000000 in
set_option maxRecDepth 100000 in
theorem findRaQ_pos (E : Nat → RaR → Int) (xs : List RaR) (n b off cap L : Nat) (w : World) (hn : xs.length = n) (h1 : n ≤ 1000) (hcap : n ≤ cap) (hmx : cap ≤ maxLen)
    (hc : ∀ i x, xs[i]? = some x → RaAt w b (off + i * 3) x) (ho : ∀ (i : Nat) (x : RaR) (W : World), i < n → xs[i]? = some x → Gr w W → Calls Tryz.prog 99 #[.int .i64 i, raV x, .pointer (some ⟨L, 0, none⟩)] W fun e w' => e = .returned (.int .i64 (E i x)) ∧ Gr W w') (hL : w.cell? ⟨L, 0, none⟩ = some (.slice (some ⟨b, off, none⟩) n cap)) :
    Calls Tryz.prog 134 #[.slice (some ⟨b, off, none⟩) n cap, .func (.func 99) #[] #[.pointer (some ⟨L, 0, none⟩)]] w fun e w' => (∃ i : Int, e = .returned (.tuple #[.int .i64 i, .int .i64 (errG E xs n 0)])) ∧ Gr w w' := by
  have HC := Lib.hid hc
  have HN := Lib.hid hn
  have HO := Lib.hid ho
  clear hc hL hn ho
  go_enter Tryz.func134, Tryz.ntmps134
  go_wp2_with fail
  go_loopg [11] n (fun gk s11 wr => ∃ i : Nat, s11 = .int .i64 i ∧ gk + i = n ∧ Gr w wr ∧ Hid (errG E xs (n - i) i = errG E xs n 0))
  case atStart => exact ⟨0, rfl, by omega, Gr.refl _, rfl⟩
  case round =>
    obtain ⟨i, rfl, hi, hg, HF⟩ := hrel
    by_cases hlt : i < n
    · obtain ⟨x, hx⟩ : ∃ x, xs[i]? = some x := ⟨xs[i]'(by have := HN.out; omega), List.getElem?_eq_getElem _⟩
      obtain ⟨c0, c1, c2⟩ := (HC.out i x hx).gr hg
      have hf := errG_step (E := E) hlt hx
      have hi2 : (i : Int) < n := by omega
      have hT := fun W hg2 => HO.out i x W hlt hx hg2
      unfold raV at hT
      clear hx
      obtain ⟨W, hW, g, a0, a1, a2⟩ := box3 wr (.string x.a) (.string x.b) (.int .i64 x.w) 55
      have gW := hg.trans g
      have HW := Lib.hid hW
      by_cases h0 : E i x = 0
      · rw [h0] at hT hf
        rw [if_pos rfl] at hf
        have HT := Lib.hid hT
        have HF2 := Lib.hid hf
        clear hT hf h0 hW
        go_wp2_with fail
        rw [HW.out]
        refine (HT.out _ gW).mono ?_
        rintro e w4 ⟨rfl, hg2⟩
        go_wp2_with fail
        go_roundg (gk - 1)
        case measure => omega
        case rel => exact ⟨i + 1, by go_num, by omega, gW.trans hg2, by unfold Hid; rw [← HF2.out, HF.out]⟩
      · rw [if_neg h0] at hf
        generalize E i x = z at *
        have q1 : (z == 0) = false := by simpa using h0
        have q2 : (z != 0) = true := by simpa [bne] using q1
        have HT := Lib.hid hT
        have HF2 := Lib.hid hf
        clear hT hf hW
        go_wp2_with fail
        rw [HW.out]
        refine (HT.out _ gW).mono ?_
        rintro e w4 ⟨rfl, hg2⟩
        go_wp2_with fail
        exact bodyPost_ret (v := .tuple #[.int .i64 i, .int .i64 z]) (by simp [results, Tryz.results134, go_sem]) rfl ⟨⟨i, by rw [← HF.out, HF2.out]⟩, gW.trans hg2⟩
    · have hin : i = n := by omega
      have HE2 : Hid (errG E xs (n - i) i = 0) := by unfold Hid; rw [hin, Nat.sub_self]; rfl
      have hi2 : (n : Int) ≤ i := by omega
      clear hin
      go_wp2_with fail
      exact bodyPost_ret (v := .tuple #[.int .i64 0, .int .i64 0]) (by simp [results, Tryz.results134, go_sem]) rfl ⟨⟨0, by rw [← HF.out, HE2.out]⟩, hg⟩
theorem eachRaQ_pos (E : Nat → RaR → Int) (xs : List RaR) (n b off cap L : Nat) (w : World) (hn : xs.length = n) (h1 : n ≤ 1000) (hcap : n ≤ cap) (hmx : cap ≤ maxLen)
    (hc : ∀ i x, xs[i]? = some x → RaAt w b (off + i * 3) x) (ho : ∀ (i : Nat) (x : RaR) (W : World), i < n → xs[i]? = some x → Gr w W → Calls Tryz.prog 99 #[.int .i64 i, raV x, .pointer (some ⟨L, 0, none⟩)] W fun e w' => e = .returned (.int .i64 (E i x)) ∧ Gr W w') (hL : w.cell? ⟨L, 0, none⟩ = some (.slice (some ⟨b, off, none⟩) n cap)) :
    Calls Tryz.prog 98 #[.slice (some ⟨b, off, none⟩) n cap, .func (.func 99) #[] #[.pointer (some ⟨L, 0, none⟩)]] w fun e w' => e = .returned (.int .i64 (errG E xs n 0)) ∧ Gr w w' := by
  have HF := Lib.hid (findRaQ_pos E xs n b off cap L w hn h1 hcap hmx hc ho hL)
  generalize errG E xs n 0 = z at *
  clear hc hL hn ho
  go_enter Tryz.func98, Tryz.ntmps98
  go_wp2_with fail
  refine HF.out.mono ?_
  rintro e w4 ⟨⟨i, rfl⟩, hg⟩
  go_wp2_with fail
  go_ret
  exact ⟨rfl, hg⟩
theorem pw_bits : ∀ n : Nat, n < 35 → (if n ∈ [1, 2, 4, 8, 16, 32] then (bits BinOp.and IntKind.i64 (n : Int) ((n : Int) - 1) == 0) = true else n < 1 ∨ 32 < n ∨ (bits BinOp.and IntKind.i64 (n : Int) ((n : Int) - 1) == 0) = false) := by decide
/-- the error of races -/
def racesE (xs : List RaR) : Int := if xs.length ∈ [1, 2, 4, 8, 16, 32] then errG (raE xs) xs xs.length 0 else 2
set_option maxHeartbeats 1000000 in
set_option maxRecDepth 100000 in
theorem checkRaces_c (xs : List RaR) (v : Value) (w : World) (hv : RaV w v xs) (hs : xs.length ≤ 34) :
    Calls Tryz.prog 60 #[v] w fun e w' => e = .returned (.int .i64 (racesE xs)) ∧ Gr w w' := by
  obtain ⟨⟨p, cap, rfl, ⟨hcap, hmx⟩, hh⟩⟩ := hv
  obtain ⟨W, hW, g, l0⟩ := box1 w (.slice p xs.length cap) 30
  have HW := Lib.hid hW
  have hb := pw_bits xs.length (by omega)
  by_cases hm : xs.length ∈ [1, 2, 4, 8, 16, 32]
  · rw [if_pos hm] at hb
    have h1 : (1 : Int) ≤ (xs.length : Int) ∧ (xs.length : Int) ≤ 32 := by simp only [List.mem_cons, List.not_mem_nil, or_false] at hm; omega
    obtain ⟨d1, d2⟩ := h1
    have d3 : decide ((xs.length : Int) < 1) = false := decide_eq_false (by omega)
    have d4 : decide ((32 : Int) < (xs.length : Int)) = false := decide_eq_false (by omega)
    have HE : Hid (racesE xs = errG (raE xs) xs xs.length 0) := by unfold Hid racesE; rw [if_pos hm]
    have HK : Hid (∀ W2, Gr W W2 → Calls Tryz.prog 98 #[.slice p xs.length cap, .func (.func 99) #[] #[.pointer (some ⟨w.heap.size, 0, none⟩)]] W2 fun e w' => e = .returned (.int .i64 (racesE xs)) ∧ Gr W2 w') := by
      intro W2 g2
      rw [HE.out]
      obtain ⟨b, off, rfl, hc⟩ := hh.out (by omega)
      have hca : ∀ V, Gr w V → ∀ (i : Nat) (x : RaR), xs[i]? = some x → RaAt V b (off + i * 3) x := fun V gv i x hx => ⟨gv.cell (hc i x hx).1, gv.cell (hc i x hx).2.1, gv.cell (hc i x hx).2.2⟩
      exact eachRaQ_pos (raE xs) xs xs.length b off cap w.heap.size W2 rfl (by omega) hcap hmx (hca W2 (g.trans g2)) (fun i x W3 hi hx hg => oneRa_c xs i xs.length b off cap w.heap.size x W3 rfl hi (by omega) hcap hmx (hca W3 ((g.trans g2).trans hg)) ((g2.trans hg).cell l0)) (g2.cell l0)
    generalize racesE xs = z at *
    clear hW hh HE hm hs
    generalize xs.length = n at *
    go_enter Tryz.func60, Tryz.ntmps60
    go_wp2_with fail
    rw [HW.out]
    refine (HK.out _ (Gr.refl _)).mono ?_
    rintro e w4 ⟨rfl, hg⟩
    go_wp2_with fail
    go_ret
    exact ⟨rfl, g.trans hg⟩
  · rw [if_neg hm] at hb
    have HE : Hid (racesE xs = 2) := by unfold Hid racesE; rw [if_neg hm]
    have hb3 : decide ((xs.length : Int) < 1) = true ∨ (decide ((xs.length : Int) < 1) = false ∧ decide ((32 : Int) < (xs.length : Int)) = true) ∨ (decide ((xs.length : Int) < 1) = false ∧ decide ((32 : Int) < (xs.length : Int)) = false ∧ (bits BinOp.and IntKind.i64 (xs.length : Int) ((xs.length : Int) - 1) == 0) = false) := by
      by_cases q1 : (xs.length : Int) < 1
      · exact .inl (decide_eq_true q1)
      · by_cases q2 : (32 : Int) < (xs.length : Int)
        · exact .inr (.inl ⟨decide_eq_false q1, decide_eq_true q2⟩)
        · refine .inr (.inr ⟨decide_eq_false q1, decide_eq_false q2, ?_⟩)
          rcases hb with h | h | h
          · omega
          · omega
          · exact h
    rw [HE.out]
    clear hW hh hm hb HE
    generalize xs.length = n at *
    rcases hb3 with d1 | ⟨d1, d2⟩ | ⟨d1, d2, d3⟩
    rotate_left 2
    have d4 : ¬ (bits BinOp.and IntKind.i64 (n : Int) ((n : Int) - 1) = 0) := beq_eq_false_iff_ne.1 d3
    all_goals
      go_enter Tryz.func60, Tryz.ntmps60
      go_wp2_with fail
      all_goals
        go_ret
        exact ⟨rfl, by rw [HW.out]; exact g⟩
end Go.Proofs.YthfmgficbnmmnaaGreatDoor
