/- Places: duels. -/
import Derived.Test.YthfmgficbnmmnaaGreatDoorRdM
import Derived.Laws.RangeAny
import Derived.Deep.LoopGhost
import Derived.Deep.DrawnRows
import Derived.Deep.RegionHeld3
import Derived.BigRegion
import Derived.BigQuiet
namespace Go.Proofs.YthfmgficbnmmnaaGreatDoor
open Go.RowKit Go.Lib
set_option linter.unusedSimpArgs false
set_option linter.unusedVariables false
theorem first_two (x y : Int) (b cap : Nat) (w : World) (hx : w.cell? ⟨b, 0, none⟩ = some (.int .i64 x)) (hy : w.cell? ⟨b, 1, none⟩ = some (.int .i64 y)) :
    Calls Tryz.prog 41 #[.slice (some ⟨b, 0, none⟩) 2 cap] w fun e w' => e = .returned (.int .i64 (if x = 0 then y else x)) ∧ w = w' := by
  have := first_c0 b 2 cap [x, y] w rfl (fun i v h => by
    rcases i with _ | _ | i <;> simp at h <;> subst h <;> assumption) (by omega)
  simp only [firstE] at this
  have e : (if y = 0 then (0 : Int) else y) = y := by split <;> simp_all
  rw [e] at this
  exact this
/-! ### what the law says of the winner -/
end Go.Proofs.YthfmgficbnmmnaaGreatDoor
namespace Go.Proofs.YthfmgficbnmmnaaGreatDoor
open Go.RowKit Go.Lib
set_option linter.unusedSimpArgs false
set_option linter.unusedVariables false
end Go.Proofs.YthfmgficbnmmnaaGreatDoor
namespace Go.Proofs.YthfmgficbnmmnaaGreatDoor
open Go.RowKit Go.Lib
set_option linter.unusedSimpArgs false
set_option linter.unusedVariables false
/-- the first races are alike, but for the winners -/
def allR (l m : List RaR) : Nat → Bool
  | 0 => true
  | k + 1 => allR l m k && (match l[k]?, m[k]? with
    | some x, some y => x.a.toList == y.a.toList && x.b.toList == y.b.toList
    | _, _ => true)
theorem allR_step {l m : List RaR} {k : Nat} {x y : RaR} (hx : l[k]? = some x) (hy : m[k]? = some y) : allR l m (k + 1) = (allR l m k && (x.a.toList == y.a.toList && x.b.toList == y.b.toList)) := by
  rw [allR, hx, hy]
theorem allR_false {l m : List RaR} {i n : Nat} (hi : i < n) (h : allR l m (i + 1) = false) : allR l m n = false := by
  induction n with
  | zero => omega
  | succ n ih =>
    by_cases e : i = n
    · subst e; exact h
    · rw [allR, ih (by omega), Bool.false_and]
/-- races are alike, but for the winners -/
def sameR (l m : List RaR) : Bool := (l.length == m.length) && allR l m l.length
theorem struct_same (xa xb ya yb : ByteArray) : (xa.toList == ya.toList && xb.toList == yb.toList) = true → xa.toList = ya.toList ∧ xb.toList = yb.toList := by
  intro h
  rw [Bool.and_eq_true, beq_iff_eq, beq_iff_eq] at h
  exact h
theorem walk_same {xa xb ya yb : ByteArray} (h1 : xa.toList = ya.toList) (h2 : xb.toList = yb.toList) : walkW xa xb = walkW ya yb := by
  unfold walkW; rw [h1, h2]
set_option maxHeartbeats 4000000 in
set_option maxRecDepth 100000 in
theorem isBegun_c (xa xb ya yb : ByteArray) (xw : Int) (w : World) :
    Calls Tryz.prog 129 #[.agg #[.string xa, .string xb, .int .i64 xw], .agg #[.string ya, .string yb, .int .i64 (walkW ya yb)]] w fun e w' => e = .returned (.bool (xa.toList == ya.toList && xb.toList == yb.toList)) ∧ Gr w w' := by
  obtain ⟨W1, hW1, g, a0, a1, a2⟩ := box3 w (.string xa) (.string xb) (.int .i64 xw) 55
  obtain ⟨W2, hW2, g2, d0, d1, d2⟩ := box3 W1 (.string ya) (.string yb) (.int .i64 (walkW ya yb)) 55
  have hs1 : W1.heap.size = w.heap.size + 1 := by rw [← hW1]; simp
  have HRO : Hid (∀ V, Calls Tryz.prog 55 #[.string xa, .string xb] V fun e w' => e = .returned (.agg #[.string xa, .string xb, .int .i64 (walkW xa xb)]) ∧ Gr V w') := fun V => by have := raceOf_c xa xb V; unfold raV raB at this; exact this
  have hd : (xa.toList == ya.toList && xb.toList == yb.toList) = ((xa.toList == ya.toList) && ((xb.toList == yb.toList) && (walkW xa xb == walkW ya yb))) := by
    cases h : (xa.toList == ya.toList && xb.toList == yb.toList)
    · cases h1 : (xa.toList == ya.toList)
      · rfl
      · cases h2 : (xb.toList == yb.toList)
        · rfl
        · rw [h1, h2] at h; cases h
    · obtain ⟨h1, h2⟩ := struct_same _ _ _ _ h
      rw [walk_same h1 h2, h1, h2]; simp
  generalize walkW xa xb = ww at *
  generalize walkW ya yb = yw at *
  generalize (xa.toList == ya.toList && xb.toList == yb.toList) = d at *
  replace a0 := g2.cell a0
  replace a1 := g2.cell a1
  replace a2 := g2.cell a2
  replace g := g.trans g2
  rw [hs1] at d0 d1 d2
  have HW1 := Lib.hid hW1
  have HW2 := Lib.hid hW2
  have HS1 := Lib.hid hs1
  clear hW1 hW2 g2 hs1
  go_enter Tryz.func129, Tryz.ntmps129
  go_wp2_with fail
  rw [HW1.out, HW2.out]
  obtain ⟨Ba, hBa⟩ : ∃ x, x = w.heap.size := ⟨_, rfl⟩
  obtain ⟨Bb, hBb⟩ : ∃ x, x = w.heap.size + 1 := ⟨_, rfl⟩
  rw [← hBa] at a0 a1 a2
  rw [← hBb] at d0 d1 d2
  rw [← hBb, ← hBa]
  clear hBa hBb
  have gd := (Gr.refl W2).drew
  replace a0 := gd.cell a0
  replace a1 := gd.cell a1
  replace a2 := gd.cell a2
  replace d0 := gd.cell d0
  replace d1 := gd.cell d1
  replace d2 := gd.cell d2
  replace g := g.trans gd
  clear gd
  refine wp_region_held_drew (S := (fun w' => w'.cell? ⟨Ba, 0, none⟩ = some (.string xa) ∧ w'.cell? ⟨Ba, 1, none⟩ = some (.string xb) ∧ w'.cell? ⟨Ba, 2, none⟩ = some (.int .i64 xw) ∧ w'.cell? ⟨Bb, 0, none⟩ = some (.string ya) ∧ w'.cell? ⟨Bb, 1, none⟩ = some (.string yb) ∧ w'.cell? ⟨Bb, 2, none⟩ = some (.int .i64 yw))) (by kernel_rfl) ⟨a0, a1, a2, d0, d1, d2⟩ (fun hHeld => ?_)
  generalize W2.drew = V at *
  refine wpAnyH_take (i := 0) (v := (.pointer (some ⟨Ba, 0, none⟩))) (op_at rfl) (by kernel_rfl) (by kernel_rfl) (by kernel_rfl) (fun _ _ _ h => h) (Or.inl ⟨rfl, fun w hSw => ?_⟩) (by assumption) ?_
  · (try dsimp only at hSw); go_simp; try with_reducible rfl
  (try simp only [Act.put, List.setIfInBounds_toArray, List.set_cons_zero, List.set_cons_succ])
  refine wpAnyH_take (i := 1) (v := (.string xa)) (op_at rfl) (by kernel_rfl) (by kernel_rfl) (by kernel_rfl) (fun _ _ _ h => h) (Or.inl ⟨rfl, fun w hSw => ?_⟩) (by assumption) ?_
  · (try dsimp only at hSw); go_simp; try with_reducible rfl
  (try simp only [Act.put, List.setIfInBounds_toArray, List.set_cons_zero, List.set_cons_succ])
  refine wpAnyH_take (i := 2) (v := (.pointer (some ⟨Ba, 1, none⟩))) (op_at rfl) (by kernel_rfl) (by kernel_rfl) (by kernel_rfl) (fun _ _ _ h => h) (Or.inl ⟨rfl, fun w hSw => ?_⟩) (by assumption) ?_
  · (try dsimp only at hSw); go_simp; try with_reducible rfl
  (try simp only [Act.put, List.setIfInBounds_toArray, List.set_cons_zero, List.set_cons_succ])
  refine wpAnyH_take (i := 3) (v := (.string xb)) (op_at rfl) (by kernel_rfl) (by kernel_rfl) (by kernel_rfl) (fun _ _ _ h => h) (Or.inl ⟨rfl, fun w hSw => ?_⟩) (by assumption) ?_
  · (try dsimp only at hSw); go_simp; try with_reducible rfl
  (try simp only [Act.put, List.setIfInBounds_toArray, List.set_cons_zero, List.set_cons_succ])
  refine wpAnyH_take (i := 5) (v := (.agg #[.string ya, .string yb, .int .i64 yw])) (op_at rfl) (by kernel_rfl) (by kernel_rfl) (by kernel_rfl) (fun _ _ _ h => h) (Or.inl ⟨rfl, fun w hSw => ?_⟩) (by assumption) ?_
  · (try dsimp only at hSw); go_simp; try with_reducible rfl
  (try simp only [Act.put, List.setIfInBounds_toArray, List.set_cons_zero, List.set_cons_succ])
  refine wpAnyH_ready (rs := [4]) (by kernel_rfl) (by simp) (AllReadyH.cons (op_at rfl) (fun K hK => ?_) AllReadyH.nil)
  go_simp
  (refine (HRO.out _).mono ?_; rintro e V1 ⟨rfl, hg⟩; replace a0 := hg.cell a0; replace a1 := hg.cell a1; replace a2 := hg.cell a2; replace d0 := hg.cell d0; replace d1 := hg.cell d1; replace d2 := hg.cell d2; replace g := g.trans hg; clear hg)
  go_wp2_with fail
  refine hK.out _ _ ⟨a0, a1, a2, d0, d1, d2⟩ (fun hHeld => ?_)
  clear hK K
  (try simp only [Act.put, List.setIfInBounds_toArray, List.set_cons_zero, List.set_cons_succ])
  refine wpAnyH_take (i := 6) (v := (.bool d)) (op_at rfl) (by kernel_rfl) (by kernel_rfl) (by kernel_rfl) (fun _ _ _ h => h) (Or.inl ⟨rfl, fun w hSw => ?_⟩) (by assumption) ?_
  · (try dsimp only at hSw); go_simp; by_cases q1 : xa.toList = ya.toList <;> by_cases q2 : xb.toList = yb.toList <;> by_cases q3 : ww = yw <;> simp [q1, q2, q3]
  (try simp only [Act.put, List.setIfInBounds_toArray, List.set_cons_zero, List.set_cons_succ])
  refine wpAnyH_take (i := 7) (v := (.bool d)) (op_at rfl) (by kernel_rfl) (by kernel_rfl) (by kernel_rfl) (fun _ _ _ h => h) (Or.inl ⟨rfl, fun w hSw => ?_⟩) (by assumption) ?_
  · (try dsimp only at hSw); go_simp; try with_reducible rfl
  (try simp only [Act.put, List.setIfInBounds_toArray, List.set_cons_zero, List.set_cons_succ])
  refine wpAnyH_done (by kernel_rfl) ?_ _
  go_wp2_with fail
  go_ret
  exact ⟨rfl, g⟩
theorem boxes_race2 (w : World) (xa xb ya yb : ByteArray) (xw yw : Int) : ∃ W, (w.alloc (.cells #[.string xa, .string xb, .int .i64 xw] 55)).alloc (.cells #[.string ya, .string yb, .int .i64 yw] 55) = W ∧ Gr w W ∧ W.cell? ⟨w.heap.size, 0, none⟩ = some (.string xa) ∧ W.cell? ⟨w.heap.size, 1, none⟩ = some (.string xb) ∧ W.cell? ⟨w.heap.size, 2, none⟩ = some (.int .i64 xw) ∧ W.cell? ⟨w.heap.size + 1, 0, none⟩ = some (.string ya) ∧ W.cell? ⟨w.heap.size + 1, 1, none⟩ = some (.string yb) ∧ W.cell? ⟨w.heap.size + 1, 2, none⟩ = some (.int .i64 yw) := by
  obtain ⟨W1, hW1, g, a0, a1, a2⟩ := box3 w (.string xa) (.string xb) (.int .i64 xw) 55
  obtain ⟨W2, hW2, g2, d0, d1, d2⟩ := box3 W1 (.string ya) (.string yb) (.int .i64 yw) 55
  have hs1 : W1.heap.size = w.heap.size + 1 := by rw [← hW1]; simp
  rw [hs1] at d0 d1 d2
  exact ⟨W2, by rw [hW1]; exact hW2, g.trans g2, g2.cell a0, g2.cell a1, g2.cell a2, d0, d1, d2⟩
set_option maxHeartbeats 4000000 in
set_option maxRecDepth 100000 in
theorem equalRa_c (l m : List RaR) (p q : Option Addr) (n k c c2 : Nat) (w : World) (hl : RaS w p l) (hm : RaS w q m) (hln : l.length = n) (hmk : m.length = k) (hn : n ≤ 1000) (hw : ∀ r ∈ m, r.w = walkW r.a r.b) :
    Calls Tryz.prog 130 #[.slice p n c, .slice q k c2, .func (.func 129) #[] #[]] w fun e w' => e = .returned (.bool (sameR l m)) ∧ Gr w w' := by
  have HL := Lib.hid hl.out
  have HM := Lib.hid hm.out
  have HB := Lib.hid isBegun_c
  have HWM := Lib.hid hw
  have HLN := Lib.hid hln
  have HMK := Lib.hid hmk
  clear hl hm hw hln hmk
  by_cases hnk : n = k
  · subst hnk
    have HS : Hid (sameR l m = allR l m n) := by rw [Hid, sameR, HLN.out, HMK.out, beq_self_eq_true, Bool.true_and]
    have t0 : ((n : Int) != (n : Int)) = false := bne_self_eq_false _
    go_enter Tryz.func130, Tryz.ntmps130
    go_wp2_with fail
    go_loopg [17] n (fun gk s17 wr => ∃ i : Nat, s17 = .int .i64 (i : Int) ∧ gk + i = n ∧ Hid (Gr w wr) ∧ Hid (allR l m i = true))
    case atStart => exact ⟨0, rfl, by omega, Gr.refl _, rfl⟩
    case round =>
      obtain ⟨i, rfl, hgk, HG, HA⟩ := hrel
      by_cases hlt : i < n
      · obtain ⟨x, hx⟩ : ∃ x, l[i]? = some x := ⟨l[i]'(by have := HLN.out; omega), List.getElem?_eq_getElem _⟩
        obtain ⟨y, hy⟩ : ∃ y, m[i]? = some y := ⟨m[i]'(by have := HMK.out; omega), List.getElem?_eq_getElem _⟩
        obtain ⟨b, off, rfl, hc⟩ := HL.out (by have := HLN.out; omega)
        obtain ⟨b2, off2, rfl, hc2⟩ := HM.out (by have := HMK.out; omega)
        obtain ⟨a0, a1, a2⟩ := hc i x hx
        obtain ⟨d0, d1, d2⟩ := hc2 i y hy
        replace a0 := Gr.cell HG.out a0
        replace a1 := Gr.cell HG.out a1
        replace a2 := Gr.cell HG.out a2
        replace d0 := Gr.cell HG.out d0
        replace d1 := Gr.cell HG.out d1
        replace d2 := Gr.cell HG.out d2
        have hlt2 : (i : Int) < (n : Int) := by omega
        have hyw := HWM.out y (List.mem_of_getElem? hy)
        have HST := Lib.hid (allR_step hx hy)
        have HAL := Lib.hid (fun h => allR_false (n := n) (i := i) (l := l) (m := m) hlt h)
        obtain ⟨xa, xb, xw⟩ := x
        obtain ⟨ya, yb, yw⟩ := y
        have HBX := Lib.hid (fun V => HB.out xa xb ya yb xw V)
        simp only at a0 a1 a2 d0 d1 d2 hyw
        subst hyw
        generalize walkW ya yb = yw at *
        have e0 : ∀ o, (wr.alloc o).cell? _ = _ := fun o => Gr.cell ((Gr.refl wr).alloc o) d0
        have e1 : ∀ o, (wr.alloc o).cell? _ = _ := fun o => Gr.cell ((Gr.refl wr).alloc o) d1
        have e2 : ∀ o, (wr.alloc o).cell? _ = _ := fun o => Gr.cell ((Gr.refl wr).alloc o) d2
        clear hx hy hc hc2
        cases hq : (xa.toList == ya.toList && xb.toList == yb.toList)
        · rw [hq] at HST
          have HF : Hid (allR l m n = false) := HAL.out (by rw [HST.out, Bool.and_false])
          have HBQ : Hid (∀ V, Calls Tryz.prog 129 #[.agg #[.string xa, .string xb, .int .i64 xw], .agg #[.string ya, .string yb, .int .i64 yw]] V fun e w' => e = .returned (.bool false) ∧ Gr V w') := fun V => by have := HBX.out V; rw [hq] at this; exact this
          clear hq
          go_wp2_with fail
          obtain ⟨W1, hW1, g1, z0, z1, z2, y0, y1, y2⟩ := boxes_race2 wr xa xb ya yb xw yw
          rw [hW1]
          have gW := HG.out.trans g1
          refine (HBQ.out _).mono ?_
          rintro e w9 ⟨rfl, g9⟩
          go_wp2_with fail
          go_ret
          exact ⟨by rw [HS.out, HF.out]; rfl, gW.trans g9⟩
        · rw [hq] at HST
          have HT : Hid (allR l m (i + 1) = true) := by rw [Hid, HST.out, HA.out]; rfl
          have HBQ : Hid (∀ V, Calls Tryz.prog 129 #[.agg #[.string xa, .string xb, .int .i64 xw], .agg #[.string ya, .string yb, .int .i64 yw]] V fun e w' => e = .returned (.bool true) ∧ Gr V w') := fun V => by have := HBX.out V; rw [hq] at this; exact this
          clear hq
          go_wp2_with fail
          obtain ⟨W1, hW1, g1, z0, z1, z2, y0, y1, y2⟩ := boxes_race2 wr xa xb ya yb xw yw
          rw [hW1]
          have gW := HG.out.trans g1
          refine (HBQ.out _).mono ?_
          rintro e w9 ⟨rfl, g9⟩
          have G9 := Lib.hid (gW.trans g9)
          go_wp2_with fail
          go_roundg (gk - 1)
          case measure => omega
          case rel => exact ⟨i + 1, by go_num, by omega, G9.out, HT⟩
      · obtain rfl : n = i := by omega
        have hlt2 : ¬ (n : Int) < (n : Int) := by omega
        go_wp2_with fail
        go_ret
        exact ⟨by rw [HS.out, HA.out]; rfl, HG.out⟩
  · have HS : Hid (sameR l m = false) := by
      unfold Hid sameR
      rw [show (l.length == m.length) = false from beq_eq_false_iff_ne.2 (by rw [HLN.out, HMK.out]; exact hnk), Bool.false_and]
    have t0 : ((n : Int) != (k : Int)) = true := bne_iff_ne.2 (by omega)
    go_enter Tryz.func130, Tryz.ntmps130
    go_wp2_with fail
    go_ret
    exact ⟨by rw [HS.out]; rfl, Gr.refl _⟩
end Go.Proofs.YthfmgficbnmmnaaGreatDoor
namespace Go.Proofs.YthfmgficbnmmnaaGreatDoor
open Go.RowKit Go.Lib
set_option linter.unusedSimpArgs false
set_option linter.unusedVariables false
/-- a round: a slice of races -/
structure Rd where
  p : Option Addr
  n : Nat
  c : Nat
  l : List RaR
/-- a slice of races in memory -/
structure RdOk (w : World) (x : Rd) : Prop where
  len : x.l.length = x.n
  le : x.n ≤ x.c
  mx : x.c ≤ maxLen
  ra : RaS w x.p x.l
theorem RdOk.gr {w w' : World} {x : Rd} (h : RdOk w x) (k : Gr w w') : RdOk w' x := ⟨h.len, h.le, h.mx, h.ra.gr k⟩
theorem RdOk.rav {w : World} {x : Rd} (h : RdOk w x) : RaV w (.slice x.p x.n x.c) x.l := ⟨x.p, x.c, by rw [h.len], ⟨by rw [h.len]; exact h.le, h.mx⟩, h.ra⟩
structure RdAt (w : World) (b off : Nat) (x : Rd) : Prop where
  nm : w.cell? ⟨b, off, none⟩ = some (.slice x.p x.n x.c)
  ok : RdOk w x
theorem RdAt.gr {w w' : World} {b off : Nat} {x : Rd} (h : RdAt w b off x) (k : Gr w w') : RdAt w' b off x := ⟨k.cell h.nm, h.ok.gr k⟩
/-- the slice v reads as these rounds -/
structure RdAts (w : World) (v : Value) (xs : List Rd) : Prop where
  mk' ::
  out : ∃ p cap, v = .slice p xs.length cap ∧ (xs.length ≤ cap ∧ cap ≤ maxLen) ∧ (0 < xs.length → ∃ b off, p = some ⟨b, off, none⟩ ∧ ∀ i x, xs[i]? = some x → RdAt w b (off + i) x)
theorem RdAts.gr {w w' : World} {v : Value} {xs : List Rd} (h : RdAts w v xs) (k : Gr w w') : RdAts w' v xs := by
  obtain ⟨⟨p, cap, rfl, hcap, hh⟩⟩ := h
  refine ⟨p, cap, rfl, hcap, fun h0 => ?_⟩
  obtain ⟨b, off, h1, h2⟩ := hh h0
  exact ⟨b, off, h1, fun i x hx => (h2 i x hx).gr k⟩
/-- the error of a round behind another one -/
def behE (last l : List RaR) : Int := firstE [if ((2 * (l.length : Int)) != (last.length : Int)) then 2 else 0, if openR last then 24 else 0, if (!sameR l (pairR (last.map winR))) then 29 else 0]
/-- the error of a round -/
def rndE (ls : List (List RaR)) (i : Nat) (l : List RaR) : Int := if racesE l = 0 then (if i = 0 then 0 else behE (ls.getD (i - 1) []) l) else racesE l
theorem firstE_three (x y z : Int) : firstE [x, y, z] = if (if x = 0 then y else x) = 0 then z else (if x = 0 then y else x) := by
  unfold firstE firstE firstE firstE
  by_cases hx : x = 0 <;> by_cases hy : y = 0 <;> by_cases hz : z = 0 <;> simp [hx, hy, hz]
theorem pairR_walk (l : List ByteArray) : ∀ r ∈ pairR l, r.w = walkW r.a r.b := by
  induction l using pairR.induct with
  | case1 a b r ih =>
    intro x hx
    rw [pairR] at hx
    rcases List.mem_cons.1 hx with rfl | h
    · rfl
    · exact ih x h
  | case2 t h =>
    intro x hx
    rw [pairR] at hx
    · cases hx
    · exact h
set_option maxHeartbeats 4000000 in
set_option maxRecDepth 100000 in
theorem behind_c (xs : List Rd) (i n b off cap : Nat) (x : Rd) (w : World) (hx : xs[i]? = some x) (hn : xs.length = n) (h1 : n ≤ 1000) (hcap : n ≤ cap) (hc : ∀ i x, xs[i]? = some x → RdAt w b (off + i) x) (hs : ∀ x ∈ xs, x.l.length ≤ 34) :
    Calls Tryz.prog 89 #[.slice (some ⟨b, off, none⟩) i cap, .slice x.p x.n x.c] w fun e w' => e = .returned (.int .i64 (rndE (xs.map Rd.l) i x.l)) ∧ Gr w w' := by
  have hin : i < n := by have := (List.getElem?_eq_some_iff.1 hx).1; omega
  have hxo := (hc i x hx).ok
  have hx34 := hs x (List.mem_of_getElem? hx)
  have HC := Lib.hid (checkRaces_c x.l _ w hxo.rav hx34)
  have hlen := hxo.len
  by_cases he : racesE x.l = 0
  · rw [he] at HC
    by_cases hi0 : i = 0
    · have HE : Hid (rndE (xs.map Rd.l) i x.l = 0) := by unfold Hid rndE; rw [if_pos he, if_pos hi0]
      rw [HE.out]
      subst hi0
      clear hc hs hx hxo
      go_enter Tryz.func89, Tryz.ntmps89
      go_wp2_with fail
      refine HC.out.mono ?_
      rintro e W1 ⟨rfl, g1⟩
      go_wp2_with fail
      go_ret
      exact ⟨rfl, g1⟩
    · obtain ⟨j, rfl⟩ : ∃ j, i = j + 1 := ⟨i - 1, by omega⟩
      obtain ⟨y, hy⟩ : ∃ y, xs[j]? = some y := ⟨xs[j]'(by omega), List.getElem?_eq_getElem _⟩
      have hya := hc j y hy
      have hyl := hya.ok.len
      have HE : rndE (xs.map Rd.l) (j + 1) x.l = behE y.l x.l := by
        unfold rndE
        rw [if_pos he, if_neg (by omega), Nat.add_sub_cancel, List.getD_eq_getElem?_getD, List.getElem?_map, hy]
        rfl
      have hbe : behE y.l x.l = firstE [if ((2 * (x.l.length : Int)) != (y.l.length : Int)) then 2 else 0, if openR y.l then 24 else 0, if (!sameR x.l (pairR (y.l.map winR))) then 29 else 0] := rfl
      rw [firstE_three] at hbe
      have HI := Lib.hid (fun V => if_c ((2 * (x.l.length : Int)) != (y.l.length : Int)) 2 V)
      have HD := Lib.hid (fun V (g : Gr w V) => checkDecided_c (hya.ok.gr g).rav)
      have hN : 1 ≤ x.l.length := by
        rcases (racesE_zero he).1 with h | ⟨N, h, h2, _⟩ <;> omega
      have HNX := Lib.hid (fun V (g : Gr w V) (h : y.l.length = 2 * x.l.length) => next_c x.l.length (hya.ok.gr g).rav h hN (by omega))
      have HEQ := Lib.hid (fun V (g : Gr w V) (q : Option Addr) (c2 : Nat) (hr : RaS V q (pairR (y.l.map winR))) (hl : (pairR (y.l.map winR)).length = x.l.length) => equalRa_c x.l (pairR (y.l.map winR)) x.p q x.n x.l.length x.c c2 V (hxo.ra.gr g) hr hlen hl (by omega) (pairR_walk _))
      have HI2 := Lib.hid (fun V => if_c (!sameR x.l (pairR (y.l.map winR))) 29 V)
      have cy := hya.nm
      rw [HE, hbe]
      obtain ⟨z1, hz1⟩ : ∃ z, z = (if ((2 * (x.l.length : Int)) != (y.l.length : Int)) then (2 : Int) else 0) := ⟨_, rfl⟩
      obtain ⟨z2, hz2⟩ : ∃ z, z = (if openR y.l then (24 : Int) else 0) := ⟨_, rfl⟩
      obtain ⟨z3, hz3⟩ : ∃ z, z = (if (!sameR x.l (pairR (y.l.map winR))) then (29 : Int) else 0) := ⟨_, rfl⟩
      obtain ⟨z, hz⟩ : ∃ z, z = (if z1 = 0 then z2 else z1) := ⟨_, rfl⟩
      rw [← hz1, ← hz2, ← hz3, ← hz]
      rw [← hz1] at HI
      rw [← hz2] at HD
      rw [← hz3] at HI2
      have HF : Hid (∀ b cap V, V.cell? ⟨b, 0, none⟩ = some (.int .i64 z1) → V.cell? ⟨b, 1, none⟩ = some (.int .i64 z2) → Calls Tryz.prog 41 #[.slice (some ⟨b, 0, none⟩) 2 cap] V fun e w' => e = .returned (.int .i64 z) ∧ V = w') := fun b cap V h0 h1 => by rw [hz]; exact first_two z1 z2 b cap V h0 h1
      have hz0 : z = 0 → y.l.length = 2 * x.l.length := fun h => by
        rw [h] at hz
        by_cases hq : z1 = 0
        · rw [hz1] at hq
          by_cases e : 2 * (x.l.length : Int) = (y.l.length : Int)
          · omega
          · rw [if_pos (bne_iff_ne.2 e)] at hq; cases hq
        · rw [if_neg hq] at hz; exact absurd hz.symm hq
      have HZ0 := Lib.hid hz0
      obtain ⟨zf, hzf⟩ : ∃ zf, zf = (if z = 0 then z3 else z) := ⟨_, rfl⟩
      rw [← hzf]
      have HZF := Lib.hid hzf
      clear hzf
      have hji : ((j + 1 : Nat) : Int) - 1 = (j : Int) := by omega
      have hjl : (j : Int) < ((j + 1 : Nat) : Int) := by omega
      rw [hlen] at HI HNX HEQ hx34
      rw [hyl] at HI
      generalize sameR x.l (pairR (y.l.map winR)) = sm at *
      generalize pairR (y.l.map winR) = res at *
      generalize openR y.l = oy at *
      have hj0 : ((((j + 1 : Nat) : Int)) == 0) = false := beq_eq_false_iff_ne.2 (by omega)
      clear hz1 hz2 hz3 hz hz0 HE hbe hc hs hx hy hya hxo he hi0 hN
      go_enter Tryz.func89, Tryz.ntmps89
      go_wp2_with fail
      refine HC.out.mono ?_
      rintro e W1 ⟨rfl, g1⟩
      have G1 := Lib.hid g1
      replace cy := g1.cell cy
      clear g1
      go_wp2_with fail
      refine (HI.out _).mono ?_
      rintro e W2 ⟨rfl, rfl⟩
      go_wp2_with fail
      refine (HD.out _ G1.out).mono ?_
      rintro e W3 ⟨rfl, g3⟩
      obtain ⟨W4, hW4, g4, s0, s1⟩ := box2 W3 (.int .i64 z1) (.int .i64 z2) 31
      have HF1 := Lib.hid (HF.out _ 2 W4 s0 s1)
      have HW4 := Lib.hid hW4
      have G4 := Lib.hid (G1.out.trans (g3.trans g4))
      clear hW4 g3 g4 s0 s1 cy
      go_wp2_with fail
      rw [HW4.out]
      refine HF1.out.mono ?_
      rintro e W5 ⟨rfl, rfl⟩
      clear HF1 HW4
      by_cases hz : z = 0
      · have hyx := HZ0.out hz
        rw [hlen] at hyx
        subst hz
        have HNX2 := Lib.hid (HNX.out _ G4.out hyx)
        clear HNX hyx
        go_wp2_with fail
        refine HNX2.out.mono ?_
        rintro e W6 ⟨q, c2, rfl, hr, hl, g6⟩
        have G6 := Lib.hid (G4.out.trans g6)
        have HEQ2 := Lib.hid (HEQ.out _ G6.out q c2 hr hl)
        clear hr hl g6 HEQ
        go_wp2_with fail
        refine HEQ2.out.mono ?_
        rintro e W7 ⟨rfl, g7⟩
        have G7 := Lib.hid (G6.out.trans g7)
        clear g7
        go_wp2_with fail
        refine (HI2.out _).mono ?_
        rintro e W8 ⟨rfl, rfl⟩
        go_wp2_with fail
        go_ret
        exact ⟨by rw [HZF.out]; first | rfl | simp, G7.out⟩
      · have q1 : (z != 0) = true := bne_iff_ne.2 hz
        go_wp2_with fail
        go_ret
        exact ⟨by rw [HZF.out, if_neg hz]; rfl, G4.out⟩
  · have HE : Hid (rndE (xs.map Rd.l) i x.l = racesE x.l) := by unfold Hid rndE; rw [if_neg he]
    rw [HE.out]
    have q1 : (racesE x.l != 0) = true := bne_iff_ne.2 he
    generalize racesE x.l = z at *
    clear hc hs hx hxo he
    go_enter Tryz.func89, Tryz.ntmps89
    go_wp2_with fail
    refine HC.out.mono ?_
    rintro e W1 ⟨rfl, g1⟩
    go_wp2_with fail
    go_ret
    exact ⟨rfl, g1⟩
set_option maxHeartbeats 1000000 in
set_option maxRecDepth 100000 in
theorem oneRd_c (xs : List Rd) (i n b off cap L : Nat) (x : Rd) (w : World) (hx : xs[i]? = some x) (hn : xs.length = n) (h1 : n ≤ 1000) (hcap : n ≤ cap) (hc : ∀ i x, xs[i]? = some x → RdAt w b (off + i) x) (hs : ∀ x ∈ xs, x.l.length ≤ 34) (hL : w.cell? ⟨L, 0, none⟩ = some (.slice (some ⟨b, off, none⟩) n cap)) :
    Calls Tryz.prog 88 #[.int .i64 i, .slice x.p x.n x.c, .pointer (some ⟨L, 0, none⟩)] w fun e w' => e = .returned (.int .i64 (rndE (xs.map Rd.l) i x.l)) ∧ Gr w w' := by
  have hin : i < n := by have := (List.getElem?_eq_some_iff.1 hx).1; omega
  have HB := Lib.hid (behind_c xs i n b off cap x w hx hn h1 hcap hc hs)
  have hi1 : (i : Int) ≤ cap := by omega
  have hi0 : (0 : Int) ≤ i := by omega
  generalize rndE (xs.map Rd.l) i x.l = z at *
  clear hc hs hx hn
  go_enter Tryz.func88, Tryz.ntmps88
  go_wp2_with fail
  refine HB.out.mono ?_
  rintro e W1 ⟨rfl, g1⟩
  go_wp2_with fail
  go_ret
  exact ⟨rfl, g1⟩
set_option maxHeartbeats 1000000 in
set_option maxRecDepth 100000 in
theorem findRd_pos (E : Nat → Rd → Int) (xs : List Rd) (n b off cap L : Nat) (w : World) (hn : xs.length = n) (h1 : n ≤ 1000) (hcap : n ≤ cap) (hmx : cap ≤ maxLen)
    (hc : ∀ i x, xs[i]? = some x → RdAt w b (off + i) x) (ho : ∀ (i : Nat) (x : Rd) (W : World), i < n → xs[i]? = some x → Gr w W → Calls Tryz.prog 88 #[.int .i64 i, .slice x.p x.n x.c, .pointer (some ⟨L, 0, none⟩)] W fun e w' => e = .returned (.int .i64 (E i x)) ∧ Gr W w') (hL : w.cell? ⟨L, 0, none⟩ = some (.slice (some ⟨b, off, none⟩) n cap)) :
    Calls Tryz.prog 128 #[.slice (some ⟨b, off, none⟩) n cap, .func (.func 88) #[] #[.pointer (some ⟨L, 0, none⟩)]] w fun e w' => (∃ i : Int, e = .returned (.tuple #[.int .i64 i, .int .i64 (errG E xs n 0)])) ∧ Gr w w' := by
  have HC := Lib.hid hc
  have HN := Lib.hid hn
  have HO := Lib.hid ho
  clear hc hL hn ho
  go_enter Tryz.func128, Tryz.ntmps128
  go_wp2_with fail
  go_loopg [11] n (fun gk s11 wr => ∃ i : Nat, s11 = .int .i64 i ∧ gk + i = n ∧ Gr w wr ∧ Hid (errG E xs (n - i) i = errG E xs n 0))
  case atStart => exact ⟨0, rfl, by omega, Gr.refl _, rfl⟩
  case round =>
    obtain ⟨i, rfl, hi, hg, HF⟩ := hrel
    by_cases hlt : i < n
    · obtain ⟨x, hx⟩ : ∃ x, xs[i]? = some x := ⟨xs[i]'(by have := HN.out; omega), List.getElem?_eq_getElem _⟩
      obtain ⟨c0, _⟩ := (HC.out i x hx).gr hg
      have hf := errG_step (E := E) hlt hx
      have hi2 : (i : Int) < n := by omega
      have hT := fun W hg2 => HO.out i x W hlt hx hg2
      clear hx
      have gW := hg
      by_cases h0 : E i x = 0
      · rw [h0] at hT hf
        rw [if_pos rfl] at hf
        have HT := Lib.hid hT
        have HF2 := Lib.hid hf
        clear hT hf h0
        go_wp2_with fail
        refine (HT.out _ gW).mono ?_
        rintro e w4 ⟨rfl, hg2⟩
        go_wp2_with fail
        go_roundg (gk - 1)
        case measure => omega
        case rel => exact ⟨i + 1, by go_num, by omega, gW.trans hg2, by unfold Hid; rw [← HF2.out, HF.out]⟩
      · rw [if_neg h0] at hf
        generalize E i x = z at *
        have q1 : (z == 0) = false := by simpa using h0
        have q2 : (z != 0) = true := by simpa [bne] using q1
        have HT := Lib.hid hT
        have HF2 := Lib.hid hf
        clear hT hf
        go_wp2_with fail
        refine (HT.out _ gW).mono ?_
        rintro e w4 ⟨rfl, hg2⟩
        go_wp2_with fail
        exact bodyPost_ret (v := .tuple #[.int .i64 i, .int .i64 z]) (by simp [results, Tryz.results128, go_sem]) rfl ⟨⟨i, by rw [← HF.out, HF2.out]⟩, gW.trans hg2⟩
    · have hin : i = n := by omega
      have HE2 : Hid (errG E xs (n - i) i = 0) := by unfold Hid; rw [hin, Nat.sub_self]; rfl
      have hi2 : (n : Int) ≤ i := by omega
      clear hin
      go_wp2_with fail
      exact bodyPost_ret (v := .tuple #[.int .i64 0, .int .i64 0]) (by simp [results, Tryz.results128, go_sem]) rfl ⟨⟨0, by rw [← HF.out, HE2.out]⟩, hg⟩
theorem eachRd_pos (E : Nat → Rd → Int) (xs : List Rd) (n b off cap L : Nat) (w : World) (hn : xs.length = n) (h1 : n ≤ 1000) (hcap : n ≤ cap) (hmx : cap ≤ maxLen)
    (hc : ∀ i x, xs[i]? = some x → RdAt w b (off + i) x) (ho : ∀ (i : Nat) (x : Rd) (W : World), i < n → xs[i]? = some x → Gr w W → Calls Tryz.prog 88 #[.int .i64 i, .slice x.p x.n x.c, .pointer (some ⟨L, 0, none⟩)] W fun e w' => e = .returned (.int .i64 (E i x)) ∧ Gr W w') (hL : w.cell? ⟨L, 0, none⟩ = some (.slice (some ⟨b, off, none⟩) n cap)) :
    Calls Tryz.prog 87 #[.slice (some ⟨b, off, none⟩) n cap, .func (.func 88) #[] #[.pointer (some ⟨L, 0, none⟩)]] w fun e w' => e = .returned (.int .i64 (errG E xs n 0)) ∧ Gr w w' := by
  have HF := Lib.hid (findRd_pos E xs n b off cap L w hn h1 hcap hmx hc ho hL)
  generalize errG E xs n 0 = z at *
  clear hc hL hn ho
  go_enter Tryz.func87, Tryz.ntmps87
  go_wp2_with fail
  refine HF.out.mono ?_
  rintro e w4 ⟨⟨i, rfl⟩, hg⟩
  go_wp2_with fail
  go_ret
  exact ⟨rfl, hg⟩
end Go.Proofs.YthfmgficbnmmnaaGreatDoor
namespace Go.Proofs.YthfmgficbnmmnaaGreatDoor
open Go.RowKit Go.Lib
set_option linter.unusedSimpArgs false
set_option linter.unusedVariables false
/-- the error of rounds -/
def roundsE (ls : List (List RaR)) : Int := if ls.length = 0 then 12 else if 6 < ls.length then 5 else
  firstE [errG (rndE ls) ls ls.length 0, if decide (1 < (ls.getLastD []).length) then 20 else 0, if openR (ls.getLastD []) then 24 else 0]
theorem errG_map {α β : Type} (f : α → β) (E : Nat → β → Int) (xs : List α) : ∀ (k i : Nat), errG E (xs.map f) k i = errG (fun i x => E i (f x)) xs k i
  | 0, _ => rfl
  | k + 1, i => by
    unfold errG
    rw [List.getElem?_map]
    cases h : xs[i]? with
    | none => rfl
    | some x =>
      simp only [Option.map_some]
      rw [errG_map f E xs k (i + 1)]
theorem last_of {xs : List Rd} {x : Rd} {n : Nat} (hn : xs.length = n + 1) (h : xs[n]? = some x) : (xs.map Rd.l).getLastD [] = x.l := by
  have e : xs ≠ [] := by intro h; rw [h] at hn; cases hn
  rw [List.getLastD_eq_getLast?, List.getLast?_map, List.getLast?_eq_getElem?, show xs.length - 1 = n by omega, h]
  rfl
set_option maxHeartbeats 4000000 in
set_option maxRecDepth 100000 in
theorem checkRounds_c (xs : List Rd) (v : Value) (w : World) (hv : RdAts w v xs) (hs : ∀ x ∈ xs, x.l.length ≤ 34) :
    Calls Tryz.prog 45 #[v] w fun e w' => e = .returned (.int .i64 (roundsE (xs.map Rd.l))) ∧ Gr w w' := by
  obtain ⟨⟨p, cap, rfl, ⟨hcap, hmx⟩, hh⟩⟩ := hv
  obtain ⟨W, hW, g, l0⟩ := box1 w (.slice p xs.length cap) 22
  have HW := Lib.hid hW
  have HML : Hid ((xs.map Rd.l).length = xs.length) := List.length_map ..
  rcases Nat.eq_zero_or_pos xs.length with h0 | h0
  · have HE : Hid (roundsE (xs.map Rd.l) = 12) := by unfold Hid roundsE; rw [HML.out, if_pos h0]
    rw [HE.out]
    have q0 : ((xs.length : Int) == 0) = true := by rw [h0]; rfl
    clear hW hh hs
    generalize xs.length = n at *
    go_enter Tryz.func45, Tryz.ntmps45
    go_wp2_with fail
    go_ret
    exact ⟨rfl, (Gr.refl _).alloc _⟩
  have q0 : ((xs.length : Int) == 0) = false := beq_eq_false_iff_ne.2 (by omega)
  by_cases h6 : 6 < xs.length
  · have HE : Hid (roundsE (xs.map Rd.l) = 5) := by unfold Hid roundsE; rw [HML.out, if_neg (by omega), if_pos h6]
    rw [HE.out]
    have q1 : (6 : Int) < (xs.length : Int) := by omega
    clear hW hh hs
    generalize xs.length = n at *
    go_enter Tryz.func45, Tryz.ntmps45
    go_wp2_with fail
    go_ret
    exact ⟨rfl, by rw [HW.out]; exact g⟩
  have q1 : ¬ (6 : Int) < (xs.length : Int) := by omega
  obtain ⟨n, hn⟩ : ∃ n, xs.length = n + 1 := ⟨xs.length - 1, by omega⟩
  obtain ⟨x, hx⟩ : ∃ x, xs[n]? = some x := ⟨xs[n]'(by omega), List.getElem?_eq_getElem _⟩
  obtain ⟨b, off, rfl, hc⟩ := hh h0
  have hla := last_of hn hx
  have hxa := hc n x hx
  have hE : roundsE (xs.map Rd.l) = firstE [errG (rndE (xs.map Rd.l)) (xs.map Rd.l) xs.length 0, if decide (1 < x.l.length) then 20 else 0, if openR x.l then 24 else 0] := by
    unfold roundsE; rw [HML.out, if_neg (by omega), if_neg h6, hla]
  rw [errG_map] at hE
  have HK : Hid (∀ W2, Gr W W2 → Calls Tryz.prog 87 #[.slice (some ⟨b, off, none⟩) xs.length cap, .func (.func 88) #[] #[.pointer (some ⟨w.heap.size, 0, none⟩)]] W2 fun e w' => e = .returned (.int .i64 (errG (fun i (x : Rd) => rndE (xs.map Rd.l) i x.l) xs xs.length 0)) ∧ Gr W2 w') := by
    intro W2 g2
    exact eachRd_pos (fun i (x : Rd) => rndE (xs.map Rd.l) i x.l) xs xs.length b off cap w.heap.size W2 rfl (by omega) hcap hmx (fun i x hx => (hc i x hx).gr (g.trans g2)) (fun i x W3 hi hx hg => oneRd_c xs i xs.length b off cap w.heap.size x W3 hx rfl (by omega) hcap (fun i x hx => (hc i x hx).gr ((g.trans g2).trans hg)) hs ((g2.trans hg).cell l0)) (g2.cell l0)
  have HI := Lib.hid (fun V => if_c (decide (1 < x.l.length)) 20 V)
  have HD := Lib.hid (fun V (g : Gr w V) => checkDecided_c (hxa.ok.gr g).rav)
  have cx := hxa.nm
  have hxl := hxa.ok.len
  obtain ⟨z1, hz1⟩ : ∃ z, z = errG (fun i (x : Rd) => rndE (xs.map Rd.l) i x.l) xs xs.length 0 := ⟨_, rfl⟩
  obtain ⟨z2, hz2⟩ : ∃ z, z = (if decide (1 < x.l.length) then (20 : Int) else 0) := ⟨_, rfl⟩
  obtain ⟨z3, hz3⟩ : ∃ z, z = (if openR x.l then (24 : Int) else 0) := ⟨_, rfl⟩
  rw [← hz1, ← hz2, ← hz3] at hE
  rw [← hz1] at HK
  rw [← hz2] at HI
  rw [← hz3] at HD
  obtain ⟨z, hz⟩ : ∃ z, z = roundsE (xs.map Rd.l) := ⟨_, rfl⟩
  rw [← hz] at hE ⊢
  have HF : Hid (∀ b cap V, V.cell? ⟨b, 0, none⟩ = some (.int .i64 z1) → V.cell? ⟨b, 1, none⟩ = some (.int .i64 z2) → V.cell? ⟨b, 2, none⟩ = some (.int .i64 z3) → Calls Tryz.prog 41 #[.slice (some ⟨b, 0, none⟩) 3 cap] V fun e w' => e = .returned (.int .i64 z) ∧ V = w') := fun b cap V h0 h1 h2 => by rw [hE]; exact first_three z1 z2 z3 b cap V h0 h1 h2
  have hdl : decide (1 < x.l.length) = decide ((1 : Int) < (x.n : Int)) := by rw [← hxl]; exact decide_eq_decide.2 (by omega)
  rw [hdl] at HI
  replace cx := g.cell cx
  rw [hn] at l0 HW HK h6 q0 q1 h0 ⊢
  have hnn : ((n + 1 : Nat) : Int) - 1 = (n : Int) := by omega
  have hn1 : (n : Int) < ((n + 1 : Nat) : Int) := by omega
  clear hz1 hz2 hz3 hz hE hc hh hs hx hla hxa hW hn hdl
  go_enter Tryz.func45, Tryz.ntmps45
  go_wp2_with fail
  rw [HW.out]
  refine (HK.out _ (Gr.refl _)).mono ?_
  rintro e W1 ⟨rfl, g1⟩
  have G1 := Lib.hid (g.trans g1)
  replace cx := g1.cell cx
  replace l0 := g1.cell l0
  clear g1
  go_wp2_with fail
  refine (HI.out _).mono ?_
  rintro e W2 ⟨rfl, rfl⟩
  go_wp2_with fail
  refine (HD.out _ G1.out).mono ?_
  rintro e W3 ⟨rfl, g3⟩
  obtain ⟨W4, hW4, g4, s0, s1, s2⟩ := box3 W3 (.int .i64 z1) (.int .i64 z2) (.int .i64 z3) 31
  have HF1 := Lib.hid (HF.out _ 3 W4 s0 s1 s2)
  have HW4 := Lib.hid hW4
  have G4 := Lib.hid (G1.out.trans (g3.trans g4))
  clear hW4 g3 g4 s0 s1 s2 cx
  go_wp2_with fail
  rw [HW4.out]
  refine HF1.out.mono ?_
  rintro e W5 ⟨rfl, rfl⟩
  go_wp2_with fail
  go_ret
  exact ⟨rfl, G4.out⟩
end Go.Proofs.YthfmgficbnmmnaaGreatDoor
namespace Go.Proofs.YthfmgficbnmmnaaGreatDoor
open Go.RowKit Go.Lib
set_option linter.unusedSimpArgs false
set_option linter.unusedVariables false
theorem behE_same {last l : List RaR} (h : 2 * l.length = last.length) (ho : openR last = false) : behE last l = if sameR l (pairR (last.map winR)) then 0 else 29 := by
  unfold behE
  rw [if_neg (by simp; omega), ho]
  cases sameR l (pairR (last.map winR)) <;> rfl
end Go.Proofs.YthfmgficbnmmnaaGreatDoor
namespace Go.Proofs.YthfmgficbnmmnaaGreatDoor
open Go.RowKit Go.Shelf
set_option linter.unusedSimpArgs false
set_option linter.unusedVariables false
attribute [local go_sem] Oper.semAt_some
/-- a place -/
structure PlR where
  nm : ByteArray
  k : Int
def plC (x : PlR) : List Value := [.string x.nm, .int .i64 x.k]
def plCs (l : List PlR) : List Value := l.flatMap plC
theorem plCs_add (l : List PlR) (r : PlR) : plCs (l ++ [r]) = plCs l ++ plC r := by simp [plCs]
/-- the place of a climber, who has not won -/
def plOf (m : Int) (y : RaR × Int) : List PlR := if y.2 = y.1.w then [] else [⟨inR y.1 y.2, m⟩]
/-- the places of a round -/
def rndP (l : List RaR) : List PlR := (clL l).flatMap (plOf ((l.length : Int) + 1))
/-- the place of the winner -/
def topP (ls : List (List RaR)) : List PlR := if (winR ((ls.getLastD []).getD 0 ⟨⟨#[]⟩, ⟨#[]⟩, 0⟩)).toList = [] then [] else [⟨winR ((ls.getLastD []).getD 0 ⟨⟨#[]⟩, ⟨#[]⟩, 0⟩), 1⟩]
/-- all places -/
def placesL (ls : List (List RaR)) : List PlR := topP ls ++ ls.reverse.flatMap rndP
theorem plOf_len (m : Int) (y : RaR × Int) : (plOf m y).length ≤ 1 := by unfold plOf; split <;> simp
theorem flat_len {α β : Type} (f : α → List β) (c : Nat) (l : List α) (h : ∀ x, (f x).length ≤ c) : (l.flatMap f).length ≤ l.length * c := by
  induction l with
  | nil => simp
  | cons x xs ih =>
    have := h x
    simp only [List.flatMap_cons, List.length_append, List.length_cons]
    have e : (xs.length + 1) * c = xs.length * c + c := Nat.succ_mul _ _
    omega
theorem rndP_len (l : List RaR) : (rndP l).length ≤ 2 * l.length := by
  have h1 := flat_len (plOf ((l.length : Int) + 1)) 1 (clL l) (plOf_len _)
  have h2 := clL_len l
  unfold rndP
  omega
instance : Inhabited Rd := ⟨⟨none, 0, 0, []⟩⟩
theorem cell1_of {w : World} {g : Nat} {a : Value} {T : TypeId} {z : Nat × Nat} (h : w.heap[g]? = some (.cells #[a] T z)) : w.cell? ⟨g, 0, none⟩ = some a := by
  simp [World.cell?, h]
/-- the rounds, as the iterator finds them -/
structure BkF (Bl b off n cap : Nat) (xs : List Rd) (w : World) : Prop where
  mk' ::
  box : w.heap[Bl]? = some (.cells #[.slice (some ⟨b, off, none⟩) n cap] 22 (0, 0))
  row : ∀ i x, xs[i]? = some x → w.cell? ⟨b, off + i, none⟩ = some (.slice x.p x.n x.c)
theorem BkF.gr {Bl b off n cap : Nat} {xs : List Rd} {w w' : World} (h : BkF Bl b off n cap xs w) (k : Gr w w') : BkF Bl b off n cap xs w' := ⟨Gr.block k h.box, fun i x hx => k.cell (h.row i x hx)⟩
theorem drop_rev {n j : Nat} (h : j < n) : ((List.range n).drop j).reverse = ((List.range n).drop (j + 1)).reverse ++ [j] := by
  rw [List.drop_eq_getElem_cons (by simpa using h), List.reverse_cons, List.getElem_range]
set_option maxHeartbeats 4000000 in
set_option maxRecDepth 100000 in
theorem backward_in (lp Bl n b off cap : Nat) (xs : List Rd) (hn : xs.length = n) (h1 : n ≤ 1000) (hc : n ≤ cap) (Kp : World → World → Prop) (hKp : ∀ A B, Kp A B → BkF Bl b off n cap xs A → BkF Bl b off n cap xs B) (J Jx : List { i : Nat // i < n } → World → Prop) (W : World)
    (hJ : ∀ (s : List { i : Nat // i < n }) (A B : World), J s A → Gr A B → J s B)
    (hY : ∀ pre (y : { i : Nat // i < n }) W1, J pre W1 → pre.length < n → YieldAt Fence.wide 4 Tryz.prog lp #[.int .i64 (y.1 : Int), .slice (xs.getD y.1 default).p (xs.getD y.1 default).n (xs.getD y.1 default).c] W1 fun e W' =>
      (e = .returned (.bool true) ∧ J (pre ++ [y]) W' ∧ Kp W1 W') ∨ (e = .returned (.bool false) ∧ Jx (pre ++ [y]) W'))
    (hB : BkF Bl b off n cap xs W) (h0 : J [] W) :
    CallsIn Fence.wide 5 Tryz.prog 90 #[.func (.yield lp) #[] #[], .pointer (some ⟨Bl, 0, none⟩)] W fun e W' => (∃ v, e = .returned v) ∧
      ((∃ zs : List { i : Nat // i < n }, Hid (zs.map (fun y => y.1) = (List.range n).reverse) ∧ J zs W') ∨ (∃ pre, True ∧ Jx pre W')) := by
  refine callsIn_of_wp Tryz.func90 rfl trivial ?_ rfl
  simp only [Tryz.ntmps90, List.size_toArray, List.length_cons, List.length_nil, Nat.reduceAdd, Nat.reduceSub, Array.replicate_succ, Array.replicate_zero, List.push_toArray, List.append_toArray, List.nil_append, List.cons_append]
  have HN := Lib.hid hn
  have HKP := Lib.hid hKp
  have HJ := Lib.hid hJ
  have HY := Lib.hid hY
  have HB := Lib.hid hB
  have hbox := cell1_of hB.box
  clear hn hKp hJ hY hB
  gi_wp2
  gi_loopw [3] (fun dv wr => ∃ (pre : List { i : Nat // i < n }) (k : Nat), dv = .int .i64 ((k : Int) - 1) ∧ Hid (k + pre.length = n) ∧ k ≤ n ∧ Hid (pre.map (fun y => y.1) = ((List.range n).drop k).reverse) ∧ J pre wr ∧ BkF Bl b off n cap xs wr) (fun dv _ => (intOf dv + 1).toNat)
  case atStart => exact ⟨[], n, rfl, by simp [Hid], Nat.le_refl _, by simp [Hid], h0, HB.out⟩
  case round =>
    obtain ⟨pre, k, rfl, HK, hkn, HM, hJs, hB⟩ := hrel
    rcases Nat.eq_zero_or_pos k with hk0 | hk0
    · subst hk0
      have HZ : Hid (pre.map (fun y => y.1) = (List.range n).reverse) := by rw [Hid, HM.out, List.drop_zero]
      have HJS := Lib.hid hJs
      clear hJs h0 hbox hB
      gi_wp2
      go_end0
      exact ⟨⟨_, rfl⟩, .inl ⟨_, HZ, HJS.out⟩⟩
    · obtain ⟨j, rfl⟩ : ∃ j, k = j + 1 := ⟨k - 1, by omega⟩
      have e1 : ((j + 1 : Nat) : Int) - 1 = (j : Int) := by omega
      rw [e1]
      obtain ⟨x, hx⟩ : ∃ x, xs[j]? = some x := ⟨xs[j]'(by have := HN.out; omega), List.getElem?_eq_getElem _⟩
      have hjn : j < n := by omega
      have hjn2 : (j : Int) < (n : Int) := by omega
      have hpl : pre.length < n := by have := HK.out; omega
      have cx := hB.row j x hx
      have cb := cell1_of hB.box
      have hgx : xs.getD j default = x := by rw [List.getD_eq_getElem?_getD, hx]; rfl
      have hy0 := HY.out pre ⟨j, hjn⟩ wr hJs hpl
      simp only [hgx] at hy0
      have HM2 : Hid ((pre ++ [⟨j, hjn⟩] : List { i : Nat // i < n }).map (fun y => y.1) = ((List.range n).drop j).reverse) := by
        rw [Hid, drop_rev hjn, List.map_append, HM.out]; rfl
      have HK2 : Hid (j + (pre ++ [⟨j, hjn⟩] : List { i : Nat // i < n }).length = n) := by
        have := HK.out
        rw [Hid, List.length_append, List.length_singleton]; omega
      have HBB := Lib.hid hB
      obtain ⟨fn, tmps, assign, body, hy, hR⟩ := hy0
      have HRR := Lib.hid hR
      have wj : wrap64 ((j : Int) - 1) = (j : Int) - 1 := by unfold wrap64; omega
      clear hx hJs hB hgx h0 hbox hR e1
      gi_wp2_with fail
      refine HRR.out.mono ?_
      rintro e W3 (⟨rfl, hj, hk⟩ | ⟨rfl, hj⟩)
      · have hB3 := HKP.out _ _ hk HBB.out
        clear hy
        gi_wp2_with fail
        refine ⟨⟨_, j, by first | rfl | (rw [wj]) | go_num, HK2, by omega, HM2, hj, hB3⟩, ?_⟩
        simp [intOf]
        try omega
      · clear hy
        gi_wp2_with fail
        first
          | (refine bodyPost_ret (v := .tuple #[]) (by simp [results, Tryz.results90, go_sem]) rfl ?_; exact ⟨⟨_, rfl⟩, .inr ⟨_, trivial, hj⟩⟩)
          | (refine ⟨rfl, _, by simp [results, Tryz.results90, go_sem]; rfl, ?_⟩; exact ⟨⟨_, rfl⟩, .inr ⟨_, trivial, hj⟩⟩)
theorem backward_stops (Bl n b off cap : Nat) (xs : List Rd) (hn : xs.length = n) (h1 : n ≤ 1000) (hc : n ≤ cap) (Kp : World → World → Prop) (hKp : ∀ A B, Kp A B → BkF Bl b off n cap xs A → BkF Bl b off n cap xs B) (w : World) (hB : BkF Bl b off n cap xs w) :
    SeqStopsK Fence.wide 5 Tryz.prog 90 #[.pointer (some ⟨Bl, 0, none⟩)] (fun y : { i : Nat // i < n } => #[.int .i64 (y.1 : Int), .slice (xs.getD y.1 default).p (xs.getD y.1 default).n (xs.getD y.1 default).c]) Kp (fun zs => Hid (zs.map (fun y => y.1) = (List.range n).reverse)) (fun _ => True) n w := fun lp J Jx W hW hJ hJx hY h0 =>
  backward_in lp Bl n b off cap xs hn h1 hc Kp hKp J Jx W (fun s A B h g => hJ s A B none h (gr_grown6 g) (fun r e => by cases e)) hY (hB.gr hW) h0
theorem backward_c (p : Option Addr) (n c : Nat) (w : World) :
    Calls Tryz.prog 47 #[.slice p n c] w fun e w' => e = .returned (.func (.func 90) #[] #[.pointer (some ⟨w.heap.size, 0, none⟩)]) ∧ w' = w.alloc (.cells #[.slice p n c] 22) := by
  go_enter Tryz.func47, Tryz.ntmps47
  go_wp2_with fail
  go_ret
  exact ⟨rfl, rfl⟩
end Go.Proofs.YthfmgficbnmmnaaGreatDoor
