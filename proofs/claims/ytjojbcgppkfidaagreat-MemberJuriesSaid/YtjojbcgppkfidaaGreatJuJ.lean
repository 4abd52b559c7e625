/- Juries: whether an official serves, as the reference says. -/
import Derived.Test.YtjojbcgppkfidaaGreatJuI
import Derived.BigRegion
namespace Go.Proofs.YtjojbcgppkfidaaGreat
open Go.RowKit Go.Lib
set_option linter.unusedSimpArgs false
set_option linter.unusedVariables false
theorem refNmsJ_nil (p : Option Addr) (cap : Nat) (w : World) :
    Calls Tryz.prog 35 #[.slice p 0 cap] w fun e w' => e = .returned (.int .i64 0) ∧ w = w' := by
  go_enter Tryz.func35, Tryz.ntmps35
  go_wp2_with fail
  refine wp_loop_rounds 2 ?_
  rw [rounds_succ]
  go_wp2_with fail
  go_ret
  exact ⟨rfl, rfl⟩
/-- what a test of sizes returns -/
structure ShortRetJ (e : Ending) (n m : Nat) : Prop where
  mk' ::
  out : ∃ r, e = .returned (.bool r) ∧ (r = true → n ≤ m)
set_option maxHeartbeats 1000000 in
set_option maxRecDepth 100000 in
theorem shortJ_c {v : Value} {xs : List ByteArray} {w : World} (h : StrAts w v xs) (m : Nat) :
    Calls Tryz.prog 33 #[v, .int .i64 (m : Int)] w fun e w' => ShortRetJ e xs.length m ∧ w = w' := by
  obtain ⟨⟨p, cap, rfl, ⟨hcap, hmx⟩, hh⟩⟩ := h
  rcases Nat.eq_zero_or_pos xs.length with h0 | h0
  · have hx : xs = [] := List.eq_nil_of_length_eq_zero h0
    subst hx
    go_enter Tryz.func33, Tryz.ntmps33
    go_wp2_with fail
    refine wp_loop_rounds 2 ?_
    rw [rounds_succ]
    go_wp2_with fail
    go_ret
    exact ⟨⟨_, rfl, fun _ => by simp⟩, rfl⟩
  obtain ⟨b, off, rfl, hc⟩ := hh h0
  have HX := Lib.hid (fun k (h : k < xs.length) => (show ∃ x, xs[k]? = some x from ⟨xs[k]'(by omega), List.getElem?_eq_getElem _⟩))
  have HC := Lib.hid hc
  clear hc hh
  have hnm := Nat.le_trans hcap hmx
  unfold maxLen at hnm
  clear hmx
  generalize xs.length = n at *
  cases hr : decide ((n : Int) ≤ m)
  all_goals
    go_enter Tryz.func33, Tryz.ntmps33
    go_wp2_with fail
    go_loopg [5] n (fun gk s5 wr => ∃ i : Nat, s5 = .int .i64 i ∧ gk + i = n ∧ wr = w)
    case atStart => exact ⟨0, rfl, by omega, rfl⟩
    case round =>
      obtain ⟨i, rfl, hi, rfl⟩ := hrel
      by_cases hlt : i < n
      · obtain ⟨x, hx⟩ := HX.out i hlt
        obtain ⟨c0⟩ := HC.out i x hx
        have hi2 : (i : Int) < n := by omega
        clear hx
        rcases Nat.lt_or_ge 40 x.size with hs0 | hs0
        · go_wp2_with fail
          go_ret
          exact ⟨⟨false, rfl, fun h => (by cases h)⟩, rfl⟩
        go_wp2_with fail
        go_roundg (gk - 1)
        case measure => omega
        case rel => exact ⟨i + 1, by go_num, by omega, rfl⟩
      · obtain rfl : i = n := by omega
        go_wp2_with fail
        go_ret
        first
          | exact ⟨⟨false, rfl, fun h => (by cases h)⟩, rfl⟩
          | exact ⟨⟨true, rfl, fun _ => by have := of_decide_eq_true hr; omega⟩, rfl⟩
          | exact ⟨⟨decide (i ≤ m), rfl, fun h => of_decide_eq_true h⟩, rfl⟩
theorem refNmsAny_c {v : Value} {xs : List ByteArray} {w : World} (h : StrAts w v xs) (h1 : xs.length ≤ 1000) :
    Calls Tryz.prog 35 #[v] w fun e w' => e = .returned (.int .i64 (errG (strE xs) xs xs.length 0)) ∧ Gr w w' := by
  obtain ⟨⟨p, cap, rfl, ⟨hcap, _⟩, hh⟩⟩ := h
  rcases Nat.eq_zero_or_pos xs.length with h0 | h0
  · have hx : xs = [] := List.eq_nil_of_length_eq_zero h0
    subst hx
    refine (refNmsJ_nil p cap w).mono ?_
    rintro e w' ⟨rfl, rfl⟩
    exact ⟨rfl, Gr.refl _⟩
  · obtain ⟨b, off, rfl, hc⟩ := hh h0
    exact refNms_pos xs _ b off cap w rfl h1 hcap hc
theorem refHas_c {v : Value} {l : List ByteArray} {w : World} (h : StrAts w v l) (h1 : l.length ≤ 1000) (s : ByteArray) :
    Calls Tryz.prog 45 #[v, .string s] w fun e w' => e = .returned (.bool (hasS l s)) ∧ w = w' := by
  obtain ⟨⟨p, cap, rfl, _, hh⟩⟩ := h
  have := hasWordT_c l p l.length cap s w (Nat.le_refl _) h1 (fun h0 => by
    obtain ⟨b, off, e, hc⟩ := hh h0
    exact ⟨b, off, e, fun i t ht => (hc i t ht).nm⟩)
  rwa [List.take_length] at this
set_option maxHeartbeats 1000000 in
set_option maxRecDepth 100000 in
theorem refServes_c (os : List OfR) (ps : List PoR) (vo vp : Value) (i1 i2 : Nat) (x : OfR) (y : PoR) (w : World) (ho : OfAts w vo os) (hp : PoAts w vp ps) (hx : os[i1]? = some x) (hy : ps[i2]? = some y) (hr : x.rs.length ≤ 1000) (hs : y.ns.length ≤ 1000) (hl1 : os.length ≤ 1000) (hl2 : ps.length ≤ 1000) :
    Calls Tryz.prog 12 #[.agg #[vo, vp], .int .i64 (i1 : Int), .int .i64 (i2 : Int)] w fun e w' => e = .returned (.bool (mayB x y)) ∧ Gr w w' := by
  have hli1 := (List.getElem?_eq_some_iff.1 hx).1
  have hli2 := (List.getElem?_eq_some_iff.1 hy).1
  obtain ⟨⟨po, co, rfl, hco, hho⟩⟩ := ho
  obtain ⟨⟨pp, cp, rfl, hcp, hhp⟩⟩ := hp
  obtain ⟨bo, oo, rfl, hqo⟩ := hho (by omega)
  obtain ⟨bp, op, rfl, hqp⟩ := hhp (by omega)
  obtain ⟨x0, x1, x2, x3, hxs⟩ := hqo i1 x hx
  obtain ⟨y0, y1, y2, y3, hys⟩ := hqp i2 y hy
  have H1 := Lib.hid (fun W (g : Gr w W) => refHas_c (hxs.gr g) hr y.ro)
  have H2 := Lib.hid (fun W (g : Gr w W) => refHas_c (hys.gr g) hs x.na)
  obtain ⟨pu, nu, cu, hu⟩ : ∃ p n c, x.u = .slice p n c := by
    obtain ⟨⟨p, cap, e, _⟩⟩ := hxs
    exact ⟨p, _, cap, e⟩
  obtain ⟨pv, nv, cv, hv⟩ : ∃ p n c, y.u = .slice p n c := by
    obtain ⟨⟨p, cap, e, _⟩⟩ := hys
    exact ⟨p, _, cap, e⟩
  rw [hu] at H1 x2
  rw [hv] at H2 y3
  have HR : Hid (mayB x y = (hasS x.rs y.ro && !hasS y.ns x.na)) := rfl
  generalize mayB x y = res at *
  obtain ⟨W, hW, g, a0, a1⟩ := box2 w (.slice (some ⟨bo, oo, none⟩) os.length co) (.slice (some ⟨bp, op, none⟩) ps.length cp) 31
  have HW := Lib.hid hW
  replace x0 := g.cell x0
  replace x1 := g.cell x1
  replace x2 := g.cell x2
  replace x3 := g.cell x3
  replace y0 := g.cell y0
  replace y1 := g.cell y1
  replace y2 := g.cell y2
  replace y3 := g.cell y3
  clear hW hho hhp hqo hqp hx hy hxs hys hr hs hco hcp hu hv
  go_enter Tryz.func12, Tryz.ntmps12
  go_wp2_with fail
  rw [HW.out]
  generalize w.heap.size = Bx at *
  clear HW
  have ka : ∀ o, Gr W (W.alloc o) := fun o => (Gr.refl W).alloc o
  have kb : ∀ o o', Gr W ((W.alloc o).alloc o') := fun o o' => ((Gr.refl W).alloc o).alloc o'
  have Aa0 := fun o => (ka o).cell a0
  have Ba0 := fun o o' => (kb o o').cell a0
  have Aa1 := fun o => (ka o).cell a1
  have Ba1 := fun o o' => (kb o o').cell a1
  have Ax0 := fun o => (ka o).cell x0
  have Bx0 := fun o o' => (kb o o').cell x0
  have Ax1 := fun o => (ka o).cell x1
  have Bx1 := fun o o' => (kb o o').cell x1
  have Ax2 := fun o => (ka o).cell x2
  have Bx2 := fun o o' => (kb o o').cell x2
  have Ax3 := fun o => (ka o).cell x3
  have Bx3 := fun o o' => (kb o o').cell x3
  have Ay0 := fun o => (ka o).cell y0
  have By0 := fun o o' => (kb o o').cell y0
  have Ay1 := fun o => (ka o).cell y1
  have By1 := fun o o' => (kb o o').cell y1
  have Ay2 := fun o => (ka o).cell y2
  have By2 := fun o o' => (kb o o').cell y2
  have Ay3 := fun o => (ka o).cell y3
  have By3 := fun o o' => (kb o o').cell y3
  have HGG := Lib.hid (fun o o' => (g.trans (kb o o')).drew)
  clear ka kb g
  go_region
  all_goals
    clear a0 a1 x0 x1 x2 x3 y0 y1 y2 y3 Aa0 Aa1 Ax0 Ax1 Ax2 Ax3 Ay0 Ay1 Ay2 Ay3 Ba0 Ba1 Bx0 Bx1 Bx2 Bx3 By0 By1 By2 By3
    go_wp2_with fail
    refine (H1.out _ (HGG.out _ _)).mono ?_
    rintro e w' ⟨rfl, rfl⟩
    generalize hasS x.rs y.ro = h3 at *
    cases h3
    · go_wp2_with fail
      go_ret
      exact ⟨by rw [HR.out]; rfl, HGG.out _ _⟩
    · go_wp2_with fail
      refine (H2.out _ (HGG.out _ _)).mono ?_
      rintro e w' ⟨rfl, rfl⟩
      generalize hasS y.ns x.na = h4 at *
      cases h4
      all_goals
        go_wp2_with fail
        go_ret
        exact ⟨by rw [HR.out]; rfl, HGG.out _ _⟩
end Go.Proofs.YtjojbcgppkfidaaGreat
