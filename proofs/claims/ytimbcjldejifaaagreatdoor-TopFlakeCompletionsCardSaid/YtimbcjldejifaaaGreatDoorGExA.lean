/- Bars: a bar at a place, whether its reason holds, whether it continues those before. -/
import Derived.Test.YtimbcjldejifaaaGreatDoorGOpP
namespace Go.Proofs.YtimbcjldejifaaaGreatDoor
open Go.RowKit Go.Lib
set_option linter.unusedSimpArgs false
set_option linter.unusedVariables false
structure BarR where
  fr : Int
  to : Int
  why : ByteArray
def barV (x : BarR) : Value := .agg #[.int .i64 x.fr, .int .i64 x.to, .string x.why]
/-- the ends of a bar are numbers of 64 bits -/
structure BarOK (x : BarR) : Prop where
  f0 : -9223372036854775808 ≤ x.fr
  f1 : x.fr ≤ 9223372036854775807
  t0 : -9223372036854775808 ≤ x.to
  t1 : x.to ≤ 9223372036854775807
/-- the three cells of a bar at a place -/
structure BarAt (w : World) (b off : Nat) (x : BarR) : Prop where
  fr : w.cell? ⟨b, off, none⟩ = some (.int .i64 x.fr)
  to : w.cell? ⟨b, off + 1, none⟩ = some (.int .i64 x.to)
  why : w.cell? ⟨b, off + 2, none⟩ = some (.string x.why)
  ok : BarOK x
theorem BarAt.gr {w w' : World} {b off : Nat} {x : BarR} (h : BarAt w b off x) (k : Gr w w') : BarAt w' b off x := ⟨k.cell h.fr, k.cell h.to, k.cell h.why, h.ok⟩
/-- the slice v reads as the bars xs -/
structure BarsV (w : World) (v : Value) (xs : List BarR) : Prop where
  mk' ::
  out : ∃ p cap, v = .slice p xs.length cap ∧ (xs.length ≤ cap ∧ cap ≤ maxLen) ∧ (0 < xs.length → ∃ b off, p = some ⟨b, off, none⟩ ∧ ∀ i x, xs[i]? = some x → BarAt w b (off + i * 3) x)
theorem BarsV.gr {w w' : World} {v : Value} {xs : List BarR} (h : BarsV w v xs) (k : Gr w w') : BarsV w' v xs := by
  obtain ⟨⟨p, cap, rfl, hcap, hh⟩⟩ := h
  refine ⟨p, cap, rfl, hcap, fun h0 => ?_⟩
  obtain ⟨b, off, h1, h2⟩ := hh h0
  exact ⟨b, off, h1, fun i x hx => (h2 i x hx).gr k⟩
/-- the reason is 'above' -/
def isAb (x : BarR) : Bool := x.why.toList == [97, 98, 111, 118, 101]
def isBe (x : BarR) : Bool := x.why.toList == [98, 101, 108, 111, 119]
/-- the reason of a bar holds -/
def holdB (ys : List OpR) (r : Int) (x : BarR) : Bool := if isAb x then decide (r ≤ cntV (fun y => y.lo) x.to ys) else decide (cntV (fun y => y.hi) x.fr ys ≤ r - 2)
/-- a bar begins at a place -/
def fromB (lo : Int) (x : BarR) : Bool := decide (x.fr = lo) && decide (x.fr ≤ x.to)
/-- a bar begins right behind another one -/
def behindB (p x : BarR) : Bool := decide (p.to ≠ 9223372036854775807) && fromB (p.to + 1) x
set_option maxHeartbeats 1000000 in
set_option maxRecDepth 100000 in
theorem holds_c {u : Value} {ys : List OpR} (q : OpR) (r : Int) (x : BarR) {w : World} (h : OpsV w u ys) (h1 : ys.length ≤ 1000) (hr0 : 1 ≤ r) (hr1 : r ≤ 1000) :
    Calls Tryz.prog 32 #[qV q u r, barV x] w fun e w' => e = .returned (.bool (holdB ys r x)) ∧ Gr w w' := by
  have HL := Lib.hid (fun v (W : World) (g : Gr w W) => above_lo_c q r v (h.gr g) h1)
  have HH := Lib.hid (fun v (W : World) (g : Gr w W) => above_hi_c q r v (h.gr g) h1)
  have HE : Hid (holdB ys r x = if isAb x then decide (r ≤ cntV (fun y => y.lo) x.to ys) else decide (cntV (fun y => y.hi) x.fr ys ≤ r - 2)) := rfl
  obtain ⟨p, c, rfl⟩ := opsV_slice h
  have hw : IntKind.i64.wrap (r - 2) = r - 2 := by rw [IntKind.wrap_i64]; omega
  unfold qV at HL HH
  unfold qV barV
  generalize ys.length = n at *
  obtain ⟨W1, hW1, g1, hQ⟩ := boxQ w (.string q.nm) (.int .i64 q.lo) (.int .i64 q.hi) (.slice p n c) (.int .i64 r) 67
  obtain ⟨r0, r1, r2, r3, r4, _⟩ := row5 hQ
  obtain ⟨W2, hW2, g2, b0, b1, b2⟩ := box3 W1 (.int .i64 x.fr) (.int .i64 x.to) (.string x.why) 74
  have hs : W1.heap.size = w.heap.size + 1 := by rw [← hW1, World.size_alloc]
  rw [hs] at b0 b1 b2
  have HW1 := Lib.hid hW1
  have HW2 := Lib.hid hW2
  replace r0 := g2.cell r0
  replace r1 := g2.cell r1
  replace r2 := g2.cell r2
  replace r3 := g2.cell r3
  replace r4 := g2.cell r4
  have g := g1.trans g2
  clear hW1 hW2 hQ g1 g2 h hs
  cases hab : isAb x
  · rw [hab] at HE
    have hst : (x.why.toList == [97, 98, 111, 118, 101]) = _ := hab
    go_enter Tryz.func32, Tryz.ntmps32
    go_wp2_with fail
    rw [HW1.out, HW2.out]
    generalize w.heap.size = B at *
    clear HW1 HW2
    have HH := Lib.hid (HH.out x.fr)
    generalize hZ : cntV (fun y => y.hi) x.fr ys = Z at *
    have gd := (Gr.refl W2).drew
    replace r0 := gd.cell r0
    replace r1 := gd.cell r1
    replace r2 := gd.cell r2
    replace r3 := gd.cell r3
    replace r4 := gd.cell r4
    replace b0 := gd.cell b0
    replace b1 := gd.cell b1
    replace b2 := gd.cell b2
    replace g := g.trans gd
    clear gd
    refine wp_region_held_drew (S := (fun w' => (w'.cell? ⟨B, 0, none⟩ = some (.string q.nm) ∧ w'.cell? ⟨B, 1, none⟩ = some (.int .i64 q.lo) ∧ w'.cell? ⟨B, 2, none⟩ = some (.int .i64 q.hi) ∧ w'.cell? ⟨B, 3, none⟩ = some (.slice p n c) ∧ w'.cell? ⟨B, 4, none⟩ = some (.int .i64 r)) ∧ w'.cell? ⟨B + 1, 0, none⟩ = some (.int .i64 x.fr) ∧ w'.cell? ⟨B + 1, 1, none⟩ = some (.int .i64 x.to))) (by kernel_rfl) ⟨⟨r0, r1, r2, r3, r4⟩, b0, b1⟩ (fun hHeld => ?_)
    generalize W2.drew = V at *
    refine wpAnyH_take (i := 0) (v := (.agg #[.string q.nm, .int .i64 q.lo, .int .i64 q.hi, .slice p n c, .int .i64 r])) (op_at rfl) (by kernel_rfl) (by kernel_rfl) (by kernel_rfl) (fun _ _ _ h => h) (Or.inl ⟨rfl, fun w hSw => ?_⟩) (by assumption) ?_
    · (try dsimp only at hSw); go_simp; try with_reducible rfl
    (try simp only [Act.put, List.setIfInBounds_toArray, List.set_cons_zero, List.set_cons_succ])
    refine wpAnyH_take (i := 1) (v := (.pointer (some ⟨B + 1, 0, none⟩))) (op_at rfl) (by kernel_rfl) (by kernel_rfl) (by kernel_rfl) (fun _ _ _ h => h) (Or.inl ⟨rfl, fun w hSw => ?_⟩) (by assumption) ?_
    · (try dsimp only at hSw); go_simp; try with_reducible rfl
    (try simp only [Act.put, List.setIfInBounds_toArray, List.set_cons_zero, List.set_cons_succ])
    refine wpAnyH_take (i := 2) (v := (.int .i64 x.fr)) (op_at rfl) (by kernel_rfl) (by kernel_rfl) (by kernel_rfl) (fun _ _ _ h => h) (Or.inl ⟨rfl, fun w hSw => ?_⟩) (by assumption) ?_
    · (try dsimp only at hSw); go_simp; try with_reducible rfl
    (try simp only [Act.put, List.setIfInBounds_toArray, List.set_cons_zero, List.set_cons_succ])
    refine wpAnyH_take (i := 4) (v := (.pointer (some ⟨B, 4, none⟩))) (op_at rfl) (by kernel_rfl) (by kernel_rfl) (by kernel_rfl) (fun _ _ _ h => h) (Or.inl ⟨rfl, fun w hSw => ?_⟩) (by assumption) ?_
    · (try dsimp only at hSw); go_simp; try with_reducible rfl
    (try simp only [Act.put, List.setIfInBounds_toArray, List.set_cons_zero, List.set_cons_succ])
    refine wpAnyH_take (i := 5) (v := (.int .i64 r)) (op_at rfl) (by kernel_rfl) (by kernel_rfl) (by kernel_rfl) (fun _ _ _ h => h) (Or.inl ⟨rfl, fun w hSw => ?_⟩) (by assumption) ?_
    · (try dsimp only at hSw); go_simp; try with_reducible rfl
    (try simp only [Act.put, List.setIfInBounds_toArray, List.set_cons_zero, List.set_cons_succ])
    refine wpAnyH_take (i := 6) (v := (.int .i64 (r - 2))) (op_at rfl) (by kernel_rfl) (by kernel_rfl) (by kernel_rfl) (fun _ _ _ h => h) (Or.inl ⟨rfl, fun w hSw => ?_⟩) (by assumption) ?_
    · (try dsimp only at hSw); go_simp; try with_reducible rfl
    (try simp only [Act.put, List.setIfInBounds_toArray, List.set_cons_zero, List.set_cons_succ])
    refine wpAnyH_ready (rs := [3]) (by kernel_rfl) (by simp) (AllReadyH.cons (op_at rfl) (fun K hK => ?_) AllReadyH.nil)
    go_simp
    (refine (HH.out _ g).mono ?_; rintro e W3 ⟨rfl, hg⟩; replace r0 := hg.cell r0; replace r1 := hg.cell r1; replace r2 := hg.cell r2; replace r3 := hg.cell r3; replace r4 := hg.cell r4; replace b0 := hg.cell b0; replace b1 := hg.cell b1; replace b2 := hg.cell b2; replace g := g.trans hg; clear hg)
    go_wp2_with fail
    refine hK.out _ _ ⟨⟨r0, r1, r2, r3, r4⟩, b0, b1⟩ (fun hHeld => ?_)
    clear hK K
    (try simp only [Act.put, List.setIfInBounds_toArray, List.set_cons_zero, List.set_cons_succ])
    refine wpAnyH_take (i := 7) (v := (.bool (decide (Z ≤ r - 2)))) (op_at rfl) (by kernel_rfl) (by kernel_rfl) (by kernel_rfl) (fun _ _ _ h => h) (Or.inl ⟨rfl, fun w hSw => ?_⟩) (by assumption) ?_
    · (try dsimp only at hSw); go_simp; try with_reducible rfl
    (try simp only [Act.put, List.setIfInBounds_toArray, List.set_cons_zero, List.set_cons_succ])
    refine wpAnyH_take (i := 8) (v := (.bool (decide (Z ≤ r - 2)))) (op_at rfl) (by kernel_rfl) (by kernel_rfl) (by kernel_rfl) (fun _ _ _ h => h) (Or.inl ⟨rfl, fun w hSw => ?_⟩) (by assumption) ?_
    · (try dsimp only at hSw); go_simp; try with_reducible rfl
    (try simp only [Act.put, List.setIfInBounds_toArray, List.set_cons_zero, List.set_cons_succ])
    refine wpAnyH_done (by kernel_rfl) ?_ _
    go_wp2_with fail
    go_ret
    exact ⟨by rw [HE.out]; rfl, g⟩
  · rw [hab] at HE
    have hst : (x.why.toList == [97, 98, 111, 118, 101]) = _ := hab
    go_enter Tryz.func32, Tryz.ntmps32
    go_wp2_with fail
    rw [HW1.out, HW2.out]
    generalize w.heap.size = B at *
    clear HW1 HW2
    have HL := Lib.hid (HL.out x.to)
    generalize hZ : cntV (fun y => y.lo) x.to ys = Z at *
    have gd := (Gr.refl W2).drew
    replace r0 := gd.cell r0
    replace r1 := gd.cell r1
    replace r2 := gd.cell r2
    replace r3 := gd.cell r3
    replace r4 := gd.cell r4
    replace b0 := gd.cell b0
    replace b1 := gd.cell b1
    replace b2 := gd.cell b2
    replace g := g.trans gd
    clear gd
    refine wp_region_held_drew (S := (fun w' => (w'.cell? ⟨B, 0, none⟩ = some (.string q.nm) ∧ w'.cell? ⟨B, 1, none⟩ = some (.int .i64 q.lo) ∧ w'.cell? ⟨B, 2, none⟩ = some (.int .i64 q.hi) ∧ w'.cell? ⟨B, 3, none⟩ = some (.slice p n c) ∧ w'.cell? ⟨B, 4, none⟩ = some (.int .i64 r)) ∧ w'.cell? ⟨B + 1, 0, none⟩ = some (.int .i64 x.fr) ∧ w'.cell? ⟨B + 1, 1, none⟩ = some (.int .i64 x.to))) (by kernel_rfl) ⟨⟨r0, r1, r2, r3, r4⟩, b0, b1⟩ (fun hHeld => ?_)
    generalize W2.drew = V at *
    refine wpAnyH_take (i := 0) (v := (.agg #[.string q.nm, .int .i64 q.lo, .int .i64 q.hi, .slice p n c, .int .i64 r])) (op_at rfl) (by kernel_rfl) (by kernel_rfl) (by kernel_rfl) (fun _ _ _ h => h) (Or.inl ⟨rfl, fun w hSw => ?_⟩) (by assumption) ?_
    · (try dsimp only at hSw); go_simp; try with_reducible rfl
    (try simp only [Act.put, List.setIfInBounds_toArray, List.set_cons_zero, List.set_cons_succ])
    refine wpAnyH_take (i := 1) (v := (.pointer (some ⟨B + 1, 1, none⟩))) (op_at rfl) (by kernel_rfl) (by kernel_rfl) (by kernel_rfl) (fun _ _ _ h => h) (Or.inl ⟨rfl, fun w hSw => ?_⟩) (by assumption) ?_
    · (try dsimp only at hSw); go_simp; try with_reducible rfl
    (try simp only [Act.put, List.setIfInBounds_toArray, List.set_cons_zero, List.set_cons_succ])
    refine wpAnyH_take (i := 2) (v := (.int .i64 x.to)) (op_at rfl) (by kernel_rfl) (by kernel_rfl) (by kernel_rfl) (fun _ _ _ h => h) (Or.inl ⟨rfl, fun w hSw => ?_⟩) (by assumption) ?_
    · (try dsimp only at hSw); go_simp; try with_reducible rfl
    (try simp only [Act.put, List.setIfInBounds_toArray, List.set_cons_zero, List.set_cons_succ])
    refine wpAnyH_take (i := 4) (v := (.pointer (some ⟨B, 4, none⟩))) (op_at rfl) (by kernel_rfl) (by kernel_rfl) (by kernel_rfl) (fun _ _ _ h => h) (Or.inl ⟨rfl, fun w hSw => ?_⟩) (by assumption) ?_
    · (try dsimp only at hSw); go_simp; try with_reducible rfl
    (try simp only [Act.put, List.setIfInBounds_toArray, List.set_cons_zero, List.set_cons_succ])
    refine wpAnyH_take (i := 5) (v := (.int .i64 r)) (op_at rfl) (by kernel_rfl) (by kernel_rfl) (by kernel_rfl) (fun _ _ _ h => h) (Or.inl ⟨rfl, fun w hSw => ?_⟩) (by assumption) ?_
    · (try dsimp only at hSw); go_simp; try with_reducible rfl
    (try simp only [Act.put, List.setIfInBounds_toArray, List.set_cons_zero, List.set_cons_succ])
    refine wpAnyH_ready (rs := [3]) (by kernel_rfl) (by simp) (AllReadyH.cons (op_at rfl) (fun K hK => ?_) AllReadyH.nil)
    go_simp
    (refine (HL.out _ g).mono ?_; rintro e W3 ⟨rfl, hg⟩; replace r0 := hg.cell r0; replace r1 := hg.cell r1; replace r2 := hg.cell r2; replace r3 := hg.cell r3; replace r4 := hg.cell r4; replace b0 := hg.cell b0; replace b1 := hg.cell b1; replace b2 := hg.cell b2; replace g := g.trans hg; clear hg)
    go_wp2_with fail
    refine hK.out _ _ ⟨⟨r0, r1, r2, r3, r4⟩, b0, b1⟩ (fun hHeld => ?_)
    clear hK K
    (try simp only [Act.put, List.setIfInBounds_toArray, List.set_cons_zero, List.set_cons_succ])
    refine wpAnyH_take (i := 6) (v := (.bool (decide (r ≤ Z)))) (op_at rfl) (by kernel_rfl) (by kernel_rfl) (by kernel_rfl) (fun _ _ _ h => h) (Or.inl ⟨rfl, fun w hSw => ?_⟩) (by assumption) ?_
    · (try dsimp only at hSw); go_simp; try with_reducible rfl
    (try simp only [Act.put, List.setIfInBounds_toArray, List.set_cons_zero, List.set_cons_succ])
    refine wpAnyH_take (i := 7) (v := (.bool (decide (r ≤ Z)))) (op_at rfl) (by kernel_rfl) (by kernel_rfl) (by kernel_rfl) (fun _ _ _ h => h) (Or.inl ⟨rfl, fun w hSw => ?_⟩) (by assumption) ?_
    · (try dsimp only at hSw); go_simp; try with_reducible rfl
    (try simp only [Act.put, List.setIfInBounds_toArray, List.set_cons_zero, List.set_cons_succ])
    refine wpAnyH_done (by kernel_rfl) ?_ _
    go_wp2_with fail
    go_ret
    exact ⟨by rw [HE.out]; rfl, g⟩
end Go.Proofs.YtimbcjldejifaaaGreatDoor
namespace Go.Proofs.YtimbcjldejifaaaGreatDoor
open Go.RowKit Go.Lib
set_option linter.unusedSimpArgs false
set_option linter.unusedVariables false
/-- the error of values, from a place on -/
def outZ (xs : List OpR) (ys : List Int) (n i : Nat) : Int := if outFrom xs ys (n - i) i then 3 else 0
theorem outE_at (y lo hi : Int) : outE y lo hi = if (decide (y < lo) || decide (hi < y)) then 3 else 0 := rfl
/-- the error of a question -/
def questE (xs : List OpR) (cl r : Int) : Int := firstE [openE xs, climbE cl xs.length, outE r 1 xs.length]
set_option maxHeartbeats 1000000 in
set_option maxRecDepth 100000 in
theorem quest_c {v : Value} {xs : List OpR} {w : World} (cl r : Int) (h : OpsV w v xs) :
    Calls Tryz.prog 24 #[v, .int .i64 cl, .int .i64 r] w fun e w' => e = .returned (.int .i64 (questE xs cl r)) ∧ Gr w w' := by
  obtain ⟨p, cap, rfl⟩ := opsV_slice h
  have HO := Lib.hid (checkOpen_c h)
  have HC := Lib.hid (fun W => climb_c cl xs.length W)
  have HR := Lib.hid (fun W => range_c r 1 xs.length W)
  have HF := Lib.hid (fun b cap W => first_three (openE xs) (climbE cl xs.length) (outE r 1 xs.length) b cap W)
  have HQ : Hid (questE xs cl r = firstE [openE xs, climbE cl xs.length, outE r 1 xs.length]) := rfl
  rw [← HQ.out] at HF
  clear HQ h
  generalize questE xs cl r = E at *
  generalize openE xs = e1 at *
  generalize climbE cl xs.length = e2 at *
  generalize outE r 1 xs.length = e3 at *
  generalize xs.length = n at *
  go_enter Tryz.func24, Tryz.ntmps24
  go_wp2_with fail
  refine HO.out.mono ?_
  rintro e w1 ⟨rfl, g⟩
  go_wp2_with fail
  refine (HC.out _).mono ?_
  rintro e w2 ⟨rfl, rfl⟩
  go_wp2_with fail
  refine (HR.out _).mono ?_
  rintro e w3 ⟨rfl, rfl⟩
  obtain ⟨W, hW, g2, a0, a1, a2⟩ := box3 w1 (.int .i64 e1) (.int .i64 e2) (.int .i64 e3) 34
  have HT := Lib.hid (HF.out w1.heap.size 3 W a0 a1 a2)
  have HW := Lib.hid hW
  clear HF hW a0 a1 a2
  go_wp2_with fail
  rw [HW.out]
  refine HT.out.mono ?_
  rintro e w4 ⟨rfl, rfl⟩
  go_wp2_with fail
  go_ret
  exact ⟨rfl, g.trans g2⟩
end Go.Proofs.YtimbcjldejifaaaGreatDoor
namespace Go.Proofs.YtimbcjldejifaaaGreatDoor
open Go.RowKit Go.Lib
set_option linter.unusedSimpArgs false
set_option linter.unusedVariables false
theorem infoBar : (Tryz.prog.info? 74).map (fun i => (i.zero, i.size, i.bytes)) = some (some (.agg #[.int .i64 0, .int .i64 0, .string ⟨#[]⟩]), 3, 32) := by kernel_rfl
/-- the cells of a bar, of bars -/
def barC (x : BarR) : List Value := [.int .i64 x.fr, .int .i64 x.to, .string x.why]
def barCs (xs : List BarR) : List Value := xs.flatMap barC
theorem barCs_len (xs : List BarR) : (barCs xs).length = xs.length * 3 := by
  induction xs with
  | nil => rfl
  | cons x xs ih => simp only [barCs, List.flatMap_cons, List.length_append, List.length_cons] at *; rw [ih]; simp [barC]; omega
theorem barCs_take {xs : List BarR} {k : Nat} {x : BarR} (h : xs[k]? = some x) : barCs (xs.take (k + 1)) = barCs (xs.take k) ++ barC x := by
  rw [List.take_add_one, h]
  simp [barCs]
theorem barCs_at {xs : List BarR} {i : Nat} {x : BarR} (h : xs[i]? = some x) (j : Nat) (hj : j < 3) : (barCs xs)[i * 3 + j]? = (barC x)[j]? := by
  induction xs generalizing i with
  | nil => simp at h
  | cons y ys ih =>
    have e : barCs (y :: ys) = barC y ++ barCs ys := rfl
    rw [e]
    cases i with
    | zero =>
      simp only [List.getElem?_cons_zero, Option.some.injEq] at h
      subst h
      rw [show 0 * 3 + j = j by omega, List.getElem?_append_left (by simp [barC]; omega)]
    | succ i =>
      rw [List.getElem?_append_right (by simp [barC]; omega)]
      have := ih (i := i) (by simpa using h)
      rw [← this]
      congr 1
      simp [barC]; omega
theorem barsV_of_owns {w : World} {base n : Nat} {v : Value} {xs : List BarR} {T : TypeId} (hn : xs.length = n) (h : w.ownsRow base T 3 v n (barCs xs)) (hok : ∀ (i : Nat) (x : BarR), xs[i]? = some x → BarOK x) : BarsV w v xs := by
  subst hn
  rcases h.2 with ⟨rfl, h0⟩ | ⟨g, cap, cur, rfl, _, _, hle, hmx, _, _⟩
  · exact ⟨none, 0, by rw [h0], ⟨by omega, by unfold maxLen; omega⟩, fun h => by omega⟩
  · refine ⟨some ⟨g, 0, none⟩, cap, rfl, ⟨hle, hmx⟩, fun _ => ⟨g, 0, rfl, fun i x hx => ?_⟩⟩
    have e : ∀ j, (⟨g, 0, none⟩ : Addr).add j = ⟨g, j, none⟩ := fun j => by unfold Addr.add; split <;> simp_all
    have c0 := h.cells (g := g) rfl (i * 3 + 0) (.int .i64 x.fr) (by rw [barCs_at hx 0 (by omega)]; rfl)
    have c1 := h.cells (g := g) rfl (i * 3 + 1) (.int .i64 x.to) (by rw [barCs_at hx 1 (by omega)]; rfl)
    have c2 := h.cells (g := g) rfl (i * 3 + 2) (.string x.why) (by rw [barCs_at hx 2 (by omega)]; rfl)
    rw [e] at c0 c1 c2
    exact ⟨by simpa using c0, by simpa using c1, by simpa using c2, hok i x hx⟩
/-- the bars that Excluded makes -/
def abW : ByteArray := ⟨#[97, 98, 111, 118, 101]⟩
def beW : ByteArray := ⟨#[98, 101, 108, 111, 119]⟩
def barsL (lo hi T : Int) : List BarR := (if lo < T then [⟨lo, if hi < T - 1 then hi else T - 1, abW⟩] else []) ++ (if T ≤ hi then [⟨T, hi, beW⟩] else [])
set_option maxRecDepth 100000 in
theorem excluded_err {v : Value} {xs : List OpR} {w : World} (cl r : Int) (h : OpsV w v xs) (hE : questE xs cl r ≠ 0) :
    Calls Tryz.prog 9 #[v, .int .i64 cl, .int .i64 r] w fun e w' => e = .returned (.tuple #[.slice none 0 0, .int .i64 (questE xs cl r)]) ∧ Gr w w' := by
  obtain ⟨p, cap, rfl⟩ := opsV_slice h
  have HQ := Lib.hid (quest_c cl r h)
  have hz : (questE xs cl r == 0) = false := beq_eq_false_iff_ne.2 hE
  clear h
  generalize questE xs cl r = E at *
  generalize xs.length = n at *
  go_enter Tryz.func9, Tryz.ntmps9
  go_wp2_with fail
  refine HQ.out.mono ?_
  rintro e w1 ⟨rfl, g⟩
  go_wp2_with fail
  exact bodyPost_ret (v := .tuple #[.slice none 0 0, .int .i64 E]) (by simp [results, Tryz.results9, go_sem]) rfl ⟨rfl, g⟩
set_option maxHeartbeats 1000000 in
set_option maxRecDepth 100000 in
theorem excluded_none (hS : SortOK) {v : Value} {xs : List OpR} {w : World} (cl : Nat) (r : Int) (x : OpR) (h : OpsV w v xs) (hE : questE xs cl r = 0) (hx : xs[cl]? = some x) (h1 : xs.length ≤ 160) (hr0 : 1 ≤ r) (hr1 : r ≤ 1000) (hP : isPoss x.lo x.hi (others xs cl) r = true) :
    Calls Tryz.prog 9 #[v, .int .i64 cl, .int .i64 r] w fun e w' => e = .returned (.tuple #[.slice none 0 0, .int .i64 7]) ∧ Gr w w' := by
  have HQ := Lib.hid (quest_c (cl : Int) r h)
  rw [hE] at HQ
  have HAsk := Lib.hid (fun (W : World) (hW : Gr w W) => ask_c r (h.gr hW) (by omega) hx)
  have hlo : (others xs cl).length ≤ 1000 := by unfold others; rw [List.length_append, List.length_take, List.length_drop]; omega
  have HIs := Lib.hid (fun (u : Value) (W : World) (hu : OpsV W u (others xs cl)) => isPossible_c hS x hu hlo hr0 hr1)
  rw [hP] at HIs
  unfold qV at HIs
  obtain ⟨p, cap, rfl⟩ := opsV_slice h
  clear h hE hx hP hlo
  generalize xs.length = n at *
  go_enter Tryz.func9, Tryz.ntmps9
  go_wp2_with fail
  refine HQ.out.mono ?_
  rintro e w1 ⟨rfl, g⟩
  go_wp2_with fail
  refine (HAsk.out _ g).mono ?_
  rintro e w2 ⟨u, rfl, hu, g2⟩
  replace g := g.trans g2
  obtain ⟨p3, c3, rfl⟩ := opsV_slice hu
  obtain ⟨W, hW, gW, hQ⟩ := boxQ w2 (.string x.nm) (.int .i64 x.lo) (.int .i64 x.hi) (.slice p3 (others xs cl).length c3) (.int .i64 r) 67
  have HT := Lib.hid (HIs.out _ W (hu.gr gW))
  have HW := Lib.hid hW
  clear hW hQ hu g2
  go_wp2_with fail
  rw [HW.out]
  refine HT.out.mono ?_
  rintro e w3 ⟨rfl, g3⟩
  go_wp2_with fail
  exact bodyPost_ret (v := .tuple #[.slice none 0 0, .int .i64 7]) (by simp [results, Tryz.results9, go_sem]) rfl ⟨rfl, (g.trans gW).trans g3⟩
end Go.Proofs.YtimbcjldejifaaaGreatDoor
namespace Go.Proofs.YtimbcjldejifaaaGreatDoor
open Go.RowKit Go.Lib
set_option linter.unusedSimpArgs false
set_option linter.unusedVariables false
theorem cell_three_at (w : World) (a b c : Value) (T : TypeId) : ∀ (j : Nat) (u : Value), [a, b, c][j]? = some u → (w.alloc (.cells #[a, b, c] T)).cell? ((⟨w.heap.size, 0, none⟩ : Addr).add j) = some u := by
  intro j u h
  have e : (⟨w.heap.size, 0, none⟩ : Addr).add j = ⟨w.heap.size, j, none⟩ := by unfold Addr.add; split <;> simp_all
  rw [e]
  rcases j with _ | _ | _ | j
  · simp at h; subst h; exact cell_new w #[a, b, c] T 0 (by simp)
  · simp at h; subst h; exact cell_new w #[a, b, c] T 1 (by simp)
  · simp at h; subst h; exact cell_new w #[a, b, c] T 2 (by simp)
  · simp at h
set_option maxHeartbeats 1000000 in
set_option maxRecDepth 100000 in
theorem excluded_some (hS : SortOK) {v : Value} {xs : List OpR} {w : World} (cl : Nat) (r : Int) (x : OpR) (h : OpsV w v xs) (hE : questE xs cl r = 0) (hx : xs[cl]? = some x) (h1 : xs.length ≤ 160) (hr0 : 1 ≤ r) (hr1 : r ≤ 1000) (hP : isPoss x.lo x.hi (others xs cl) r = false) (T : Int) (hT : turnV x.lo (others xs cl) r = T) (hT0 : 0 ≤ T) (hT1 : T ≤ 99999) (hl : 0 ≤ x.lo) (hlh : x.lo ≤ x.hi) (hh : x.hi ≤ 99999) :
    Calls Tryz.prog 9 #[v, .int .i64 cl, .int .i64 r] w fun e w' => ∃ s, e = .returned (.tuple #[s, .int .i64 0]) ∧ w'.ownsRow w.heap.size 74 3 s (barsL x.lo x.hi T).length (barCs (barsL x.lo x.hi T)) ∧ Gr w w' := by
  obtain ⟨i0, hi, hz0, hz1, hz2⟩ := info_parts infoBar
  have HQ := Lib.hid (quest_c (cl : Int) r h)
  rw [hE] at HQ
  have HAsk := Lib.hid (fun (W : World) (hW : Gr w W) => ask_c r (h.gr hW) (by omega) hx)
  have hlo : (others xs cl).length ≤ 1000 := by unfold others; rw [List.length_append, List.length_take, List.length_drop]; omega
  have HIs := Lib.hid (fun (u : Value) (W : World) (hu : OpsV W u (others xs cl)) => isPossible_c hS x hu hlo hr0 hr1)
  rw [hP] at HIs
  have HTu := Lib.hid (fun (u : Value) (W : World) (hu : OpsV W u (others xs cl)) => turn_c hS x hu hlo hr0 hr1)
  have hTl := turn_ge x.lo (others xs cl) r
  rw [hT] at HTu hTl
  have HB : Hid (barsL x.lo x.hi T = (if x.lo < T then [⟨x.lo, if x.hi < T - 1 then x.hi else T - 1, abW⟩] else []) ++ (if T ≤ x.hi then [⟨T, x.hi, beW⟩] else [])) := rfl
  have hw1 : IntKind.i64.wrap (T - 1) = T - 1 := by rw [IntKind.wrap_i64]; omega
  unfold qV at HIs HTu
  obtain ⟨p, cap, rfl⟩ := opsV_slice h
  clear h hE hx hP hlo hT
  generalize xs.length = n at *
  go_enter Tryz.func9, Tryz.ntmps9
  go_wp2_with fail
  refine HQ.out.mono ?_
  rintro e w1 ⟨rfl, g⟩
  go_wp2_with fail
  refine (HAsk.out _ g).mono ?_
  rintro e w2 ⟨u, rfl, hu, g2⟩
  replace g := g.trans g2
  obtain ⟨p3, c3, rfl⟩ := opsV_slice hu
  obtain ⟨W, hW, gW, hQ⟩ := boxQ w2 (.string x.nm) (.int .i64 x.lo) (.int .i64 x.hi) (.slice p3 (others xs cl).length c3) (.int .i64 r) 67
  have HT := Lib.hid (HIs.out _ W (hu.gr gW))
  have HW := Lib.hid hW
  replace g := g.trans gW
  replace hu := hu.gr gW
  obtain ⟨r0, r1, r2, r3, r4, _⟩ := row5 hQ
  clear hW hQ g2 gW HQ HAsk HIs
  generalize (others xs cl).length = m at *
  go_wp2_with fail
  rw [HW.out]
  generalize w2.heap.size = B at *
  refine HT.out.mono ?_
  rintro e w3 ⟨rfl, g3⟩
  replace g := g.trans g3
  replace hu := hu.gr g3
  replace r0 := g3.cell r0
  replace r1 := g3.cell r1
  replace r2 := g3.cell r2
  replace r3 := g3.cell r3
  replace r4 := g3.cell r4
  clear HT HW g3
  go_wp2_with fail
  have gd := (Gr.refl w3).drew
  replace r0 := gd.cell r0
  replace r1 := gd.cell r1
  replace r2 := gd.cell r2
  replace r3 := gd.cell r3
  replace r4 := gd.cell r4
  replace hu := hu.gr gd
  replace g := g.trans gd
  clear gd
  refine wp_region_held_drew (S := (fun w' => w'.cell? ⟨B, 0, none⟩ = some (.string x.nm) ∧ w'.cell? ⟨B, 1, none⟩ = some (.int .i64 x.lo) ∧ w'.cell? ⟨B, 2, none⟩ = some (.int .i64 x.hi) ∧ w'.cell? ⟨B, 3, none⟩ = some (.slice p3 m c3) ∧ w'.cell? ⟨B, 4, none⟩ = some (.int .i64 r))) (by kernel_rfl) ⟨r0, r1, r2, r3, r4⟩ (fun hHeld => ?_)
  generalize w3.drew = V at *
  refine wpAnyH_take (i := 0) (v := (.pointer (some ⟨B, 0, none⟩))) (op_at rfl) (by kernel_rfl) (by kernel_rfl) (by kernel_rfl) (fun _ _ _ h => h) (Or.inl ⟨rfl, fun w hSw => ?_⟩) (by assumption) ?_
  · (try dsimp only at hSw); go_simp; try with_reducible rfl
  (try simp only [Act.put, List.setIfInBounds_toArray, List.set_cons_zero, List.set_cons_succ])
  refine wpAnyH_take (i := 1) (v := (.pointer (some ⟨B, 1, none⟩))) (op_at rfl) (by kernel_rfl) (by kernel_rfl) (by kernel_rfl) (fun _ _ _ h => h) (Or.inl ⟨rfl, fun w hSw => ?_⟩) (by assumption) ?_
  · (try dsimp only at hSw); go_simp; try with_reducible rfl
  (try simp only [Act.put, List.setIfInBounds_toArray, List.set_cons_zero, List.set_cons_succ])
  refine wpAnyH_take (i := 2) (v := (.int .i64 x.lo)) (op_at rfl) (by kernel_rfl) (by kernel_rfl) (by kernel_rfl) (fun _ _ _ h => h) (Or.inl ⟨rfl, fun w hSw => ?_⟩) (by assumption) ?_
  · (try dsimp only at hSw); go_simp; try with_reducible rfl
  (try simp only [Act.put, List.setIfInBounds_toArray, List.set_cons_zero, List.set_cons_succ])
  refine wpAnyH_take (i := 3) (v := (.pointer (some ⟨B, 0, none⟩))) (op_at rfl) (by kernel_rfl) (by kernel_rfl) (by kernel_rfl) (fun _ _ _ h => h) (Or.inl ⟨rfl, fun w hSw => ?_⟩) (by assumption) ?_
  · (try dsimp only at hSw); go_simp; try with_reducible rfl
  (try simp only [Act.put, List.setIfInBounds_toArray, List.set_cons_zero, List.set_cons_succ])
  refine wpAnyH_take (i := 4) (v := (.pointer (some ⟨B, 2, none⟩))) (op_at rfl) (by kernel_rfl) (by kernel_rfl) (by kernel_rfl) (fun _ _ _ h => h) (Or.inl ⟨rfl, fun w hSw => ?_⟩) (by assumption) ?_
  · (try dsimp only at hSw); go_simp; try with_reducible rfl
  (try simp only [Act.put, List.setIfInBounds_toArray, List.set_cons_zero, List.set_cons_succ])
  refine wpAnyH_take (i := 5) (v := (.int .i64 x.hi)) (op_at rfl) (by kernel_rfl) (by kernel_rfl) (by kernel_rfl) (fun _ _ _ h => h) (Or.inl ⟨rfl, fun w hSw => ?_⟩) (by assumption) ?_
  · (try dsimp only at hSw); go_simp; try with_reducible rfl
  (try simp only [Act.put, List.setIfInBounds_toArray, List.set_cons_zero, List.set_cons_succ])
  refine wpAnyH_take (i := 6) (v := (.agg #[.string x.nm, .int .i64 x.lo, .int .i64 x.hi, .slice p3 m c3, .int .i64 r])) (op_at rfl) (by kernel_rfl) (by kernel_rfl) (by kernel_rfl) (fun _ _ _ h => h) (Or.inl ⟨rfl, fun w hSw => ?_⟩) (by assumption) ?_
  · (try dsimp only at hSw); go_simp; try with_reducible rfl
  (try simp only [Act.put, List.setIfInBounds_toArray, List.set_cons_zero, List.set_cons_succ])
  refine wpAnyH_ready (rs := [7]) (by kernel_rfl) (by simp) (AllReadyH.cons (op_at rfl) (fun K hK => ?_) AllReadyH.nil)
  go_simp
  (refine (HTu.out _ _ hu).mono ?_; rintro e w4 ⟨rfl, hg⟩; replace r0 := hg.cell r0; replace r1 := hg.cell r1; replace r2 := hg.cell r2; replace r3 := hg.cell r3; replace r4 := hg.cell r4; replace hu := hu.gr hg; replace g := g.trans hg; clear hg)
  go_wp2_with fail
  refine hK.out _ _ ⟨r0, r1, r2, r3, r4⟩ (fun hHeld => ?_)
  clear hK K
  (try simp only [Act.put, List.setIfInBounds_toArray, List.set_cons_zero, List.set_cons_succ])
  refine wpAnyH_take (i := 8) (v := (.int .i64 x.lo)) (op_at rfl) (by kernel_rfl) (by kernel_rfl) (by kernel_rfl) (fun _ _ _ h => h) (Or.inl ⟨rfl, fun w hSw => ?_⟩) (by assumption) ?_
  · (try dsimp only at hSw); go_simp; try with_reducible rfl
  (try simp only [Act.put, List.setIfInBounds_toArray, List.set_cons_zero, List.set_cons_succ])
  refine wpAnyH_take (i := 9) (v := (.int .i64 x.hi)) (op_at rfl) (by kernel_rfl) (by kernel_rfl) (by kernel_rfl) (fun _ _ _ h => h) (Or.inl ⟨rfl, fun w hSw => ?_⟩) (by assumption) ?_
  · (try dsimp only at hSw); go_simp; try with_reducible rfl
  (try simp only [Act.put, List.setIfInBounds_toArray, List.set_cons_zero, List.set_cons_succ])
  refine wpAnyH_take (i := 10) (v := (.int .i64 T)) (op_at rfl) (by kernel_rfl) (by kernel_rfl) (by kernel_rfl) (fun _ _ _ h => h) (Or.inl ⟨rfl, fun w hSw => ?_⟩) (by assumption) ?_
  · (try dsimp only at hSw); go_simp; try with_reducible rfl
  (try simp only [Act.put, List.setIfInBounds_toArray, List.set_cons_zero, List.set_cons_succ])
  refine wpAnyH_done (by kernel_rfl) ?_ _
  have hsz4 := g.size
  by_cases hlt : x.lo < T
  · by_cases hle : T ≤ x.hi
    · rw [if_pos hlt, if_pos hle, if_neg (show ¬ x.hi < T - 1 by omega)] at HB
      go_wp2_with (first
        | (at_builtin; refine wpList_append_own _ rfl _ _ 39 rfl w.heap.size 74 i0 (.agg #[.int .i64 0, .int .i64 0, .string ⟨#[]⟩]) 3 32 Tryz.underlying39 hi hz0 hz1 hz2 rfl (by decide) v1 1 _ rfl (hown1.alloc _) ⟨w5.heap.size, 0, none⟩ 1 1 [.int .i64 T, .int .i64 x.hi, .string ⟨#[98, 101, 108, 111, 119]⟩] rfl rfl (cell_three_at _ _ _ _ _) (by intro u hu; simp at hu; rcases hu with rfl | rfl | rfl <;> rfl) (by unfold maxLen; omega) (by omega) (by simp; omega) ?_; intro v2 w6 hown2 hgrow2 hnil2)
        | (at_builtin; refine wpList_append_own _ rfl _ _ 39 rfl w.heap.size 74 i0 (.agg #[.int .i64 0, .int .i64 0, .string ⟨#[]⟩]) 3 32 Tryz.underlying39 hi hz0 hz1 hz2 rfl (by decide) (.slice none 0 0) 0 [] rfl (World.ownsRow_nil _ _ _ _) ⟨w4.heap.size, 0, none⟩ 1 1 [.int .i64 x.lo, .int .i64 (T - 1), .string ⟨#[97, 98, 111, 118, 101]⟩] rfl rfl (cell_three_at _ _ _ _ _) (by intro u hu; simp at hu; rcases hu with rfl | rfl | rfl <;> rfl) (by unfold maxLen; omega) (by omega) (by simp; omega) ?_; intro v1 w5 hown1 hgrow1 hnil1; have gA : Gr w w5 := (Below.alloc g hsz4 _).grown hgrow1 (by simp; omega) (fun j hj => by cases hj); have hsz5 := gA.size))
      have gB : Gr w w6 := (Below.alloc gA hsz5 _).grown hgrow2 (by simp; omega) (fun j hj => (hown1.lt j hj).1)
      all_goals exact bodyPost_ret (v := .tuple #[v2, .int .i64 0]) (by simp [results, Tryz.results9, go_sem]) rfl ⟨v2, rfl, by rw [HB.out]; simpa [barCs, barC, abW, beW] using hown2, gB⟩
    · rw [if_pos hlt, if_neg hle] at HB
      go_wp2_with (first
        | (at_builtin; refine wpList_append_own _ rfl _ _ 39 rfl w.heap.size 74 i0 (.agg #[.int .i64 0, .int .i64 0, .string ⟨#[]⟩]) 3 32 Tryz.underlying39 hi hz0 hz1 hz2 rfl (by decide) (.slice none 0 0) 0 [] rfl (World.ownsRow_nil _ _ _ _) ⟨w4.heap.size, 0, none⟩ 1 1 [.int .i64 x.lo, .int .i64 (if x.hi < T - 1 then x.hi else T - 1), .string ⟨#[97, 98, 111, 118, 101]⟩] rfl rfl (cell_three_at _ _ _ _ _) (by intro u hu; simp at hu; rcases hu with rfl | rfl | rfl <;> rfl) (by unfold maxLen; omega) (by omega) (by simp; omega) ?_; intro v1 w5 hown1 hgrow1 hnil1; have gA : Gr w w5 := (Below.alloc g hsz4 _).grown hgrow1 (by simp; omega) (fun j hj => by cases hj); have hsz5 := gA.size))
      all_goals exact bodyPost_ret (v := .tuple #[v1, .int .i64 0]) (by simp [results, Tryz.results9, go_sem]) rfl ⟨v1, rfl, by rw [HB.out]; simpa [barCs, barC, abW, beW] using hown1, gA⟩
  · have hle : T ≤ x.hi := by omega
    · rw [if_neg hlt, if_pos hle] at HB
      go_wp2_with (first
        | (at_builtin; refine wpList_append_own _ rfl _ _ 39 rfl w.heap.size 74 i0 (.agg #[.int .i64 0, .int .i64 0, .string ⟨#[]⟩]) 3 32 Tryz.underlying39 hi hz0 hz1 hz2 rfl (by decide) (.slice none 0 0) 0 [] rfl (World.ownsRow_nil _ _ _ _) ⟨w4.heap.size, 0, none⟩ 1 1 [.int .i64 T, .int .i64 x.hi, .string ⟨#[98, 101, 108, 111, 119]⟩] rfl rfl (cell_three_at _ _ _ _ _) (by intro u hu; simp at hu; rcases hu with rfl | rfl | rfl <;> rfl) (by unfold maxLen; omega) (by omega) (by simp; omega) ?_; intro v1 w5 hown1 hgrow1 hnil1; have gA : Gr w w5 := (Below.alloc g hsz4 _).grown hgrow1 (by simp; omega) (fun j hj => by cases hj); have hsz5 := gA.size))
      all_goals exact bodyPost_ret (v := .tuple #[v1, .int .i64 0]) (by simp [results, Tryz.results9, go_sem]) rfl ⟨v1, rfl, by rw [HB.out]; simpa [barCs, barC, abW, beW] using hown1, gA⟩
end Go.Proofs.YtimbcjldejifaaaGreatDoor
