/- Races: whether one shares a climber with others. -/
import Derived.Test.YthfmgficbnmmnaaGreatDoorRdG
namespace Go.Proofs.YthfmgficbnmmnaaGreatDoor
open Go.RowKit Go.Shelf
set_option linter.unusedSimpArgs false
set_option linter.unusedVariables false
attribute [local go_sem] Oper.semAt_some
theorem climbers_stops (Bl n : Nat) (p : Option Addr) (c : Nat) (l : List RaR) (hl : l.length = n) (hn : n ≤ 1000) (hc : n ≤ c) (Kp : World → World → Prop) (hKp : KpCl Kp p l) (w : World)
    (hs : w.cell? ⟨Bl, 0, none⟩ = some (.slice p n c)) (hr : RaS w p l) :
    SeqStopsK Fence.wide 3 Tryz.prog 91 #[.pointer (some ⟨Bl, 0, none⟩)] (fun y : RaR × Int => #[raV y.1, .int .i64 y.2]) Kp (IsCl l) (fun pre => pre <+: clL l) (2 * n) w := fun lp J Jx W hW hJ hJx hY h0 =>
  climbers_in lp Bl n p c l hl hn hc Kp hKp J Jx W (fun s A B h g => hJ s A B none h (gr_grown6 g) (fun r e => by cases e)) hY (Gr.cell hW hs) (hr.gr hW) h0
theorem climbers_c (p : Option Addr) (n c : Nat) (w : World) :
    Calls Tryz.prog 48 #[.slice p n c] w fun e w' => e = .returned (.func (.func 91) #[] #[.pointer (some ⟨w.heap.size, 0, none⟩)]) ∧ w' = w.alloc (.cells #[.slice p n c] 30) := by
  go_enter Tryz.func48, Tryz.ntmps48
  go_wp2_with fail
  go_ret
  exact ⟨rfl, rfl⟩
/-- whatever is cells stays -/
def KpAll (A B : World) : Prop := ∀ (k : Nat) (cur : Array Value) T z, A.heap[k]? = some (.cells cur T z) → B.heap[k]? = some (.cells cur T z)
theorem kpAll_t {A B C : World} (h : KpAll A B) (k : KpAll B C) : KpAll A C := fun i cur T z hi => k i cur T z (h i cur T z hi)
theorem kpAll_gr {A B : World} (h : Gr A B) : KpAll A B := fun k cur T z hk => Gr.block h hk
theorem kpAll_putObj (W : World) (l : Nat) (o o' : Obj) (h : W.heap[l]? = some o) (ho : o.isCells = false) : KpAll W (W.putObj l o') := fun k cur T z hk => by
  by_cases e : k = l
  · subst e; rw [hk] at h; cases h; cases ho
  · exact (World.putObj_heap_other e).trans hk
theorem kpAll_cell {A B : World} (h : KpAll A B) {b o : Nat} {v : Value} (hc : A.cell? ⟨b, o, none⟩ = some v) : B.cell? ⟨b, o, none⟩ = some v := by
  obtain ⟨cur, T, z, hb⟩ : ∃ cur T z, A.heap[b]? = some (.cells cur T z) := by
    unfold World.cell? at hc
    split at hc
    · rename_i cur T z hb; exact ⟨cur, T, z, hb⟩
    · cases hc
  exact (World.cell?_of_block (a := ⟨b, o, none⟩) ((h b cur T z hb).trans hb.symm)).trans hc
theorem kpAll_ra {A B : World} (h : KpAll A B) {p : Option Addr} {l : List RaR} (hr : RaS A p l) : RaS B p l := ⟨fun h0 => by
  obtain ⟨b, off, e, hc⟩ := hr.out h0
  exact ⟨b, off, e, fun i r hx => ⟨kpAll_cell h (hc i r hx).1, kpAll_cell h (hc i r hx).2.1, kpAll_cell h (hc i r hx).2.2⟩⟩⟩
theorem kpAll_cl (p : Option Addr) (l : List RaR) : KpCl KpAll p l := ⟨fun A B h hr => kpAll_ra h hr, fun A B h k cur z hk => (h k cur _ z hk).trans hk.symm⟩
/-- this climber is in the race of these names -/
def hitC (ra rb : ByteArray) (y : RaR × Int) : Bool := (inR y.1 y.2).toList == ra.toList || (inR y.1 y.2).toList == rb.toList
/-- a race of these names shares a climber with others -/
def sharesB (ra rb : ByteArray) (l : List RaR) : Bool := (clL l).any (hitC ra rb)
theorem shares_yes {ra rb : ByteArray} {l : List RaR} {pre : List (RaR × Int)} (h : pre <+: clL l) (hy : pre.any (hitC ra rb) = true) : sharesB ra rb l = true := by
  obtain ⟨t, ht⟩ := h
  rw [sharesB, ← ht, List.any_append, hy, Bool.true_or]
/-- the boxes of the function -/
structure ShI (X : Nat) (ra rb : ByteArray) (rw : Int) (b : Bool) (W : World) : Prop where
  mk' ::
  x0 : W.cell? ⟨X, 0, none⟩ = some (.string ra)
  x1 : W.cell? ⟨X, 1, none⟩ = some (.string rb)
  cell : W.cell? ⟨X + 1, 0, none⟩ = some (.bool b)
  frozen : W.frozen? ⟨X + 1, 0, none⟩ = false
theorem ShI.own {X : Nat} {ra rb : ByteArray} {rw : Int} {b : Bool} {β : Type} : Own (fun (_ : β) W => ShI X ra rb rw b W) := fun s A B row hs hg hr => ⟨cell_kept hs.x0 hg hr, cell_kept hs.x1 hg hr, cell_kept hs.cell hg hr, (frozen_kept hs.cell hg hr).trans hs.frozen⟩
/-- the block of the loop's variable -/
structure VarAt (k : Nat) (W : World) (r : RaR) : Prop where
  mk' ::
  out : W.heap[k]? = some (.cells #[.string r.a, .string r.b, .int .i64 r.w] 55 (0, 0))
theorem VarAt.own {k : Nat} {r : RaR} {β : Type} : Own (fun (_ : β) W => VarAt k W r) := fun s A B row hs hg hr => ⟨(hg.block k (Array.getElem?_eq_some_iff.1 hs.out).1 (fun e => by obtain ⟨o, ho, hc⟩ := hr k e.symm; rw [hs.out] at ho; cases ho; cases hc)).trans hs.out⟩
set_option maxHeartbeats 4000000 in
set_option maxRecDepth 100000 in
theorem shares_c {l : List RaR} {p : Option Addr} {n c : Nat} {w : World} (ra rb : ByteArray) (rw : Int) (h : RaS w p l) (hl : l.length = n) (hn : n ≤ 1000) (hc : n ≤ c) :
    Calls Tryz.prog 135 #[.agg #[.string ra, .string rb, .int .i64 rw], .slice p n c] w fun e w' => e = .returned (.bool (sharesB ra rb l)) ∧ Gr w w' := by
  have HR := Lib.hid h
  have HL := Lib.hid hl
  clear h hl
  obtain ⟨W1, hW1, g1, a0, a1, a2⟩ := box3 w (.string ra) (.string rb) (.int .i64 rw) 55
  have hs1 : W1.heap.size = w.heap.size + 1 := by rw [← hW1]; simp
  obtain ⟨W2, hW2, g2, b0⟩ := box1 W1 (.bool false) 4
  have hs2 : W2.heap.size = w.heap.size + 2 := by rw [← hW2]; simp [hs1]
  have hf2 : W2.frozen? ⟨w.heap.size + 1, 0, none⟩ = false := by rw [← hW2, ← hs1]; exact frozen_of_row _ _ 0 #[.bool false] 4 (heap_alloc_new W1 _)
  rw [hs1] at b0
  have HW1 := Lib.hid hW1
  have HW2 := Lib.hid hW2
  clear hW1 hW2
  refine (callsIn_wide (n := 4)).1 ?_
  refine callsIn_of_wp_marks Tryz.func135 rfl trivial ?_ rfl
  simp only [Tryz.ntmps135, List.size_toArray, List.length_cons, List.length_nil, Nat.reduceAdd, Nat.reduceSub, Array.replicate_succ, Array.replicate_zero, List.push_toArray, List.append_toArray, List.nil_append, List.cons_append]
  gi_wp2_with fail
  rw [HW1.out, HW2.out]
  refine ⟨trivial, ?_⟩
  gi_at_call 48
  refine (callsIn_wide.2 (climbers_c p n c W2)).mono ?_
  rintro e W5 ⟨rfl, hW5⟩
  obtain ⟨W0, hW0, g5, s5⟩ := box1 W2 (.slice p n c) 30
  obtain rfl : W0 = W5 := hW0.symm.trans hW5.symm
  rw [hs2] at s5 ⊢
  have HSZ : Hid (W0.heap.size = w.heap.size + 3) := by rw [Hid, ← hW0]; simp [hs2]
  have hB5 : Gr w W0 := (g1.trans g2).trans g5
  have X0 := Lib.hid (Gr.cell (Gr.trans g2 g5) a0)
  have X1 := Lib.hid (Gr.cell (Gr.trans g2 g5) a1)
  have X2 := Lib.hid (Gr.cell g5 b0)
  have X3 : Hid (W0.frozen? ⟨w.heap.size + 1, 0, none⟩ = false) := (Below.frozen g5 (p := ⟨w.heap.size + 1, 0, none⟩) (by show w.heap.size + 1 < _; omega)).trans hf2
  have HB5 := Lib.hid hB5
  have HS5 := Lib.hid s5
  have HR0 := Lib.hid (HR.out.gr hB5)
  clear HW1 HW2 hW5 hW0 s5 hB5 a0 a1 a2 b0 hf2 g1 g2 g5 hs1 hs2
  gi_wp2_with fail
  have hsz := HSZ.out
  refine wpIn_rangeFunc_ownH rfl (by decide) (gf := 91) (lb := #[.pointer (some ⟨w.heap.size + 2, 0, none⟩)]) rfl trivial (enters_of Tryz.func91 (by kernel_rfl) rfl)
    (climbers_stops (w.heap.size + 2) n p c l HL.out hn hc KpAll (kpAll_cl p l) W0 HS5.out HR0.out)
    kpAll_t (fun W l o o' _ h1 h2 _ => kpAll_putObj W l o o' h1 h2) (Below.refl _ _) (fun _ => rfl)
    (fun pre W => ShI w.heap.size ra rb rw false W ∧ Below w.heap.size w W ∧ pre.any (hitC ra rb) = false)
    (fun c pre W => c = .ret ∧ ShI w.heap.size ra rb rw true W ∧ Below w.heap.size w W ∧ pre.any (hitC ra rb) = true)
    (OwnFrom.and (Own.from ShI.own _) (OwnFrom.and (ownFrom_below (Nat.le_refl _) (Below.size HB5.out)) (ownFrom_pure _ _)))
    (fun c => OwnFrom.and (ownFrom_pure _ _) (OwnFrom.and (Own.from ShI.own _) (OwnFrom.and (ownFrom_below (Nat.le_refl _) (Below.size HB5.out)) (ownFrom_pure _ _))))
    ⟨⟨X0.out, X1.out, X2.out, X3.out⟩, HB5.out, rfl⟩
    (fun y a' W => ∃ k, a' = ({ tmps := #[.agg #[.string ra, .string rb, .int .i64 rw], .slice p n c, .pointer (some ⟨w.heap.size, 0, none⟩), undef, .pointer (some ⟨w.heap.size + 1, 0, none⟩), .pointer (some ⟨k, 0, none⟩), .int .i64 y.2, .slice p n c, .func (.func 91) #[] #[.pointer (some ⟨w.heap.size + 2, 0, none⟩)], raV y.1, .int .i64 y.2, undef, undef, undef, undef, undef, undef, undef, undef, undef, undef, undef, undef, undef, undef], defers := [] } : Act) ∧ VarAt k W y.1)
    (fun y a' => fun _ A B row hs hg hr => by
      obtain ⟨k, h1, h2⟩ := hs
      exact ⟨k, h1, VarAt.own () A B row h2 hg (fun r e => (hr r e).2)⟩)
    ?assign ?body ?done ?stop
  case assign =>
    rintro lp pre ⟨⟨ya, yb, yw⟩, lane⟩ W K ⟨hI, hB, hP⟩ hK
    obtain ⟨W6, hW6, g6, c0, c1, c2⟩ := box3 W (.string ya) (.string yb) (.int .i64 yw) 55
    have HK : Hid (K ({ tmps := #[.agg #[.string ra, .string rb, .int .i64 rw], .slice p n c, .pointer (some ⟨w.heap.size, 0, none⟩), undef, .pointer (some ⟨w.heap.size + 1, 0, none⟩), .pointer (some ⟨W.heap.size, 0, none⟩), .int .i64 lane, .slice p n c, .func (.func 91) #[] #[.pointer (some ⟨w.heap.size + 2, 0, none⟩)], raV ⟨ya, yb, yw⟩, .int .i64 lane, undef, undef, undef, undef, undef, undef, undef, undef, undef, undef, undef, undef, undef, undef], defers := [] } : Act) W6) := by
      have hv : VarAt W.heap.size W6 ⟨ya, yb, yw⟩ := ⟨by rw [← hW6]; exact heap_alloc_new W _⟩
      exact hK _ _ ((gr_others g6).from _) (kpAll_gr g6) ⟨ShI.own (β := Unit) () W W6 none hI (gr_grown6 g6) (fun r e => by cases e), hB.trans (Below.mono g6 (Below.size hB)), hP⟩ ⟨_, rfl, hv⟩
    have HW6 := Lib.hid hW6
    unfold raV
    clear hK hI hB hP hW6
    simp only [raV] at HK
    gi_wp2
    rw [HW6.out]
    exact HK.out
  case body =>
    rintro lp pre ⟨⟨ya, yb, yw⟩, lane⟩ a' W _ _ ⟨⟨x0, x1, x2, x3⟩, hB, hP⟩ ⟨k, rfl, ⟨hV⟩⟩ _
    obtain ⟨k0, k1, k2⟩ := cells3_of hV
    have HI : Hid (∀ V, Calls Tryz.prog 46 #[.agg #[.string ya, .string yb, .int .i64 yw], .int .i64 lane] V fun e w' => e = .returned (.string (inR ⟨ya, yb, yw⟩ lane)) ∧ Gr V w') := fun V => inR_c ⟨ya, yb, yw⟩ lane V
    have hH : hitC ra rb (RaR.mk ya yb yw, lane) = ((inR ⟨ya, yb, yw⟩ lane).toList == ra.toList || (inR ⟨ya, yb, yw⟩ lane).toList == rb.toList) := rfl
    have HPP : Hid ((pre ++ [(RaR.mk ya yb yw, lane)]).any (hitC ra rb) = hitC ra rb (RaR.mk ya yb yw, lane)) := by rw [Hid, List.any_append, hP]; simp
    have gd := (Gr.refl W).drew
    obtain ⟨X, hX⟩ : ∃ X, w.heap.size = X := ⟨_, rfl⟩
    have HXX := Lib.hid hX
    have HWX : Hid (X + 1 < W.heap.size) := by have := World.block_lt_of_cell? W ⟨w.heap.size + 1, 0, none⟩ x2; rw [Hid, ← hX]; exact this
    rw [hX] at x0 x1 x2 x3 hB
    rw [hX]
    have HBB := Lib.hid hB
    generalize inR ⟨ya, yb, yw⟩ lane = nm at *
    generalize hitC ra rb (RaR.mk ya yb yw, lane) = hh at *
    unfold raV
    clear hV hP hX hB
    cases h1 : (nm.toList == ra.toList)
    · cases h2 : (nm.toList == rb.toList)
      · rw [h1, h2] at hH
        simp only [Bool.false_or] at hH
        subst hH
        gi_wp2
        refine wpIn_region_round (S := (fun w' => w'.cell? ⟨k, 0, none⟩ = some (.string ya) ∧ w'.cell? ⟨k, 1, none⟩ = some (.string yb) ∧ w'.cell? ⟨k, 2, none⟩ = some (.int .i64 yw) ∧ w'.cell? ⟨X, 0, none⟩ = some (.string ra) ∧ w'.cell? ⟨X, 1, none⟩ = some (.string rb))) (fun h9 => by obtain ⟨a9, w9, h9⟩ := h9; exact h9) (noDefer (by kernel_rfl)) (by kernel_rfl) ⟨gd.cell k0, gd.cell k1, gd.cell k2, gd.cell x0, gd.cell x1⟩ (fun hHeld => ?_)
        replace k0 := gd.cell k0
        replace k1 := gd.cell k1
        replace k2 := gd.cell k2
        replace x0 := gd.cell x0
        replace x1 := gd.cell x1
        have gv := gd
        generalize W.drew = V at gv k0 k1 k2 x0 x1 hHeld ⊢
        refine wpAnyH_take (i := 0) (v := (.agg #[.string ya, .string yb, .int .i64 yw])) (op_at rfl) (by kernel_rfl) (by kernel_rfl) (by kernel_rfl) (fun _ _ _ h => h) (Or.inl ⟨rfl, fun w hSw => ?_⟩) (by assumption) ?_
        · (try dsimp only at hSw); go_simp; try with_reducible rfl
        (try simp only [Act.put, List.setIfInBounds_toArray, List.set_cons_zero, List.set_cons_succ])
        refine wpAnyH_take (i := 1) (v := (.int .i64 lane)) (op_at rfl) (by kernel_rfl) (by kernel_rfl) (by kernel_rfl) (fun _ _ _ h => h) (Or.inl ⟨rfl, fun w hSw => ?_⟩) (by assumption) ?_
        · (try dsimp only at hSw); go_simp; try with_reducible rfl
        (try simp only [Act.put, List.setIfInBounds_toArray, List.set_cons_zero, List.set_cons_succ])
        refine wpAnyH_take (i := 3) (v := (.pointer (some ⟨X, 0, none⟩))) (op_at rfl) (by kernel_rfl) (by kernel_rfl) (by kernel_rfl) (fun _ _ _ h => h) (Or.inl ⟨rfl, fun w hSw => ?_⟩) (by assumption) ?_
        · (try dsimp only at hSw); go_simp; try with_reducible rfl
        (try simp only [Act.put, List.setIfInBounds_toArray, List.set_cons_zero, List.set_cons_succ])
        refine wpAnyH_take (i := 4) (v := (.string ra)) (op_at rfl) (by kernel_rfl) (by kernel_rfl) (by kernel_rfl) (fun _ _ _ h => h) (Or.inl ⟨rfl, fun w hSw => ?_⟩) (by assumption) ?_
        · (try dsimp only at hSw); go_simp; try with_reducible rfl
        (try simp only [Act.put, List.setIfInBounds_toArray, List.set_cons_zero, List.set_cons_succ])
        refine wpAnyH_ready (rs := [2]) (by kernel_rfl) (by simp) (AllReadyH.cons (op_at rfl) (fun K hK => ?_) AllReadyH.nil)
        go_simp
        (refine (HI.out _).mono ?_; rintro e V1 ⟨rfl, hg⟩; replace k0 := Gr.cell hg k0; replace k1 := Gr.cell hg k1; replace k2 := Gr.cell hg k2; replace x0 := Gr.cell hg x0; replace x1 := Gr.cell hg x1; replace gv := Gr.trans gv hg; clear hg)
        go_wp2_with fail
        refine hK.out _ _ ⟨k0, k1, k2, x0, x1⟩ (fun hHeld => ?_)
        clear hK K
        (try simp only [Act.put, List.setIfInBounds_toArray, List.set_cons_zero, List.set_cons_succ])
        refine wpAnyH_take (i := 5) (v := (.bool false)) (op_at rfl) (by kernel_rfl) (by kernel_rfl) (by kernel_rfl) (fun _ _ _ h => h) (Or.inl ⟨rfl, fun w hSw => ?_⟩) (by assumption) ?_
        · (try dsimp only at hSw); go_simp; try with_reducible rfl
        (try simp only [Act.put, List.setIfInBounds_toArray, List.set_cons_zero, List.set_cons_succ])
        refine wpAnyH_take (i := 6) (v := (.bool false)) (op_at rfl) (by kernel_rfl) (by kernel_rfl) (by kernel_rfl) (fun _ _ _ h => h) (Or.inl ⟨rfl, fun w hSw => ?_⟩) (by assumption) ?_
        · (try dsimp only at hSw); go_simp; try with_reducible rfl
        (try simp only [Act.put, List.setIfInBounds_toArray, List.set_cons_zero, List.set_cons_succ])
        refine wpAnyH_take (i := 7) (v := (.agg #[.string ya, .string yb, .int .i64 yw])) (op_at rfl) (by kernel_rfl) (by kernel_rfl) (by kernel_rfl) (fun _ _ _ h => h) (Or.inl ⟨rfl, fun w hSw => ?_⟩) (by assumption) ?_
        · (try dsimp only at hSw); go_simp; try with_reducible rfl
        (try simp only [Act.put, List.setIfInBounds_toArray, List.set_cons_zero, List.set_cons_succ])
        refine wpAnyH_take (i := 8) (v := (.int .i64 lane)) (op_at rfl) (by kernel_rfl) (by kernel_rfl) (by kernel_rfl) (fun _ _ _ h => h) (Or.inl ⟨rfl, fun w hSw => ?_⟩) (by assumption) ?_
        · (try dsimp only at hSw); go_simp; try with_reducible rfl
        (try simp only [Act.put, List.setIfInBounds_toArray, List.set_cons_zero, List.set_cons_succ])
        refine wpAnyH_take (i := 10) (v := (.pointer (some ⟨X, 1, none⟩))) (op_at rfl) (by kernel_rfl) (by kernel_rfl) (by kernel_rfl) (fun _ _ _ h => h) (Or.inl ⟨rfl, fun w hSw => ?_⟩) (by assumption) ?_
        · (try dsimp only at hSw); go_simp; try with_reducible rfl
        (try simp only [Act.put, List.setIfInBounds_toArray, List.set_cons_zero, List.set_cons_succ])
        refine wpAnyH_take (i := 11) (v := (.string rb)) (op_at rfl) (by kernel_rfl) (by kernel_rfl) (by kernel_rfl) (fun _ _ _ h => h) (Or.inl ⟨rfl, fun w hSw => ?_⟩) (by assumption) ?_
        · (try dsimp only at hSw); go_simp; try with_reducible rfl
        (try simp only [Act.put, List.setIfInBounds_toArray, List.set_cons_zero, List.set_cons_succ])
        refine wpAnyH_ready (rs := [9]) (by kernel_rfl) (by simp) (AllReadyH.cons (op_at rfl) (fun K hK => ?_) AllReadyH.nil)
        go_simp
        (refine (HI.out _).mono ?_; rintro e V2 ⟨rfl, hg⟩; replace k0 := Gr.cell hg k0; replace k1 := Gr.cell hg k1; replace k2 := Gr.cell hg k2; replace x0 := Gr.cell hg x0; replace x1 := Gr.cell hg x1; replace gv := Gr.trans gv hg; clear hg)
        go_wp2_with fail
        refine hK.out _ _ ⟨k0, k1, k2, x0, x1⟩ (fun hHeld => ?_)
        clear hK K
        (try simp only [Act.put, List.setIfInBounds_toArray, List.set_cons_zero, List.set_cons_succ])
        refine wpAnyH_take (i := 12) (v := (.bool false)) (op_at rfl) (by kernel_rfl) (by kernel_rfl) (by kernel_rfl) (fun _ _ _ h => h) (Or.inl ⟨rfl, fun w hSw => ?_⟩) (by assumption) ?_
        · (try dsimp only at hSw); go_simp; try with_reducible rfl
        (try simp only [Act.put, List.setIfInBounds_toArray, List.set_cons_zero, List.set_cons_succ])
        refine wpAnyH_take (i := 13) (v := (.bool false)) (op_at rfl) (by kernel_rfl) (by kernel_rfl) (by kernel_rfl) (fun _ _ _ h => h) (Or.inl ⟨rfl, fun w hSw => ?_⟩) (by assumption) ?_
        · (try dsimp only at hSw); go_simp; try with_reducible rfl
        (try simp only [Act.put, List.setIfInBounds_toArray, List.set_cons_zero, List.set_cons_succ])
        refine wpAnyH_done (by kernel_rfl) ?_ _
        have q2 := Gr.cell gv x2
        have q3 := (Below.frozen gv (p := ⟨X + 1, 0, none⟩) HWX.out).trans x3
        have HB9 := Lib.hid (HBB.out.trans (Below.mono gv (by have := HWX.out; omega)))
        have GV := Lib.hid gv
        clear gv gd x2 x3
        gi_wp2
        refine ⟨(gr_others GV.out).from _, kpAll_gr GV.out, ?_, HB9.out, HPP.out⟩
        exact ⟨x0, x1, q2, q3⟩
      · rw [h1, h2] at hH
        simp only [Bool.false_or] at hH
        subst hH
        gi_wp2
        refine wpIn_region_round (S := (fun w' => w'.cell? ⟨k, 0, none⟩ = some (.string ya) ∧ w'.cell? ⟨k, 1, none⟩ = some (.string yb) ∧ w'.cell? ⟨k, 2, none⟩ = some (.int .i64 yw) ∧ w'.cell? ⟨X, 0, none⟩ = some (.string ra) ∧ w'.cell? ⟨X, 1, none⟩ = some (.string rb))) (fun h9 => by obtain ⟨a9, w9, h9⟩ := h9; exact h9) (noDefer (by kernel_rfl)) (by kernel_rfl) ⟨gd.cell k0, gd.cell k1, gd.cell k2, gd.cell x0, gd.cell x1⟩ (fun hHeld => ?_)
        replace k0 := gd.cell k0
        replace k1 := gd.cell k1
        replace k2 := gd.cell k2
        replace x0 := gd.cell x0
        replace x1 := gd.cell x1
        have gv := gd
        generalize W.drew = V at gv k0 k1 k2 x0 x1 hHeld ⊢
        refine wpAnyH_take (i := 0) (v := (.agg #[.string ya, .string yb, .int .i64 yw])) (op_at rfl) (by kernel_rfl) (by kernel_rfl) (by kernel_rfl) (fun _ _ _ h => h) (Or.inl ⟨rfl, fun w hSw => ?_⟩) (by assumption) ?_
        · (try dsimp only at hSw); go_simp; try with_reducible rfl
        (try simp only [Act.put, List.setIfInBounds_toArray, List.set_cons_zero, List.set_cons_succ])
        refine wpAnyH_take (i := 1) (v := (.int .i64 lane)) (op_at rfl) (by kernel_rfl) (by kernel_rfl) (by kernel_rfl) (fun _ _ _ h => h) (Or.inl ⟨rfl, fun w hSw => ?_⟩) (by assumption) ?_
        · (try dsimp only at hSw); go_simp; try with_reducible rfl
        (try simp only [Act.put, List.setIfInBounds_toArray, List.set_cons_zero, List.set_cons_succ])
        refine wpAnyH_take (i := 3) (v := (.pointer (some ⟨X, 0, none⟩))) (op_at rfl) (by kernel_rfl) (by kernel_rfl) (by kernel_rfl) (fun _ _ _ h => h) (Or.inl ⟨rfl, fun w hSw => ?_⟩) (by assumption) ?_
        · (try dsimp only at hSw); go_simp; try with_reducible rfl
        (try simp only [Act.put, List.setIfInBounds_toArray, List.set_cons_zero, List.set_cons_succ])
        refine wpAnyH_take (i := 4) (v := (.string ra)) (op_at rfl) (by kernel_rfl) (by kernel_rfl) (by kernel_rfl) (fun _ _ _ h => h) (Or.inl ⟨rfl, fun w hSw => ?_⟩) (by assumption) ?_
        · (try dsimp only at hSw); go_simp; try with_reducible rfl
        (try simp only [Act.put, List.setIfInBounds_toArray, List.set_cons_zero, List.set_cons_succ])
        refine wpAnyH_ready (rs := [2]) (by kernel_rfl) (by simp) (AllReadyH.cons (op_at rfl) (fun K hK => ?_) AllReadyH.nil)
        go_simp
        (refine (HI.out _).mono ?_; rintro e V1 ⟨rfl, hg⟩; replace k0 := Gr.cell hg k0; replace k1 := Gr.cell hg k1; replace k2 := Gr.cell hg k2; replace x0 := Gr.cell hg x0; replace x1 := Gr.cell hg x1; replace gv := Gr.trans gv hg; clear hg)
        go_wp2_with fail
        refine hK.out _ _ ⟨k0, k1, k2, x0, x1⟩ (fun hHeld => ?_)
        clear hK K
        (try simp only [Act.put, List.setIfInBounds_toArray, List.set_cons_zero, List.set_cons_succ])
        refine wpAnyH_take (i := 5) (v := (.bool false)) (op_at rfl) (by kernel_rfl) (by kernel_rfl) (by kernel_rfl) (fun _ _ _ h => h) (Or.inl ⟨rfl, fun w hSw => ?_⟩) (by assumption) ?_
        · (try dsimp only at hSw); go_simp; try with_reducible rfl
        (try simp only [Act.put, List.setIfInBounds_toArray, List.set_cons_zero, List.set_cons_succ])
        refine wpAnyH_take (i := 6) (v := (.bool false)) (op_at rfl) (by kernel_rfl) (by kernel_rfl) (by kernel_rfl) (fun _ _ _ h => h) (Or.inl ⟨rfl, fun w hSw => ?_⟩) (by assumption) ?_
        · (try dsimp only at hSw); go_simp; try with_reducible rfl
        (try simp only [Act.put, List.setIfInBounds_toArray, List.set_cons_zero, List.set_cons_succ])
        refine wpAnyH_take (i := 7) (v := (.agg #[.string ya, .string yb, .int .i64 yw])) (op_at rfl) (by kernel_rfl) (by kernel_rfl) (by kernel_rfl) (fun _ _ _ h => h) (Or.inl ⟨rfl, fun w hSw => ?_⟩) (by assumption) ?_
        · (try dsimp only at hSw); go_simp; try with_reducible rfl
        (try simp only [Act.put, List.setIfInBounds_toArray, List.set_cons_zero, List.set_cons_succ])
        refine wpAnyH_take (i := 8) (v := (.int .i64 lane)) (op_at rfl) (by kernel_rfl) (by kernel_rfl) (by kernel_rfl) (fun _ _ _ h => h) (Or.inl ⟨rfl, fun w hSw => ?_⟩) (by assumption) ?_
        · (try dsimp only at hSw); go_simp; try with_reducible rfl
        (try simp only [Act.put, List.setIfInBounds_toArray, List.set_cons_zero, List.set_cons_succ])
        refine wpAnyH_take (i := 10) (v := (.pointer (some ⟨X, 1, none⟩))) (op_at rfl) (by kernel_rfl) (by kernel_rfl) (by kernel_rfl) (fun _ _ _ h => h) (Or.inl ⟨rfl, fun w hSw => ?_⟩) (by assumption) ?_
        · (try dsimp only at hSw); go_simp; try with_reducible rfl
        (try simp only [Act.put, List.setIfInBounds_toArray, List.set_cons_zero, List.set_cons_succ])
        refine wpAnyH_take (i := 11) (v := (.string rb)) (op_at rfl) (by kernel_rfl) (by kernel_rfl) (by kernel_rfl) (fun _ _ _ h => h) (Or.inl ⟨rfl, fun w hSw => ?_⟩) (by assumption) ?_
        · (try dsimp only at hSw); go_simp; try with_reducible rfl
        (try simp only [Act.put, List.setIfInBounds_toArray, List.set_cons_zero, List.set_cons_succ])
        refine wpAnyH_ready (rs := [9]) (by kernel_rfl) (by simp) (AllReadyH.cons (op_at rfl) (fun K hK => ?_) AllReadyH.nil)
        go_simp
        (refine (HI.out _).mono ?_; rintro e V2 ⟨rfl, hg⟩; replace k0 := Gr.cell hg k0; replace k1 := Gr.cell hg k1; replace k2 := Gr.cell hg k2; replace x0 := Gr.cell hg x0; replace x1 := Gr.cell hg x1; replace gv := Gr.trans gv hg; clear hg)
        go_wp2_with fail
        refine hK.out _ _ ⟨k0, k1, k2, x0, x1⟩ (fun hHeld => ?_)
        clear hK K
        (try simp only [Act.put, List.setIfInBounds_toArray, List.set_cons_zero, List.set_cons_succ])
        refine wpAnyH_take (i := 12) (v := (.bool true)) (op_at rfl) (by kernel_rfl) (by kernel_rfl) (by kernel_rfl) (fun _ _ _ h => h) (Or.inl ⟨rfl, fun w hSw => ?_⟩) (by assumption) ?_
        · (try dsimp only at hSw); go_simp; try with_reducible rfl
        (try simp only [Act.put, List.setIfInBounds_toArray, List.set_cons_zero, List.set_cons_succ])
        refine wpAnyH_take (i := 13) (v := (.bool true)) (op_at rfl) (by kernel_rfl) (by kernel_rfl) (by kernel_rfl) (fun _ _ _ h => h) (Or.inl ⟨rfl, fun w hSw => ?_⟩) (by assumption) ?_
        · (try dsimp only at hSw); go_simp; try with_reducible rfl
        (try simp only [Act.put, List.setIfInBounds_toArray, List.set_cons_zero, List.set_cons_succ])
        refine wpAnyH_done (by kernel_rfl) ?_ _
        have q2 := Gr.cell gv x2
        have q3 := (Below.frozen gv (p := ⟨X + 1, 0, none⟩) HWX.out).trans x3
        have HB9 := Lib.hid (HBB.out.trans (Below.mono gv (by have := HWX.out; omega)))
        have GV := Lib.hid gv
        clear gv gd x2 x3
        gi_wp2
        refine ⟨((gr_others GV.out).trans (KeepsOthers.setCell _ _ _)).from _, rfl, ?_, ?_, HPP.out⟩
        · exact ⟨(World.cell?_setCell_far _ _ _ _ (by show X + 1 ≠ X; omega)).trans x0, (World.cell?_setCell_far _ _ _ _ (by show X + 1 ≠ X; omega)).trans x1, World.cell?_setCell_same' _ _ _ (by rw [q2]; rfl), by rw [World.frozen?_setCell]; exact q3⟩
        · exact HB9.out.setCell (p := ⟨X + 1, 0, none⟩) (by show X ≤ X + 1; omega) _
    · rw [h1] at hH
      simp only [Bool.true_or] at hH
      subst hH
      gi_wp2
      refine wpIn_region_round (S := (fun w' => w'.cell? ⟨k, 0, none⟩ = some (.string ya) ∧ w'.cell? ⟨k, 1, none⟩ = some (.string yb) ∧ w'.cell? ⟨k, 2, none⟩ = some (.int .i64 yw) ∧ w'.cell? ⟨X, 0, none⟩ = some (.string ra) ∧ w'.cell? ⟨X, 1, none⟩ = some (.string rb))) (fun h9 => by obtain ⟨a9, w9, h9⟩ := h9; exact h9) (noDefer (by kernel_rfl)) (by kernel_rfl) ⟨gd.cell k0, gd.cell k1, gd.cell k2, gd.cell x0, gd.cell x1⟩ (fun hHeld => ?_)
      replace k0 := gd.cell k0
      replace k1 := gd.cell k1
      replace k2 := gd.cell k2
      replace x0 := gd.cell x0
      replace x1 := gd.cell x1
      have gv := gd
      generalize W.drew = V at gv k0 k1 k2 x0 x1 hHeld ⊢
      refine wpAnyH_take (i := 0) (v := (.agg #[.string ya, .string yb, .int .i64 yw])) (op_at rfl) (by kernel_rfl) (by kernel_rfl) (by kernel_rfl) (fun _ _ _ h => h) (Or.inl ⟨rfl, fun w hSw => ?_⟩) (by assumption) ?_
      · (try dsimp only at hSw); go_simp; try with_reducible rfl
      (try simp only [Act.put, List.setIfInBounds_toArray, List.set_cons_zero, List.set_cons_succ])
      refine wpAnyH_take (i := 1) (v := (.int .i64 lane)) (op_at rfl) (by kernel_rfl) (by kernel_rfl) (by kernel_rfl) (fun _ _ _ h => h) (Or.inl ⟨rfl, fun w hSw => ?_⟩) (by assumption) ?_
      · (try dsimp only at hSw); go_simp; try with_reducible rfl
      (try simp only [Act.put, List.setIfInBounds_toArray, List.set_cons_zero, List.set_cons_succ])
      refine wpAnyH_take (i := 3) (v := (.pointer (some ⟨X, 0, none⟩))) (op_at rfl) (by kernel_rfl) (by kernel_rfl) (by kernel_rfl) (fun _ _ _ h => h) (Or.inl ⟨rfl, fun w hSw => ?_⟩) (by assumption) ?_
      · (try dsimp only at hSw); go_simp; try with_reducible rfl
      (try simp only [Act.put, List.setIfInBounds_toArray, List.set_cons_zero, List.set_cons_succ])
      refine wpAnyH_take (i := 4) (v := (.string ra)) (op_at rfl) (by kernel_rfl) (by kernel_rfl) (by kernel_rfl) (fun _ _ _ h => h) (Or.inl ⟨rfl, fun w hSw => ?_⟩) (by assumption) ?_
      · (try dsimp only at hSw); go_simp; try with_reducible rfl
      (try simp only [Act.put, List.setIfInBounds_toArray, List.set_cons_zero, List.set_cons_succ])
      refine wpAnyH_ready (rs := [2]) (by kernel_rfl) (by simp) (AllReadyH.cons (op_at rfl) (fun K hK => ?_) AllReadyH.nil)
      go_simp
      (refine (HI.out _).mono ?_; rintro e V1 ⟨rfl, hg⟩; replace k0 := Gr.cell hg k0; replace k1 := Gr.cell hg k1; replace k2 := Gr.cell hg k2; replace x0 := Gr.cell hg x0; replace x1 := Gr.cell hg x1; replace gv := Gr.trans gv hg; clear hg)
      go_wp2_with fail
      refine hK.out _ _ ⟨k0, k1, k2, x0, x1⟩ (fun hHeld => ?_)
      clear hK K
      (try simp only [Act.put, List.setIfInBounds_toArray, List.set_cons_zero, List.set_cons_succ])
      refine wpAnyH_take (i := 5) (v := (.bool true)) (op_at rfl) (by kernel_rfl) (by kernel_rfl) (by kernel_rfl) (fun _ _ _ h => h) (Or.inl ⟨rfl, fun w hSw => ?_⟩) (by assumption) ?_
      · (try dsimp only at hSw); go_simp; try with_reducible rfl
      (try simp only [Act.put, List.setIfInBounds_toArray, List.set_cons_zero, List.set_cons_succ])
      refine wpAnyH_take (i := 6) (v := (.bool true)) (op_at rfl) (by kernel_rfl) (by kernel_rfl) (by kernel_rfl) (fun _ _ _ h => h) (Or.inl ⟨rfl, fun w hSw => ?_⟩) (by assumption) ?_
      · (try dsimp only at hSw); go_simp; try with_reducible rfl
      (try simp only [Act.put, List.setIfInBounds_toArray, List.set_cons_zero, List.set_cons_succ])
      refine wpAnyH_take (i := 7) (v := undef) (op_at rfl) (by kernel_rfl) (by kernel_rfl) (by kernel_rfl) (fun _ _ _ h => h) (Or.inr ⟨rfl, rfl⟩) (by assumption) ?_
      (try simp only [Act.put, List.setIfInBounds_toArray, List.set_cons_zero, List.set_cons_succ])
      refine wpAnyH_take (i := 8) (v := undef) (op_at rfl) (by kernel_rfl) (by kernel_rfl) (by kernel_rfl) (fun _ _ _ h => h) (Or.inr ⟨rfl, rfl⟩) (by assumption) ?_
      (try simp only [Act.put, List.setIfInBounds_toArray, List.set_cons_zero, List.set_cons_succ])
      refine wpAnyH_take (i := 10) (v := undef) (op_at rfl) (by kernel_rfl) (by kernel_rfl) (by kernel_rfl) (fun _ _ _ h => h) (Or.inr ⟨rfl, rfl⟩) (by assumption) ?_
      (try simp only [Act.put, List.setIfInBounds_toArray, List.set_cons_zero, List.set_cons_succ])
      refine wpAnyH_take (i := 11) (v := undef) (op_at rfl) (by kernel_rfl) (by kernel_rfl) (by kernel_rfl) (fun _ _ _ h => h) (Or.inr ⟨rfl, rfl⟩) (by assumption) ?_
      (try simp only [Act.put, List.setIfInBounds_toArray, List.set_cons_zero, List.set_cons_succ])
      refine wpAnyH_take (i := 9) (v := undef) (op_at rfl) (by kernel_rfl) (by kernel_rfl) (by kernel_rfl) (fun _ _ _ h => h) (Or.inr ⟨rfl, rfl⟩) (by assumption) ?_
      (try simp only [Act.put, List.setIfInBounds_toArray, List.set_cons_zero, List.set_cons_succ])
      refine wpAnyH_take (i := 12) (v := undef) (op_at rfl) (by kernel_rfl) (by kernel_rfl) (by kernel_rfl) (fun _ _ _ h => h) (Or.inr ⟨rfl, rfl⟩) (by assumption) ?_
      (try simp only [Act.put, List.setIfInBounds_toArray, List.set_cons_zero, List.set_cons_succ])
      refine wpAnyH_take (i := 13) (v := (.bool true)) (op_at rfl) (by kernel_rfl) (by kernel_rfl) (by kernel_rfl) (fun _ _ _ h => h) (Or.inl ⟨rfl, fun w hSw => ?_⟩) (by assumption) ?_
      · (try dsimp only at hSw); go_simp; try with_reducible rfl
      (try simp only [Act.put, List.setIfInBounds_toArray, List.set_cons_zero, List.set_cons_succ])
      refine wpAnyH_done (by kernel_rfl) ?_ _
      have q2 := Gr.cell gv x2
      have q3 := (Below.frozen gv (p := ⟨X + 1, 0, none⟩) HWX.out).trans x3
      have HB9 := Lib.hid (HBB.out.trans (Below.mono gv (by have := HWX.out; omega)))
      have GV := Lib.hid gv
      clear gv gd x2 x3
      gi_wp2
      refine ⟨((gr_others GV.out).trans (KeepsOthers.setCell _ _ _)).from _, rfl, ?_, ?_, HPP.out⟩
      · exact ⟨(World.cell?_setCell_far _ _ _ _ (by show X + 1 ≠ X; omega)).trans x0, (World.cell?_setCell_far _ _ _ _ (by show X + 1 ≠ X; omega)).trans x1, World.cell?_setCell_same' _ _ _ (by rw [q2]; rfl), by rw [World.frozen?_setCell]; exact q3⟩
      · exact HB9.out.setCell (p := ⟨X + 1, 0, none⟩) (by show X ≤ X + 1; omega) _
  case done =>
    rintro D ys W hD hys ⟨⟨x0, x1, x2, x3⟩, hB, hP⟩ hKD
    have HE : Hid (sharesB ra rb l = false) := by rw [Hid, sharesB, ← (show ys = clL l from hys)]; exact hP
    have hD2 : D ≠ w.heap.size + 1 := by omega
    clear hP hys
    gi_wp2
    have hKD2 : (W.setCell ⟨w.heap.size + 1, 0, none⟩ (.bool false)).heap[D]? = some (.deferred (some [])) := (Below.heap_setCell W ⟨w.heap.size + 1, 0, none⟩ (.bool false) D hD2).trans hKD
    have hB2 := hB.setCell (p := ⟨w.heap.size + 1, 0, none⟩) (by show w.heap.size ≤ w.heap.size + 1; omega) (.bool false)
    have hx : ((W.setCell ⟨w.heap.size + 1, 0, none⟩ (.bool false)).putObj D (.deferred none)).cell? ⟨w.heap.size + 1, 0, none⟩ = some (.bool false) := (World.cell?_of_block (a := ⟨w.heap.size + 1, 0, none⟩) (World.putObj_heap_other (Ne.symm hD2))).trans (World.cell?_setCell_same' _ _ _ (by rw [x2]; rfl))
    refine ⟨by simp, .inl ⟨_, _, rfl, run_takeDeferred hKD2, ?_⟩⟩
    refine ⟨_, by simp [results, Tryz.results135, go_sem, hx]; rfl, ?_⟩
    exact ⟨by rw [HE.out], hB2.trans (belowK_b (w := w) (Nat.le_refl _) _ D _ _ (Nat.le_trans (Below.size HB5.out) hD) hKD2 rfl rfl)⟩
  case stop =>
    rintro D cc pre W hD hpre ⟨rfl, ⟨x0, x1, x2, x3⟩, hB, hP⟩ hKD
    have HE : Hid (sharesB ra rb l = true) := shares_yes hpre hP
    have hD2 : D ≠ w.heap.size + 1 := by omega
    clear hP hpre
    gi_wp2
    have hx : (W.putObj D (.deferred none)).cell? ⟨w.heap.size + 1, 0, none⟩ = some (.bool true) := (World.cell?_of_block (a := ⟨w.heap.size + 1, 0, none⟩) (World.putObj_heap_other (Ne.symm hD2))).trans x2
    refine ⟨by simp, .inl ⟨_, _, rfl, run_takeDeferred hKD, ?_⟩⟩
    refine ⟨_, by simp [results, Tryz.results135, go_sem, hx]; rfl, ?_⟩
    exact ⟨by rw [HE.out], hB.trans (belowK_b (w := w) (Nat.le_refl _) W D _ _ (Nat.le_trans (Below.size HB5.out) hD) hKD rfl rfl)⟩
end Go.Proofs.YthfmgficbnmmnaaGreatDoor
