/- Members: the day on which licences lapse. -/
import Derived.Test.YtmlmbgifkmkmgaaGreatMbYe
namespace Go.Proofs.YtmlmbgifkmkmgaaGreat
open Go.RowKit Go.Shelf
set_option linter.unusedSimpArgs false
set_option linter.unusedVariables false
attribute [local go_sem] Oper.semAt_some
/-- a copy of one's own -/
structure OwnC (base : Nat) (w : World) (v : Value) (xs : List CatR) : Prop where
  mk' ::
  out : (v = .slice none 0 0 ∧ xs = []) ∨ ∃ g cp cur, v = .slice (some ⟨g, 0, none⟩) xs.length cp ∧ base ≤ g ∧ w.heap[g]? = some (.cells cur 73 (0, 0)) ∧ xs.length ≤ cp ∧ cp ≤ maxLen ∧ cur.size = cp * 3 ∧ ∀ (i : Nat) (x : CatR), xs[i]? = some x → CatC cur (i * 3) x
theorem clone_empty (ad : Addr) (cap : Nat) (w : World) :
    Calls Tryz.prog 105 #[.slice (some ad) 0 cap] w fun e w' => ∃ g cp, e = .returned (.slice (some ⟨g, 0, none⟩) 0 cp) ∧ w'.ownsRow w.heap.size 73 3 (.slice (some ⟨g, 0, none⟩) 0 cp) 0 (catCs []) ∧ Gr w w' := by
  obtain ⟨i0, hi, hz0, hz1, hz2⟩ := info_parts infoLicM
  have hB0 := heap_alloc_new w (.cells #[] 73)
  have hown : (w.alloc (.cells #[] 73)).ownsRow w.heap.size 73 3 (.slice (some ⟨w.heap.size, 0, none⟩) 0 0) 0 [] := ⟨by simp, .inr ⟨w.heap.size, 0, #[], rfl, Nat.le_refl _, hB0, Nat.le_refl _, by unfold maxLen; omega, rfl, by simp⟩⟩
  have hg0 : Gr w (w.alloc (.cells #[] 73)) := (Gr.refl w).alloc _
  have hsz := hg0.size
  have HG0 := Lib.hid hg0
  have hq : ∀ (w : World) (a : Option Addr) (n c n' c' : Nat), (binOp .eql 52 (.slice a n c) (.slice none n' c')).run Tryz.prog w = .ok (.bool a.isNone) w := fun w a n c n' c' => Lib.run_eql_slice_nil w _ _ a n c n' c' Tryz.underlying52
  clear hB0 hg0
  go_enter Tryz.func105, Tryz.ntmps105
  go_wp2_with (first
    | (at_builtin; refine wpList_append_own _ rfl _ _ 52 rfl w.heap.size 73 i0 (.agg #[.string ⟨#[]⟩, .int .i64 0, .int .i64 0]) 3 32 Tryz.underlying52 hi hz0 hz1 hz2 rfl (by decide) _ _ _ rfl hown ad 0 cap [] rfl rfl (fun j u hu => by simp at hu) (fun u hu => by cases hu) (by unfold maxLen; omega) (by omega) (by omega) ?_; intro v1 w1 hown1 hgrow1 hnil1))
  rw [Nat.zero_add, List.nil_append] at hown1
  have hgr : Gr w w1 := Below.grown HG0.out hgrow1 hsz (fun j hj => (hown.lt j hj).1)
  rcases hown1.2 with ⟨e, h0⟩ | ⟨g, cp, cur, rfl, _⟩
  · have := hnil1.1 e
    cases this.1
  go_ret
  exact ⟨g, cp, rfl, hown1, hgr⟩
theorem clone_c {v : Value} {xs : List CatR} {w : World} (h : CatAts w v xs) (h1 : xs.length ≤ 1000) :
    Calls Tryz.prog 105 #[v] w fun e w' => ∃ u, e = .returned u ∧ OwnC w.heap.size w' u xs ∧ Gr w w' := by
  obtain ⟨⟨p, cap, rfl, _, hh⟩⟩ := h
  rcases p with _ | ad
  · have hx : xs = [] := by
      rcases Nat.eq_zero_or_pos xs.length with h0 | h0
      · exact List.eq_nil_of_length_eq_zero h0
      · obtain ⟨b, off, e, _⟩ := hh h0
        cases e
    refine (clone_none _ cap w).mono ?_
    rintro e w' ⟨rfl, rfl⟩
    exact ⟨_, rfl, ⟨.inl ⟨rfl, hx⟩⟩, Gr.refl _⟩
  · rcases Nat.eq_zero_or_pos xs.length with h0 | h0
    · have hx : xs = [] := List.eq_nil_of_length_eq_zero h0
      subst hx
      refine (clone_empty ad cap w).mono ?_
      rintro e w' ⟨g, cp, rfl, ho, hg⟩
      obtain ⟨cur, c1, c2, c3, c4, c5, c6⟩ := cellC_of_owns (xs := []) ho rfl
      exact ⟨_, rfl, ⟨.inr ⟨g, cp, cur, rfl, c1, c2, c3, c4, c5, c6⟩⟩, hg⟩
    · obtain ⟨b, off, e, hc⟩ := hh h0
      cases e
      refine (clone_pos xs _ b off cap w rfl h1 hc).mono ?_
      rintro e w' ⟨g, cp, rfl, ho, hg⟩
      obtain ⟨cur, c1, c2, c3, c4, c5, c6⟩ := cellC_of_owns ho rfl
      exact ⟨_, rfl, ⟨.inr ⟨g, cp, cur, rfl, c1, c2, c3, c4, c5, c6⟩⟩, hg⟩
theorem indexOther_nil (p : Option Addr) (cap B : Nat) (w : World) :
    Calls Tryz.prog 135 #[.slice p 0 cap, .func (.func 102) #[] #[.pointer (some ⟨B, 0, none⟩)]] w fun e w' => e = .returned (.int .i64 (-1)) ∧ w = w' := by
  go_enter Tryz.func135, Tryz.ntmps135
  go_wp2_with fail
  refine wp_loop_rounds 2 ?_
  rw [rounds_succ]
  go_wp2_with fail
  go_ret
  exact ⟨rfl, rfl⟩
theorem delete_nil (p : Option Addr) (cap B : Nat) (w : World) :
    Calls Tryz.prog 104 #[.slice p 0 cap, .func (.func 102) #[] #[.pointer (some ⟨B, 0, none⟩)]] w fun e w' => e = .returned (.slice p 0 cap) ∧ w = w' := by
  have HI := Lib.hid (indexOther_nil p cap B w)
  go_enter Tryz.func104, Tryz.ntmps104
  go_wp2_with fail
  refine HI.out.mono ?_
  rintro e w4 ⟨rfl, rfl⟩
  go_wp2_with fail
  go_ret
  exact ⟨rfl, rfl⟩
/-- a list that lies in a block from base on, or nowhere -/
structure NewC (base : Nat) (w : World) (v : Value) (xs : List CatR) : Prop where
  mk' ::
  out : ∃ p cap, v = .slice p xs.length cap ∧ (xs.length ≤ cap ∧ cap ≤ maxLen) ∧ (0 < xs.length → ∃ b off, p = some ⟨b, off, none⟩ ∧ base ≤ b ∧ b < w.heap.size ∧ ∀ (i : Nat) (y : CatR), xs[i]? = some y → CatAt w b (off + i * 3) y)
theorem delete_c {v : Value} {xs : List CatR} {w : World} {base B : Nat} {nm : ByteArray} (h : OwnC base w v xs) (h1 : xs.length ≤ 1000) (hB9 : B < base) (hbw : base ≤ w.heap.size) (hB : w.cell? ⟨B, 0, none⟩ = some (.string nm)) :
    Calls Tryz.prog 104 #[v, .func (.func 102) #[] #[.pointer (some ⟨B, 0, none⟩)]] w fun e w' => ∃ u, e = .returned u ∧ NewC base w' u (mineL nm xs) ∧ Below base w w' := by
  rcases h.out with ⟨rfl, rfl⟩ | ⟨g, cp, cur, rfl, hbg, hG, hle, hmx, hsz, hc⟩
  · refine (delete_nil none 0 B w).mono ?_
    rintro e w' ⟨rfl, rfl⟩
    exact ⟨_, rfl, ⟨none, 0, rfl, ⟨Nat.le_refl _, by unfold maxLen; omega⟩, fun h => absurd h (by simp [mineL])⟩, Below.refl _ _⟩
  · refine (delete_pos nm xs xs.length g cp B base cur w rfl h1 hle hmx hsz hbg hB9 hbw hG hc hB).mono ?_
    rintro e w' ⟨m, rfl, hm, ⟨⟨p, cap, e, hcap, hh⟩⟩, hb⟩
    simp only [Value.slice.injEq] at e
    obtain ⟨rfl, _, rfl⟩ := e
    subst hm
    refine ⟨_, rfl, ⟨_, _, rfl, hcap, fun h0 => ?_⟩, hb⟩
    obtain ⟨b, off, e, hcc⟩ := hh h0
    have e2 := e
    simp only [Option.some.injEq, Addr.mk.injEq, and_true] at e2
    obtain ⟨rfl, rfl⟩ := e2
    have hgl := (Array.getElem?_eq_some_iff.1 hG).1
    exact ⟨g, 0, rfl, hbg, Nat.lt_of_lt_of_le hgl hb.size, hcc⟩
theorem ldays_c (v : Value) (hv : ∃ p n cap, v = .slice p n cap) (d : Int) (w : World) :
    Calls Tryz.prog 103 #[v, .int .i64 d] w fun e w' => e = .returned (.func (.func 133) #[] #[.pointer (some ⟨w.heap.size + 1, 0, none⟩), .pointer (some ⟨w.heap.size, 0, none⟩)]) ∧ w' = (w.alloc (.cells #[v] 52)).alloc (.cells #[.int .i64 d] 3) := by
  obtain ⟨p, n, cap, rfl⟩ := hv
  go_enter Tryz.func103, Tryz.ntmps103
  go_wp2_with fail
  go_ret
  exact ⟨rfl, rfl⟩
theorem days_stops (Bf Bl n₀ x : Nat) (v : Value) (ys : List CatR) (d : Int) (hd0 : 0 ≤ d) (hd : d ≤ 100000) (h1 : ys.length ≤ 1000) (hhi : ∀ y ∈ ys, y.hi ≤ 99999) (w : World)
    (hBl : Bl < n₀ ∧ Bl ≠ x) (hn : n₀ ≤ w.heap.size) (hBf : Bf < w.heap.size) (hf : w.cell? ⟨Bf, 0, none⟩ = some (.int .i64 d)) (hl : w.cell? ⟨Bl, 0, none⟩ = some v) (hys : CatsIn n₀ x w v ys) :
    SeqStopsK Fence.wide 3 Tryz.prog 133 #[.pointer (some ⟨Bf, 0, none⟩), .pointer (some ⟨Bl, 0, none⟩)] (fun y : DayT => #[.int .i64 y.1]) (KeepX n₀ x) (fun zs => lastD d zs = lapseZ (holdsB ys) 100001 d) (fun _ => True) 100001 w := fun l J Jx W hW hJ hJx hY h0 =>
  days_in l Bf Bl n₀ x v ys d hd0 hd h1 hhi J Jx W (fun s A B h g => hJ s A B none h (gr_grown g) (fun r e => by cases e)) hY hBl (Gr.cell hW hf) (Gr.cell hW hl) (hys.gr hW) h0
theorem keepX_setCell (n₀ x : Nat) (W : World) (v : Value) : KeepX n₀ x W (W.setCell ⟨x, 0, none⟩ v) := fun k _ hk => Below.heap_setCell _ _ _ _ hk
theorem keepX_putObj {n₀ x l : Nat} (W : World) (o : Obj) (h : n₀ ≤ l) : KeepX n₀ x W (W.putObj l o) := fun k hk _ => World.putObj_heap_other (by omega)
theorem mine_len (nm : ByteArray) (xs : List CatR) : (mineL nm xs).length ≤ xs.length := List.length_filter_le _ _
theorem mine_mem {nm : ByteArray} {xs : List CatR} {y : CatR} (h : y ∈ mineL nm xs) : y ∈ xs := (List.mem_filter.1 h).1
theorem NewC.catsIn {base n₀ x : Nat} {w w' : World} {v : Value} {xs : List CatR} (h : NewC base w v xs) (hx : x < base) (hn : w.heap.size ≤ n₀) (g : Gr w w') : CatsIn n₀ x w' v xs := by
  obtain ⟨⟨p, cap, rfl, hc, hh⟩⟩ := h
  refine ⟨p, cap, rfl, hc, fun h0 => ?_⟩
  obtain ⟨b, off, e, h1, h2, h3⟩ := hh h0
  exact ⟨b, off, e, by omega, by omega, fun i y hy => (h3 i y hy).gr g⟩
/-- the loop over the days: what lies in the box of lapse -/
structure LapI (x : Nat) (d : Int) (pre : List DayT) (W : World) : Prop where
  mk' ::
  cell : W.cell? ⟨x, 0, none⟩ = some (.int .i64 (lastD d pre))
  frozen : W.frozen? ⟨x, 0, none⟩ = false
set_option maxHeartbeats 1000000 in
set_option maxRecDepth 100000 in
theorem lapseOf_c {v : Value} {xs : List CatR} {w : World} (nm : ByteArray) (d : Int) (h : CatAts w v xs) (h1 : xs.length ≤ 1000) (hd0 : 0 ≤ d) (hd : d ≤ 100000) (hhi : ∀ y ∈ xs, y.hi ≤ 99999) :
    Calls Tryz.prog 68 #[v, .string nm, .int .i64 d] w fun e w' => e = .returned (.int .i64 (lapseZ (holdsB (mineL nm xs)) 100001 d)) ∧ Gr w w' := by
  have HV := Lib.hid h
  obtain ⟨p, n, cap, rfl⟩ : ∃ p n cap, v = .slice p n cap := by
    obtain ⟨⟨p, cap, rfl, _⟩⟩ := h
    exact ⟨p, _, cap, rfl⟩
  clear h
  obtain ⟨W1, hW1, g1, a0, b0⟩ := box_two w (.string nm) (.int .i64 d) 9 3
  have hs1 : W1.heap.size = w.heap.size + 2 := by rw [← hW1]; simp
  have hfr : W1.frozen? ⟨w.heap.size + 1, 0, none⟩ = false := by rw [← hW1]; exact frozen_of_row _ _ 0 #[.int .i64 d] 3 (by have := heap_alloc_new (w.alloc (.cells #[.string nm] 9)) (.cells #[.int .i64 d] 3); rwa [World.size_alloc] at this)
  have HW1 := Lib.hid hW1
  clear hW1
  refine (callsIn_wide (n := 4)).1 ?_
  refine callsIn_of_wp_marks Tryz.func68 rfl trivial ?_ rfl
  simp only [Tryz.ntmps68, List.size_toArray, List.length_cons, List.length_nil, Nat.reduceAdd, Nat.reduceSub, Array.replicate_succ, Array.replicate_zero, List.push_toArray, List.append_toArray, List.nil_append, List.cons_append]
  gi_wp2_with fail
  rw [HW1.out]
  refine ⟨trivial, ?_⟩
  gi_at_call 105
  refine (callsIn_wide.2 (clone_c (HV.out.gr g1) h1)).mono ?_
  rintro e W2 ⟨u2, rfl, hO, g2⟩
  gi_wp2_with fail
  refine ⟨trivial, ?_⟩
  gi_at_call 104
  refine (callsIn_wide.2 (delete_c (B := w.heap.size) (nm := nm) hO h1 (by omega) (Below.size g2) (g2.cell a0))).mono ?_
  rintro e W3 ⟨u3, rfl, hN, hb3⟩
  have hs3 : W1.heap.size ≤ W3.heap.size := Nat.le_trans (Below.size g2) (Below.size hb3)
  have g13 : Below W1.heap.size W1 W3 := Below.trans g2 hb3
  have c3 : W3.cell? ⟨w.heap.size + 1, 0, none⟩ = some (.int .i64 d) := (Below.cell g13 (p := ⟨w.heap.size + 1, 0, none⟩) (by show w.heap.size + 1 < _; omega)).trans b0
  have f3 : W3.frozen? ⟨w.heap.size + 1, 0, none⟩ = false := (Below.frozen g13 (p := ⟨w.heap.size + 1, 0, none⟩) (by show w.heap.size + 1 < _; omega)).trans hfr
  have hsl : ∃ p n cap, u3 = .slice p n cap := by
    obtain ⟨⟨p, cap, rfl, _⟩⟩ := hN
    exact ⟨p, _, cap, rfl⟩
  gi_wp2_with fail
  refine ⟨trivial, ?_⟩
  gi_at_call 103
  refine (callsIn_wide.2 (ldays_c u3 hsl d W3)).mono ?_
  rintro e W5 ⟨rfl, hW5⟩
  obtain ⟨W5', hW5', g5, a5, b5⟩ := box_two W3 u3 (.int .i64 d) 52 3
  obtain rfl : W5' = W5 := hW5'.symm.trans hW5.symm
  have hs5 : W5'.heap.size = W3.heap.size + 2 := by rw [← hW5']; simp
  have c5 := g5.cell c3
  have f5 : W5'.frozen? ⟨w.heap.size + 1, 0, none⟩ = false := (Below.frozen g5 (p := ⟨w.heap.size + 1, 0, none⟩) (by show w.heap.size + 1 < _; omega)).trans f3
  have hB5 : Below w.heap.size w W5' := Below.trans g1 ((Below.mono g13 (Below.size g1)).trans (Below.mono g5 (Nat.le_trans (Below.size g1) hs3)))
  clear hW5 hW5'
  gi_wp2_with fail
  refine wpIn_rangeFunc_ownF rfl (by decide) (gf := 133) (lb := #[.pointer (some ⟨W3.heap.size + 1, 0, none⟩), .pointer (some ⟨W3.heap.size, 0, none⟩)]) rfl trivial (enters_of Tryz.func133 (by kernel_rfl) rfl)
    (days_stops (W3.heap.size + 1) W3.heap.size (W3.heap.size + 1) (w.heap.size + 1) u3 (mineL nm xs) d hd0 hd (Nat.le_trans (mine_len nm xs) h1) (fun y hy => hhi y (mine_mem hy)) W5' ⟨Nat.lt_succ_self _, by omega⟩ (by omega) (by omega) b5 a5 (hN.catsIn (by omega) (by omega) g5))
    keepX_t (fun W l o o' h _ _ _ => keepX_putObj W o' (by omega)) (Below.refl _ _) (fun _ => rfl)
    (fun pre W => LapI (w.heap.size + 1) d pre W ∧ Below w.heap.size w W)
    (fun _ _ _ => False)
    (OwnFrom.and (Own.from (fun s A B row hs hg hr => ⟨cell_kept hs.cell hg hr, (frozen_kept hs.cell hg hr).trans hs.frozen⟩) _) (ownFrom_below (Nat.le_refl _) (Below.size hB5)))
    (fun _ _ _ _ _ hs _ _ => hs)
    ⟨⟨c5, f5⟩, hB5⟩
    (fun x => { tmps := #[.slice p n cap, .string nm, .int .i64 d, undef, .pointer (some ⟨w.heap.size, 0, none⟩), undef, .int .i64 0, .func (.func 102) #[] #[.pointer (some ⟨w.heap.size, 0, none⟩)], .pointer (some ⟨w.heap.size + 1, 0, none⟩), .int .i64 x.1, .func (.func 102) #[] #[.pointer (some ⟨w.heap.size, 0, none⟩)], .int .i64 d, .slice p n cap, u2, .func (.func 102) #[] #[.pointer (some ⟨w.heap.size, 0, none⟩)], u3, .int .i64 d, .func (.func 133) #[] #[.pointer (some ⟨W3.heap.size + 1, 0, none⟩), .pointer (some ⟨W3.heap.size, 0, none⟩)], .int .i64 x.1, undef, undef, undef], defers := [] }) ?assign ?body ?done ?stop
  case assign =>
    intro l x W K hK
    gi_wp2
    exact hK
  case body =>
    rintro l pre x W ⟨⟨hc, hf⟩, hB⟩ _
    have hx : x.1 + 1 = lastD d (pre ++ [x]) := (lastD_add d pre x).symm
    have hx1 := x.2
    gi_wp2
    exact ⟨KeepsOthers.setCell _ _ _, keepX_setCell _ _ _ _, ⟨World.cell?_setCell_same' _ _ _ (by rw [hc]; rfl), by rw [World.frozen?_setCell]; exact hf⟩, hB.setCell (p := ⟨w.heap.size + 1, 0, none⟩) (Nat.le_succ _) _⟩
  case done =>
    rintro D ys W hD hys ⟨⟨hc, _⟩, hB⟩ hK
    rw [hys] at hc
    gi_wp2
    refine ⟨by simp, .inl ⟨_, _, rfl, run_takeDeferred hK, ?_⟩⟩
    exact ⟨_, results_tmp rfl _ _ _, rfl, hB.trans (belowK_b (w := w) (Nat.le_refl _) W D _ _ (Nat.le_trans (Below.size hB5) hD) hK rfl rfl)⟩
  case stop =>
    rintro D c pre W _ _ h _
    exact h.elim
end Go.Proofs.YtmlmbgifkmkmgaaGreat
