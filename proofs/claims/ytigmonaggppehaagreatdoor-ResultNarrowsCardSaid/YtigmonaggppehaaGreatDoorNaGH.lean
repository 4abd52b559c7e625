/- ResultNarrows: the law's walk. -/
import Derived.Test.YtigmonaggppehaaGreatDoorNaLF
namespace Go.Proofs.YtigmonaggppehaaGreatDoor
open Go.RowKit Go.Lib
set_option linter.unusedSimpArgs false
set_option linter.unusedVariables false
theorem opCs_add (ys : List OpR) (y : OpR) : opCs (ys ++ [y]) = opCs ys ++ opC y := by simp [opCs]
theorem take_map_add {xs : List OpR} {i : Nat} {y : OpR} (m : Int) (h : xs[i]? = some y) : (xs.take (i + 1)).map (decO m) = (xs.take i).map (decO m) ++ [decO m y] := by rw [List.take_add_one, h]; simp
theorem sideA {X w1 W3 : World} {m V : Int} {xs : List OpR} {rs : List RowR} {y : OpR} {N0 i : Nat} {dv rv : Value} {ld lr : List Value} (or' : X.ownsRow W3.heap.size 42 3 rv i lr) (od : X.ownsRow W3.heap.size 40 3 dv i ld) (hv : ValsAt X m xs rs) (hs3 : W3.heap.size ≤ X.heap.size) (gk : Gr W3 X) (b0 : X.cell? ⟨N0, 0, none⟩ = some (.string y.nm)) (hN0d : some N0 ≠ dv.ownBlock) (gd1 : (X.alloc (.cells #[.string y.nm, .int .i64 V, .int .i64 V] 40)).grownBy w1 dv.ownBlock) :
    w1.ownsRow W3.heap.size 42 3 rv i lr ∧ ValsAt w1 m xs rs ∧ Gr W3 w1 ∧ w1.cell? ⟨N0, 0, none⟩ = some (.string y.nm) := by
  have gx : Gr X (X.alloc (.cells #[.string y.nm, .int .i64 V, .int .i64 V] 40)) := (Gr.refl X).alloc _
  have oda := od.alloc (.cells #[.string y.nm, .int .i64 V, .int .i64 V] 40)
  have ora := or'.alloc (.cells #[.string y.nm, .int .i64 V, .int .i64 V] 40)
  have hlt : N0 < X.heap.size := World.block_lt_of_cell? X _ b0
  refine ⟨ora.kept gd1 (own_apart ora oda (by decide)), (hv.gr gx).kept oda (by decide) gd1, Below.grown (Gr.trans gk gx) gd1 (by simp; omega) (fun k hk => (oda.lt k hk).1), ?_⟩
  rw [World.cell?_of_block (a := ⟨N0, 0, none⟩) (gd1.block N0 (by simp; omega) hN0d)]
  exact gx.cell b0
theorem sideB {w1 w2 W3 : World} {m : Int} {xs : List OpR} {rs : List RowR} {y : OpR} {i : Nat} {d1 rv : Value} {ld lr : List Value} {nd : Nat} (or1 : w1.ownsRow W3.heap.size 42 3 rv i lr) (od1 : w1.ownsRow W3.heap.size 40 3 d1 nd ld) (vl1 : ValsAt w1 m xs rs) (gw1 : Gr W3 w1) (hrl : rs.length = i) (hy : xs[i]? = some y)
    (gr2 : ((w1.alloc (.cells #[.int .i64 (vOf m y)] 3)).alloc (.cells #[.string y.nm, .string ⟨#[]⟩, .slice (some ⟨w1.heap.size, 0, none⟩) 1 1] 42)).grownBy w2 rv.ownBlock) :
    w2.ownsRow W3.heap.size 40 3 d1 nd ld ∧ ValsAt w2 m xs (rs ++ [⟨y.nm, ⟨#[]⟩, .slice (some ⟨w1.heap.size, 0, none⟩) 1 1, [vOf m y]⟩]) ∧ Gr W3 w2 := by
  have hs1 := gw1.size
  have ga : Gr w1 (w1.alloc (.cells #[.int .i64 (vOf m y)] 3)) := (Gr.refl w1).alloc _
  have gb := ga.alloc (.cells #[.string y.nm, .string ⟨#[]⟩, .slice (some ⟨w1.heap.size, 0, none⟩) 1 1] 42)
  have oda := own_gr od1 gb
  have ora := own_gr or1 gb
  have hval : ((w1.alloc (.cells #[.int .i64 (vOf m y)] 3)).alloc (.cells #[.string y.nm, .string ⟨#[]⟩, .slice (some ⟨w1.heap.size, 0, none⟩) 1 1] 42)).heap[w1.heap.size]? = some (.cells #[.int .i64 (vOf m y)] 3 (0, 0)) := ((Gr.refl _).alloc _).block (heap_alloc_new w1 _)
  have hval2 : w2.heap[w1.heap.size]? = some (.cells #[.int .i64 (vOf m y)] 3 (0, 0)) := by
    rw [gr2.block w1.heap.size (by simp; omega) (cell_apart hval ora (by decide))]
    exact hval
  exact ⟨oda.kept gr2 (own_apart oda ora (by decide)), ((vl1.gr gb).kept ora (by decide) gr2).add hrl hy ⟨rfl, rfl, rfl⟩ rfl hval2, Below.grown (Gr.trans gw1 gb) gr2 (by simp; omega) (fun k hk => (ora.lt k hk).1)⟩
theorem ranksE_ok {ys : List OpR} {c : Nat} (h : openE ys = 0) (hc : c < ys.length) : ranksE ys c = 0 := by
  unfold ranksE
  rw [h, show climbE c ys.length = 0 by unfold climbE; rw [if_neg (by omega)]]
  rfl
theorem box03 (w : World) (T : TypeId) : (w.alloc (.cells #[] T)).ownsRow w.heap.size T 3 (.slice (some ⟨w.heap.size, 0, none⟩) 0 0) 0 [] :=
  ⟨rfl, .inr ⟨w.heap.size, 0, #[], rfl, Nat.le_refl _, heap_alloc_new w _, Nat.le_refl _, by unfold maxLen; omega, rfl, rfl⟩⟩
theorem ops_at {w : World} {v : Value} {xs : List OpR} (h : OpsV w v xs) (h0 : 0 < xs.length) : ∃ g o c, v = .slice (some ⟨g, o, none⟩) xs.length c ∧ ∀ i x, xs[i]? = some x → OpAt w g (o + i * 3) x := by
  obtain ⟨⟨p, c, rfl, _, hh⟩⟩ := h
  obtain ⟨g, o, rfl, hc⟩ := hh h0
  exact ⟨g, o, c, rfl, hc⟩
theorem own_at {w : World} {N n : Nat} {T : TypeId} {v : Value} {l : List Value} (h : w.ownsRow N T 3 v n l) (h0 : 0 < n) : ∃ g c, v = .slice (some ⟨g, 0, none⟩) n c ∧ N ≤ g := by
  rcases h.2 with ⟨_, e⟩ | ⟨g, c, cur, rfl, hb, _⟩
  · omega
  · exact ⟨g, c, rfl, hb⟩
theorem sideC {wr w6 : World} {xs ds : List OpR} {n k gd : Nat} {y d : OpR} {f1 : Value} (hn : xs.length = n) (hk : k < n) (hy : xs[k]? = some y) (hd : ds[k]? = some d)
    (of1 : w6.ownsRow wr.heap.size 40 3 f1 n (opCs xs)) (gf1 : (wr.alloc (.cells #[] 40)).grownBy w6 (some wr.heap.size)) (hD : ∀ i x, ds[i]? = some x → OpAt wr gd (0 + i * 3) x) :
    ∃ gf cf, f1 = .slice (some ⟨gf, 0, none⟩) n cf ∧ wr.heap.size ≤ gf ∧ Gr wr w6 ∧ (w6.cell? ⟨gf, k * 3, none⟩ = some (.string y.nm) ∧ w6.cell? ⟨gf, k * 3 + 1, none⟩ = some (.int .i64 y.lo) ∧ w6.cell? ⟨gf, k * 3 + 2, none⟩ = some (.int .i64 y.hi)) ∧ (∀ j, w6.frozen? ⟨gf, j, none⟩ = false) ∧
      (w6.cell? ⟨gd, k * 3, none⟩ = some (.string d.nm) ∧ w6.cell? ⟨gd, k * 3 + 1, none⟩ = some (.int .i64 d.lo) ∧ w6.cell? ⟨gd, k * 3 + 2, none⟩ = some (.int .i64 d.hi)) := by
  have gw : Gr wr w6 := Below.grown ((Gr.refl wr).alloc _) gf1 (by simp) (fun j hj => by cases hj; exact Nat.le_refl _)
  obtain ⟨gf, cf, rfl, hb⟩ := own_at of1 (by omega)
  have hv := opsV_cells hn of1
  obtain ⟨g', o', c', e, hc⟩ := ops_at hv (by omega)
  simp only [Value.slice.injEq, Option.some.injEq, Addr.mk.injEq, and_true] at e
  obtain ⟨⟨rfl, rfl⟩, _⟩ := e
  have q := hc k y hy
  have p := (hD k d hd).gr gw
  rw [Nat.zero_add] at q p
  refine ⟨gf, cf, rfl, hb, gw, ⟨q.nm, q.lo, q.hi⟩, fun j => ?_, ⟨p.nm, p.lo, p.hi⟩⟩
  rcases of1.2 with ⟨e, _⟩ | ⟨g2, c2, cur, e, _, hcur, _⟩
  · cases e
  · simp only [Value.slice.injEq, Option.some.injEq, Addr.mk.injEq, and_true, true_and] at e
    obtain ⟨rfl, rfl⟩ := e
    exact frozen_row w6 gf j cur _ hcur
theorem one_cells (xs : List OpR) : ∀ u ∈ opCs xs, u.oneCell' = true := by
  intro u hu
  unfold opCs at hu
  rw [List.mem_flatMap] at hu
  obtain ⟨x, _, hu⟩ := hu
  simp [opC] at hu
  rcases hu with rfl | rfl | rfl <;> rfl
set_option maxHeartbeats 8000000 in
set_option maxRecDepth 100000 in
theorem narrows_ok (hSO : SortOK) (hSF : SortFOK) {w : World} (xs : List OpR) (n b off cap c : Nat) (x : OpR) (m : Int) (hm0 : 0 ≤ m) (hm1 : m ≤ 255) (hn : xs.length = n) (h : OpsV w (.slice (some ⟨b, off, none⟩) n cap) xs) (hc : ∀ i x, xs[i]? = some x → OpAt w b (off + i * 3) x) (hx : xs[c]? = some x) (hE : ranksE xs c = 0) (hE0 : openE xs = 0) (hn8 : n ≤ 8) (hSt : StatesIn w) (hA : AwakeIn w) :
    Calls Tryz.prog 4 #[.slice (some ⟨b, off, none⟩) n cap, .int .i64 c, .int .u8 m] w fun e w' => e = .returned (.bool true) ∧ Gr w w' := by
  have hok := ok_of hE0
  obtain ⟨hx0, hx1, hx2⟩ := hok.ends c x hx
  have hcn : c < n := by have := (List.getElem?_eq_some_iff.1 hx).1; omega
  have hpos : 0 < n := by have := hok.len0; omega
  have HS := Lib.hid (short_c h)
  have HOp := Lib.hid (fun (W : World) (g : Gr w W) => opens_c (h.gr g) (by omega))
  have HRk := Lib.hid (fun (u : Value) (W : World) (hu : OpsV W u xs) => ranks_ok hSO c x hu hx hE (by omega) hx1)
  have HAs := Lib.hid (fun (W : World) (g : Gr w W) => asked_c c (h.gr g))
  rw [hE] at HAs
  have hends := ends_of xs c x hx (fun j y hy => (hok.ends j y hy).2.1)
  obtain ⟨R, hR⟩ : ∃ R, ranksK xs c x xs.length = R := ⟨_, rfl⟩
  have hRl : R.length ≤ n := by rw [← hR, ← hn]; exact ranksK_len xs c x xs.length
  rw [hR] at HRk
  have HEnds : Hid (Ends xs c x) := hends
  have hR0 : 0 < R.length := by
    have := hends.first
    rw [hR] at this
    exact (List.getElem?_eq_some_iff.1 this).1
  have HXS : Hid (xs[c]? = some x ∧ xs.length = n ∧ OkR xs ∧ openE xs = 0 ∧ ranksK xs c x xs.length = R) := ⟨hx, hn, hok, hE0, hR⟩
  have HC := Lib.hid hc
  have HA := Lib.hid hA
  have HST := Lib.hid hSt
  clear hA hc hx hn hok hE hE0 hends hR hSt h
  have hn8' : decide ((8 : Int) < n) = false := decide_eq_false (by omega)
  obtain ⟨nr, hnr⟩ : ∃ nr, R.length = nr := ⟨_, rfl⟩
  rw [hnr] at HRk hRl hR0
  have hnz : ((nr : Int) == 0) = false := beq_eq_false_iff_ne.2 (by omega)
  go_enter Tryz.func4, Tryz.ntmps4
  go_wp2_with fail
  refine HS.out.mono ?_
  rintro e w1 ⟨bb, rfl, hB, g⟩
  clear hB
  cases bb
  · go_wp2_with fail
    refine (HA.out _ g).mono ?_
    rintro e w2 ⟨rfl, g2⟩
    go_wp2_with fail
    go_ret
    exact ⟨rfl, g.trans g2⟩
  go_wp2_with fail
  refine (HAs.out _ g).mono ?_
  rintro e w2 ⟨rfl, hg⟩
  replace g := g.trans hg
  clear hg
  go_wp2_with fail
  refine (HOp.out _ g).mono ?_
  rintro e w2' ⟨u, rfl, hu, hg⟩
  replace g := g.trans hg
  clear hg
  go_wp2_with fail
  refine (HRk.out _ _ hu).mono ?_
  rintro e W3 ⟨u1, rfl, hown, hg⟩
  replace g := g.trans hg
  rw [← hnr] at hown
  obtain ⟨⟨pr, cr, rfl, hr9⟩⟩ := reads_of_owns hown
  obtain ⟨gr, rfl, hrc⟩ := hr9 (by omega)
  clear hr9
  rw [hnr]
  clear hg hu hown HS HAs HRk
  have HRC := Lib.hid hrc
  have HC3 := Lib.hid (fun i x hx => (HC.out i x hx).gr g)
  clear hrc HC
  obtain ⟨i0, hi, hz0, hz1, hz2⟩ := info_parts infoRO
  obtain ⟨j0, hj, hy0, hy1, hy2⟩ := info_parts infoRes
  obtain ⟨k0, hk, hx0', hx1', hx2'⟩ := info_parts info3
  go_wp2_with fail
  go_loopw [9, 10, 11, 12, 58] (fun bv wv dv rv ix wr => ∃ (i : Nat) (rs : List RowR), i ≤ n ∧ ix = .int .i64 i ∧ bv = .int .i64 (1 + cnt (surP c x.hi) (xs.take i) 0) ∧ wv = .int .i64 (1 + cnt (perP c x.lo) (xs.take i) 0) ∧
    wr.ownsRow W3.heap.size 40 3 dv i (opCs ((xs.take i).map (decO m))) ∧ wr.ownsRow W3.heap.size 42 3 rv i (rowCs rs) ∧ rs.length = i ∧ ValsAt wr m xs rs ∧ Gr W3 wr) (fun _ _ _ _ ix _ => n - (intOf ix).toNat)
  case atStart => exact ⟨0, [], Nat.zero_le _, rfl, rfl, rfl, World.ownsRow_nil _ _ _ _, World.ownsRow_nil _ _ _ _, rfl, fun j y r hy hr => by simp at hr, Gr.refl _⟩
  case round =>
    obtain ⟨i, rs, hi9, rfl, rfl, rfl, od, or', hrl, hv, hnx⟩ := hrel
    have hs3 := hnx.size
    by_cases hlt : (i : Int) < n
    · obtain ⟨y, hy⟩ : ∃ y, xs[i]? = some y := ⟨xs[i]'(by have := HXS.out.2.1; omega), List.getElem?_eq_getElem _⟩
      obtain ⟨a0, a1, a2⟩ := (HC3.out i y hy).gr hnx
      obtain ⟨c0, c1, c2⟩ := (HC3.out c x HXS.out.1).gr hnx
      have hi2 : (i : Int) < n := hlt
      have hi3 : (0 : Int) ≤ i := by omega
      have hc2 : (c : Int) < n := by omega
      have hc3 : (0 : Int) ≤ c := by omega
      obtain ⟨y0, y1, y2⟩ := HXS.out.2.2.1.ends i y hy
      have hvo := vOf_in hm0 y1
      obtain ⟨V, hV⟩ : ∃ V, V = vOf m y := ⟨_, rfl⟩
      have hVe : V = y.lo + Int.tmod m (y.hi - y.lo + 1) := hV
      rw [← hV] at hvo
      have hw0 : IntKind.i64.wrap m = m := by rw [IntKind.wrap_i64]; omega
      have hw1 : IntKind.i64.wrap (y.hi - y.lo) = y.hi - y.lo := by rw [IntKind.wrap_i64]; omega
      have hw2 : IntKind.i64.wrap (y.hi - y.lo + 1) = y.hi - y.lo + 1 := by rw [IntKind.wrap_i64]; omega
      have hw3 : IntKind.i64.wrap (y.lo + Int.tmod m (y.hi - y.lo + 1)) = V := by rw [← hVe, IntKind.wrap_i64]; omega
      have hdz : ¬ y.hi - y.lo + 1 = 0 := by omega
      have hcu := cnt_take (p := surP c x.hi) xs i 0 y hy
      have hcp := cnt_take (p := perP c x.lo) xs i 0 y hy
      have hz1' := cnt_le (surP c x.hi) (xs.take i) 0
      have hz2' := cnt_le (perP c x.lo) (xs.take i) 0
      have htl : (xs.take i).length ≤ 8 := by rw [List.length_take]; omega
      obtain ⟨Bv, hBv⟩ : ∃ Bv, 1 + cnt (surP c x.hi) (xs.take i) 0 = Bv := ⟨_, rfl⟩
      obtain ⟨Wv, hWv⟩ : ∃ Wv, 1 + cnt (perP c x.lo) (xs.take i) 0 = Wv := ⟨_, rfl⟩
      rw [hBv, hWv]
      have hw4 : IntKind.i64.wrap (Bv + 1) = Bv + 1 := by rw [IntKind.wrap_i64]; omega
      have hw5 : IntKind.i64.wrap (Wv + 1) = Wv + 1 := by rw [IntKind.wrap_i64]; omega
      rw [Nat.zero_add] at hcu hcp
      have hN0d : some wr.heap.size ≠ u11.ownBlock := fun e => absurd (od.lt _ e.symm).2 (Nat.lt_irrefl _)
      obtain ⟨X0, hX0, gx0, b0, b1, b2⟩ := box3 wr (.string y.nm) (.int .i64 y.lo) (.int .i64 y.hi) 40
      replace c1 := gx0.cell c1
      replace c2 := gx0.cell c2
      have gk : Gr W3 X0 := hnx.trans gx0
      replace od := own_gr od gx0
      replace or' := own_gr or' gx0
      replace hv := hv.gr gx0
      have HX0 := Lib.hid hX0
      have la := gx0
      have HV := Lib.hid (And.intro hV (And.intro hBv (And.intro hWv (And.intro hcu (And.intro hcp hy)))))
      replace hs3 : W3.heap.size ≤ X0.heap.size := gk.size
      clear hX0 hV hVe hBv hWv hcu hcp hy hz1' hz2' htl c0 hnx gx0 y0 y1 y2 hvo
      by_cases hic : i = c
      · have hice : ((i : Int) != c) = false := by rw [hic]; simp
        have HIC := Lib.hid hic
        clear hic
        go_wp2_with fail
        rw [HX0.out]
        clear HX0 a0 a1 a2 la
        generalize wr.heap.size = N0 at *
        have gd := (Gr.refl X0).drew
        replace b0 := gd.cell b0
        replace b1 := gd.cell b1
        replace b2 := gd.cell b2
        replace c1 := gd.cell c1
        replace c2 := gd.cell c2
        replace gk := gk.trans gd
        replace od := own_gr od gd
        replace or' := own_gr or' gd
        replace hv := hv.gr gd
        clear gd
        refine wp_region_held_drew (S := (fun w' => (w'.cell? ⟨N0, 0, none⟩ = some (.string y.nm) ∧ w'.cell? ⟨N0, 1, none⟩ = some (.int .i64 y.lo) ∧ w'.cell? ⟨N0, 2, none⟩ = some (.int .i64 y.hi)) ∧ w'.cell? ⟨b, off + c * 3 + 1, none⟩ = some (.int .i64 x.lo) ∧ w'.cell? ⟨b, off + c * 3 + 2, none⟩ = some (.int .i64 x.hi))) (by kernel_rfl) ⟨⟨b0, b1, b2⟩, c1, c2⟩ (fun hHeld => ?_)
        generalize X0.drew = X1 at *
        refine wpAnyH_take (i := 0) (v := (.int .i64 (i : Int))) (op_at rfl) (by kernel_rfl) (by kernel_rfl) (by kernel_rfl) (fun _ _ _ h => h) (Or.inl ⟨rfl, fun w hSw => ?_⟩) (by assumption) ?_
        · (try dsimp only at hSw); go_simp; try with_reducible rfl
        (try simp only [Act.put, List.setIfInBounds_toArray, List.set_cons_zero, List.set_cons_succ])
        refine wpAnyH_take (i := 1) (v := (.int .i64 (c : Int))) (op_at rfl) (by kernel_rfl) (by kernel_rfl) (by kernel_rfl) (fun _ _ _ h => h) (Or.inl ⟨rfl, fun w hSw => ?_⟩) (by assumption) ?_
        · (try dsimp only at hSw); go_simp; try with_reducible rfl
        (try simp only [Act.put, List.setIfInBounds_toArray, List.set_cons_zero, List.set_cons_succ])
        refine wpAnyH_take (i := 2) (v := (.bool false)) (op_at rfl) (by kernel_rfl) (by kernel_rfl) (by kernel_rfl) (fun _ _ _ h => h) (Or.inl ⟨rfl, fun w hSw => ?_⟩) (by assumption) ?_
        · (try dsimp only at hSw); go_simp; try with_reducible rfl
        (try simp only [Act.put, List.setIfInBounds_toArray, List.set_cons_zero, List.set_cons_succ])
        refine wpAnyH_take (i := 3) (v := (.bool false)) (op_at rfl) (by kernel_rfl) (by kernel_rfl) (by kernel_rfl) (fun _ _ _ h => h) (Or.inl ⟨rfl, fun w hSw => ?_⟩) (by assumption) ?_
        · (try dsimp only at hSw); go_simp; try with_reducible rfl
        (try simp only [Act.put, List.setIfInBounds_toArray, List.set_cons_zero, List.set_cons_succ])
        refine wpAnyH_take (i := 4) (v := undef) (op_at rfl) (by kernel_rfl) (by kernel_rfl) (by kernel_rfl) (fun _ _ _ h => h) (Or.inr ⟨rfl, rfl⟩) (by assumption) ?_
        (try simp only [Act.put, List.setIfInBounds_toArray, List.set_cons_zero, List.set_cons_succ])
        refine wpAnyH_take (i := 5) (v := undef) (op_at rfl) (by kernel_rfl) (by kernel_rfl) (by kernel_rfl) (fun _ _ _ h => h) (Or.inr ⟨rfl, rfl⟩) (by assumption) ?_
        (try simp only [Act.put, List.setIfInBounds_toArray, List.set_cons_zero, List.set_cons_succ])
        refine wpAnyH_take (i := 6) (v := undef) (op_at rfl) (by kernel_rfl) (by kernel_rfl) (by kernel_rfl) (fun _ _ _ h => h) (Or.inr ⟨rfl, rfl⟩) (by assumption) ?_
        (try simp only [Act.put, List.setIfInBounds_toArray, List.set_cons_zero, List.set_cons_succ])
        refine wpAnyH_take (i := 7) (v := undef) (op_at rfl) (by kernel_rfl) (by kernel_rfl) (by kernel_rfl) (fun _ _ _ h => h) (Or.inr ⟨rfl, rfl⟩) (by assumption) ?_
        (try simp only [Act.put, List.setIfInBounds_toArray, List.set_cons_zero, List.set_cons_succ])
        refine wpAnyH_take (i := 8) (v := undef) (op_at rfl) (by kernel_rfl) (by kernel_rfl) (by kernel_rfl) (fun _ _ _ h => h) (Or.inr ⟨rfl, rfl⟩) (by assumption) ?_
        (try simp only [Act.put, List.setIfInBounds_toArray, List.set_cons_zero, List.set_cons_succ])
        refine wpAnyH_take (i := 9) (v := undef) (op_at rfl) (by kernel_rfl) (by kernel_rfl) (by kernel_rfl) (fun _ _ _ h => h) (Or.inr ⟨rfl, rfl⟩) (by assumption) ?_
        (try simp only [Act.put, List.setIfInBounds_toArray, List.set_cons_zero, List.set_cons_succ])
        refine wpAnyH_take (i := 10) (v := undef) (op_at rfl) (by kernel_rfl) (by kernel_rfl) (by kernel_rfl) (fun _ _ _ h => h) (Or.inr ⟨rfl, rfl⟩) (by assumption) ?_
        (try simp only [Act.put, List.setIfInBounds_toArray, List.set_cons_zero, List.set_cons_succ])
        refine wpAnyH_take (i := 11) (v := undef) (op_at rfl) (by kernel_rfl) (by kernel_rfl) (by kernel_rfl) (fun _ _ _ h => h) (Or.inr ⟨rfl, rfl⟩) (by assumption) ?_
        (try simp only [Act.put, List.setIfInBounds_toArray, List.set_cons_zero, List.set_cons_succ])
        refine wpAnyH_take (i := 12) (v := (.bool false)) (op_at rfl) (by kernel_rfl) (by kernel_rfl) (by kernel_rfl) (fun _ _ _ h => h) (Or.inl ⟨rfl, fun w hSw => ?_⟩) (by assumption) ?_
        · (try dsimp only at hSw); go_simp; try with_reducible rfl
        (try simp only [Act.put, List.setIfInBounds_toArray, List.set_cons_zero, List.set_cons_succ])
        refine wpAnyH_done (by kernel_rfl) ?_ _
        go_wp2_with fail
        have gd := (Gr.refl X1).drew
        replace b0 := gd.cell b0
        replace b1 := gd.cell b1
        replace b2 := gd.cell b2
        replace c1 := gd.cell c1
        replace c2 := gd.cell c2
        replace gk := gk.trans gd
        replace od := own_gr od gd
        replace or' := own_gr or' gd
        replace hv := hv.gr gd
        clear gd
        refine wp_region_held_drew (S := (fun w' => (w'.cell? ⟨N0, 0, none⟩ = some (.string y.nm) ∧ w'.cell? ⟨N0, 1, none⟩ = some (.int .i64 y.lo) ∧ w'.cell? ⟨N0, 2, none⟩ = some (.int .i64 y.hi)) ∧ w'.cell? ⟨b, off + c * 3 + 1, none⟩ = some (.int .i64 x.lo) ∧ w'.cell? ⟨b, off + c * 3 + 2, none⟩ = some (.int .i64 x.hi))) (by kernel_rfl) ⟨⟨b0, b1, b2⟩, c1, c2⟩ (fun hHeld => ?_)
        generalize X1.drew = X2 at *
        refine wpAnyH_take (i := 0) (v := (.int .i64 (i : Int))) (op_at rfl) (by kernel_rfl) (by kernel_rfl) (by kernel_rfl) (fun _ _ _ h => h) (Or.inl ⟨rfl, fun w hSw => ?_⟩) (by assumption) ?_
        · (try dsimp only at hSw); go_simp; try with_reducible rfl
        (try simp only [Act.put, List.setIfInBounds_toArray, List.set_cons_zero, List.set_cons_succ])
        refine wpAnyH_take (i := 1) (v := (.int .i64 (c : Int))) (op_at rfl) (by kernel_rfl) (by kernel_rfl) (by kernel_rfl) (fun _ _ _ h => h) (Or.inl ⟨rfl, fun w hSw => ?_⟩) (by assumption) ?_
        · (try dsimp only at hSw); go_simp; try with_reducible rfl
        (try simp only [Act.put, List.setIfInBounds_toArray, List.set_cons_zero, List.set_cons_succ])
        refine wpAnyH_take (i := 2) (v := (.bool false)) (op_at rfl) (by kernel_rfl) (by kernel_rfl) (by kernel_rfl) (fun _ _ _ h => h) (Or.inl ⟨rfl, fun w hSw => ?_⟩) (by assumption) ?_
        · (try dsimp only at hSw); go_simp; try with_reducible rfl
        (try simp only [Act.put, List.setIfInBounds_toArray, List.set_cons_zero, List.set_cons_succ])
        refine wpAnyH_take (i := 3) (v := (.bool false)) (op_at rfl) (by kernel_rfl) (by kernel_rfl) (by kernel_rfl) (fun _ _ _ h => h) (Or.inl ⟨rfl, fun w hSw => ?_⟩) (by assumption) ?_
        · (try dsimp only at hSw); go_simp; try with_reducible rfl
        (try simp only [Act.put, List.setIfInBounds_toArray, List.set_cons_zero, List.set_cons_succ])
        refine wpAnyH_take (i := 4) (v := undef) (op_at rfl) (by kernel_rfl) (by kernel_rfl) (by kernel_rfl) (fun _ _ _ h => h) (Or.inr ⟨rfl, rfl⟩) (by assumption) ?_
        (try simp only [Act.put, List.setIfInBounds_toArray, List.set_cons_zero, List.set_cons_succ])
        refine wpAnyH_take (i := 5) (v := undef) (op_at rfl) (by kernel_rfl) (by kernel_rfl) (by kernel_rfl) (fun _ _ _ h => h) (Or.inr ⟨rfl, rfl⟩) (by assumption) ?_
        (try simp only [Act.put, List.setIfInBounds_toArray, List.set_cons_zero, List.set_cons_succ])
        refine wpAnyH_take (i := 6) (v := undef) (op_at rfl) (by kernel_rfl) (by kernel_rfl) (by kernel_rfl) (fun _ _ _ h => h) (Or.inr ⟨rfl, rfl⟩) (by assumption) ?_
        (try simp only [Act.put, List.setIfInBounds_toArray, List.set_cons_zero, List.set_cons_succ])
        refine wpAnyH_take (i := 7) (v := undef) (op_at rfl) (by kernel_rfl) (by kernel_rfl) (by kernel_rfl) (fun _ _ _ h => h) (Or.inr ⟨rfl, rfl⟩) (by assumption) ?_
        (try simp only [Act.put, List.setIfInBounds_toArray, List.set_cons_zero, List.set_cons_succ])
        refine wpAnyH_take (i := 8) (v := undef) (op_at rfl) (by kernel_rfl) (by kernel_rfl) (by kernel_rfl) (fun _ _ _ h => h) (Or.inr ⟨rfl, rfl⟩) (by assumption) ?_
        (try simp only [Act.put, List.setIfInBounds_toArray, List.set_cons_zero, List.set_cons_succ])
        refine wpAnyH_take (i := 9) (v := undef) (op_at rfl) (by kernel_rfl) (by kernel_rfl) (by kernel_rfl) (fun _ _ _ h => h) (Or.inr ⟨rfl, rfl⟩) (by assumption) ?_
        (try simp only [Act.put, List.setIfInBounds_toArray, List.set_cons_zero, List.set_cons_succ])
        refine wpAnyH_take (i := 10) (v := undef) (op_at rfl) (by kernel_rfl) (by kernel_rfl) (by kernel_rfl) (fun _ _ _ h => h) (Or.inr ⟨rfl, rfl⟩) (by assumption) ?_
        (try simp only [Act.put, List.setIfInBounds_toArray, List.set_cons_zero, List.set_cons_succ])
        refine wpAnyH_take (i := 11) (v := undef) (op_at rfl) (by kernel_rfl) (by kernel_rfl) (by kernel_rfl) (fun _ _ _ h => h) (Or.inr ⟨rfl, rfl⟩) (by assumption) ?_
        (try simp only [Act.put, List.setIfInBounds_toArray, List.set_cons_zero, List.set_cons_succ])
        refine wpAnyH_take (i := 12) (v := (.bool false)) (op_at rfl) (by kernel_rfl) (by kernel_rfl) (by kernel_rfl) (fun _ _ _ h => h) (Or.inl ⟨rfl, fun w hSw => ?_⟩) (by assumption) ?_
        · (try dsimp only at hSw); go_simp; try with_reducible rfl
        (try simp only [Act.put, List.setIfInBounds_toArray, List.set_cons_zero, List.set_cons_succ])
        refine wpAnyH_done (by kernel_rfl) ?_ _
        go_wp2_with fail
        have gd := (Gr.refl X2).drew
        replace b0 := gd.cell b0
        replace b1 := gd.cell b1
        replace b2 := gd.cell b2
        replace c1 := gd.cell c1
        replace c2 := gd.cell c2
        replace gk := gk.trans gd
        replace od := own_gr od gd
        replace or' := own_gr or' gd
        replace hv := hv.gr gd
        clear gd
        refine wp_region_held_drew (S := (fun w' => (w'.cell? ⟨N0, 0, none⟩ = some (.string y.nm) ∧ w'.cell? ⟨N0, 1, none⟩ = some (.int .i64 y.lo) ∧ w'.cell? ⟨N0, 2, none⟩ = some (.int .i64 y.hi)) ∧ w'.cell? ⟨b, off + c * 3 + 1, none⟩ = some (.int .i64 x.lo) ∧ w'.cell? ⟨b, off + c * 3 + 2, none⟩ = some (.int .i64 x.hi))) (by kernel_rfl) ⟨⟨b0, b1, b2⟩, c1, c2⟩ (fun hHeld => ?_)
        generalize X2.drew = X at *
        refine wpAnyH_take (i := 0) (v := (.pointer (some ⟨N0, 1, none⟩))) (op_at rfl) (by kernel_rfl) (by kernel_rfl) (by kernel_rfl) (fun _ _ _ h => h) (Or.inl ⟨rfl, fun w hSw => ?_⟩) (by assumption) ?_
        · (try dsimp only at hSw); go_simp; try with_reducible rfl
        (try simp only [Act.put, List.setIfInBounds_toArray, List.set_cons_zero, List.set_cons_succ])
        refine wpAnyH_take (i := 1) (v := (.int .i64 y.lo)) (op_at rfl) (by kernel_rfl) (by kernel_rfl) (by kernel_rfl) (fun _ _ _ h => h) (Or.inl ⟨rfl, fun w hSw => ?_⟩) (by assumption) ?_
        · (try dsimp only at hSw); go_simp; try with_reducible rfl
        (try simp only [Act.put, List.setIfInBounds_toArray, List.set_cons_zero, List.set_cons_succ])
        refine wpAnyH_take (i := 2) (v := (.int .u8 m)) (op_at rfl) (by kernel_rfl) (by kernel_rfl) (by kernel_rfl) (fun _ _ _ h => h) (Or.inl ⟨rfl, fun w hSw => ?_⟩) (by assumption) ?_
        · (try dsimp only at hSw); go_simp; try with_reducible rfl
        (try simp only [Act.put, List.setIfInBounds_toArray, List.set_cons_zero, List.set_cons_succ])
        refine wpAnyH_take (i := 3) (v := (.int .i64 m)) (op_at rfl) (by kernel_rfl) (by kernel_rfl) (by kernel_rfl) (fun _ _ _ h => h) (Or.inl ⟨rfl, fun w hSw => ?_⟩) (by assumption) ?_
        · (try dsimp only at hSw); go_simp; try with_reducible rfl
        (try simp only [Act.put, List.setIfInBounds_toArray, List.set_cons_zero, List.set_cons_succ])
        refine wpAnyH_take (i := 4) (v := (.pointer (some ⟨N0, 2, none⟩))) (op_at rfl) (by kernel_rfl) (by kernel_rfl) (by kernel_rfl) (fun _ _ _ h => h) (Or.inl ⟨rfl, fun w hSw => ?_⟩) (by assumption) ?_
        · (try dsimp only at hSw); go_simp; try with_reducible rfl
        (try simp only [Act.put, List.setIfInBounds_toArray, List.set_cons_zero, List.set_cons_succ])
        refine wpAnyH_take (i := 5) (v := (.int .i64 y.hi)) (op_at rfl) (by kernel_rfl) (by kernel_rfl) (by kernel_rfl) (fun _ _ _ h => h) (Or.inl ⟨rfl, fun w hSw => ?_⟩) (by assumption) ?_
        · (try dsimp only at hSw); go_simp; try with_reducible rfl
        (try simp only [Act.put, List.setIfInBounds_toArray, List.set_cons_zero, List.set_cons_succ])
        refine wpAnyH_take (i := 6) (v := (.pointer (some ⟨N0, 1, none⟩))) (op_at rfl) (by kernel_rfl) (by kernel_rfl) (by kernel_rfl) (fun _ _ _ h => h) (Or.inl ⟨rfl, fun w hSw => ?_⟩) (by assumption) ?_
        · (try dsimp only at hSw); go_simp; try with_reducible rfl
        (try simp only [Act.put, List.setIfInBounds_toArray, List.set_cons_zero, List.set_cons_succ])
        refine wpAnyH_take (i := 7) (v := (.int .i64 y.lo)) (op_at rfl) (by kernel_rfl) (by kernel_rfl) (by kernel_rfl) (fun _ _ _ h => h) (Or.inl ⟨rfl, fun w hSw => ?_⟩) (by assumption) ?_
        · (try dsimp only at hSw); go_simp; try with_reducible rfl
        (try simp only [Act.put, List.setIfInBounds_toArray, List.set_cons_zero, List.set_cons_succ])
        refine wpAnyH_take (i := 8) (v := (.int .i64 (y.hi - y.lo))) (op_at rfl) (by kernel_rfl) (by kernel_rfl) (by kernel_rfl) (fun _ _ _ h => h) (Or.inl ⟨rfl, fun w hSw => ?_⟩) (by assumption) ?_
        · (try dsimp only at hSw); go_simp; try with_reducible rfl
        (try simp only [Act.put, List.setIfInBounds_toArray, List.set_cons_zero, List.set_cons_succ])
        refine wpAnyH_take (i := 9) (v := (.int .i64 (y.hi - y.lo + 1))) (op_at rfl) (by kernel_rfl) (by kernel_rfl) (by kernel_rfl) (fun _ _ _ h => h) (Or.inl ⟨rfl, fun w hSw => ?_⟩) (by assumption) ?_
        · (try dsimp only at hSw); go_simp; try with_reducible rfl
        (try simp only [Act.put, List.setIfInBounds_toArray, List.set_cons_zero, List.set_cons_succ])
        refine wpAnyH_take (i := 10) (v := (.int .i64 (Int.tmod m (y.hi - y.lo + 1)))) (op_at rfl) (by kernel_rfl) (by kernel_rfl) (by kernel_rfl) (fun _ _ _ h => h) (Or.inl ⟨rfl, fun w hSw => ?_⟩) (by assumption) ?_
        · (try dsimp only at hSw); go_simp; try with_reducible rfl
        (try simp only [Act.put, List.setIfInBounds_toArray, List.set_cons_zero, List.set_cons_succ])
        refine wpAnyH_take (i := 11) (v := (.int .i64 V)) (op_at rfl) (by kernel_rfl) (by kernel_rfl) (by kernel_rfl) (fun _ _ _ h => h) (Or.inl ⟨rfl, fun w hSw => ?_⟩) (by assumption) ?_
        · (try dsimp only at hSw); go_simp; try with_reducible rfl
        (try simp only [Act.put, List.setIfInBounds_toArray, List.set_cons_zero, List.set_cons_succ])
        refine wpAnyH_take (i := 12) (v := (.int .i64 V)) (op_at rfl) (by kernel_rfl) (by kernel_rfl) (by kernel_rfl) (fun _ _ _ h => h) (Or.inl ⟨rfl, fun w hSw => ?_⟩) (by assumption) ?_
        · (try dsimp only at hSw); go_simp; try with_reducible rfl
        (try simp only [Act.put, List.setIfInBounds_toArray, List.set_cons_zero, List.set_cons_succ])
        refine wpAnyH_done (by kernel_rfl) ?_ _
        replace hs3 := gk.size
        go_wp2_with (first
          | (at_builtin; refine wpList_append_own _ rfl _ _ 38 rfl W3.heap.size 42 j0 (.agg #[.string ⟨#[]⟩, .string ⟨#[]⟩, .slice none 0 0]) 3 56 Tryz.underlying38 hj hy0 hy1 hy2 rfl (by decide) u12 i _ rfl ((or1.alloc (.cells #[.int .i64 V] 3)).alloc (.cells #[.string y.nm, .string ⟨#[]⟩, .slice (some ⟨w1.heap.size, 0, none⟩) 1 1] 42)) ⟨w1.heap.size + 1, 0, none⟩ 1 1 [.string y.nm, .string ⟨#[]⟩, .slice (some ⟨w1.heap.size, 0, none⟩) 1 1] rfl rfl (cell_three_new _ _ _ _ _ _) (by intro u hu; simp at hu; rcases hu with rfl | rfl | rfl <;> rfl) (by unfold maxLen; omega) (by omega) (by simp; omega) ?_; intro r1 w2 or2 gr2 nr2)
          | (at_builtin; refine wpList_append_own _ rfl _ _ 22 rfl W3.heap.size 40 i0 (.agg #[.string ⟨#[]⟩, .int .i64 0, .int .i64 0]) 3 32 Tryz.underlying22 hi hz0 hz1 hz2 rfl (by decide) u11 i _ rfl (od.alloc _) ⟨X.heap.size, 0, none⟩ 1 1 [.string y.nm, .int .i64 V, .int .i64 V] rfl rfl (cell_three_at _ _ _ _ _) (by intro u hu; simp at hu; rcases hu with rfl | rfl | rfl <;> rfl) (by unfold maxLen; omega) (by omega) (by simp; omega) ?_; intro d1 w1 od1 gd1 nd1; obtain ⟨or1, vl1, gw1, p0⟩ := sideA (V := V) or' od hv hs3 gk b0 hN0d gd1; have hs1 := gw1.size))
        obtain ⟨hV, hBv, hWv, hcu, hcp, hy⟩ := HV.out
        subst hV
        obtain ⟨od2, vl2, gw2⟩ := sideB or1 od1 vl1 gw1 hrl hy gr2
        have su : surP c x.hi i y = false := by unfold surP; rw [HIC.out]; simp
        have sp : perP c x.lo i y = false := by unfold perP; rw [HIC.out]; simp
        rw [su] at hcu
        rw [sp] at hcp
        simp only [Bool.false_eq_true, if_false, if_true] at hcu hcp
        go_roundw
        case rel =>
          refine ⟨i + 1, _, by omega, by go_num, ?_, ?_, ?_, ?_, by simp [hrl], vl2, gw2⟩
          · congr 1; omega
          · congr 1; omega
          · rw [take_map_add m hy, opCs_add]; exact od2
          · rw [rowCs_add]; exact or2
        case measure => simp [intOf]; omega
      · have hice : ((i : Int) != c) = true := by rw [bne_iff_ne]; omega
        have HIC := Lib.hid hic
        clear hic
        cases e1 : decide (x.hi < y.lo)
        · cases e2 : decide (x.lo < y.hi)
          · go_wp2_with fail
            rw [HX0.out]
            clear HX0 a0 a1 a2 la
            generalize wr.heap.size = N0 at *
            have gd := (Gr.refl X0).drew
            replace b0 := gd.cell b0
            replace b1 := gd.cell b1
            replace b2 := gd.cell b2
            replace c1 := gd.cell c1
            replace c2 := gd.cell c2
            replace gk := gk.trans gd
            replace od := own_gr od gd
            replace or' := own_gr or' gd
            replace hv := hv.gr gd
            clear gd
            refine wp_region_held_drew (S := (fun w' => (w'.cell? ⟨N0, 0, none⟩ = some (.string y.nm) ∧ w'.cell? ⟨N0, 1, none⟩ = some (.int .i64 y.lo) ∧ w'.cell? ⟨N0, 2, none⟩ = some (.int .i64 y.hi)) ∧ w'.cell? ⟨b, off + c * 3 + 1, none⟩ = some (.int .i64 x.lo) ∧ w'.cell? ⟨b, off + c * 3 + 2, none⟩ = some (.int .i64 x.hi))) (by kernel_rfl) ⟨⟨b0, b1, b2⟩, c1, c2⟩ (fun hHeld => ?_)
            generalize X0.drew = X1 at *
            refine wpAnyH_take (i := 0) (v := (.int .i64 (i : Int))) (op_at rfl) (by kernel_rfl) (by kernel_rfl) (by kernel_rfl) (fun _ _ _ h => h) (Or.inl ⟨rfl, fun w hSw => ?_⟩) (by assumption) ?_
            · (try dsimp only at hSw); go_simp; try with_reducible rfl
            (try simp only [Act.put, List.setIfInBounds_toArray, List.set_cons_zero, List.set_cons_succ])
            refine wpAnyH_take (i := 1) (v := (.int .i64 (c : Int))) (op_at rfl) (by kernel_rfl) (by kernel_rfl) (by kernel_rfl) (fun _ _ _ h => h) (Or.inl ⟨rfl, fun w hSw => ?_⟩) (by assumption) ?_
            · (try dsimp only at hSw); go_simp; try with_reducible rfl
            (try simp only [Act.put, List.setIfInBounds_toArray, List.set_cons_zero, List.set_cons_succ])
            refine wpAnyH_take (i := 2) (v := (.bool true)) (op_at rfl) (by kernel_rfl) (by kernel_rfl) (by kernel_rfl) (fun _ _ _ h => h) (Or.inl ⟨rfl, fun w hSw => ?_⟩) (by assumption) ?_
            · (try dsimp only at hSw); go_simp; try with_reducible rfl
            (try simp only [Act.put, List.setIfInBounds_toArray, List.set_cons_zero, List.set_cons_succ])
            refine wpAnyH_take (i := 3) (v := (.bool true)) (op_at rfl) (by kernel_rfl) (by kernel_rfl) (by kernel_rfl) (fun _ _ _ h => h) (Or.inl ⟨rfl, fun w hSw => ?_⟩) (by assumption) ?_
            · (try dsimp only at hSw); go_simp; try with_reducible rfl
            (try simp only [Act.put, List.setIfInBounds_toArray, List.set_cons_zero, List.set_cons_succ])
            refine wpAnyH_take (i := 4) (v := (.pointer (some ⟨N0, 1, none⟩))) (op_at rfl) (by kernel_rfl) (by kernel_rfl) (by kernel_rfl) (fun _ _ _ h => h) (Or.inl ⟨rfl, fun w hSw => ?_⟩) (by assumption) ?_
            · (try dsimp only at hSw); go_simp; try with_reducible rfl
            (try simp only [Act.put, List.setIfInBounds_toArray, List.set_cons_zero, List.set_cons_succ])
            refine wpAnyH_take (i := 5) (v := (.int .i64 y.lo)) (op_at rfl) (by kernel_rfl) (by kernel_rfl) (by kernel_rfl) (fun _ _ _ h => h) (Or.inl ⟨rfl, fun w hSw => ?_⟩) (by assumption) ?_
            · (try dsimp only at hSw); go_simp; try with_reducible rfl
            (try simp only [Act.put, List.setIfInBounds_toArray, List.set_cons_zero, List.set_cons_succ])
            refine wpAnyH_take (i := 6) (v := (.slice (some ⟨b, off, none⟩) n cap)) (op_at rfl) (by kernel_rfl) (by kernel_rfl) (by kernel_rfl) (fun _ _ _ h => h) (Or.inl ⟨rfl, fun w hSw => ?_⟩) (by assumption) ?_
            · (try dsimp only at hSw); go_simp; try with_reducible rfl
            (try simp only [Act.put, List.setIfInBounds_toArray, List.set_cons_zero, List.set_cons_succ])
            refine wpAnyH_take (i := 7) (v := (.int .i64 (c : Int))) (op_at rfl) (by kernel_rfl) (by kernel_rfl) (by kernel_rfl) (fun _ _ _ h => h) (Or.inl ⟨rfl, fun w hSw => ?_⟩) (by assumption) ?_
            · (try dsimp only at hSw); go_simp; try with_reducible rfl
            (try simp only [Act.put, List.setIfInBounds_toArray, List.set_cons_zero, List.set_cons_succ])
            refine wpAnyH_take (i := 8) (v := (.pointer (some ⟨b, off + c * 3, none⟩))) (op_at rfl) (by kernel_rfl) (by kernel_rfl) (by kernel_rfl) (fun _ _ _ h => h) (Or.inl ⟨rfl, fun w hSw => ?_⟩) (by assumption) ?_
            · (try dsimp only at hSw); go_simp; try with_reducible rfl
            (try simp only [Act.put, List.setIfInBounds_toArray, List.set_cons_zero, List.set_cons_succ])
            refine wpAnyH_take (i := 9) (v := (.pointer (some ⟨b, off + c * 3 + 2, none⟩))) (op_at rfl) (by kernel_rfl) (by kernel_rfl) (by kernel_rfl) (fun _ _ _ h => h) (Or.inl ⟨rfl, fun w hSw => ?_⟩) (by assumption) ?_
            · (try dsimp only at hSw); go_simp; try with_reducible rfl
            (try simp only [Act.put, List.setIfInBounds_toArray, List.set_cons_zero, List.set_cons_succ])
            refine wpAnyH_take (i := 10) (v := (.int .i64 x.hi)) (op_at rfl) (by kernel_rfl) (by kernel_rfl) (by kernel_rfl) (fun _ _ _ h => h) (Or.inl ⟨rfl, fun w hSw => ?_⟩) (by assumption) ?_
            · (try dsimp only at hSw); go_simp; try with_reducible rfl
            (try simp only [Act.put, List.setIfInBounds_toArray, List.set_cons_zero, List.set_cons_succ])
            refine wpAnyH_take (i := 11) (v := (.bool false)) (op_at rfl) (by kernel_rfl) (by kernel_rfl) (by kernel_rfl) (fun _ _ _ h => h) (Or.inl ⟨rfl, fun w hSw => ?_⟩) (by assumption) ?_
            · (try dsimp only at hSw); go_simp; try with_reducible rfl
            (try simp only [Act.put, List.setIfInBounds_toArray, List.set_cons_zero, List.set_cons_succ])
            refine wpAnyH_take (i := 12) (v := (.bool false)) (op_at rfl) (by kernel_rfl) (by kernel_rfl) (by kernel_rfl) (fun _ _ _ h => h) (Or.inl ⟨rfl, fun w hSw => ?_⟩) (by assumption) ?_
            · (try dsimp only at hSw); go_simp; try with_reducible rfl
            (try simp only [Act.put, List.setIfInBounds_toArray, List.set_cons_zero, List.set_cons_succ])
            refine wpAnyH_done (by kernel_rfl) ?_ _
            go_wp2_with fail
            have gd := (Gr.refl X1).drew
            replace b0 := gd.cell b0
            replace b1 := gd.cell b1
            replace b2 := gd.cell b2
            replace c1 := gd.cell c1
            replace c2 := gd.cell c2
            replace gk := gk.trans gd
            replace od := own_gr od gd
            replace or' := own_gr or' gd
            replace hv := hv.gr gd
            clear gd
            refine wp_region_held_drew (S := (fun w' => (w'.cell? ⟨N0, 0, none⟩ = some (.string y.nm) ∧ w'.cell? ⟨N0, 1, none⟩ = some (.int .i64 y.lo) ∧ w'.cell? ⟨N0, 2, none⟩ = some (.int .i64 y.hi)) ∧ w'.cell? ⟨b, off + c * 3 + 1, none⟩ = some (.int .i64 x.lo) ∧ w'.cell? ⟨b, off + c * 3 + 2, none⟩ = some (.int .i64 x.hi))) (by kernel_rfl) ⟨⟨b0, b1, b2⟩, c1, c2⟩ (fun hHeld => ?_)
            generalize X1.drew = X2 at *
            refine wpAnyH_take (i := 0) (v := (.int .i64 (i : Int))) (op_at rfl) (by kernel_rfl) (by kernel_rfl) (by kernel_rfl) (fun _ _ _ h => h) (Or.inl ⟨rfl, fun w hSw => ?_⟩) (by assumption) ?_
            · (try dsimp only at hSw); go_simp; try with_reducible rfl
            (try simp only [Act.put, List.setIfInBounds_toArray, List.set_cons_zero, List.set_cons_succ])
            refine wpAnyH_take (i := 1) (v := (.int .i64 (c : Int))) (op_at rfl) (by kernel_rfl) (by kernel_rfl) (by kernel_rfl) (fun _ _ _ h => h) (Or.inl ⟨rfl, fun w hSw => ?_⟩) (by assumption) ?_
            · (try dsimp only at hSw); go_simp; try with_reducible rfl
            (try simp only [Act.put, List.setIfInBounds_toArray, List.set_cons_zero, List.set_cons_succ])
            refine wpAnyH_take (i := 2) (v := (.bool true)) (op_at rfl) (by kernel_rfl) (by kernel_rfl) (by kernel_rfl) (fun _ _ _ h => h) (Or.inl ⟨rfl, fun w hSw => ?_⟩) (by assumption) ?_
            · (try dsimp only at hSw); go_simp; try with_reducible rfl
            (try simp only [Act.put, List.setIfInBounds_toArray, List.set_cons_zero, List.set_cons_succ])
            refine wpAnyH_take (i := 3) (v := (.bool true)) (op_at rfl) (by kernel_rfl) (by kernel_rfl) (by kernel_rfl) (fun _ _ _ h => h) (Or.inl ⟨rfl, fun w hSw => ?_⟩) (by assumption) ?_
            · (try dsimp only at hSw); go_simp; try with_reducible rfl
            (try simp only [Act.put, List.setIfInBounds_toArray, List.set_cons_zero, List.set_cons_succ])
            refine wpAnyH_take (i := 4) (v := (.pointer (some ⟨N0, 2, none⟩))) (op_at rfl) (by kernel_rfl) (by kernel_rfl) (by kernel_rfl) (fun _ _ _ h => h) (Or.inl ⟨rfl, fun w hSw => ?_⟩) (by assumption) ?_
            · (try dsimp only at hSw); go_simp; try with_reducible rfl
            (try simp only [Act.put, List.setIfInBounds_toArray, List.set_cons_zero, List.set_cons_succ])
            refine wpAnyH_take (i := 5) (v := (.int .i64 y.hi)) (op_at rfl) (by kernel_rfl) (by kernel_rfl) (by kernel_rfl) (fun _ _ _ h => h) (Or.inl ⟨rfl, fun w hSw => ?_⟩) (by assumption) ?_
            · (try dsimp only at hSw); go_simp; try with_reducible rfl
            (try simp only [Act.put, List.setIfInBounds_toArray, List.set_cons_zero, List.set_cons_succ])
            refine wpAnyH_take (i := 6) (v := (.slice (some ⟨b, off, none⟩) n cap)) (op_at rfl) (by kernel_rfl) (by kernel_rfl) (by kernel_rfl) (fun _ _ _ h => h) (Or.inl ⟨rfl, fun w hSw => ?_⟩) (by assumption) ?_
            · (try dsimp only at hSw); go_simp; try with_reducible rfl
            (try simp only [Act.put, List.setIfInBounds_toArray, List.set_cons_zero, List.set_cons_succ])
            refine wpAnyH_take (i := 7) (v := (.int .i64 (c : Int))) (op_at rfl) (by kernel_rfl) (by kernel_rfl) (by kernel_rfl) (fun _ _ _ h => h) (Or.inl ⟨rfl, fun w hSw => ?_⟩) (by assumption) ?_
            · (try dsimp only at hSw); go_simp; try with_reducible rfl
            (try simp only [Act.put, List.setIfInBounds_toArray, List.set_cons_zero, List.set_cons_succ])
            refine wpAnyH_take (i := 8) (v := (.pointer (some ⟨b, off + c * 3, none⟩))) (op_at rfl) (by kernel_rfl) (by kernel_rfl) (by kernel_rfl) (fun _ _ _ h => h) (Or.inl ⟨rfl, fun w hSw => ?_⟩) (by assumption) ?_
            · (try dsimp only at hSw); go_simp; try with_reducible rfl
            (try simp only [Act.put, List.setIfInBounds_toArray, List.set_cons_zero, List.set_cons_succ])
            refine wpAnyH_take (i := 9) (v := (.pointer (some ⟨b, off + c * 3 + 1, none⟩))) (op_at rfl) (by kernel_rfl) (by kernel_rfl) (by kernel_rfl) (fun _ _ _ h => h) (Or.inl ⟨rfl, fun w hSw => ?_⟩) (by assumption) ?_
            · (try dsimp only at hSw); go_simp; try with_reducible rfl
            (try simp only [Act.put, List.setIfInBounds_toArray, List.set_cons_zero, List.set_cons_succ])
            refine wpAnyH_take (i := 10) (v := (.int .i64 x.lo)) (op_at rfl) (by kernel_rfl) (by kernel_rfl) (by kernel_rfl) (fun _ _ _ h => h) (Or.inl ⟨rfl, fun w hSw => ?_⟩) (by assumption) ?_
            · (try dsimp only at hSw); go_simp; try with_reducible rfl
            (try simp only [Act.put, List.setIfInBounds_toArray, List.set_cons_zero, List.set_cons_succ])
            refine wpAnyH_take (i := 11) (v := (.bool false)) (op_at rfl) (by kernel_rfl) (by kernel_rfl) (by kernel_rfl) (fun _ _ _ h => h) (Or.inl ⟨rfl, fun w hSw => ?_⟩) (by assumption) ?_
            · (try dsimp only at hSw); go_simp; try with_reducible rfl
            (try simp only [Act.put, List.setIfInBounds_toArray, List.set_cons_zero, List.set_cons_succ])
            refine wpAnyH_take (i := 12) (v := (.bool false)) (op_at rfl) (by kernel_rfl) (by kernel_rfl) (by kernel_rfl) (fun _ _ _ h => h) (Or.inl ⟨rfl, fun w hSw => ?_⟩) (by assumption) ?_
            · (try dsimp only at hSw); go_simp; try with_reducible rfl
            (try simp only [Act.put, List.setIfInBounds_toArray, List.set_cons_zero, List.set_cons_succ])
            refine wpAnyH_done (by kernel_rfl) ?_ _
            go_wp2_with fail
            have gd := (Gr.refl X2).drew
            replace b0 := gd.cell b0
            replace b1 := gd.cell b1
            replace b2 := gd.cell b2
            replace c1 := gd.cell c1
            replace c2 := gd.cell c2
            replace gk := gk.trans gd
            replace od := own_gr od gd
            replace or' := own_gr or' gd
            replace hv := hv.gr gd
            clear gd
            refine wp_region_held_drew (S := (fun w' => (w'.cell? ⟨N0, 0, none⟩ = some (.string y.nm) ∧ w'.cell? ⟨N0, 1, none⟩ = some (.int .i64 y.lo) ∧ w'.cell? ⟨N0, 2, none⟩ = some (.int .i64 y.hi)) ∧ w'.cell? ⟨b, off + c * 3 + 1, none⟩ = some (.int .i64 x.lo) ∧ w'.cell? ⟨b, off + c * 3 + 2, none⟩ = some (.int .i64 x.hi))) (by kernel_rfl) ⟨⟨b0, b1, b2⟩, c1, c2⟩ (fun hHeld => ?_)
            generalize X2.drew = X at *
            refine wpAnyH_take (i := 0) (v := (.pointer (some ⟨N0, 1, none⟩))) (op_at rfl) (by kernel_rfl) (by kernel_rfl) (by kernel_rfl) (fun _ _ _ h => h) (Or.inl ⟨rfl, fun w hSw => ?_⟩) (by assumption) ?_
            · (try dsimp only at hSw); go_simp; try with_reducible rfl
            (try simp only [Act.put, List.setIfInBounds_toArray, List.set_cons_zero, List.set_cons_succ])
            refine wpAnyH_take (i := 1) (v := (.int .i64 y.lo)) (op_at rfl) (by kernel_rfl) (by kernel_rfl) (by kernel_rfl) (fun _ _ _ h => h) (Or.inl ⟨rfl, fun w hSw => ?_⟩) (by assumption) ?_
            · (try dsimp only at hSw); go_simp; try with_reducible rfl
            (try simp only [Act.put, List.setIfInBounds_toArray, List.set_cons_zero, List.set_cons_succ])
            refine wpAnyH_take (i := 2) (v := (.int .u8 m)) (op_at rfl) (by kernel_rfl) (by kernel_rfl) (by kernel_rfl) (fun _ _ _ h => h) (Or.inl ⟨rfl, fun w hSw => ?_⟩) (by assumption) ?_
            · (try dsimp only at hSw); go_simp; try with_reducible rfl
            (try simp only [Act.put, List.setIfInBounds_toArray, List.set_cons_zero, List.set_cons_succ])
            refine wpAnyH_take (i := 3) (v := (.int .i64 m)) (op_at rfl) (by kernel_rfl) (by kernel_rfl) (by kernel_rfl) (fun _ _ _ h => h) (Or.inl ⟨rfl, fun w hSw => ?_⟩) (by assumption) ?_
            · (try dsimp only at hSw); go_simp; try with_reducible rfl
            (try simp only [Act.put, List.setIfInBounds_toArray, List.set_cons_zero, List.set_cons_succ])
            refine wpAnyH_take (i := 4) (v := (.pointer (some ⟨N0, 2, none⟩))) (op_at rfl) (by kernel_rfl) (by kernel_rfl) (by kernel_rfl) (fun _ _ _ h => h) (Or.inl ⟨rfl, fun w hSw => ?_⟩) (by assumption) ?_
            · (try dsimp only at hSw); go_simp; try with_reducible rfl
            (try simp only [Act.put, List.setIfInBounds_toArray, List.set_cons_zero, List.set_cons_succ])
            refine wpAnyH_take (i := 5) (v := (.int .i64 y.hi)) (op_at rfl) (by kernel_rfl) (by kernel_rfl) (by kernel_rfl) (fun _ _ _ h => h) (Or.inl ⟨rfl, fun w hSw => ?_⟩) (by assumption) ?_
            · (try dsimp only at hSw); go_simp; try with_reducible rfl
            (try simp only [Act.put, List.setIfInBounds_toArray, List.set_cons_zero, List.set_cons_succ])
            refine wpAnyH_take (i := 6) (v := (.pointer (some ⟨N0, 1, none⟩))) (op_at rfl) (by kernel_rfl) (by kernel_rfl) (by kernel_rfl) (fun _ _ _ h => h) (Or.inl ⟨rfl, fun w hSw => ?_⟩) (by assumption) ?_
            · (try dsimp only at hSw); go_simp; try with_reducible rfl
            (try simp only [Act.put, List.setIfInBounds_toArray, List.set_cons_zero, List.set_cons_succ])
            refine wpAnyH_take (i := 7) (v := (.int .i64 y.lo)) (op_at rfl) (by kernel_rfl) (by kernel_rfl) (by kernel_rfl) (fun _ _ _ h => h) (Or.inl ⟨rfl, fun w hSw => ?_⟩) (by assumption) ?_
            · (try dsimp only at hSw); go_simp; try with_reducible rfl
            (try simp only [Act.put, List.setIfInBounds_toArray, List.set_cons_zero, List.set_cons_succ])
            refine wpAnyH_take (i := 8) (v := (.int .i64 (y.hi - y.lo))) (op_at rfl) (by kernel_rfl) (by kernel_rfl) (by kernel_rfl) (fun _ _ _ h => h) (Or.inl ⟨rfl, fun w hSw => ?_⟩) (by assumption) ?_
            · (try dsimp only at hSw); go_simp; try with_reducible rfl
            (try simp only [Act.put, List.setIfInBounds_toArray, List.set_cons_zero, List.set_cons_succ])
            refine wpAnyH_take (i := 9) (v := (.int .i64 (y.hi - y.lo + 1))) (op_at rfl) (by kernel_rfl) (by kernel_rfl) (by kernel_rfl) (fun _ _ _ h => h) (Or.inl ⟨rfl, fun w hSw => ?_⟩) (by assumption) ?_
            · (try dsimp only at hSw); go_simp; try with_reducible rfl
            (try simp only [Act.put, List.setIfInBounds_toArray, List.set_cons_zero, List.set_cons_succ])
            refine wpAnyH_take (i := 10) (v := (.int .i64 (Int.tmod m (y.hi - y.lo + 1)))) (op_at rfl) (by kernel_rfl) (by kernel_rfl) (by kernel_rfl) (fun _ _ _ h => h) (Or.inl ⟨rfl, fun w hSw => ?_⟩) (by assumption) ?_
            · (try dsimp only at hSw); go_simp; try with_reducible rfl
            (try simp only [Act.put, List.setIfInBounds_toArray, List.set_cons_zero, List.set_cons_succ])
            refine wpAnyH_take (i := 11) (v := (.int .i64 V)) (op_at rfl) (by kernel_rfl) (by kernel_rfl) (by kernel_rfl) (fun _ _ _ h => h) (Or.inl ⟨rfl, fun w hSw => ?_⟩) (by assumption) ?_
            · (try dsimp only at hSw); go_simp; try with_reducible rfl
            (try simp only [Act.put, List.setIfInBounds_toArray, List.set_cons_zero, List.set_cons_succ])
            refine wpAnyH_take (i := 12) (v := (.int .i64 V)) (op_at rfl) (by kernel_rfl) (by kernel_rfl) (by kernel_rfl) (fun _ _ _ h => h) (Or.inl ⟨rfl, fun w hSw => ?_⟩) (by assumption) ?_
            · (try dsimp only at hSw); go_simp; try with_reducible rfl
            (try simp only [Act.put, List.setIfInBounds_toArray, List.set_cons_zero, List.set_cons_succ])
            refine wpAnyH_done (by kernel_rfl) ?_ _
            replace hs3 := gk.size
            go_wp2_with (first
              | (at_builtin; refine wpList_append_own _ rfl _ _ 38 rfl W3.heap.size 42 j0 (.agg #[.string ⟨#[]⟩, .string ⟨#[]⟩, .slice none 0 0]) 3 56 Tryz.underlying38 hj hy0 hy1 hy2 rfl (by decide) u12 i _ rfl ((or1.alloc (.cells #[.int .i64 V] 3)).alloc (.cells #[.string y.nm, .string ⟨#[]⟩, .slice (some ⟨w1.heap.size, 0, none⟩) 1 1] 42)) ⟨w1.heap.size + 1, 0, none⟩ 1 1 [.string y.nm, .string ⟨#[]⟩, .slice (some ⟨w1.heap.size, 0, none⟩) 1 1] rfl rfl (cell_three_new _ _ _ _ _ _) (by intro u hu; simp at hu; rcases hu with rfl | rfl | rfl <;> rfl) (by unfold maxLen; omega) (by omega) (by simp; omega) ?_; intro r1 w2 or2 gr2 nr2)
              | (at_builtin; refine wpList_append_own _ rfl _ _ 22 rfl W3.heap.size 40 i0 (.agg #[.string ⟨#[]⟩, .int .i64 0, .int .i64 0]) 3 32 Tryz.underlying22 hi hz0 hz1 hz2 rfl (by decide) u11 i _ rfl (od.alloc _) ⟨X.heap.size, 0, none⟩ 1 1 [.string y.nm, .int .i64 V, .int .i64 V] rfl rfl (cell_three_at _ _ _ _ _) (by intro u hu; simp at hu; rcases hu with rfl | rfl | rfl <;> rfl) (by unfold maxLen; omega) (by omega) (by simp; omega) ?_; intro d1 w1 od1 gd1 nd1; obtain ⟨or1, vl1, gw1, p0⟩ := sideA (V := V) or' od hv hs3 gk b0 hN0d gd1; have hs1 := gw1.size))
            obtain ⟨hV, hBv, hWv, hcu, hcp, hy⟩ := HV.out
            subst hV
            obtain ⟨od2, vl2, gw2⟩ := sideB or1 od1 vl1 gw1 hrl hy gr2
            have su : surP c x.hi i y = false := by unfold surP; rw [e1, Bool.and_eq_false_iff]; exact .inr rfl
            have sp : perP c x.lo i y = false := by unfold perP; rw [e2, Bool.and_eq_false_iff]; exact .inr rfl
            rw [su] at hcu
            rw [sp] at hcp
            simp only [Bool.false_eq_true, if_false, if_true] at hcu hcp
            go_roundw
            case rel =>
              refine ⟨i + 1, _, by omega, by go_num, ?_, ?_, ?_, ?_, by simp [hrl], vl2, gw2⟩
              · congr 1; omega
              · congr 1; omega
              · rw [take_map_add m hy, opCs_add]; exact od2
              · rw [rowCs_add]; exact or2
            case measure => simp [intOf]; omega
          · go_wp2_with fail
            rw [HX0.out]
            clear HX0 a0 a1 a2 la
            generalize wr.heap.size = N0 at *
            have gd := (Gr.refl X0).drew
            replace b0 := gd.cell b0
            replace b1 := gd.cell b1
            replace b2 := gd.cell b2
            replace c1 := gd.cell c1
            replace c2 := gd.cell c2
            replace gk := gk.trans gd
            replace od := own_gr od gd
            replace or' := own_gr or' gd
            replace hv := hv.gr gd
            clear gd
            refine wp_region_held_drew (S := (fun w' => (w'.cell? ⟨N0, 0, none⟩ = some (.string y.nm) ∧ w'.cell? ⟨N0, 1, none⟩ = some (.int .i64 y.lo) ∧ w'.cell? ⟨N0, 2, none⟩ = some (.int .i64 y.hi)) ∧ w'.cell? ⟨b, off + c * 3 + 1, none⟩ = some (.int .i64 x.lo) ∧ w'.cell? ⟨b, off + c * 3 + 2, none⟩ = some (.int .i64 x.hi))) (by kernel_rfl) ⟨⟨b0, b1, b2⟩, c1, c2⟩ (fun hHeld => ?_)
            generalize X0.drew = X1 at *
            refine wpAnyH_take (i := 0) (v := (.int .i64 (i : Int))) (op_at rfl) (by kernel_rfl) (by kernel_rfl) (by kernel_rfl) (fun _ _ _ h => h) (Or.inl ⟨rfl, fun w hSw => ?_⟩) (by assumption) ?_
            · (try dsimp only at hSw); go_simp; try with_reducible rfl
            (try simp only [Act.put, List.setIfInBounds_toArray, List.set_cons_zero, List.set_cons_succ])
            refine wpAnyH_take (i := 1) (v := (.int .i64 (c : Int))) (op_at rfl) (by kernel_rfl) (by kernel_rfl) (by kernel_rfl) (fun _ _ _ h => h) (Or.inl ⟨rfl, fun w hSw => ?_⟩) (by assumption) ?_
            · (try dsimp only at hSw); go_simp; try with_reducible rfl
            (try simp only [Act.put, List.setIfInBounds_toArray, List.set_cons_zero, List.set_cons_succ])
            refine wpAnyH_take (i := 2) (v := (.bool true)) (op_at rfl) (by kernel_rfl) (by kernel_rfl) (by kernel_rfl) (fun _ _ _ h => h) (Or.inl ⟨rfl, fun w hSw => ?_⟩) (by assumption) ?_
            · (try dsimp only at hSw); go_simp; try with_reducible rfl
            (try simp only [Act.put, List.setIfInBounds_toArray, List.set_cons_zero, List.set_cons_succ])
            refine wpAnyH_take (i := 3) (v := (.bool true)) (op_at rfl) (by kernel_rfl) (by kernel_rfl) (by kernel_rfl) (fun _ _ _ h => h) (Or.inl ⟨rfl, fun w hSw => ?_⟩) (by assumption) ?_
            · (try dsimp only at hSw); go_simp; try with_reducible rfl
            (try simp only [Act.put, List.setIfInBounds_toArray, List.set_cons_zero, List.set_cons_succ])
            refine wpAnyH_take (i := 4) (v := (.pointer (some ⟨N0, 1, none⟩))) (op_at rfl) (by kernel_rfl) (by kernel_rfl) (by kernel_rfl) (fun _ _ _ h => h) (Or.inl ⟨rfl, fun w hSw => ?_⟩) (by assumption) ?_
            · (try dsimp only at hSw); go_simp; try with_reducible rfl
            (try simp only [Act.put, List.setIfInBounds_toArray, List.set_cons_zero, List.set_cons_succ])
            refine wpAnyH_take (i := 5) (v := (.int .i64 y.lo)) (op_at rfl) (by kernel_rfl) (by kernel_rfl) (by kernel_rfl) (fun _ _ _ h => h) (Or.inl ⟨rfl, fun w hSw => ?_⟩) (by assumption) ?_
            · (try dsimp only at hSw); go_simp; try with_reducible rfl
            (try simp only [Act.put, List.setIfInBounds_toArray, List.set_cons_zero, List.set_cons_succ])
            refine wpAnyH_take (i := 6) (v := (.slice (some ⟨b, off, none⟩) n cap)) (op_at rfl) (by kernel_rfl) (by kernel_rfl) (by kernel_rfl) (fun _ _ _ h => h) (Or.inl ⟨rfl, fun w hSw => ?_⟩) (by assumption) ?_
            · (try dsimp only at hSw); go_simp; try with_reducible rfl
            (try simp only [Act.put, List.setIfInBounds_toArray, List.set_cons_zero, List.set_cons_succ])
            refine wpAnyH_take (i := 7) (v := (.int .i64 (c : Int))) (op_at rfl) (by kernel_rfl) (by kernel_rfl) (by kernel_rfl) (fun _ _ _ h => h) (Or.inl ⟨rfl, fun w hSw => ?_⟩) (by assumption) ?_
            · (try dsimp only at hSw); go_simp; try with_reducible rfl
            (try simp only [Act.put, List.setIfInBounds_toArray, List.set_cons_zero, List.set_cons_succ])
            refine wpAnyH_take (i := 8) (v := (.pointer (some ⟨b, off + c * 3, none⟩))) (op_at rfl) (by kernel_rfl) (by kernel_rfl) (by kernel_rfl) (fun _ _ _ h => h) (Or.inl ⟨rfl, fun w hSw => ?_⟩) (by assumption) ?_
            · (try dsimp only at hSw); go_simp; try with_reducible rfl
            (try simp only [Act.put, List.setIfInBounds_toArray, List.set_cons_zero, List.set_cons_succ])
            refine wpAnyH_take (i := 9) (v := (.pointer (some ⟨b, off + c * 3 + 2, none⟩))) (op_at rfl) (by kernel_rfl) (by kernel_rfl) (by kernel_rfl) (fun _ _ _ h => h) (Or.inl ⟨rfl, fun w hSw => ?_⟩) (by assumption) ?_
            · (try dsimp only at hSw); go_simp; try with_reducible rfl
            (try simp only [Act.put, List.setIfInBounds_toArray, List.set_cons_zero, List.set_cons_succ])
            refine wpAnyH_take (i := 10) (v := (.int .i64 x.hi)) (op_at rfl) (by kernel_rfl) (by kernel_rfl) (by kernel_rfl) (fun _ _ _ h => h) (Or.inl ⟨rfl, fun w hSw => ?_⟩) (by assumption) ?_
            · (try dsimp only at hSw); go_simp; try with_reducible rfl
            (try simp only [Act.put, List.setIfInBounds_toArray, List.set_cons_zero, List.set_cons_succ])
            refine wpAnyH_take (i := 11) (v := (.bool false)) (op_at rfl) (by kernel_rfl) (by kernel_rfl) (by kernel_rfl) (fun _ _ _ h => h) (Or.inl ⟨rfl, fun w hSw => ?_⟩) (by assumption) ?_
            · (try dsimp only at hSw); go_simp; try with_reducible rfl
            (try simp only [Act.put, List.setIfInBounds_toArray, List.set_cons_zero, List.set_cons_succ])
            refine wpAnyH_take (i := 12) (v := (.bool false)) (op_at rfl) (by kernel_rfl) (by kernel_rfl) (by kernel_rfl) (fun _ _ _ h => h) (Or.inl ⟨rfl, fun w hSw => ?_⟩) (by assumption) ?_
            · (try dsimp only at hSw); go_simp; try with_reducible rfl
            (try simp only [Act.put, List.setIfInBounds_toArray, List.set_cons_zero, List.set_cons_succ])
            refine wpAnyH_done (by kernel_rfl) ?_ _
            go_wp2_with fail
            have gd := (Gr.refl X1).drew
            replace b0 := gd.cell b0
            replace b1 := gd.cell b1
            replace b2 := gd.cell b2
            replace c1 := gd.cell c1
            replace c2 := gd.cell c2
            replace gk := gk.trans gd
            replace od := own_gr od gd
            replace or' := own_gr or' gd
            replace hv := hv.gr gd
            clear gd
            refine wp_region_held_drew (S := (fun w' => (w'.cell? ⟨N0, 0, none⟩ = some (.string y.nm) ∧ w'.cell? ⟨N0, 1, none⟩ = some (.int .i64 y.lo) ∧ w'.cell? ⟨N0, 2, none⟩ = some (.int .i64 y.hi)) ∧ w'.cell? ⟨b, off + c * 3 + 1, none⟩ = some (.int .i64 x.lo) ∧ w'.cell? ⟨b, off + c * 3 + 2, none⟩ = some (.int .i64 x.hi))) (by kernel_rfl) ⟨⟨b0, b1, b2⟩, c1, c2⟩ (fun hHeld => ?_)
            generalize X1.drew = X2 at *
            refine wpAnyH_take (i := 0) (v := (.int .i64 (i : Int))) (op_at rfl) (by kernel_rfl) (by kernel_rfl) (by kernel_rfl) (fun _ _ _ h => h) (Or.inl ⟨rfl, fun w hSw => ?_⟩) (by assumption) ?_
            · (try dsimp only at hSw); go_simp; try with_reducible rfl
            (try simp only [Act.put, List.setIfInBounds_toArray, List.set_cons_zero, List.set_cons_succ])
            refine wpAnyH_take (i := 1) (v := (.int .i64 (c : Int))) (op_at rfl) (by kernel_rfl) (by kernel_rfl) (by kernel_rfl) (fun _ _ _ h => h) (Or.inl ⟨rfl, fun w hSw => ?_⟩) (by assumption) ?_
            · (try dsimp only at hSw); go_simp; try with_reducible rfl
            (try simp only [Act.put, List.setIfInBounds_toArray, List.set_cons_zero, List.set_cons_succ])
            refine wpAnyH_take (i := 2) (v := (.bool true)) (op_at rfl) (by kernel_rfl) (by kernel_rfl) (by kernel_rfl) (fun _ _ _ h => h) (Or.inl ⟨rfl, fun w hSw => ?_⟩) (by assumption) ?_
            · (try dsimp only at hSw); go_simp; try with_reducible rfl
            (try simp only [Act.put, List.setIfInBounds_toArray, List.set_cons_zero, List.set_cons_succ])
            refine wpAnyH_take (i := 3) (v := (.bool true)) (op_at rfl) (by kernel_rfl) (by kernel_rfl) (by kernel_rfl) (fun _ _ _ h => h) (Or.inl ⟨rfl, fun w hSw => ?_⟩) (by assumption) ?_
            · (try dsimp only at hSw); go_simp; try with_reducible rfl
            (try simp only [Act.put, List.setIfInBounds_toArray, List.set_cons_zero, List.set_cons_succ])
            refine wpAnyH_take (i := 4) (v := (.pointer (some ⟨N0, 2, none⟩))) (op_at rfl) (by kernel_rfl) (by kernel_rfl) (by kernel_rfl) (fun _ _ _ h => h) (Or.inl ⟨rfl, fun w hSw => ?_⟩) (by assumption) ?_
            · (try dsimp only at hSw); go_simp; try with_reducible rfl
            (try simp only [Act.put, List.setIfInBounds_toArray, List.set_cons_zero, List.set_cons_succ])
            refine wpAnyH_take (i := 5) (v := (.int .i64 y.hi)) (op_at rfl) (by kernel_rfl) (by kernel_rfl) (by kernel_rfl) (fun _ _ _ h => h) (Or.inl ⟨rfl, fun w hSw => ?_⟩) (by assumption) ?_
            · (try dsimp only at hSw); go_simp; try with_reducible rfl
            (try simp only [Act.put, List.setIfInBounds_toArray, List.set_cons_zero, List.set_cons_succ])
            refine wpAnyH_take (i := 6) (v := (.slice (some ⟨b, off, none⟩) n cap)) (op_at rfl) (by kernel_rfl) (by kernel_rfl) (by kernel_rfl) (fun _ _ _ h => h) (Or.inl ⟨rfl, fun w hSw => ?_⟩) (by assumption) ?_
            · (try dsimp only at hSw); go_simp; try with_reducible rfl
            (try simp only [Act.put, List.setIfInBounds_toArray, List.set_cons_zero, List.set_cons_succ])
            refine wpAnyH_take (i := 7) (v := (.int .i64 (c : Int))) (op_at rfl) (by kernel_rfl) (by kernel_rfl) (by kernel_rfl) (fun _ _ _ h => h) (Or.inl ⟨rfl, fun w hSw => ?_⟩) (by assumption) ?_
            · (try dsimp only at hSw); go_simp; try with_reducible rfl
            (try simp only [Act.put, List.setIfInBounds_toArray, List.set_cons_zero, List.set_cons_succ])
            refine wpAnyH_take (i := 8) (v := (.pointer (some ⟨b, off + c * 3, none⟩))) (op_at rfl) (by kernel_rfl) (by kernel_rfl) (by kernel_rfl) (fun _ _ _ h => h) (Or.inl ⟨rfl, fun w hSw => ?_⟩) (by assumption) ?_
            · (try dsimp only at hSw); go_simp; try with_reducible rfl
            (try simp only [Act.put, List.setIfInBounds_toArray, List.set_cons_zero, List.set_cons_succ])
            refine wpAnyH_take (i := 9) (v := (.pointer (some ⟨b, off + c * 3 + 1, none⟩))) (op_at rfl) (by kernel_rfl) (by kernel_rfl) (by kernel_rfl) (fun _ _ _ h => h) (Or.inl ⟨rfl, fun w hSw => ?_⟩) (by assumption) ?_
            · (try dsimp only at hSw); go_simp; try with_reducible rfl
            (try simp only [Act.put, List.setIfInBounds_toArray, List.set_cons_zero, List.set_cons_succ])
            refine wpAnyH_take (i := 10) (v := (.int .i64 x.lo)) (op_at rfl) (by kernel_rfl) (by kernel_rfl) (by kernel_rfl) (fun _ _ _ h => h) (Or.inl ⟨rfl, fun w hSw => ?_⟩) (by assumption) ?_
            · (try dsimp only at hSw); go_simp; try with_reducible rfl
            (try simp only [Act.put, List.setIfInBounds_toArray, List.set_cons_zero, List.set_cons_succ])
            refine wpAnyH_take (i := 11) (v := (.bool true)) (op_at rfl) (by kernel_rfl) (by kernel_rfl) (by kernel_rfl) (fun _ _ _ h => h) (Or.inl ⟨rfl, fun w hSw => ?_⟩) (by assumption) ?_
            · (try dsimp only at hSw); go_simp; try with_reducible rfl
            (try simp only [Act.put, List.setIfInBounds_toArray, List.set_cons_zero, List.set_cons_succ])
            refine wpAnyH_take (i := 12) (v := (.bool true)) (op_at rfl) (by kernel_rfl) (by kernel_rfl) (by kernel_rfl) (fun _ _ _ h => h) (Or.inl ⟨rfl, fun w hSw => ?_⟩) (by assumption) ?_
            · (try dsimp only at hSw); go_simp; try with_reducible rfl
            (try simp only [Act.put, List.setIfInBounds_toArray, List.set_cons_zero, List.set_cons_succ])
            refine wpAnyH_done (by kernel_rfl) ?_ _
            go_wp2_with fail
            have gd := (Gr.refl X2).drew
            replace b0 := gd.cell b0
            replace b1 := gd.cell b1
            replace b2 := gd.cell b2
            replace c1 := gd.cell c1
            replace c2 := gd.cell c2
            replace gk := gk.trans gd
            replace od := own_gr od gd
            replace or' := own_gr or' gd
            replace hv := hv.gr gd
            clear gd
            refine wp_region_held_drew (S := (fun w' => (w'.cell? ⟨N0, 0, none⟩ = some (.string y.nm) ∧ w'.cell? ⟨N0, 1, none⟩ = some (.int .i64 y.lo) ∧ w'.cell? ⟨N0, 2, none⟩ = some (.int .i64 y.hi)) ∧ w'.cell? ⟨b, off + c * 3 + 1, none⟩ = some (.int .i64 x.lo) ∧ w'.cell? ⟨b, off + c * 3 + 2, none⟩ = some (.int .i64 x.hi))) (by kernel_rfl) ⟨⟨b0, b1, b2⟩, c1, c2⟩ (fun hHeld => ?_)
            generalize X2.drew = X at *
            refine wpAnyH_take (i := 0) (v := (.pointer (some ⟨N0, 1, none⟩))) (op_at rfl) (by kernel_rfl) (by kernel_rfl) (by kernel_rfl) (fun _ _ _ h => h) (Or.inl ⟨rfl, fun w hSw => ?_⟩) (by assumption) ?_
            · (try dsimp only at hSw); go_simp; try with_reducible rfl
            (try simp only [Act.put, List.setIfInBounds_toArray, List.set_cons_zero, List.set_cons_succ])
            refine wpAnyH_take (i := 1) (v := (.int .i64 y.lo)) (op_at rfl) (by kernel_rfl) (by kernel_rfl) (by kernel_rfl) (fun _ _ _ h => h) (Or.inl ⟨rfl, fun w hSw => ?_⟩) (by assumption) ?_
            · (try dsimp only at hSw); go_simp; try with_reducible rfl
            (try simp only [Act.put, List.setIfInBounds_toArray, List.set_cons_zero, List.set_cons_succ])
            refine wpAnyH_take (i := 2) (v := (.int .u8 m)) (op_at rfl) (by kernel_rfl) (by kernel_rfl) (by kernel_rfl) (fun _ _ _ h => h) (Or.inl ⟨rfl, fun w hSw => ?_⟩) (by assumption) ?_
            · (try dsimp only at hSw); go_simp; try with_reducible rfl
            (try simp only [Act.put, List.setIfInBounds_toArray, List.set_cons_zero, List.set_cons_succ])
            refine wpAnyH_take (i := 3) (v := (.int .i64 m)) (op_at rfl) (by kernel_rfl) (by kernel_rfl) (by kernel_rfl) (fun _ _ _ h => h) (Or.inl ⟨rfl, fun w hSw => ?_⟩) (by assumption) ?_
            · (try dsimp only at hSw); go_simp; try with_reducible rfl
            (try simp only [Act.put, List.setIfInBounds_toArray, List.set_cons_zero, List.set_cons_succ])
            refine wpAnyH_take (i := 4) (v := (.pointer (some ⟨N0, 2, none⟩))) (op_at rfl) (by kernel_rfl) (by kernel_rfl) (by kernel_rfl) (fun _ _ _ h => h) (Or.inl ⟨rfl, fun w hSw => ?_⟩) (by assumption) ?_
            · (try dsimp only at hSw); go_simp; try with_reducible rfl
            (try simp only [Act.put, List.setIfInBounds_toArray, List.set_cons_zero, List.set_cons_succ])
            refine wpAnyH_take (i := 5) (v := (.int .i64 y.hi)) (op_at rfl) (by kernel_rfl) (by kernel_rfl) (by kernel_rfl) (fun _ _ _ h => h) (Or.inl ⟨rfl, fun w hSw => ?_⟩) (by assumption) ?_
            · (try dsimp only at hSw); go_simp; try with_reducible rfl
            (try simp only [Act.put, List.setIfInBounds_toArray, List.set_cons_zero, List.set_cons_succ])
            refine wpAnyH_take (i := 6) (v := (.pointer (some ⟨N0, 1, none⟩))) (op_at rfl) (by kernel_rfl) (by kernel_rfl) (by kernel_rfl) (fun _ _ _ h => h) (Or.inl ⟨rfl, fun w hSw => ?_⟩) (by assumption) ?_
            · (try dsimp only at hSw); go_simp; try with_reducible rfl
            (try simp only [Act.put, List.setIfInBounds_toArray, List.set_cons_zero, List.set_cons_succ])
            refine wpAnyH_take (i := 7) (v := (.int .i64 y.lo)) (op_at rfl) (by kernel_rfl) (by kernel_rfl) (by kernel_rfl) (fun _ _ _ h => h) (Or.inl ⟨rfl, fun w hSw => ?_⟩) (by assumption) ?_
            · (try dsimp only at hSw); go_simp; try with_reducible rfl
            (try simp only [Act.put, List.setIfInBounds_toArray, List.set_cons_zero, List.set_cons_succ])
            refine wpAnyH_take (i := 8) (v := (.int .i64 (y.hi - y.lo))) (op_at rfl) (by kernel_rfl) (by kernel_rfl) (by kernel_rfl) (fun _ _ _ h => h) (Or.inl ⟨rfl, fun w hSw => ?_⟩) (by assumption) ?_
            · (try dsimp only at hSw); go_simp; try with_reducible rfl
            (try simp only [Act.put, List.setIfInBounds_toArray, List.set_cons_zero, List.set_cons_succ])
            refine wpAnyH_take (i := 9) (v := (.int .i64 (y.hi - y.lo + 1))) (op_at rfl) (by kernel_rfl) (by kernel_rfl) (by kernel_rfl) (fun _ _ _ h => h) (Or.inl ⟨rfl, fun w hSw => ?_⟩) (by assumption) ?_
            · (try dsimp only at hSw); go_simp; try with_reducible rfl
            (try simp only [Act.put, List.setIfInBounds_toArray, List.set_cons_zero, List.set_cons_succ])
            refine wpAnyH_take (i := 10) (v := (.int .i64 (Int.tmod m (y.hi - y.lo + 1)))) (op_at rfl) (by kernel_rfl) (by kernel_rfl) (by kernel_rfl) (fun _ _ _ h => h) (Or.inl ⟨rfl, fun w hSw => ?_⟩) (by assumption) ?_
            · (try dsimp only at hSw); go_simp; try with_reducible rfl
            (try simp only [Act.put, List.setIfInBounds_toArray, List.set_cons_zero, List.set_cons_succ])
            refine wpAnyH_take (i := 11) (v := (.int .i64 V)) (op_at rfl) (by kernel_rfl) (by kernel_rfl) (by kernel_rfl) (fun _ _ _ h => h) (Or.inl ⟨rfl, fun w hSw => ?_⟩) (by assumption) ?_
            · (try dsimp only at hSw); go_simp; try with_reducible rfl
            (try simp only [Act.put, List.setIfInBounds_toArray, List.set_cons_zero, List.set_cons_succ])
            refine wpAnyH_take (i := 12) (v := (.int .i64 V)) (op_at rfl) (by kernel_rfl) (by kernel_rfl) (by kernel_rfl) (fun _ _ _ h => h) (Or.inl ⟨rfl, fun w hSw => ?_⟩) (by assumption) ?_
            · (try dsimp only at hSw); go_simp; try with_reducible rfl
            (try simp only [Act.put, List.setIfInBounds_toArray, List.set_cons_zero, List.set_cons_succ])
            refine wpAnyH_done (by kernel_rfl) ?_ _
            replace hs3 := gk.size
            go_wp2_with (first
              | (at_builtin; refine wpList_append_own _ rfl _ _ 38 rfl W3.heap.size 42 j0 (.agg #[.string ⟨#[]⟩, .string ⟨#[]⟩, .slice none 0 0]) 3 56 Tryz.underlying38 hj hy0 hy1 hy2 rfl (by decide) u12 i _ rfl ((or1.alloc (.cells #[.int .i64 V] 3)).alloc (.cells #[.string y.nm, .string ⟨#[]⟩, .slice (some ⟨w1.heap.size, 0, none⟩) 1 1] 42)) ⟨w1.heap.size + 1, 0, none⟩ 1 1 [.string y.nm, .string ⟨#[]⟩, .slice (some ⟨w1.heap.size, 0, none⟩) 1 1] rfl rfl (cell_three_new _ _ _ _ _ _) (by intro u hu; simp at hu; rcases hu with rfl | rfl | rfl <;> rfl) (by unfold maxLen; omega) (by omega) (by simp; omega) ?_; intro r1 w2 or2 gr2 nr2)
              | (at_builtin; refine wpList_append_own _ rfl _ _ 22 rfl W3.heap.size 40 i0 (.agg #[.string ⟨#[]⟩, .int .i64 0, .int .i64 0]) 3 32 Tryz.underlying22 hi hz0 hz1 hz2 rfl (by decide) u11 i _ rfl (od.alloc _) ⟨X.heap.size, 0, none⟩ 1 1 [.string y.nm, .int .i64 V, .int .i64 V] rfl rfl (cell_three_at _ _ _ _ _) (by intro u hu; simp at hu; rcases hu with rfl | rfl | rfl <;> rfl) (by unfold maxLen; omega) (by omega) (by simp; omega) ?_; intro d1 w1 od1 gd1 nd1; obtain ⟨or1, vl1, gw1, p0⟩ := sideA (V := V) or' od hv hs3 gk b0 hN0d gd1; have hs1 := gw1.size))
            obtain ⟨hV, hBv, hWv, hcu, hcp, hy⟩ := HV.out
            subst hV
            obtain ⟨od2, vl2, gw2⟩ := sideB or1 od1 vl1 gw1 hrl hy gr2
            have su : surP c x.hi i y = false := by unfold surP; rw [e1, Bool.and_eq_false_iff]; exact .inr rfl
            have sp : perP c x.lo i y = true := by unfold perP; rw [e2, Bool.and_eq_true]; exact ⟨by have := HIC.out; simp; omega, rfl⟩
            rw [su] at hcu
            rw [sp] at hcp
            simp only [Bool.false_eq_true, if_false, if_true] at hcu hcp
            go_roundw
            case rel =>
              refine ⟨i + 1, _, by omega, by go_num, ?_, ?_, ?_, ?_, by simp [hrl], vl2, gw2⟩
              · congr 1; omega
              · congr 1; omega
              · rw [take_map_add m hy, opCs_add]; exact od2
              · rw [rowCs_add]; exact or2
            case measure => simp [intOf]; omega
        · cases e2 : decide (x.lo < y.hi)
          · go_wp2_with fail
            rw [HX0.out]
            clear HX0 a0 a1 a2 la
            generalize wr.heap.size = N0 at *
            have gd := (Gr.refl X0).drew
            replace b0 := gd.cell b0
            replace b1 := gd.cell b1
            replace b2 := gd.cell b2
            replace c1 := gd.cell c1
            replace c2 := gd.cell c2
            replace gk := gk.trans gd
            replace od := own_gr od gd
            replace or' := own_gr or' gd
            replace hv := hv.gr gd
            clear gd
            refine wp_region_held_drew (S := (fun w' => (w'.cell? ⟨N0, 0, none⟩ = some (.string y.nm) ∧ w'.cell? ⟨N0, 1, none⟩ = some (.int .i64 y.lo) ∧ w'.cell? ⟨N0, 2, none⟩ = some (.int .i64 y.hi)) ∧ w'.cell? ⟨b, off + c * 3 + 1, none⟩ = some (.int .i64 x.lo) ∧ w'.cell? ⟨b, off + c * 3 + 2, none⟩ = some (.int .i64 x.hi))) (by kernel_rfl) ⟨⟨b0, b1, b2⟩, c1, c2⟩ (fun hHeld => ?_)
            generalize X0.drew = X1 at *
            refine wpAnyH_take (i := 0) (v := (.int .i64 (i : Int))) (op_at rfl) (by kernel_rfl) (by kernel_rfl) (by kernel_rfl) (fun _ _ _ h => h) (Or.inl ⟨rfl, fun w hSw => ?_⟩) (by assumption) ?_
            · (try dsimp only at hSw); go_simp; try with_reducible rfl
            (try simp only [Act.put, List.setIfInBounds_toArray, List.set_cons_zero, List.set_cons_succ])
            refine wpAnyH_take (i := 1) (v := (.int .i64 (c : Int))) (op_at rfl) (by kernel_rfl) (by kernel_rfl) (by kernel_rfl) (fun _ _ _ h => h) (Or.inl ⟨rfl, fun w hSw => ?_⟩) (by assumption) ?_
            · (try dsimp only at hSw); go_simp; try with_reducible rfl
            (try simp only [Act.put, List.setIfInBounds_toArray, List.set_cons_zero, List.set_cons_succ])
            refine wpAnyH_take (i := 2) (v := (.bool true)) (op_at rfl) (by kernel_rfl) (by kernel_rfl) (by kernel_rfl) (fun _ _ _ h => h) (Or.inl ⟨rfl, fun w hSw => ?_⟩) (by assumption) ?_
            · (try dsimp only at hSw); go_simp; try with_reducible rfl
            (try simp only [Act.put, List.setIfInBounds_toArray, List.set_cons_zero, List.set_cons_succ])
            refine wpAnyH_take (i := 3) (v := (.bool true)) (op_at rfl) (by kernel_rfl) (by kernel_rfl) (by kernel_rfl) (fun _ _ _ h => h) (Or.inl ⟨rfl, fun w hSw => ?_⟩) (by assumption) ?_
            · (try dsimp only at hSw); go_simp; try with_reducible rfl
            (try simp only [Act.put, List.setIfInBounds_toArray, List.set_cons_zero, List.set_cons_succ])
            refine wpAnyH_take (i := 4) (v := (.pointer (some ⟨N0, 1, none⟩))) (op_at rfl) (by kernel_rfl) (by kernel_rfl) (by kernel_rfl) (fun _ _ _ h => h) (Or.inl ⟨rfl, fun w hSw => ?_⟩) (by assumption) ?_
            · (try dsimp only at hSw); go_simp; try with_reducible rfl
            (try simp only [Act.put, List.setIfInBounds_toArray, List.set_cons_zero, List.set_cons_succ])
            refine wpAnyH_take (i := 5) (v := (.int .i64 y.lo)) (op_at rfl) (by kernel_rfl) (by kernel_rfl) (by kernel_rfl) (fun _ _ _ h => h) (Or.inl ⟨rfl, fun w hSw => ?_⟩) (by assumption) ?_
            · (try dsimp only at hSw); go_simp; try with_reducible rfl
            (try simp only [Act.put, List.setIfInBounds_toArray, List.set_cons_zero, List.set_cons_succ])
            refine wpAnyH_take (i := 6) (v := (.slice (some ⟨b, off, none⟩) n cap)) (op_at rfl) (by kernel_rfl) (by kernel_rfl) (by kernel_rfl) (fun _ _ _ h => h) (Or.inl ⟨rfl, fun w hSw => ?_⟩) (by assumption) ?_
            · (try dsimp only at hSw); go_simp; try with_reducible rfl
            (try simp only [Act.put, List.setIfInBounds_toArray, List.set_cons_zero, List.set_cons_succ])
            refine wpAnyH_take (i := 7) (v := (.int .i64 (c : Int))) (op_at rfl) (by kernel_rfl) (by kernel_rfl) (by kernel_rfl) (fun _ _ _ h => h) (Or.inl ⟨rfl, fun w hSw => ?_⟩) (by assumption) ?_
            · (try dsimp only at hSw); go_simp; try with_reducible rfl
            (try simp only [Act.put, List.setIfInBounds_toArray, List.set_cons_zero, List.set_cons_succ])
            refine wpAnyH_take (i := 8) (v := (.pointer (some ⟨b, off + c * 3, none⟩))) (op_at rfl) (by kernel_rfl) (by kernel_rfl) (by kernel_rfl) (fun _ _ _ h => h) (Or.inl ⟨rfl, fun w hSw => ?_⟩) (by assumption) ?_
            · (try dsimp only at hSw); go_simp; try with_reducible rfl
            (try simp only [Act.put, List.setIfInBounds_toArray, List.set_cons_zero, List.set_cons_succ])
            refine wpAnyH_take (i := 9) (v := (.pointer (some ⟨b, off + c * 3 + 2, none⟩))) (op_at rfl) (by kernel_rfl) (by kernel_rfl) (by kernel_rfl) (fun _ _ _ h => h) (Or.inl ⟨rfl, fun w hSw => ?_⟩) (by assumption) ?_
            · (try dsimp only at hSw); go_simp; try with_reducible rfl
            (try simp only [Act.put, List.setIfInBounds_toArray, List.set_cons_zero, List.set_cons_succ])
            refine wpAnyH_take (i := 10) (v := (.int .i64 x.hi)) (op_at rfl) (by kernel_rfl) (by kernel_rfl) (by kernel_rfl) (fun _ _ _ h => h) (Or.inl ⟨rfl, fun w hSw => ?_⟩) (by assumption) ?_
            · (try dsimp only at hSw); go_simp; try with_reducible rfl
            (try simp only [Act.put, List.setIfInBounds_toArray, List.set_cons_zero, List.set_cons_succ])
            refine wpAnyH_take (i := 11) (v := (.bool true)) (op_at rfl) (by kernel_rfl) (by kernel_rfl) (by kernel_rfl) (fun _ _ _ h => h) (Or.inl ⟨rfl, fun w hSw => ?_⟩) (by assumption) ?_
            · (try dsimp only at hSw); go_simp; try with_reducible rfl
            (try simp only [Act.put, List.setIfInBounds_toArray, List.set_cons_zero, List.set_cons_succ])
            refine wpAnyH_take (i := 12) (v := (.bool true)) (op_at rfl) (by kernel_rfl) (by kernel_rfl) (by kernel_rfl) (fun _ _ _ h => h) (Or.inl ⟨rfl, fun w hSw => ?_⟩) (by assumption) ?_
            · (try dsimp only at hSw); go_simp; try with_reducible rfl
            (try simp only [Act.put, List.setIfInBounds_toArray, List.set_cons_zero, List.set_cons_succ])
            refine wpAnyH_done (by kernel_rfl) ?_ _
            go_wp2_with fail
            have gd := (Gr.refl X1).drew
            replace b0 := gd.cell b0
            replace b1 := gd.cell b1
            replace b2 := gd.cell b2
            replace c1 := gd.cell c1
            replace c2 := gd.cell c2
            replace gk := gk.trans gd
            replace od := own_gr od gd
            replace or' := own_gr or' gd
            replace hv := hv.gr gd
            clear gd
            refine wp_region_held_drew (S := (fun w' => (w'.cell? ⟨N0, 0, none⟩ = some (.string y.nm) ∧ w'.cell? ⟨N0, 1, none⟩ = some (.int .i64 y.lo) ∧ w'.cell? ⟨N0, 2, none⟩ = some (.int .i64 y.hi)) ∧ w'.cell? ⟨b, off + c * 3 + 1, none⟩ = some (.int .i64 x.lo) ∧ w'.cell? ⟨b, off + c * 3 + 2, none⟩ = some (.int .i64 x.hi))) (by kernel_rfl) ⟨⟨b0, b1, b2⟩, c1, c2⟩ (fun hHeld => ?_)
            generalize X1.drew = X2 at *
            refine wpAnyH_take (i := 0) (v := (.int .i64 (i : Int))) (op_at rfl) (by kernel_rfl) (by kernel_rfl) (by kernel_rfl) (fun _ _ _ h => h) (Or.inl ⟨rfl, fun w hSw => ?_⟩) (by assumption) ?_
            · (try dsimp only at hSw); go_simp; try with_reducible rfl
            (try simp only [Act.put, List.setIfInBounds_toArray, List.set_cons_zero, List.set_cons_succ])
            refine wpAnyH_take (i := 1) (v := (.int .i64 (c : Int))) (op_at rfl) (by kernel_rfl) (by kernel_rfl) (by kernel_rfl) (fun _ _ _ h => h) (Or.inl ⟨rfl, fun w hSw => ?_⟩) (by assumption) ?_
            · (try dsimp only at hSw); go_simp; try with_reducible rfl
            (try simp only [Act.put, List.setIfInBounds_toArray, List.set_cons_zero, List.set_cons_succ])
            refine wpAnyH_take (i := 2) (v := (.bool true)) (op_at rfl) (by kernel_rfl) (by kernel_rfl) (by kernel_rfl) (fun _ _ _ h => h) (Or.inl ⟨rfl, fun w hSw => ?_⟩) (by assumption) ?_
            · (try dsimp only at hSw); go_simp; try with_reducible rfl
            (try simp only [Act.put, List.setIfInBounds_toArray, List.set_cons_zero, List.set_cons_succ])
            refine wpAnyH_take (i := 3) (v := (.bool true)) (op_at rfl) (by kernel_rfl) (by kernel_rfl) (by kernel_rfl) (fun _ _ _ h => h) (Or.inl ⟨rfl, fun w hSw => ?_⟩) (by assumption) ?_
            · (try dsimp only at hSw); go_simp; try with_reducible rfl
            (try simp only [Act.put, List.setIfInBounds_toArray, List.set_cons_zero, List.set_cons_succ])
            refine wpAnyH_take (i := 4) (v := (.pointer (some ⟨N0, 2, none⟩))) (op_at rfl) (by kernel_rfl) (by kernel_rfl) (by kernel_rfl) (fun _ _ _ h => h) (Or.inl ⟨rfl, fun w hSw => ?_⟩) (by assumption) ?_
            · (try dsimp only at hSw); go_simp; try with_reducible rfl
            (try simp only [Act.put, List.setIfInBounds_toArray, List.set_cons_zero, List.set_cons_succ])
            refine wpAnyH_take (i := 5) (v := (.int .i64 y.hi)) (op_at rfl) (by kernel_rfl) (by kernel_rfl) (by kernel_rfl) (fun _ _ _ h => h) (Or.inl ⟨rfl, fun w hSw => ?_⟩) (by assumption) ?_
            · (try dsimp only at hSw); go_simp; try with_reducible rfl
            (try simp only [Act.put, List.setIfInBounds_toArray, List.set_cons_zero, List.set_cons_succ])
            refine wpAnyH_take (i := 6) (v := (.slice (some ⟨b, off, none⟩) n cap)) (op_at rfl) (by kernel_rfl) (by kernel_rfl) (by kernel_rfl) (fun _ _ _ h => h) (Or.inl ⟨rfl, fun w hSw => ?_⟩) (by assumption) ?_
            · (try dsimp only at hSw); go_simp; try with_reducible rfl
            (try simp only [Act.put, List.setIfInBounds_toArray, List.set_cons_zero, List.set_cons_succ])
            refine wpAnyH_take (i := 7) (v := (.int .i64 (c : Int))) (op_at rfl) (by kernel_rfl) (by kernel_rfl) (by kernel_rfl) (fun _ _ _ h => h) (Or.inl ⟨rfl, fun w hSw => ?_⟩) (by assumption) ?_
            · (try dsimp only at hSw); go_simp; try with_reducible rfl
            (try simp only [Act.put, List.setIfInBounds_toArray, List.set_cons_zero, List.set_cons_succ])
            refine wpAnyH_take (i := 8) (v := (.pointer (some ⟨b, off + c * 3, none⟩))) (op_at rfl) (by kernel_rfl) (by kernel_rfl) (by kernel_rfl) (fun _ _ _ h => h) (Or.inl ⟨rfl, fun w hSw => ?_⟩) (by assumption) ?_
            · (try dsimp only at hSw); go_simp; try with_reducible rfl
            (try simp only [Act.put, List.setIfInBounds_toArray, List.set_cons_zero, List.set_cons_succ])
            refine wpAnyH_take (i := 9) (v := (.pointer (some ⟨b, off + c * 3 + 1, none⟩))) (op_at rfl) (by kernel_rfl) (by kernel_rfl) (by kernel_rfl) (fun _ _ _ h => h) (Or.inl ⟨rfl, fun w hSw => ?_⟩) (by assumption) ?_
            · (try dsimp only at hSw); go_simp; try with_reducible rfl
            (try simp only [Act.put, List.setIfInBounds_toArray, List.set_cons_zero, List.set_cons_succ])
            refine wpAnyH_take (i := 10) (v := (.int .i64 x.lo)) (op_at rfl) (by kernel_rfl) (by kernel_rfl) (by kernel_rfl) (fun _ _ _ h => h) (Or.inl ⟨rfl, fun w hSw => ?_⟩) (by assumption) ?_
            · (try dsimp only at hSw); go_simp; try with_reducible rfl
            (try simp only [Act.put, List.setIfInBounds_toArray, List.set_cons_zero, List.set_cons_succ])
            refine wpAnyH_take (i := 11) (v := (.bool false)) (op_at rfl) (by kernel_rfl) (by kernel_rfl) (by kernel_rfl) (fun _ _ _ h => h) (Or.inl ⟨rfl, fun w hSw => ?_⟩) (by assumption) ?_
            · (try dsimp only at hSw); go_simp; try with_reducible rfl
            (try simp only [Act.put, List.setIfInBounds_toArray, List.set_cons_zero, List.set_cons_succ])
            refine wpAnyH_take (i := 12) (v := (.bool false)) (op_at rfl) (by kernel_rfl) (by kernel_rfl) (by kernel_rfl) (fun _ _ _ h => h) (Or.inl ⟨rfl, fun w hSw => ?_⟩) (by assumption) ?_
            · (try dsimp only at hSw); go_simp; try with_reducible rfl
            (try simp only [Act.put, List.setIfInBounds_toArray, List.set_cons_zero, List.set_cons_succ])
            refine wpAnyH_done (by kernel_rfl) ?_ _
            go_wp2_with fail
            have gd := (Gr.refl X2).drew
            replace b0 := gd.cell b0
            replace b1 := gd.cell b1
            replace b2 := gd.cell b2
            replace c1 := gd.cell c1
            replace c2 := gd.cell c2
            replace gk := gk.trans gd
            replace od := own_gr od gd
            replace or' := own_gr or' gd
            replace hv := hv.gr gd
            clear gd
            refine wp_region_held_drew (S := (fun w' => (w'.cell? ⟨N0, 0, none⟩ = some (.string y.nm) ∧ w'.cell? ⟨N0, 1, none⟩ = some (.int .i64 y.lo) ∧ w'.cell? ⟨N0, 2, none⟩ = some (.int .i64 y.hi)) ∧ w'.cell? ⟨b, off + c * 3 + 1, none⟩ = some (.int .i64 x.lo) ∧ w'.cell? ⟨b, off + c * 3 + 2, none⟩ = some (.int .i64 x.hi))) (by kernel_rfl) ⟨⟨b0, b1, b2⟩, c1, c2⟩ (fun hHeld => ?_)
            generalize X2.drew = X at *
            refine wpAnyH_take (i := 0) (v := (.pointer (some ⟨N0, 1, none⟩))) (op_at rfl) (by kernel_rfl) (by kernel_rfl) (by kernel_rfl) (fun _ _ _ h => h) (Or.inl ⟨rfl, fun w hSw => ?_⟩) (by assumption) ?_
            · (try dsimp only at hSw); go_simp; try with_reducible rfl
            (try simp only [Act.put, List.setIfInBounds_toArray, List.set_cons_zero, List.set_cons_succ])
            refine wpAnyH_take (i := 1) (v := (.int .i64 y.lo)) (op_at rfl) (by kernel_rfl) (by kernel_rfl) (by kernel_rfl) (fun _ _ _ h => h) (Or.inl ⟨rfl, fun w hSw => ?_⟩) (by assumption) ?_
            · (try dsimp only at hSw); go_simp; try with_reducible rfl
            (try simp only [Act.put, List.setIfInBounds_toArray, List.set_cons_zero, List.set_cons_succ])
            refine wpAnyH_take (i := 2) (v := (.int .u8 m)) (op_at rfl) (by kernel_rfl) (by kernel_rfl) (by kernel_rfl) (fun _ _ _ h => h) (Or.inl ⟨rfl, fun w hSw => ?_⟩) (by assumption) ?_
            · (try dsimp only at hSw); go_simp; try with_reducible rfl
            (try simp only [Act.put, List.setIfInBounds_toArray, List.set_cons_zero, List.set_cons_succ])
            refine wpAnyH_take (i := 3) (v := (.int .i64 m)) (op_at rfl) (by kernel_rfl) (by kernel_rfl) (by kernel_rfl) (fun _ _ _ h => h) (Or.inl ⟨rfl, fun w hSw => ?_⟩) (by assumption) ?_
            · (try dsimp only at hSw); go_simp; try with_reducible rfl
            (try simp only [Act.put, List.setIfInBounds_toArray, List.set_cons_zero, List.set_cons_succ])
            refine wpAnyH_take (i := 4) (v := (.pointer (some ⟨N0, 2, none⟩))) (op_at rfl) (by kernel_rfl) (by kernel_rfl) (by kernel_rfl) (fun _ _ _ h => h) (Or.inl ⟨rfl, fun w hSw => ?_⟩) (by assumption) ?_
            · (try dsimp only at hSw); go_simp; try with_reducible rfl
            (try simp only [Act.put, List.setIfInBounds_toArray, List.set_cons_zero, List.set_cons_succ])
            refine wpAnyH_take (i := 5) (v := (.int .i64 y.hi)) (op_at rfl) (by kernel_rfl) (by kernel_rfl) (by kernel_rfl) (fun _ _ _ h => h) (Or.inl ⟨rfl, fun w hSw => ?_⟩) (by assumption) ?_
            · (try dsimp only at hSw); go_simp; try with_reducible rfl
            (try simp only [Act.put, List.setIfInBounds_toArray, List.set_cons_zero, List.set_cons_succ])
            refine wpAnyH_take (i := 6) (v := (.pointer (some ⟨N0, 1, none⟩))) (op_at rfl) (by kernel_rfl) (by kernel_rfl) (by kernel_rfl) (fun _ _ _ h => h) (Or.inl ⟨rfl, fun w hSw => ?_⟩) (by assumption) ?_
            · (try dsimp only at hSw); go_simp; try with_reducible rfl
            (try simp only [Act.put, List.setIfInBounds_toArray, List.set_cons_zero, List.set_cons_succ])
            refine wpAnyH_take (i := 7) (v := (.int .i64 y.lo)) (op_at rfl) (by kernel_rfl) (by kernel_rfl) (by kernel_rfl) (fun _ _ _ h => h) (Or.inl ⟨rfl, fun w hSw => ?_⟩) (by assumption) ?_
            · (try dsimp only at hSw); go_simp; try with_reducible rfl
            (try simp only [Act.put, List.setIfInBounds_toArray, List.set_cons_zero, List.set_cons_succ])
            refine wpAnyH_take (i := 8) (v := (.int .i64 (y.hi - y.lo))) (op_at rfl) (by kernel_rfl) (by kernel_rfl) (by kernel_rfl) (fun _ _ _ h => h) (Or.inl ⟨rfl, fun w hSw => ?_⟩) (by assumption) ?_
            · (try dsimp only at hSw); go_simp; try with_reducible rfl
            (try simp only [Act.put, List.setIfInBounds_toArray, List.set_cons_zero, List.set_cons_succ])
            refine wpAnyH_take (i := 9) (v := (.int .i64 (y.hi - y.lo + 1))) (op_at rfl) (by kernel_rfl) (by kernel_rfl) (by kernel_rfl) (fun _ _ _ h => h) (Or.inl ⟨rfl, fun w hSw => ?_⟩) (by assumption) ?_
            · (try dsimp only at hSw); go_simp; try with_reducible rfl
            (try simp only [Act.put, List.setIfInBounds_toArray, List.set_cons_zero, List.set_cons_succ])
            refine wpAnyH_take (i := 10) (v := (.int .i64 (Int.tmod m (y.hi - y.lo + 1)))) (op_at rfl) (by kernel_rfl) (by kernel_rfl) (by kernel_rfl) (fun _ _ _ h => h) (Or.inl ⟨rfl, fun w hSw => ?_⟩) (by assumption) ?_
            · (try dsimp only at hSw); go_simp; try with_reducible rfl
            (try simp only [Act.put, List.setIfInBounds_toArray, List.set_cons_zero, List.set_cons_succ])
            refine wpAnyH_take (i := 11) (v := (.int .i64 V)) (op_at rfl) (by kernel_rfl) (by kernel_rfl) (by kernel_rfl) (fun _ _ _ h => h) (Or.inl ⟨rfl, fun w hSw => ?_⟩) (by assumption) ?_
            · (try dsimp only at hSw); go_simp; try with_reducible rfl
            (try simp only [Act.put, List.setIfInBounds_toArray, List.set_cons_zero, List.set_cons_succ])
            refine wpAnyH_take (i := 12) (v := (.int .i64 V)) (op_at rfl) (by kernel_rfl) (by kernel_rfl) (by kernel_rfl) (fun _ _ _ h => h) (Or.inl ⟨rfl, fun w hSw => ?_⟩) (by assumption) ?_
            · (try dsimp only at hSw); go_simp; try with_reducible rfl
            (try simp only [Act.put, List.setIfInBounds_toArray, List.set_cons_zero, List.set_cons_succ])
            refine wpAnyH_done (by kernel_rfl) ?_ _
            replace hs3 := gk.size
            go_wp2_with (first
              | (at_builtin; refine wpList_append_own _ rfl _ _ 38 rfl W3.heap.size 42 j0 (.agg #[.string ⟨#[]⟩, .string ⟨#[]⟩, .slice none 0 0]) 3 56 Tryz.underlying38 hj hy0 hy1 hy2 rfl (by decide) u12 i _ rfl ((or1.alloc (.cells #[.int .i64 V] 3)).alloc (.cells #[.string y.nm, .string ⟨#[]⟩, .slice (some ⟨w1.heap.size, 0, none⟩) 1 1] 42)) ⟨w1.heap.size + 1, 0, none⟩ 1 1 [.string y.nm, .string ⟨#[]⟩, .slice (some ⟨w1.heap.size, 0, none⟩) 1 1] rfl rfl (cell_three_new _ _ _ _ _ _) (by intro u hu; simp at hu; rcases hu with rfl | rfl | rfl <;> rfl) (by unfold maxLen; omega) (by omega) (by simp; omega) ?_; intro r1 w2 or2 gr2 nr2)
              | (at_builtin; refine wpList_append_own _ rfl _ _ 22 rfl W3.heap.size 40 i0 (.agg #[.string ⟨#[]⟩, .int .i64 0, .int .i64 0]) 3 32 Tryz.underlying22 hi hz0 hz1 hz2 rfl (by decide) u11 i _ rfl (od.alloc _) ⟨X.heap.size, 0, none⟩ 1 1 [.string y.nm, .int .i64 V, .int .i64 V] rfl rfl (cell_three_at _ _ _ _ _) (by intro u hu; simp at hu; rcases hu with rfl | rfl | rfl <;> rfl) (by unfold maxLen; omega) (by omega) (by simp; omega) ?_; intro d1 w1 od1 gd1 nd1; obtain ⟨or1, vl1, gw1, p0⟩ := sideA (V := V) or' od hv hs3 gk b0 hN0d gd1; have hs1 := gw1.size))
            obtain ⟨hV, hBv, hWv, hcu, hcp, hy⟩ := HV.out
            subst hV
            obtain ⟨od2, vl2, gw2⟩ := sideB or1 od1 vl1 gw1 hrl hy gr2
            have su : surP c x.hi i y = true := by unfold surP; rw [e1, Bool.and_eq_true]; exact ⟨by have := HIC.out; simp; omega, rfl⟩
            have sp : perP c x.lo i y = false := by unfold perP; rw [e2, Bool.and_eq_false_iff]; exact .inr rfl
            rw [su] at hcu
            rw [sp] at hcp
            simp only [Bool.false_eq_true, if_false, if_true] at hcu hcp
            go_roundw
            case rel =>
              refine ⟨i + 1, _, by omega, by go_num, ?_, ?_, ?_, ?_, by simp [hrl], vl2, gw2⟩
              · congr 1; omega
              · congr 1; omega
              · rw [take_map_add m hy, opCs_add]; exact od2
              · rw [rowCs_add]; exact or2
            case measure => simp [intOf]; omega
          · go_wp2_with fail
            rw [HX0.out]
            clear HX0 a0 a1 a2 la
            generalize wr.heap.size = N0 at *
            have gd := (Gr.refl X0).drew
            replace b0 := gd.cell b0
            replace b1 := gd.cell b1
            replace b2 := gd.cell b2
            replace c1 := gd.cell c1
            replace c2 := gd.cell c2
            replace gk := gk.trans gd
            replace od := own_gr od gd
            replace or' := own_gr or' gd
            replace hv := hv.gr gd
            clear gd
            refine wp_region_held_drew (S := (fun w' => (w'.cell? ⟨N0, 0, none⟩ = some (.string y.nm) ∧ w'.cell? ⟨N0, 1, none⟩ = some (.int .i64 y.lo) ∧ w'.cell? ⟨N0, 2, none⟩ = some (.int .i64 y.hi)) ∧ w'.cell? ⟨b, off + c * 3 + 1, none⟩ = some (.int .i64 x.lo) ∧ w'.cell? ⟨b, off + c * 3 + 2, none⟩ = some (.int .i64 x.hi))) (by kernel_rfl) ⟨⟨b0, b1, b2⟩, c1, c2⟩ (fun hHeld => ?_)
            generalize X0.drew = X1 at *
            refine wpAnyH_take (i := 0) (v := (.int .i64 (i : Int))) (op_at rfl) (by kernel_rfl) (by kernel_rfl) (by kernel_rfl) (fun _ _ _ h => h) (Or.inl ⟨rfl, fun w hSw => ?_⟩) (by assumption) ?_
            · (try dsimp only at hSw); go_simp; try with_reducible rfl
            (try simp only [Act.put, List.setIfInBounds_toArray, List.set_cons_zero, List.set_cons_succ])
            refine wpAnyH_take (i := 1) (v := (.int .i64 (c : Int))) (op_at rfl) (by kernel_rfl) (by kernel_rfl) (by kernel_rfl) (fun _ _ _ h => h) (Or.inl ⟨rfl, fun w hSw => ?_⟩) (by assumption) ?_
            · (try dsimp only at hSw); go_simp; try with_reducible rfl
            (try simp only [Act.put, List.setIfInBounds_toArray, List.set_cons_zero, List.set_cons_succ])
            refine wpAnyH_take (i := 2) (v := (.bool true)) (op_at rfl) (by kernel_rfl) (by kernel_rfl) (by kernel_rfl) (fun _ _ _ h => h) (Or.inl ⟨rfl, fun w hSw => ?_⟩) (by assumption) ?_
            · (try dsimp only at hSw); go_simp; try with_reducible rfl
            (try simp only [Act.put, List.setIfInBounds_toArray, List.set_cons_zero, List.set_cons_succ])
            refine wpAnyH_take (i := 3) (v := (.bool true)) (op_at rfl) (by kernel_rfl) (by kernel_rfl) (by kernel_rfl) (fun _ _ _ h => h) (Or.inl ⟨rfl, fun w hSw => ?_⟩) (by assumption) ?_
            · (try dsimp only at hSw); go_simp; try with_reducible rfl
            (try simp only [Act.put, List.setIfInBounds_toArray, List.set_cons_zero, List.set_cons_succ])
            refine wpAnyH_take (i := 4) (v := (.pointer (some ⟨N0, 1, none⟩))) (op_at rfl) (by kernel_rfl) (by kernel_rfl) (by kernel_rfl) (fun _ _ _ h => h) (Or.inl ⟨rfl, fun w hSw => ?_⟩) (by assumption) ?_
            · (try dsimp only at hSw); go_simp; try with_reducible rfl
            (try simp only [Act.put, List.setIfInBounds_toArray, List.set_cons_zero, List.set_cons_succ])
            refine wpAnyH_take (i := 5) (v := (.int .i64 y.lo)) (op_at rfl) (by kernel_rfl) (by kernel_rfl) (by kernel_rfl) (fun _ _ _ h => h) (Or.inl ⟨rfl, fun w hSw => ?_⟩) (by assumption) ?_
            · (try dsimp only at hSw); go_simp; try with_reducible rfl
            (try simp only [Act.put, List.setIfInBounds_toArray, List.set_cons_zero, List.set_cons_succ])
            refine wpAnyH_take (i := 6) (v := (.slice (some ⟨b, off, none⟩) n cap)) (op_at rfl) (by kernel_rfl) (by kernel_rfl) (by kernel_rfl) (fun _ _ _ h => h) (Or.inl ⟨rfl, fun w hSw => ?_⟩) (by assumption) ?_
            · (try dsimp only at hSw); go_simp; try with_reducible rfl
            (try simp only [Act.put, List.setIfInBounds_toArray, List.set_cons_zero, List.set_cons_succ])
            refine wpAnyH_take (i := 7) (v := (.int .i64 (c : Int))) (op_at rfl) (by kernel_rfl) (by kernel_rfl) (by kernel_rfl) (fun _ _ _ h => h) (Or.inl ⟨rfl, fun w hSw => ?_⟩) (by assumption) ?_
            · (try dsimp only at hSw); go_simp; try with_reducible rfl
            (try simp only [Act.put, List.setIfInBounds_toArray, List.set_cons_zero, List.set_cons_succ])
            refine wpAnyH_take (i := 8) (v := (.pointer (some ⟨b, off + c * 3, none⟩))) (op_at rfl) (by kernel_rfl) (by kernel_rfl) (by kernel_rfl) (fun _ _ _ h => h) (Or.inl ⟨rfl, fun w hSw => ?_⟩) (by assumption) ?_
            · (try dsimp only at hSw); go_simp; try with_reducible rfl
            (try simp only [Act.put, List.setIfInBounds_toArray, List.set_cons_zero, List.set_cons_succ])
            refine wpAnyH_take (i := 9) (v := (.pointer (some ⟨b, off + c * 3 + 2, none⟩))) (op_at rfl) (by kernel_rfl) (by kernel_rfl) (by kernel_rfl) (fun _ _ _ h => h) (Or.inl ⟨rfl, fun w hSw => ?_⟩) (by assumption) ?_
            · (try dsimp only at hSw); go_simp; try with_reducible rfl
            (try simp only [Act.put, List.setIfInBounds_toArray, List.set_cons_zero, List.set_cons_succ])
            refine wpAnyH_take (i := 10) (v := (.int .i64 x.hi)) (op_at rfl) (by kernel_rfl) (by kernel_rfl) (by kernel_rfl) (fun _ _ _ h => h) (Or.inl ⟨rfl, fun w hSw => ?_⟩) (by assumption) ?_
            · (try dsimp only at hSw); go_simp; try with_reducible rfl
            (try simp only [Act.put, List.setIfInBounds_toArray, List.set_cons_zero, List.set_cons_succ])
            refine wpAnyH_take (i := 11) (v := (.bool true)) (op_at rfl) (by kernel_rfl) (by kernel_rfl) (by kernel_rfl) (fun _ _ _ h => h) (Or.inl ⟨rfl, fun w hSw => ?_⟩) (by assumption) ?_
            · (try dsimp only at hSw); go_simp; try with_reducible rfl
            (try simp only [Act.put, List.setIfInBounds_toArray, List.set_cons_zero, List.set_cons_succ])
            refine wpAnyH_take (i := 12) (v := (.bool true)) (op_at rfl) (by kernel_rfl) (by kernel_rfl) (by kernel_rfl) (fun _ _ _ h => h) (Or.inl ⟨rfl, fun w hSw => ?_⟩) (by assumption) ?_
            · (try dsimp only at hSw); go_simp; try with_reducible rfl
            (try simp only [Act.put, List.setIfInBounds_toArray, List.set_cons_zero, List.set_cons_succ])
            refine wpAnyH_done (by kernel_rfl) ?_ _
            go_wp2_with fail
            have gd := (Gr.refl X1).drew
            replace b0 := gd.cell b0
            replace b1 := gd.cell b1
            replace b2 := gd.cell b2
            replace c1 := gd.cell c1
            replace c2 := gd.cell c2
            replace gk := gk.trans gd
            replace od := own_gr od gd
            replace or' := own_gr or' gd
            replace hv := hv.gr gd
            clear gd
            refine wp_region_held_drew (S := (fun w' => (w'.cell? ⟨N0, 0, none⟩ = some (.string y.nm) ∧ w'.cell? ⟨N0, 1, none⟩ = some (.int .i64 y.lo) ∧ w'.cell? ⟨N0, 2, none⟩ = some (.int .i64 y.hi)) ∧ w'.cell? ⟨b, off + c * 3 + 1, none⟩ = some (.int .i64 x.lo) ∧ w'.cell? ⟨b, off + c * 3 + 2, none⟩ = some (.int .i64 x.hi))) (by kernel_rfl) ⟨⟨b0, b1, b2⟩, c1, c2⟩ (fun hHeld => ?_)
            generalize X1.drew = X2 at *
            refine wpAnyH_take (i := 0) (v := (.int .i64 (i : Int))) (op_at rfl) (by kernel_rfl) (by kernel_rfl) (by kernel_rfl) (fun _ _ _ h => h) (Or.inl ⟨rfl, fun w hSw => ?_⟩) (by assumption) ?_
            · (try dsimp only at hSw); go_simp; try with_reducible rfl
            (try simp only [Act.put, List.setIfInBounds_toArray, List.set_cons_zero, List.set_cons_succ])
            refine wpAnyH_take (i := 1) (v := (.int .i64 (c : Int))) (op_at rfl) (by kernel_rfl) (by kernel_rfl) (by kernel_rfl) (fun _ _ _ h => h) (Or.inl ⟨rfl, fun w hSw => ?_⟩) (by assumption) ?_
            · (try dsimp only at hSw); go_simp; try with_reducible rfl
            (try simp only [Act.put, List.setIfInBounds_toArray, List.set_cons_zero, List.set_cons_succ])
            refine wpAnyH_take (i := 2) (v := (.bool true)) (op_at rfl) (by kernel_rfl) (by kernel_rfl) (by kernel_rfl) (fun _ _ _ h => h) (Or.inl ⟨rfl, fun w hSw => ?_⟩) (by assumption) ?_
            · (try dsimp only at hSw); go_simp; try with_reducible rfl
            (try simp only [Act.put, List.setIfInBounds_toArray, List.set_cons_zero, List.set_cons_succ])
            refine wpAnyH_take (i := 3) (v := (.bool true)) (op_at rfl) (by kernel_rfl) (by kernel_rfl) (by kernel_rfl) (fun _ _ _ h => h) (Or.inl ⟨rfl, fun w hSw => ?_⟩) (by assumption) ?_
            · (try dsimp only at hSw); go_simp; try with_reducible rfl
            (try simp only [Act.put, List.setIfInBounds_toArray, List.set_cons_zero, List.set_cons_succ])
            refine wpAnyH_take (i := 4) (v := (.pointer (some ⟨N0, 2, none⟩))) (op_at rfl) (by kernel_rfl) (by kernel_rfl) (by kernel_rfl) (fun _ _ _ h => h) (Or.inl ⟨rfl, fun w hSw => ?_⟩) (by assumption) ?_
            · (try dsimp only at hSw); go_simp; try with_reducible rfl
            (try simp only [Act.put, List.setIfInBounds_toArray, List.set_cons_zero, List.set_cons_succ])
            refine wpAnyH_take (i := 5) (v := (.int .i64 y.hi)) (op_at rfl) (by kernel_rfl) (by kernel_rfl) (by kernel_rfl) (fun _ _ _ h => h) (Or.inl ⟨rfl, fun w hSw => ?_⟩) (by assumption) ?_
            · (try dsimp only at hSw); go_simp; try with_reducible rfl
            (try simp only [Act.put, List.setIfInBounds_toArray, List.set_cons_zero, List.set_cons_succ])
            refine wpAnyH_take (i := 6) (v := (.slice (some ⟨b, off, none⟩) n cap)) (op_at rfl) (by kernel_rfl) (by kernel_rfl) (by kernel_rfl) (fun _ _ _ h => h) (Or.inl ⟨rfl, fun w hSw => ?_⟩) (by assumption) ?_
            · (try dsimp only at hSw); go_simp; try with_reducible rfl
            (try simp only [Act.put, List.setIfInBounds_toArray, List.set_cons_zero, List.set_cons_succ])
            refine wpAnyH_take (i := 7) (v := (.int .i64 (c : Int))) (op_at rfl) (by kernel_rfl) (by kernel_rfl) (by kernel_rfl) (fun _ _ _ h => h) (Or.inl ⟨rfl, fun w hSw => ?_⟩) (by assumption) ?_
            · (try dsimp only at hSw); go_simp; try with_reducible rfl
            (try simp only [Act.put, List.setIfInBounds_toArray, List.set_cons_zero, List.set_cons_succ])
            refine wpAnyH_take (i := 8) (v := (.pointer (some ⟨b, off + c * 3, none⟩))) (op_at rfl) (by kernel_rfl) (by kernel_rfl) (by kernel_rfl) (fun _ _ _ h => h) (Or.inl ⟨rfl, fun w hSw => ?_⟩) (by assumption) ?_
            · (try dsimp only at hSw); go_simp; try with_reducible rfl
            (try simp only [Act.put, List.setIfInBounds_toArray, List.set_cons_zero, List.set_cons_succ])
            refine wpAnyH_take (i := 9) (v := (.pointer (some ⟨b, off + c * 3 + 1, none⟩))) (op_at rfl) (by kernel_rfl) (by kernel_rfl) (by kernel_rfl) (fun _ _ _ h => h) (Or.inl ⟨rfl, fun w hSw => ?_⟩) (by assumption) ?_
            · (try dsimp only at hSw); go_simp; try with_reducible rfl
            (try simp only [Act.put, List.setIfInBounds_toArray, List.set_cons_zero, List.set_cons_succ])
            refine wpAnyH_take (i := 10) (v := (.int .i64 x.lo)) (op_at rfl) (by kernel_rfl) (by kernel_rfl) (by kernel_rfl) (fun _ _ _ h => h) (Or.inl ⟨rfl, fun w hSw => ?_⟩) (by assumption) ?_
            · (try dsimp only at hSw); go_simp; try with_reducible rfl
            (try simp only [Act.put, List.setIfInBounds_toArray, List.set_cons_zero, List.set_cons_succ])
            refine wpAnyH_take (i := 11) (v := (.bool true)) (op_at rfl) (by kernel_rfl) (by kernel_rfl) (by kernel_rfl) (fun _ _ _ h => h) (Or.inl ⟨rfl, fun w hSw => ?_⟩) (by assumption) ?_
            · (try dsimp only at hSw); go_simp; try with_reducible rfl
            (try simp only [Act.put, List.setIfInBounds_toArray, List.set_cons_zero, List.set_cons_succ])
            refine wpAnyH_take (i := 12) (v := (.bool true)) (op_at rfl) (by kernel_rfl) (by kernel_rfl) (by kernel_rfl) (fun _ _ _ h => h) (Or.inl ⟨rfl, fun w hSw => ?_⟩) (by assumption) ?_
            · (try dsimp only at hSw); go_simp; try with_reducible rfl
            (try simp only [Act.put, List.setIfInBounds_toArray, List.set_cons_zero, List.set_cons_succ])
            refine wpAnyH_done (by kernel_rfl) ?_ _
            go_wp2_with fail
            have gd := (Gr.refl X2).drew
            replace b0 := gd.cell b0
            replace b1 := gd.cell b1
            replace b2 := gd.cell b2
            replace c1 := gd.cell c1
            replace c2 := gd.cell c2
            replace gk := gk.trans gd
            replace od := own_gr od gd
            replace or' := own_gr or' gd
            replace hv := hv.gr gd
            clear gd
            refine wp_region_held_drew (S := (fun w' => (w'.cell? ⟨N0, 0, none⟩ = some (.string y.nm) ∧ w'.cell? ⟨N0, 1, none⟩ = some (.int .i64 y.lo) ∧ w'.cell? ⟨N0, 2, none⟩ = some (.int .i64 y.hi)) ∧ w'.cell? ⟨b, off + c * 3 + 1, none⟩ = some (.int .i64 x.lo) ∧ w'.cell? ⟨b, off + c * 3 + 2, none⟩ = some (.int .i64 x.hi))) (by kernel_rfl) ⟨⟨b0, b1, b2⟩, c1, c2⟩ (fun hHeld => ?_)
            generalize X2.drew = X at *
            refine wpAnyH_take (i := 0) (v := (.pointer (some ⟨N0, 1, none⟩))) (op_at rfl) (by kernel_rfl) (by kernel_rfl) (by kernel_rfl) (fun _ _ _ h => h) (Or.inl ⟨rfl, fun w hSw => ?_⟩) (by assumption) ?_
            · (try dsimp only at hSw); go_simp; try with_reducible rfl
            (try simp only [Act.put, List.setIfInBounds_toArray, List.set_cons_zero, List.set_cons_succ])
            refine wpAnyH_take (i := 1) (v := (.int .i64 y.lo)) (op_at rfl) (by kernel_rfl) (by kernel_rfl) (by kernel_rfl) (fun _ _ _ h => h) (Or.inl ⟨rfl, fun w hSw => ?_⟩) (by assumption) ?_
            · (try dsimp only at hSw); go_simp; try with_reducible rfl
            (try simp only [Act.put, List.setIfInBounds_toArray, List.set_cons_zero, List.set_cons_succ])
            refine wpAnyH_take (i := 2) (v := (.int .u8 m)) (op_at rfl) (by kernel_rfl) (by kernel_rfl) (by kernel_rfl) (fun _ _ _ h => h) (Or.inl ⟨rfl, fun w hSw => ?_⟩) (by assumption) ?_
            · (try dsimp only at hSw); go_simp; try with_reducible rfl
            (try simp only [Act.put, List.setIfInBounds_toArray, List.set_cons_zero, List.set_cons_succ])
            refine wpAnyH_take (i := 3) (v := (.int .i64 m)) (op_at rfl) (by kernel_rfl) (by kernel_rfl) (by kernel_rfl) (fun _ _ _ h => h) (Or.inl ⟨rfl, fun w hSw => ?_⟩) (by assumption) ?_
            · (try dsimp only at hSw); go_simp; try with_reducible rfl
            (try simp only [Act.put, List.setIfInBounds_toArray, List.set_cons_zero, List.set_cons_succ])
            refine wpAnyH_take (i := 4) (v := (.pointer (some ⟨N0, 2, none⟩))) (op_at rfl) (by kernel_rfl) (by kernel_rfl) (by kernel_rfl) (fun _ _ _ h => h) (Or.inl ⟨rfl, fun w hSw => ?_⟩) (by assumption) ?_
            · (try dsimp only at hSw); go_simp; try with_reducible rfl
            (try simp only [Act.put, List.setIfInBounds_toArray, List.set_cons_zero, List.set_cons_succ])
            refine wpAnyH_take (i := 5) (v := (.int .i64 y.hi)) (op_at rfl) (by kernel_rfl) (by kernel_rfl) (by kernel_rfl) (fun _ _ _ h => h) (Or.inl ⟨rfl, fun w hSw => ?_⟩) (by assumption) ?_
            · (try dsimp only at hSw); go_simp; try with_reducible rfl
            (try simp only [Act.put, List.setIfInBounds_toArray, List.set_cons_zero, List.set_cons_succ])
            refine wpAnyH_take (i := 6) (v := (.pointer (some ⟨N0, 1, none⟩))) (op_at rfl) (by kernel_rfl) (by kernel_rfl) (by kernel_rfl) (fun _ _ _ h => h) (Or.inl ⟨rfl, fun w hSw => ?_⟩) (by assumption) ?_
            · (try dsimp only at hSw); go_simp; try with_reducible rfl
            (try simp only [Act.put, List.setIfInBounds_toArray, List.set_cons_zero, List.set_cons_succ])
            refine wpAnyH_take (i := 7) (v := (.int .i64 y.lo)) (op_at rfl) (by kernel_rfl) (by kernel_rfl) (by kernel_rfl) (fun _ _ _ h => h) (Or.inl ⟨rfl, fun w hSw => ?_⟩) (by assumption) ?_
            · (try dsimp only at hSw); go_simp; try with_reducible rfl
            (try simp only [Act.put, List.setIfInBounds_toArray, List.set_cons_zero, List.set_cons_succ])
            refine wpAnyH_take (i := 8) (v := (.int .i64 (y.hi - y.lo))) (op_at rfl) (by kernel_rfl) (by kernel_rfl) (by kernel_rfl) (fun _ _ _ h => h) (Or.inl ⟨rfl, fun w hSw => ?_⟩) (by assumption) ?_
            · (try dsimp only at hSw); go_simp; try with_reducible rfl
            (try simp only [Act.put, List.setIfInBounds_toArray, List.set_cons_zero, List.set_cons_succ])
            refine wpAnyH_take (i := 9) (v := (.int .i64 (y.hi - y.lo + 1))) (op_at rfl) (by kernel_rfl) (by kernel_rfl) (by kernel_rfl) (fun _ _ _ h => h) (Or.inl ⟨rfl, fun w hSw => ?_⟩) (by assumption) ?_
            · (try dsimp only at hSw); go_simp; try with_reducible rfl
            (try simp only [Act.put, List.setIfInBounds_toArray, List.set_cons_zero, List.set_cons_succ])
            refine wpAnyH_take (i := 10) (v := (.int .i64 (Int.tmod m (y.hi - y.lo + 1)))) (op_at rfl) (by kernel_rfl) (by kernel_rfl) (by kernel_rfl) (fun _ _ _ h => h) (Or.inl ⟨rfl, fun w hSw => ?_⟩) (by assumption) ?_
            · (try dsimp only at hSw); go_simp; try with_reducible rfl
            (try simp only [Act.put, List.setIfInBounds_toArray, List.set_cons_zero, List.set_cons_succ])
            refine wpAnyH_take (i := 11) (v := (.int .i64 V)) (op_at rfl) (by kernel_rfl) (by kernel_rfl) (by kernel_rfl) (fun _ _ _ h => h) (Or.inl ⟨rfl, fun w hSw => ?_⟩) (by assumption) ?_
            · (try dsimp only at hSw); go_simp; try with_reducible rfl
            (try simp only [Act.put, List.setIfInBounds_toArray, List.set_cons_zero, List.set_cons_succ])
            refine wpAnyH_take (i := 12) (v := (.int .i64 V)) (op_at rfl) (by kernel_rfl) (by kernel_rfl) (by kernel_rfl) (fun _ _ _ h => h) (Or.inl ⟨rfl, fun w hSw => ?_⟩) (by assumption) ?_
            · (try dsimp only at hSw); go_simp; try with_reducible rfl
            (try simp only [Act.put, List.setIfInBounds_toArray, List.set_cons_zero, List.set_cons_succ])
            refine wpAnyH_done (by kernel_rfl) ?_ _
            replace hs3 := gk.size
            go_wp2_with (first
              | (at_builtin; refine wpList_append_own _ rfl _ _ 38 rfl W3.heap.size 42 j0 (.agg #[.string ⟨#[]⟩, .string ⟨#[]⟩, .slice none 0 0]) 3 56 Tryz.underlying38 hj hy0 hy1 hy2 rfl (by decide) u12 i _ rfl ((or1.alloc (.cells #[.int .i64 V] 3)).alloc (.cells #[.string y.nm, .string ⟨#[]⟩, .slice (some ⟨w1.heap.size, 0, none⟩) 1 1] 42)) ⟨w1.heap.size + 1, 0, none⟩ 1 1 [.string y.nm, .string ⟨#[]⟩, .slice (some ⟨w1.heap.size, 0, none⟩) 1 1] rfl rfl (cell_three_new _ _ _ _ _ _) (by intro u hu; simp at hu; rcases hu with rfl | rfl | rfl <;> rfl) (by unfold maxLen; omega) (by omega) (by simp; omega) ?_; intro r1 w2 or2 gr2 nr2)
              | (at_builtin; refine wpList_append_own _ rfl _ _ 22 rfl W3.heap.size 40 i0 (.agg #[.string ⟨#[]⟩, .int .i64 0, .int .i64 0]) 3 32 Tryz.underlying22 hi hz0 hz1 hz2 rfl (by decide) u11 i _ rfl (od.alloc _) ⟨X.heap.size, 0, none⟩ 1 1 [.string y.nm, .int .i64 V, .int .i64 V] rfl rfl (cell_three_at _ _ _ _ _) (by intro u hu; simp at hu; rcases hu with rfl | rfl | rfl <;> rfl) (by unfold maxLen; omega) (by omega) (by simp; omega) ?_; intro d1 w1 od1 gd1 nd1; obtain ⟨or1, vl1, gw1, p0⟩ := sideA (V := V) or' od hv hs3 gk b0 hN0d gd1; have hs1 := gw1.size))
            obtain ⟨hV, hBv, hWv, hcu, hcp, hy⟩ := HV.out
            subst hV
            obtain ⟨od2, vl2, gw2⟩ := sideB or1 od1 vl1 gw1 hrl hy gr2
            have su : surP c x.hi i y = true := by unfold surP; rw [e1, Bool.and_eq_true]; exact ⟨by have := HIC.out; simp; omega, rfl⟩
            have sp : perP c x.lo i y = true := by unfold perP; rw [e2, Bool.and_eq_true]; exact ⟨by have := HIC.out; simp; omega, rfl⟩
            rw [su] at hcu
            rw [sp] at hcp
            simp only [Bool.false_eq_true, if_false, if_true] at hcu hcp
            go_roundw
            case rel =>
              refine ⟨i + 1, _, by omega, by go_num, ?_, ?_, ?_, ?_, by simp [hrl], vl2, gw2⟩
              · congr 1; omega
              · congr 1; omega
              · rw [take_map_add m hy, opCs_add]; exact od2
              · rw [rowCs_add]; exact or2
            case measure => simp [intOf]; omega
    · obtain rfl : i = n := by omega
      obtain ⟨n, rfl⟩ : ∃ n, n = i := ⟨_, rfl⟩
      obtain ⟨hx, hn, hok, hE0, hR⟩ := HXS.out
      have htk : xs.take n = xs := List.take_of_length_le (by omega)
      rw [htk] at od
      rw [htk]
      have e0 := HEnds.out.first
      have e9 := HEnds.out.last
      rw [hR] at e0 e9
      rw [show 1 + cnt (surP c x.hi) xs 0 = bestN xs c x from rfl, show 1 + cnt (perP c x.lo) xs 0 = worstN xs c x from rfl]
      obtain ⟨Bv, hBv⟩ : ∃ Bv, bestN xs c x = Bv := ⟨_, rfl⟩
      obtain ⟨Wv, hWv⟩ : ∃ Wv, worstN xs c x = Wv := ⟨_, rfl⟩
      rw [hBv] at e0
      rw [hWv] at e9
      rw [hBv, hWv]
      have hnz2 : ¬ (n : Int) = 0 := by omega
      obtain ⟨k, hk⟩ : ∃ k : Nat, Int.tmod m n = k := ⟨(Int.tmod m n).toNat, by rw [Int.tmod_eq_emod_of_nonneg hm0]; have := Int.emod_nonneg m hnz2; omega⟩
      have hkn : k < n := by
        have := Int.emod_lt_of_pos m (show (0 : Int) < n by omega)
        rw [Int.tmod_eq_emod_of_nonneg hm0] at hk
        omega
      have hk2 : (k : Int) < n := by omega
      have hk3 : (0 : Int) ≤ k := by omega
      have hwm : IntKind.i64.wrap m = m := by rw [IntKind.wrap_i64]; omega
      obtain ⟨y, hy⟩ : ∃ y, xs[k]? = some y := ⟨xs[k]'(by omega), List.getElem?_eq_getElem _⟩
      have hdk : (xs.map (decO m))[k]? = some (decO m y) := by rw [List.getElem?_map, hy]; rfl
      have hDV := opsV_cells (by simp [hn]) od
      obtain ⟨gd, cd, hde, hgd⟩ := own_at od (by omega)
      subst hde
      have hD0 : ∀ i x, (xs.map (decO m))[i]? = some x → OpAt wr gd (0 + i * 3) x := by
        obtain ⟨g', o', c', e, hc⟩ := ops_at hDV (by simp [hn]; omega)
        simp only [Value.slice.injEq, Option.some.injEq, Addr.mk.injEq, and_true] at e
        obtain ⟨⟨rfl, rfl⟩, _⟩ := e
        exact hc
      have hRV := rowsV_of_owns hrl (by omega) or' hv
      have hRO := rowsOf_vals hv (by omega)
      have HOL : Hid ((opCs xs).length = n * 3) := by unfold Hid; rw [opCs_len, hn]
      have HOC : Hid (∀ j u, (opCs xs)[j]? = some u → (wr.alloc (.cells #[] 40)).cell? ((⟨b, off, none⟩ : Addr).add j) = some u) := opCs_cells (fun i x hx => ((HC3.out i x hx).gr hnx).gr ((Gr.refl wr).alloc _))
      have HD0 := Lib.hid hD0
      have HYK := Lib.hid hy
      have HDK := Lib.hid hdk
      have HDV := Lib.hid hDV
      have HRV := Lib.hid hRV
      have HRO := Lib.hid hRO
      have HE := Lib.hid (And.intro e0 (And.intro e9 hk))
      have HOD := Lib.hid od
      clear hx hn hok hE0 hR htk e0 e9 hBv hWv hy hdk hDV hD0 hRV hRO od or' hv hrl
      go_wp2_with (first
        | (at_builtin; refine wpList_append_own _ rfl _ _ 22 rfl wr.heap.size 40 i0 (.agg #[.string ⟨#[]⟩, .int .i64 0, .int .i64 0]) 3 32 Tryz.underlying22 hi hz0 hz1 hz2 rfl (by decide) (.slice (some ⟨wr.heap.size, 0, none⟩) 0 0) 0 [] rfl (box03 wr _) ⟨b, off, none⟩ n cap (opCs xs) rfl HOL.out HOC.out (one_cells xs) (by unfold maxLen; omega) (by omega) (by simp) ?_; intro f1 w6 of1 gf1 nf1; rw [Nat.zero_add] at of1; obtain ⟨gf, cf, rfl, hgf, gw6, ⟨m0, m1, m2⟩, hfz, q0, q1, q2⟩ := sideC HXS.out.2.1 hkn HYK.out HDK.out of1 gf1 HD0.out; have z0 := hfz (k * 3); have z1 := hfz (k * 3 + 1); have z2 := hfz (k * 3 + 2)))
      obtain ⟨hF, gF⟩ := few_store (decO m y) of1 HXS.out.2.1 hkn
      generalize hW7 : ((w6.setCell ⟨gf, k * 3, none⟩ (.string (decO m y).nm)).setCell ⟨gf, k * 3 + 1, none⟩ (.int .i64 (decO m y).lo)).setCell ⟨gf, k * 3 + 2, none⟩ (.int .i64 (decO m y).hi) = W7 at *
      have g7 : Gr wr W7 := Below.trans gw6 gF
      rw [← fewL_at HYK.out] at hF
      have hDV := HDV.out.gr g7
      have hRV := HRV.out.gr g7
      have gW := hnx.trans g7
      have gw := g.trans gW
      obtain ⟨hx, hn, hok, hE0, hR⟩ := HXS.out
      have hsame := few_same hm0 k hok
      have hEf := openE_same hE0 hsame
      have hfl := fewL_len m k xs
      obtain ⟨xf, hxf⟩ : ∃ xf, (fewL m k xs)[c]? = some xf := ⟨(fewL m k xs)[c]'(by omega), List.getElem?_eq_getElem _⟩
      have hRf := ranksE_ok hEf (c := c) (by omega)
      have hxfe := (hsame.ends c xf hxf).2.1
      have hdsame := dec_same hm0 hok
      have hEd := openE_same hE0 hdsame
      have hxd : (xs.map (decO m))[c]? = some (decO m x) := by rw [List.getElem?_map, hx]; rfl
      have hRd := ranksE_ok hEd (c := c) (by simp; omega)
      have hone := decided_one (xs.map (decO m)) c (decO m x) hxd (fun j z hz => by
        rw [List.getElem?_map, Option.map_eq_some_iff] at hz
        obtain ⟨a, _, rfl⟩ := hz
        rfl)
      have hsub := narrow_sub xs (fewL m k xs) c x xf hfl hx hxf (fun j a b ha hb => few_narrow hm0 k hok j a b ha hb)
      have hSinc := inc_ranksK (fewL m k xs) c xf (fewL m k xs).length
      have hRinc := inc_ranksK xs c x xs.length
      have hSends := ends_of (fewL m k xs) c xf hxf (fun j b hb => (hsame.ends j b hb).2.1)
      obtain ⟨rc, hrc⟩ : ∃ rc, rs[c]? = some rc := ⟨rs[c]'(by rw [HRO.out.len]; omega), List.getElem?_eq_getElem _⟩
      have hbest := rank_best HRO.out hx hrc
      have hrok := rows_ok hm0 HRO.out hE0 rs.length
      have hrn : rs.length = n := by rw [HRO.out.len, hn]
      have hall : (ranksL rs)[c]? = some (bestN (xs.map (decO m)) c (decO m x)) := by
        unfold ranksL
        rw [List.getElem?_map, hrc, Option.map_some, hbest]
      rw [hR] at hsub hRinc
      obtain ⟨S, hS⟩ : ∃ S, ranksK (fewL m k xs) c xf (fewL m k xs).length = S := ⟨_, rfl⟩
      rw [hS] at hsub hSinc
      have hS0 : 0 < S.length := by
        have := hSends.first
        rw [hS] at this
        exact (List.getElem?_eq_some_iff.1 this).1
      have hSl : S.length ≤ n := by rw [← hS]; have := ranksK_len (fewL m k xs) c xf (fewL m k xs).length; omega
      obtain ⟨Bd, hBd⟩ : ∃ Bd, bestN (xs.map (decO m)) c (decO m x) = Bd := ⟨_, rfl⟩
      rw [hBd] at hone hall
      have HO1 := Lib.hid (fun (W : World) (h : OpsV W (.slice (some ⟨gf, 0, none⟩) n cf) (fewL m k xs)) => opens_c h (by omega))
      have HO2 := Lib.hid (fun (W : World) (h : OpsV W (.slice (some ⟨gd, 0, none⟩) n cd) (xs.map (decO m))) => opens_c h (by simp; omega))
      have HK1 := Lib.hid (fun (u : Value) (W : World) (hu : OpsV W u (fewL m k xs)) => ranks_ok hSO c xf hu hxf hRf (by omega) hxfe)
      have HK2 := Lib.hid (fun (u : Value) (W : World) (hu : OpsV W u (xs.map (decO m))) => ranks_ok hSO c (decO m x) hu hxd hRd (by simp; omega) (Int.le_refl _))
      rw [hS] at HK1
      rw [hone] at HK2
      have HRk2 := Lib.hid (fun (W : World) (h : RowsV W u12 rs) (hst : StatesIn W) => rank_ok hSF rs h (by omega) (by omega) hst hrok)
      rw [hrn] at HRk2
      have HP := Lib.hid (And.intro hsub (And.intro hSinc (And.intro hRinc hall)))
      obtain ⟨q, hq⟩ : ∃ q, nr = q + 1 := ⟨nr - 1, by omega⟩
      subst hq
      clear hsame hEf hRf hxfe hdsame hEd hRd hone hsub hSinc hRinc hSends hbest hrok hall hx hn hok hE0 hR hfl hxf hxd hrc hBd hS hrn of1 m0 m1 m2 hfz q0 q1 q2 z0 z1 z2 gF gf1 nf1 gw6 hW7 g7 hnx g HOL HOC HD0 HDK HYK HDV HRV HOD hgf hgd
      refine (HO1.out _ hF).mono ?_
      rintro e W8 ⟨uF, rfl, huF, hg⟩
      replace hDV := hDV.gr hg
      replace hRV := hRV.gr hg
      replace gW := gW.trans hg
      replace gw := gw.trans hg
      clear hg hF HO1
      go_wp2_with fail
      refine (HK1.out _ _ huF).mono ?_
      rintro e W9 ⟨uS, rfl, hoS, hg⟩
      replace hDV := hDV.gr hg
      replace hRV := hRV.gr hg
      replace gW := gW.trans hg
      replace gw := gw.trans hg
      have hrS := reads_of_owns hoS
      clear hg huF hoS HK1
      obtain ⟨ns, hns⟩ : ∃ ns, S.length = ns := ⟨_, rfl⟩
      rw [hns] at hS0 hSl
      obtain ⟨⟨pS, cS, rfl, hS9⟩⟩ := hrS
      obtain ⟨gs, rfl, hSc⟩ := hS9 (by omega)
      clear hS9
      rw [hns]
      go_wp2_with fail
      refine (HO2.out _ hDV).mono ?_
      rintro e W10 ⟨uD, rfl, huD, hg⟩
      replace hSc := fun i x hx => hg.cell (hSc i x hx)
      replace hRV := hRV.gr hg
      replace gW := gW.trans hg
      replace gw := gw.trans hg
      clear hg hDV HO2
      go_wp2_with fail
      refine (HK2.out _ _ huD).mono ?_
      rintro e W11 ⟨uT, rfl, hoT, hg⟩
      replace hSc := fun i x hx => hg.cell (hSc i x hx)
      replace hRV := hRV.gr hg
      replace gW := gW.trans hg
      replace gw := gw.trans hg
      obtain ⟨⟨pT, cT, rfl, hT9⟩⟩ := reads_of_owns hoT
      obtain ⟨gt, rfl, hTc⟩ := hT9 (by simp)
      clear hT9
      have t0 := hTc 0 Bd rfl
      clear hg huD hoT HK2 hTc
      rw [show ([Bd] : List Int).length = 1 from rfl]
      go_wp2_with fail
      refine (HRk2.out _ hRV (HST.out.gr gw)).mono ?_
      rintro e W12 ⟨RR, rfl, hRR, hheap, hg⟩
      replace hSc := fun i x hx => hg.cell (hSc i x hx)
      replace t0 := hg.cell t0
      replace gW := gW.trans hg
      replace gw := gw.trans hg
      have a0 := cell_ints hheap HP.out.2.2.2
      have r0 := gW.cell (HRC.out 0 Bv HE.out.1)
      have r9 := gW.cell (HRC.out (R.length - 1) Wv HE.out.2.1)
      rw [hnr, show q + 1 - 1 = q by omega] at r9
      have HSC := Lib.hid hSc
      have hq0 : IntKind.i64.wrap (q : Int) = q := by rw [IntKind.wrap_i64]; omega
      have hq1 : ¬ (q : Int) + 1 ≤ q := by omega
      have hq2 : (0 : Int) ≤ q := by omega
      have hc4 : IntKind.i64.wrap ((c : Int) + 1) = c + 1 := by rw [IntKind.wrap_i64]; omega
      have hc5 : (c : Int) + 1 ≤ n := by omega
      have hc6 : (0 : Int) ≤ c := by omega
      have hc7 : (0 : Int) ≤ (c : Int) + 1 := by omega
      have hc8 : (c : Int) ≤ (c : Int) + 1 := by omega
      clear hg hRV hheap hSc hRR HRk2
      go_wp2_with fail
      refine (same_one gt RR c n (n - c) Bd cT W12 t0 a0).mono ?_
      rintro e W13 ⟨rfl, hg⟩
      replace gw := gw.trans hg
      have HRX := Lib.hid (fun i x hx => hg.cell (gW.cell (HRC.out i x hx)))
      have HSX := Lib.hid (fun i x hx => hg.cell (HSC.out i x hx))
      clear hg gW t0 a0 r0 r9 HRC HSC HC3
      go_wp2_with fail
      go_loopw [24, 198] (fun av ix wr => ∃ (a j : Nat), a ≤ q + 1 ∧ j ≤ ns ∧ av = .int .i64 a ∧ ix = .int .i64 j ∧ (∀ (p : Nat) (u v : Int), p < a → R[p]? = some u → S[j]? = some v → u < v) ∧ Gr W13 wr) (fun _ ix _ => ns - (intOf ix).toNat)
      case atStart => exact ⟨0, 0, by omega, by omega, rfl, rfl, fun p u v hp => absurd hp (by omega), Gr.refl _⟩
      case round =>
        obtain ⟨a, j, ha, hj, rfl, rfl, hah, hnx⟩ := hrel
        by_cases hlt : (j : Int) < ns
        · obtain ⟨v, hv⟩ : ∃ v, S[j]? = some v := ⟨S[j]'(by omega), List.getElem?_eq_getElem _⟩
          have sv := hnx.cell (HSX.out j v hv)
          have hj3 : (0 : Int) ≤ j := by omega
          obtain ⟨z, hz⟩ := List.mem_iff_getElem?.1 (HP.out.1 v (List.mem_of_getElem? hv))
          have HZ := Lib.hid (And.intro hv hz)
          have HAH := Lib.hid hah
          clear hv hz hah
          go_wp2_with fail
          go_loopw [24] (fun av wr2 => ∃ a2 : Nat, a2 ≤ q + 1 ∧ av = .int .i64 a2 ∧ (∀ (p : Nat) (u : Int), p < a2 → R[p]? = some u → u < v) ∧ Gr W13 wr2) (fun av _ => q + 1 - (intOf av).toNat)
          case atStart => exact ⟨a, ha, rfl, fun p u hp hu => HAH.out p u v hp hu HZ.out.1, hnx⟩
          case round =>
            obtain ⟨a2, ha2, rfl, hb2, hnx2⟩ := hrel
            have hzl := (List.getElem?_eq_some_iff.1 HZ.out.2).1
            have hza : ¬ z < a2 := fun h => absurd (hb2 z v h HZ.out.2) (Int.lt_irrefl _)
            obtain ⟨u, hu⟩ : ∃ u, R[a2]? = some u := ⟨R[a2]'(by omega), List.getElem?_eq_getElem _⟩
            have su := hnx2.cell (HRX.out a2 u hu)
            have h3 : (0 : Int) ≤ a2 := by omega
            have h4 : (a2 : Int) < (q : Int) + 1 := by omega
            have h5 : ¬ (a2 : Int) = (q : Int) + 1 := by omega
            have HB := Lib.hid hb2
            have HU := Lib.hid hu
            by_cases huv : u < v
            · have d1 : decide (u < v) = true := decide_eq_true huv
              clear hb2 hu hzl hza
              go_wp2_with fail
              go_roundw
              case rel =>
                refine ⟨a2 + 1, by omega, by go_num, fun p u' hp hu' => ?_, hnx2⟩
                by_cases hpa : p = a2
                · subst hpa
                  have := HU.out.symm.trans hu'
                  cases this
                  exact huv
                · exact HB.out p u' (by omega) hu'
              case measure => simp [intOf]; omega
            · have huv2 : u = v := by
                by_cases hze : z = a2
                · subst hze
                  have := hu.symm.trans HZ.out.2
                  cases this
                  rfl
                · obtain ⟨l1, e1⟩ := List.getElem?_eq_some_iff.1 hu
                  obtain ⟨l2, e2⟩ := List.getElem?_eq_some_iff.1 HZ.out.2
                  have := List.pairwise_iff_getElem.1 HP.out.2.2.1 a2 z l1 l2 (by omega)
                  rw [e1, e2] at this
                  exact absurd this huv
              subst huv2
              clear hb2 hu hzl hza huv
              go_wp2_with fail
              go_roundw
              case rel =>
                refine ⟨a2, j + 1, ha2, by omega, rfl, by go_num, fun p u' v' hp hu' hv' => ?_, hnx2⟩
                have h1 := HB.out p u' hp hu'
                obtain ⟨l1, e1⟩ := List.getElem?_eq_some_iff.1 HZ.out.1
                obtain ⟨l2, e2⟩ := List.getElem?_eq_some_iff.1 hv'
                have := List.pairwise_iff_getElem.1 HP.out.2.1 j (j + 1) l1 l2 (by omega)
                rw [e1, e2] at this
                omega
              case measure => simp [intOf]; omega
        · go_wp2_with fail
          refine (HA.out _ (gw.trans hnx)).mono ?_
          rintro e w9 ⟨rfl, hg9⟩
          go_wp2_with fail
          go_ret
          exact ⟨rfl, (gw.trans hnx).trans hg9⟩
end Go.Proofs.YtigmonaggppehaaGreatDoor
namespace Go.Proofs.YtigmonaggppehaaGreatDoor
open Go.RowKit Go.Lib
set_option linter.unusedSimpArgs false
set_option linter.unusedVariables false
set_option maxHeartbeats 1000000 in
set_option maxRecDepth 100000 in
theorem narrows_big {v : Value} {xs : List OpR} {w : World} (cl m : Int) (h : OpsV w v xs) (hb : 8 < xs.length) (hA : AwakeIn w) :
    Calls Tryz.prog 4 #[v, .int .i64 cl, .int .u8 m] w fun e w' => e = .returned (.bool true) ∧ Gr w w' := by
  have HS := Lib.hid (short_c h)
  obtain ⟨p, cap, rfl⟩ := opsV_slice h
  have HA := Lib.hid hA
  have hn8 : decide ((8 : Int) < xs.length) = true := decide_eq_true (by omega)
  clear hA h
  generalize xs.length = n at *
  go_enter Tryz.func4, Tryz.ntmps4
  go_wp2_with fail
  refine HS.out.mono ?_
  rintro e w1 ⟨bb, rfl, hB, g⟩
  clear hB
  cases bb
  all_goals
    go_wp2_with fail
    refine (HA.out _ g).mono ?_
    rintro e w2 ⟨rfl, g2⟩
    go_wp2_with fail
    go_ret
    exact ⟨rfl, g.trans g2⟩
set_option maxHeartbeats 1000000 in
set_option maxRecDepth 100000 in
theorem narrows_err {v : Value} {xs : List OpR} {w : World} (cl m : Int) (h : OpsV w v xs) (hb : xs.length ≤ 8) (hE : ranksE xs cl ≠ 0) (hA : AwakeIn w) :
    Calls Tryz.prog 4 #[v, .int .i64 cl, .int .u8 m] w fun e w' => e = .returned (.bool true) ∧ Gr w w' := by
  have HS := Lib.hid (short_c h)
  have HAs := Lib.hid (fun (W : World) (g : Gr w W) => asked_c cl (h.gr g))
  obtain ⟨p, cap, rfl⟩ := opsV_slice h
  have HA := Lib.hid hA
  have hn8 : decide ((8 : Int) < xs.length) = false := decide_eq_false (by omega)
  have hz : (ranksE xs cl == 0) = false := beq_eq_false_iff_ne.2 hE
  have hz2 : (ranksE xs cl != 0) = true := by rw [bne, hz]; rfl
  clear hA h
  generalize ranksE xs cl = E at *
  generalize xs.length = n at *
  go_enter Tryz.func4, Tryz.ntmps4
  go_wp2_with fail
  refine HS.out.mono ?_
  rintro e w1 ⟨bb, rfl, hB, g⟩
  clear hB
  cases bb
  · go_wp2_with fail
    refine (HA.out _ g).mono ?_
    rintro e w2 ⟨rfl, g2⟩
    go_wp2_with fail
    go_ret
    exact ⟨rfl, g.trans g2⟩
  go_wp2_with fail
  refine (HAs.out _ g).mono ?_
  rintro e w2 ⟨rfl, hg⟩
  replace g := g.trans hg
  go_wp2_with fail
  refine (HA.out _ g).mono ?_
  rintro e w3 ⟨rfl, g3⟩
  go_wp2_with fail
  go_ret
  exact ⟨rfl, g.trans g3⟩
theorem lawNarrows_c (hSO : SortOK) (hSF : SortFOK) {v : Value} {xs : List OpR} {w : World} (cl m : Int) (hm0 : 0 ≤ m) (hm1 : m ≤ 255) (h : OpsV w v xs) (hSt : StatesIn w) (hA : AwakeIn w) :
    Calls Tryz.prog 4 #[v, .int .i64 cl, .int .u8 m] w fun e w' => e = .returned (.bool true) ∧ Gr w w' := by
  by_cases hb : 8 < xs.length
  · exact narrows_big cl m h hb hA
  by_cases hE : ranksE xs cl = 0
  case neg =>
    exact narrows_err cl m h (by omega) hE hA
  have hE0 : openE xs = 0 := by
    refine Classical.byContradiction fun hn => ?_
    unfold ranksE firstE at hE
    rw [if_neg hn] at hE
    exact hn hE
  have hc : ¬ (cl < 0 ∨ (xs.length : Int) ≤ cl) := fun hc => by
    unfold ranksE firstE firstE climbE at hE
    rw [if_pos hE0, if_pos hc] at hE
    cases hE
  obtain ⟨c, rfl⟩ : ∃ c : Nat, cl = c := ⟨cl.toNat, by omega⟩
  obtain ⟨x, hx⟩ : ∃ x, xs[c]? = some x := ⟨xs[c]'(by omega), List.getElem?_eq_getElem _⟩
  have h' := h
  obtain ⟨⟨p, cap, rfl, hcap, hh⟩⟩ := h
  obtain ⟨b, off, rfl, hcc⟩ := hh (by omega)
  exact narrows_ok hSO hSF xs _ b off cap c x m hm0 hm1 rfl h' hcc hx hE hE0 (by omega) hSt hA
end Go.Proofs.YtigmonaggppehaaGreatDoor
