/- Who goes on (chapter 6): forward. -/
import Derived.Test.YtebnbjaaogfikaaGreatDoorGStD
import Derived.Test.YtebnbjaaogfikaaGreatDoorGOrN
namespace Go.Proofs.YtebnbjaaogfikaaGreatDoor
open Go.RowKit Go.Lib
set_option linter.unusedSimpArgs false
set_option linter.unusedVariables false
theorem cell_one_sz (w : World) (s : Nat) (hs : w.heap.size = s) (a : Value) (T : TypeId) : ∀ (j : Nat) (u : Value), [a][j]? = some u → (w.alloc (.cells #[a] T)).cell? ((⟨s, 0, none⟩ : Addr).add j) = some u := by
  subst hs; exact cell_one_new w a T
/-- the rank of the one before -/
def prevR (ys : List RowR) (ps : List Nat) : Nat → Int
  | 0 => 1
  | i + 1 => rankR ys (rowOf ys ((ps[i]?).getD 0))
theorem prevR_s {ys : List RowR} {ps : List Nat} {i a : Nat} (h : ps[i]? = some a) : prevR ys ps (i + 1) = rankR ys (rowOf ys a) := by
  show rankR ys (rowOf ys ((ps[i]?).getD 0)) = _
  rw [h]; rfl
theorem fine_empty {xs : List RowR} {x : RowR} (h : x ∈ fine xs) : x.st.toList.isEmpty = true := (List.mem_filter.1 h).2
theorem thruB_none {xs : List RowR} (h : fine xs = []) (m : Int) : thruB (xs.map bare) m = [] := by
  have h2 : fineB (xs.map bare) = [] := by rw [← fine_bare, h]; rfl
  unfold thruB; rw [h2]
  have e : pls (([] : List Bare).map fun b => b.nm) (ranksB []) = [] := rfl
  rw [e]
  have hl := (srtP_spec []).2.1
  rw [List.length_nil, List.length_eq_zero_iff] at hl
  rw [hl]; rfl
set_option maxHeartbeats 4000000 in
set_option maxRecDepth 100000 in
theorem forward_pos (xs : List RowR) (n b off cap : Nat) (m : Nat) (w : World) (hn : xs.length = n) (h0 : 0 < n) (h1 : n < 20) (hc : ∀ i x, xs[i]? = some x → RowAt w b (off + i * 3) x) :
    Calls Tryz.prog 32 #[.slice (some ⟨b, off, none⟩) n cap, .int .i64 (m : Int)] w fun e w' => ∃ v, e = .returned v ∧ StrsV w' v (thruB (xs.map bare) m) ∧ Gr w w' := by
  obtain ⟨i0, hi, hz0, hz1, hz2⟩ := info_parts infoRes
  obtain ⟨i1, hj, hy0, hy1, hy2⟩ := info_parts infoTh
  have HX := Lib.hid (fun k (h : k < n) => (show ∃ x, xs[k]? = some x from ⟨xs[k]'(by omega), List.getElem?_eq_getElem _⟩))
  have HCc := Lib.hid hc
  have HN := Lib.hid hn
  have HFl := Lib.hid (fun k => (show (fine (xs.take k)).length < 20 from by have := fine_le (xs.take k); rw [List.length_take] at this; omega))
  clear hc hn
  go_enter Tryz.func32, Tryz.ntmps32
  go_wp2_with fail
  go_loopw [5, 14] (fun v i wr => ∃ k : Nat, k ≤ n ∧ i = .int .i64 k ∧ wr.ownsRow w.heap.size 34 3 v (fine (xs.take k)).length (rowCs (fine (xs.take k))) ∧ Gr w wr) (fun _ i _ => n - (intOf i).toNat)
  case atStart => exact ⟨0, Nat.zero_le _, rfl, World.ownsRow_nil _ _ _ _, Gr.refl _⟩
  case round =>
    obtain ⟨k, hk, rfl, hown, hnx⟩ := hrel
    have hsize := hnx.size
    by_cases hkN : k < n
    · obtain ⟨x, hx⟩ := HX.out k hkN
      obtain ⟨c0, c1, c2, hv, _⟩ := (HCc.out k x hx).gr hnx
      obtain ⟨⟨p', cap', hu, _⟩⟩ := hv
      rw [hu] at c2
      have HQ := Lib.hid (fine_take hx)
      have HL := Lib.hid (HFl.out k)
      have HRc := Lib.hid (rowCs_len (fine (xs.take k)))
      have hi2 : (k : Int) < n := by omega
      cases hh : hasV x
      · have hh2 : x.st.toList.isEmpty = false := hh
        have hh3 : ¬ x.st.toList = [] := by intro q; rw [q] at hh2; cases hh2
        have HQ2 := Lib.hid (show fine (xs.take (k + 1)) = fine (xs.take k) from by
          have := HQ.out; rw [hh] at this; simpa using this)
        have HOW := Lib.hid (fun W (g : Gr wr W) => own_gr hown g)
        clear hown hx hh
        go_wp2_with fail
        go_roundw
        case rel =>
          have gz := ((Gr.refl wr).alloc (.cells #[.string x.nm, .string x.st, .slice p' x.xs.length cap'] 34))
          exact ⟨k + 1, by omega, by go_num, by rw [HQ2.out]; exact HOW.out _ gz, hnx.trans gz⟩
        case measure => simp [intOf]; omega
      · have hh2 : x.st.toList.isEmpty = true := hh
        have hh3 : x.st.toList = [] := by simpa using hh2
        have HQ2 := Lib.hid (show fine (xs.take (k + 1)) = fine (xs.take k) ++ [x] from by
          have := HQ.out; rw [hh] at this; simpa using this)
        have HQ3 := Lib.hid (show rowCs (fine (xs.take k) ++ [x]) = rowCs (fine (xs.take k)) ++ [.string x.nm, .string x.st, .slice p' x.xs.length cap'] from by rw [rowCs_add]; unfold rowC; rw [hu])
        have HQ4 := Lib.hid (show (fine (xs.take k) ++ [x]).length = (fine (xs.take k)).length + 1 from by simp)
        have HOW := Lib.hid (fun W (g : Gr wr W) => own_gr hown g)
        have gz := ((Gr.refl wr).alloc (.cells #[.string x.nm, .string x.st, .slice p' x.xs.length cap'] 34))
        have hl20 := HL.out
        clear hown hx hh hu
        generalize (fine (xs.take k)).length = q at *
        go_wp2_with (first
          | (at_builtin; refine wpList_append_own _ rfl _ _ 22 rfl w.heap.size 34 i0 (.agg #[.string ⟨#[]⟩, .string ⟨#[]⟩, .slice none 0 0]) 3 56 Tryz.underlying22 hi hz0 hz1 hz2 rfl (by decide) _ _ _ rfl ((HOW.out _ gz).alloc _) ⟨wr.heap.size + 1, 0, none⟩ 1 1 [.string x.nm, .string x.st, .slice p' x.xs.length cap'] rfl rfl (cell_three_sz _ _ (by simp) _ _ _ _) (by intro u hu; simp at hu; rcases hu with rfl | rfl | rfl <;> rfl) (by unfold maxLen; omega) (by omega) (by simp; omega) ?_; intro v1 w1 hown1 hgrow1 hnil1))
        go_roundw
        case rel =>
          exact ⟨k + 1, by omega, by go_num, by rw [HQ2.out, HQ3.out, HQ4.out]; exact hown1, Below.grown ((hnx.trans gz).alloc _) hgrow1 (by simp; omega) (fun j hj => ((HOW.out _ gz).lt j hj).1)⟩
        case measure => simp [intOf]; omega
    · obtain rfl : k = n := by omega
      rw [List.take_of_length_le (by have := HN.out; omega)] at hown
      have hlf : (fine xs).length < 20 := by have := HFl.out k; rwa [List.take_of_length_le (by have := HN.out; omega)] at this
      have hvals : ∀ (i : Nat) (x : RowR), (fine xs)[i]? = some x → IntsV w x.u x.xs ∧ x.xs.length ≤ 1000 := fun i x hx => by
        have hmem : x ∈ xs := (List.mem_filter.1 (List.mem_of_getElem? hx)).1
        obtain ⟨j, hj⟩ := List.mem_iff_getElem?.1 hmem
        have := HCc.out j x hj
        exact ⟨this.val, this.len⟩
      by_cases hf0 : 0 < (fine xs).length
      · have hcut : ∃ G cap1, u5 = .slice (some ⟨G, 0, none⟩) (fine xs).length cap1 ∧ w.heap.size ≤ G ∧ G < wr.heap.size ∧ (∀ (i : Nat) (x : RowR), (fine xs)[i]? = some x → ∀ (j : Nat) (u : Value), (rowC x)[j]? = some u → wr.cell? ⟨G, i * 3 + j, none⟩ = some u) ∧ ∀ a : Addr, a.block = G → wr.frozen? a = false := by
          rcases hown.2 with ⟨_, q⟩ | ⟨G, cap1, cur, e, hb, hcur, _⟩
          · omega
          · refine ⟨G, cap1, e, hb, (Array.getElem?_eq_some_iff.1 hcur).1, fun i x hx j u hju => ?_, fun a ha => by simp [World.frozen?, ha, hcur]⟩
            have hj3 : j < 3 := (List.getElem?_eq_some_iff.1 hju).1
            have := hown.cells (g := G) (by rw [e]; rfl) (i * 3 + j) u (by rw [rowCs_at hx j hj3]; exact hju)
            rwa [show (⟨G, 0, none⟩ : Addr).add (i * 3 + j) = ⟨G, i * 3 + j, none⟩ by unfold Addr.add; split <;> simp_all] at this
        obtain ⟨G, cap1, rfl, hbG, hltG, hcG, hfzG⟩ := hcut
        have hsort := sortRows3_c (fine xs) _ G cap1 rfl hf0 hlf (fun x hx => fine_empty hx) hnx hbG hltG hvals hcG hfzG
        have HThru := Lib.hid (fun ps (hO : InOrder (fine xs) ps) (hS : Stab (fine xs) ps) => nameL_thru hO hS m)
        have HPart := Lib.hid (fun ps (hO : InOrder (fine xs) ps) => hO.len)
        clear hown hcG hfzG
        generalize hnf : (fine xs).length = nf at *
        go_wp2_with fail
        refine hsort.mono ?_
        rintro e w2 ⟨rfl, ps, hO, hSt, hrows, g2⟩
        have hpl : ps.length = nf := HPart.out ps hO
        have hTh := HThru.out ps hO hSt
        have HAt := Lib.hid (fun k (h : k < nf) => (show ∃ a, ps[k]? = some a from ⟨ps[k]'(by omega), List.getElem?_eq_getElem _⟩))
        have HRows := Lib.hid hrows
        have HOr := Lib.hid hO
        clear hsort hvals hrows HThru HPart hSt
        go_wp2_with fail
        go_loopw [8, 9, 30] (fun v rkv i wr => ∃ k : Nat, k ≤ nf ∧ i = .int .i64 k ∧ rkv = .int .i64 (prevR (fine xs) ps k) ∧ wr.ownsRow w2.heap.size 9 1 v (nameL (fine xs) (ps.take k) m).length (strsV (nameL (fine xs) (ps.take k) m)) ∧ Gr w2 wr) (fun _ _ i _ => nf - (intOf i).toNat)
        case atStart => exact ⟨0, Nat.zero_le _, rfl, rfl, World.ownsRow_nil _ _ _ _, Gr.refl _⟩
        case round =>
          obtain ⟨k, hk, rfl, rfl, hown, hnx2⟩ := hrel
          have hsize := hnx2.size
          by_cases hkN : k < nf
          · obtain ⟨a, ha⟩ := HAt.out k hkN
            obtain ⟨x0, x1, x2, hxv, hxl⟩ := (HRows.out k a ha).gr hnx2
            have hal := HOr.out.lt ha
            have hxs' : (fine xs)[a]? = some (rowOf (fine xs) a) := by rw [List.getElem?_eq_getElem hal, rowOf_at (List.getElem?_eq_getElem hal)]
            have HNT := Lib.hid (nameL_take (ys := fine xs) (m := (m : Int)) ha)
            have HPv := Lib.hid (prevR_s (ys := fine xs) ha)
            have hll : (nameL (fine xs) (ps.take k) m).length < 20 := by
              unfold nameL; rw [List.length_map]
              have := List.length_filter_le (fun a => decide (rankR (fine xs) (rowOf (fine xs) a) ≤ m)) (ps.take k)
              rw [List.length_take] at this; omega
            have hk2 : (k : Int) < nf := by omega
            have hxe := fine_empty (List.mem_of_getElem? hxs')
            simp only [Nat.zero_add] at x0 x1 x2
            obtain ⟨⟨pu, cu, hu, _⟩⟩ := id hxv
            have hfst := rank_first HOr.out ha
            have hcase : (k = 0 ∧ prevR (fine xs) ps k = 1 ∧ rankR (fine xs) (rowOf (fine xs) a) = 1) ∨ (∃ (j d : Nat), k = j + 1 ∧ ps[j]? = some d ∧ prevR (fine xs) ps k = rankR (fine xs) (rowOf (fine xs) d) ∧ cmpR (rowOf (fine xs) d) (rowOf (fine xs) a) ≤ 0 ∧ (cmpR (rowOf (fine xs) d) (rowOf (fine xs) a) < 0 → rankR (fine xs) (rowOf (fine xs) a) = (k : Int) + 1) ∧ (cmpR (rowOf (fine xs) d) (rowOf (fine xs) a) = 0 → rankR (fine xs) (rowOf (fine xs) d) = rankR (fine xs) (rowOf (fine xs) a))) := by
              rcases Nat.eq_zero_or_pos k with h | h
              · subst h
                exact .inl ⟨rfl, rfl, by have := hfst (fun q c hq _ => by omega); simpa using this⟩
              · obtain ⟨j, rfl⟩ : ∃ j, k = j + 1 := ⟨k - 1, by omega⟩
                obtain ⟨d, hd⟩ := HAt.out j (by omega)
                exact .inr ⟨j, d, rfl, hd, prevR_s hd, HOr.out.sorted j (j + 1) d a (by omega) hd ha, fun hlt => hfst (fun q c hq hcq => by
                  obtain rfl : q = j := by omega
                  rw [hd] at hcq; cases hcq; exact hlt), fun he => rank_alike he⟩
            rcases hcase with ⟨hk0, hpv, hrk⟩ | ⟨j, d, hkj, hd, hpv, hz0, hz1, hz2'⟩
            · rw [hrk] at HPv HNT
              rw [hpv]
              have hk00 : ¬ (0 : Int) < (k : Int) := by omega
              have hk01 : ¬ 0 < k := by omega
              have hk02 : decide (0 < k) = false := decide_eq_false hk01
              have hk03 : decide ((0 : Int) < (k : Int)) = false := decide_eq_false hk00
              generalize rowOf (fine xs) a = x at *
              rw [hu] at x2
              have gz := (Gr.refl wr).alloc (.cells #[.string x.nm, .string x.st, .slice pu x.xs.length cu] 34)
              clear hfst hpv hrk ha hxs' hxv hu hk0 hTh
              by_cases hle : (1 : Int) ≤ (m : Int)
              · go_wp2_with fail
                go_quiet (fail)
                have HON := own_gr hown (gz.drewN nq)
                have HGN := hnx2.trans (gz.drewN nq)
                have a0 := ((Gr.refl (wr.alloc (.cells #[.string x.nm, .string x.st, .slice pu x.xs.length cu] 34))).drewN nq).cell (cell_new wr #[.string x.nm, .string x.st, .slice pu x.xs.length cu] 34 0 (by simp))
                simp only [List.getElem_toArray, List.getElem_cons_zero] at a0
                generalize (wr.alloc (.cells #[.string x.nm, .string x.st, .slice pu x.xs.length cu] 34)).drewN nq = W5 at *
                have hs5 := HGN.size
                have HQ2 := Lib.hid (show nameL (fine xs) (ps.take (k + 1)) m = nameL (fine xs) (ps.take k) m ++ [x.nm] from by rw [HNT.out, if_pos (by simp [hle])])
                have HQ3 := Lib.hid (show strsV (nameL (fine xs) (ps.take k) m ++ [x.nm]) = strsV (nameL (fine xs) (ps.take k) m) ++ [.string x.nm] from by simp [strsV])
                have HQ4 := Lib.hid (show (nameL (fine xs) (ps.take k) m ++ [x.nm]).length = (nameL (fine xs) (ps.take k) m).length + 1 from by simp)
                generalize (nameL (fine xs) (ps.take k) m).length = z at *
                go_wp2_with (first
                  | (at_builtin; refine wpList_append_own _ rfl _ _ 23 rfl w2.heap.size 9 i1 (.string ⟨#[]⟩) 1 16 Tryz.underlying23 hj hy0 hy1 hy2 rfl (by decide) _ _ _ rfl (HON.alloc _) ⟨W5.heap.size, 0, none⟩ 1 1 [.string x.nm] rfl rfl (cell_one_sz _ _ (by simp) _ _) (by intro u hu; simp at hu; subst hu; rfl) (by unfold maxLen; omega) (by omega) (by simp; omega) ?_; intro v1 w1 hown1 hgrow1 hnil1))
                go_roundw
                case rel => exact ⟨k + 1, by omega, by go_num, by rw [HPv.out], by rw [HQ2.out, HQ3.out, HQ4.out]; exact hown1, Below.grown (HGN.alloc _) hgrow1 (by simp; omega) (fun j hj => (HON.lt j hj).1)⟩
                case measure => simp [intOf]; omega
              · go_wp2_with fail
                go_quiet (fail)
                have HON := own_gr hown (gz.drewN nq)
                have HGN := hnx2.trans (gz.drewN nq)
                have a0 := ((Gr.refl (wr.alloc (.cells #[.string x.nm, .string x.st, .slice pu x.xs.length cu] 34))).drewN nq).cell (cell_new wr #[.string x.nm, .string x.st, .slice pu x.xs.length cu] 34 0 (by simp))
                simp only [List.getElem_toArray, List.getElem_cons_zero] at a0
                generalize (wr.alloc (.cells #[.string x.nm, .string x.st, .slice pu x.xs.length cu] 34)).drewN nq = W5 at *
                have hs5 := HGN.size
                have HQ2 := Lib.hid (show nameL (fine xs) (ps.take (k + 1)) m = nameL (fine xs) (ps.take k) m from by rw [HNT.out, if_neg (by simp [hle])]; simp)
                go_wp2_with fail
                go_roundw
                case rel => exact ⟨k + 1, by omega, by go_num, by rw [HPv.out], by rw [HQ2.out]; exact HON, HGN⟩
                case measure => simp [intOf]; omega
            · have hdl := HOr.out.lt hd
              obtain ⟨y0, y1, y2, hyv, hyl⟩ := (HRows.out j d hd).gr hnx2
              have hyd : (fine xs)[d]? = some (rowOf (fine xs) d) := by rw [List.getElem?_eq_getElem hdl, rowOf_at (List.getElem?_eq_getElem hdl)]
              have hye := fine_empty (List.mem_of_getElem? hyd)
              simp only [Nat.zero_add] at y0 y1 y2
              have hidx : (k : Int) - 1 = (j : Int) := by omega
              have hj2 : (j : Int) < nf := by omega
              have hk00 : (0 : Int) < (k : Int) := by omega
              have hk01 : 0 < k := by omega
              rw [hpv]
              have HCm := Lib.hid (fun (W : World) (g : Gr wr W) => (show Calls Tryz.prog 69 #[.agg #[.string (rowOf (fine xs) d).nm, .string (rowOf (fine xs) d).st, (rowOf (fine xs) d).u], .agg #[.string (rowOf (fine xs) a).nm, .string (rowOf (fine xs) a).st, (rowOf (fine xs) a).u]] W fun e w' => e = .returned (.int .i64 (cmpR (rowOf (fine xs) d) (rowOf (fine xs) a))) ∧ Gr W w' from (cmpS_c hye hxe (hyv.gr g) (hxv.gr g) hyl hxl).mono (by rintro e w' ⟨rfl, gd⟩; exact ⟨rfl, gd.gr⟩)))
              generalize rankR (fine xs) (rowOf (fine xs) d) = pv at *
              generalize rankR (fine xs) (rowOf (fine xs) a) = rk at *
              generalize cmpR (rowOf (fine xs) d) (rowOf (fine xs) a) = z at *
              generalize rowOf (fine xs) a = x at *
              generalize rowOf (fine xs) d = y at *
              have HU := Lib.hid hu
              rw [hu] at x2 HCm
              obtain ⟨W4, hW4, g, a0, a1, a2⟩ := box3 wr (.string x.nm) (.string x.st) (.slice pu x.xs.length cu) 34
              have HW4 := Lib.hid hW4
              replace y0 := g.cell y0
              replace y1 := g.cell y1
              replace y2 := g.cell y2
              have HON0 := Lib.hid (fun W (g : Gr wr W) => own_gr hown g)
              have hzc : (z = 0 ∧ pv = rk) ∨ (z < 0 ∧ rk = (k : Int) + 1) := by
                rcases Int.lt_or_eq_of_le hz0 with h | h
                · exact .inr ⟨h, hz1 h⟩
                · exact .inl ⟨h, hz2' h⟩
              clear hfst hpv ha hxs' hxv hyv hu hz0 hz1 hz2' hd hyd hTh hW4 hown
              have hkk : ¬ (k : Int) = 0 := by omega
              have hwj : IntKind.i64.wrap (j : Int) = j := by rw [IntKind.wrap_i64]; omega
              clear hkj
              rcases hzc with ⟨hz, rfl⟩ | ⟨hz, hrke⟩
              · have hzz : (z != 0) = false := by rw [hz]; rfl
                by_cases hle : pv ≤ (m : Int)
                · go_wp2_with fail
                  rw [HW4.out]
                  generalize wr.heap.size = B at *
                  have gd := (Gr.refl W4).drew
                  replace y0 := gd.cell y0
                  replace y1 := gd.cell y1
                  replace y2 := gd.cell y2
                  replace a0 := gd.cell a0
                  replace a1 := gd.cell a1
                  replace a2 := gd.cell a2
                  replace g := g.trans gd
                  clear gd
                  refine wp_region_held_drew (S := (fun w' => (w'.cell? ⟨G, j * 3, none⟩ = some (.string y.nm) ∧ w'.cell? ⟨G, j * 3 + 1, none⟩ = some (.string y.st) ∧ w'.cell? ⟨G, j * 3 + 2, none⟩ = some y.u) ∧ (w'.cell? ⟨B, 0, none⟩ = some (.string x.nm) ∧ w'.cell? ⟨B, 1, none⟩ = some (.string x.st) ∧ w'.cell? ⟨B, 2, none⟩ = some (.slice pu x.xs.length cu)))) (by kernel_rfl) ⟨⟨y0, y1, y2⟩, a0, a1, a2⟩ (fun hHeld => ?_)
                  generalize W4.drew = V5 at *
                  refine wpAnyH_take (i := 0) (v := (.int .i64 k)) (op_at rfl) (by kernel_rfl) (by kernel_rfl) (by kernel_rfl) (fun _ _ _ h => h) (Or.inl ⟨rfl, fun w hSw => ?_⟩) (by assumption) ?_
                  · (try dsimp only at hSw); go_simp; try with_reducible rfl
                  (try simp only [Act.put, List.setIfInBounds_toArray, List.set_cons_zero, List.set_cons_succ])
                  refine wpAnyH_take (i := 1) (v := (.bool true)) (op_at rfl) (by kernel_rfl) (by kernel_rfl) (by kernel_rfl) (fun _ _ _ h => h) (Or.inl ⟨rfl, fun w hSw => ?_⟩) (by assumption) ?_
                  · (try dsimp only at hSw); go_simp; try with_reducible rfl
                  (try simp only [Act.put, List.setIfInBounds_toArray, List.set_cons_zero, List.set_cons_succ])
                  refine wpAnyH_take (i := 2) (v := (.bool true)) (op_at rfl) (by kernel_rfl) (by kernel_rfl) (by kernel_rfl) (fun _ _ _ h => h) (Or.inl ⟨rfl, fun w hSw => ?_⟩) (by assumption) ?_
                  · (try dsimp only at hSw); go_simp; try with_reducible rfl
                  (try simp only [Act.put, List.setIfInBounds_toArray, List.set_cons_zero, List.set_cons_succ])
                  refine wpAnyH_take (i := 3) (v := (.slice (some ⟨G, 0, none⟩) nf cap1)) (op_at rfl) (by kernel_rfl) (by kernel_rfl) (by kernel_rfl) (fun _ _ _ h => h) (Or.inl ⟨rfl, fun w hSw => ?_⟩) (by assumption) ?_
                  · (try dsimp only at hSw); go_simp; try with_reducible rfl
                  (try simp only [Act.put, List.setIfInBounds_toArray, List.set_cons_zero, List.set_cons_succ])
                  refine wpAnyH_take (i := 4) (v := (.int .i64 k)) (op_at rfl) (by kernel_rfl) (by kernel_rfl) (by kernel_rfl) (fun _ _ _ h => h) (Or.inl ⟨rfl, fun w hSw => ?_⟩) (by assumption) ?_
                  · (try dsimp only at hSw); go_simp; try with_reducible rfl
                  (try simp only [Act.put, List.setIfInBounds_toArray, List.set_cons_zero, List.set_cons_succ])
                  refine wpAnyH_take (i := 5) (v := (.int .i64 j)) (op_at rfl) (by kernel_rfl) (by kernel_rfl) (by kernel_rfl) (fun _ _ _ h => h) (Or.inl ⟨rfl, fun w hSw => ?_⟩) (by assumption) ?_
                  · (try dsimp only at hSw); go_simp; try with_reducible rfl
                  (try simp only [Act.put, List.setIfInBounds_toArray, List.set_cons_zero, List.set_cons_succ])
                  refine wpAnyH_take (i := 6) (v := (.pointer (some ⟨G, j * 3, none⟩))) (op_at rfl) (by kernel_rfl) (by kernel_rfl) (by kernel_rfl) (fun _ _ _ h => h) (Or.inl ⟨rfl, fun w hSw => ?_⟩) (by assumption) ?_
                  · (try dsimp only at hSw); go_simp; try with_reducible rfl
                  (try simp only [Act.put, List.setIfInBounds_toArray, List.set_cons_zero, List.set_cons_succ])
                  refine wpAnyH_take (i := 7) (v := (.agg #[.string y.nm, .string y.st, y.u])) (op_at rfl) (by kernel_rfl) (by kernel_rfl) (by kernel_rfl) (fun _ _ _ h => h) (Or.inl ⟨rfl, fun w hSw => ?_⟩) (by assumption) ?_
                  · (try dsimp only at hSw); go_simp; try with_reducible rfl
                  (try simp only [Act.put, List.setIfInBounds_toArray, List.set_cons_zero, List.set_cons_succ])
                  refine wpAnyH_take (i := 8) (v := (.agg #[.string x.nm, .string x.st, .slice pu x.xs.length cu])) (op_at rfl) (by kernel_rfl) (by kernel_rfl) (by kernel_rfl) (fun _ _ _ h => h) (Or.inl ⟨rfl, fun w hSw => ?_⟩) (by assumption) ?_
                  · (try dsimp only at hSw); go_simp; try with_reducible rfl
                  (try simp only [Act.put, List.setIfInBounds_toArray, List.set_cons_zero, List.set_cons_succ])
                  refine wpAnyH_ready (rs := [9]) (by kernel_rfl) (by simp) (AllReadyH.cons (op_at rfl) (fun K hK => ?_) AllReadyH.nil)
                  go_simp
                  (refine (HCm.out _ g).mono ?_; rintro e W5 ⟨rfl, hg⟩; replace y0 := hg.cell y0; replace y1 := hg.cell y1; replace y2 := hg.cell y2; replace a0 := hg.cell a0; replace a1 := hg.cell a1; replace a2 := hg.cell a2; replace g := g.trans hg; clear hg)
                  go_wp2_with fail
                  refine hK.out _ _ ⟨⟨y0, y1, y2⟩, a0, a1, a2⟩ (fun hHeld => ?_)
                  clear hK K
                  (try simp only [Act.put, List.setIfInBounds_toArray, List.set_cons_zero, List.set_cons_succ])
                  refine wpAnyH_take (i := 10) (v := (.bool (z != 0))) (op_at rfl) (by kernel_rfl) (by kernel_rfl) (by kernel_rfl) (fun _ _ _ h => h) (Or.inl ⟨rfl, fun w hSw => ?_⟩) (by assumption) ?_
                  · (try dsimp only at hSw); go_simp; try with_reducible rfl
                  (try simp only [Act.put, List.setIfInBounds_toArray, List.set_cons_zero, List.set_cons_succ])
                  refine wpAnyH_take (i := 11) (v := (.bool (z != 0))) (op_at rfl) (by kernel_rfl) (by kernel_rfl) (by kernel_rfl) (fun _ _ _ h => h) (Or.inl ⟨rfl, fun w hSw => ?_⟩) (by assumption) ?_
                  · (try dsimp only at hSw); go_simp; try with_reducible rfl
                  (try simp only [Act.put, List.setIfInBounds_toArray, List.set_cons_zero, List.set_cons_succ])
                  refine wpAnyH_done (by kernel_rfl) ?_ _
                  have HON := HON0.out _ g
                  have HGN := hnx2.trans g
                  have hs5 := HGN.size
                  have HQ2 := Lib.hid (show nameL (fine xs) (ps.take (k + 1)) m = nameL (fine xs) (ps.take k) m ++ [x.nm] from by rw [HNT.out, if_pos (by simp [hle])])
                  have HQ3 := Lib.hid (show strsV (nameL (fine xs) (ps.take k) m ++ [x.nm]) = strsV (nameL (fine xs) (ps.take k) m) ++ [.string x.nm] from by simp [strsV])
                  have HQ4 := Lib.hid (show (nameL (fine xs) (ps.take k) m ++ [x.nm]).length = (nameL (fine xs) (ps.take k) m).length + 1 from by simp)
                  generalize (nameL (fine xs) (ps.take k) m).length = z at *
                  go_wp2_with (first
                    | (at_builtin; refine wpList_append_own _ rfl _ _ 23 rfl w2.heap.size 9 i1 (.string ⟨#[]⟩) 1 16 Tryz.underlying23 hj hy0 hy1 hy2 rfl (by decide) _ _ _ rfl (HON.alloc _) ⟨W5.heap.size, 0, none⟩ 1 1 [.string x.nm] rfl rfl (cell_one_sz _ _ (by simp) _ _) (by intro u hu; simp at hu; subst hu; rfl) (by unfold maxLen; omega) (by omega) (by simp; omega) ?_; intro v1 w1 hown1 hgrow1 hnil1))
                  go_roundw
                  case rel => exact ⟨k + 1, by omega, by go_num, by rw [HPv.out], by rw [HQ2.out, HQ3.out, HQ4.out]; exact hown1, Below.grown (HGN.alloc _) hgrow1 (by simp; omega) (fun j hj => (HON.lt j hj).1)⟩
                  case measure => simp [intOf]; omega
                · go_wp2_with fail
                  rw [HW4.out]
                  generalize wr.heap.size = B at *
                  have gd := (Gr.refl W4).drew
                  replace y0 := gd.cell y0
                  replace y1 := gd.cell y1
                  replace y2 := gd.cell y2
                  replace a0 := gd.cell a0
                  replace a1 := gd.cell a1
                  replace a2 := gd.cell a2
                  replace g := g.trans gd
                  clear gd
                  refine wp_region_held_drew (S := (fun w' => (w'.cell? ⟨G, j * 3, none⟩ = some (.string y.nm) ∧ w'.cell? ⟨G, j * 3 + 1, none⟩ = some (.string y.st) ∧ w'.cell? ⟨G, j * 3 + 2, none⟩ = some y.u) ∧ (w'.cell? ⟨B, 0, none⟩ = some (.string x.nm) ∧ w'.cell? ⟨B, 1, none⟩ = some (.string x.st) ∧ w'.cell? ⟨B, 2, none⟩ = some (.slice pu x.xs.length cu)))) (by kernel_rfl) ⟨⟨y0, y1, y2⟩, a0, a1, a2⟩ (fun hHeld => ?_)
                  generalize W4.drew = V5 at *
                  refine wpAnyH_take (i := 0) (v := (.int .i64 k)) (op_at rfl) (by kernel_rfl) (by kernel_rfl) (by kernel_rfl) (fun _ _ _ h => h) (Or.inl ⟨rfl, fun w hSw => ?_⟩) (by assumption) ?_
                  · (try dsimp only at hSw); go_simp; try with_reducible rfl
                  (try simp only [Act.put, List.setIfInBounds_toArray, List.set_cons_zero, List.set_cons_succ])
                  refine wpAnyH_take (i := 1) (v := (.bool true)) (op_at rfl) (by kernel_rfl) (by kernel_rfl) (by kernel_rfl) (fun _ _ _ h => h) (Or.inl ⟨rfl, fun w hSw => ?_⟩) (by assumption) ?_
                  · (try dsimp only at hSw); go_simp; try with_reducible rfl
                  (try simp only [Act.put, List.setIfInBounds_toArray, List.set_cons_zero, List.set_cons_succ])
                  refine wpAnyH_take (i := 2) (v := (.bool true)) (op_at rfl) (by kernel_rfl) (by kernel_rfl) (by kernel_rfl) (fun _ _ _ h => h) (Or.inl ⟨rfl, fun w hSw => ?_⟩) (by assumption) ?_
                  · (try dsimp only at hSw); go_simp; try with_reducible rfl
                  (try simp only [Act.put, List.setIfInBounds_toArray, List.set_cons_zero, List.set_cons_succ])
                  refine wpAnyH_take (i := 3) (v := (.slice (some ⟨G, 0, none⟩) nf cap1)) (op_at rfl) (by kernel_rfl) (by kernel_rfl) (by kernel_rfl) (fun _ _ _ h => h) (Or.inl ⟨rfl, fun w hSw => ?_⟩) (by assumption) ?_
                  · (try dsimp only at hSw); go_simp; try with_reducible rfl
                  (try simp only [Act.put, List.setIfInBounds_toArray, List.set_cons_zero, List.set_cons_succ])
                  refine wpAnyH_take (i := 4) (v := (.int .i64 k)) (op_at rfl) (by kernel_rfl) (by kernel_rfl) (by kernel_rfl) (fun _ _ _ h => h) (Or.inl ⟨rfl, fun w hSw => ?_⟩) (by assumption) ?_
                  · (try dsimp only at hSw); go_simp; try with_reducible rfl
                  (try simp only [Act.put, List.setIfInBounds_toArray, List.set_cons_zero, List.set_cons_succ])
                  refine wpAnyH_take (i := 5) (v := (.int .i64 j)) (op_at rfl) (by kernel_rfl) (by kernel_rfl) (by kernel_rfl) (fun _ _ _ h => h) (Or.inl ⟨rfl, fun w hSw => ?_⟩) (by assumption) ?_
                  · (try dsimp only at hSw); go_simp; try with_reducible rfl
                  (try simp only [Act.put, List.setIfInBounds_toArray, List.set_cons_zero, List.set_cons_succ])
                  refine wpAnyH_take (i := 6) (v := (.pointer (some ⟨G, j * 3, none⟩))) (op_at rfl) (by kernel_rfl) (by kernel_rfl) (by kernel_rfl) (fun _ _ _ h => h) (Or.inl ⟨rfl, fun w hSw => ?_⟩) (by assumption) ?_
                  · (try dsimp only at hSw); go_simp; try with_reducible rfl
                  (try simp only [Act.put, List.setIfInBounds_toArray, List.set_cons_zero, List.set_cons_succ])
                  refine wpAnyH_take (i := 7) (v := (.agg #[.string y.nm, .string y.st, y.u])) (op_at rfl) (by kernel_rfl) (by kernel_rfl) (by kernel_rfl) (fun _ _ _ h => h) (Or.inl ⟨rfl, fun w hSw => ?_⟩) (by assumption) ?_
                  · (try dsimp only at hSw); go_simp; try with_reducible rfl
                  (try simp only [Act.put, List.setIfInBounds_toArray, List.set_cons_zero, List.set_cons_succ])
                  refine wpAnyH_take (i := 8) (v := (.agg #[.string x.nm, .string x.st, .slice pu x.xs.length cu])) (op_at rfl) (by kernel_rfl) (by kernel_rfl) (by kernel_rfl) (fun _ _ _ h => h) (Or.inl ⟨rfl, fun w hSw => ?_⟩) (by assumption) ?_
                  · (try dsimp only at hSw); go_simp; try with_reducible rfl
                  (try simp only [Act.put, List.setIfInBounds_toArray, List.set_cons_zero, List.set_cons_succ])
                  refine wpAnyH_ready (rs := [9]) (by kernel_rfl) (by simp) (AllReadyH.cons (op_at rfl) (fun K hK => ?_) AllReadyH.nil)
                  go_simp
                  (refine (HCm.out _ g).mono ?_; rintro e W5 ⟨rfl, hg⟩; replace y0 := hg.cell y0; replace y1 := hg.cell y1; replace y2 := hg.cell y2; replace a0 := hg.cell a0; replace a1 := hg.cell a1; replace a2 := hg.cell a2; replace g := g.trans hg; clear hg)
                  go_wp2_with fail
                  refine hK.out _ _ ⟨⟨y0, y1, y2⟩, a0, a1, a2⟩ (fun hHeld => ?_)
                  clear hK K
                  (try simp only [Act.put, List.setIfInBounds_toArray, List.set_cons_zero, List.set_cons_succ])
                  refine wpAnyH_take (i := 10) (v := (.bool (z != 0))) (op_at rfl) (by kernel_rfl) (by kernel_rfl) (by kernel_rfl) (fun _ _ _ h => h) (Or.inl ⟨rfl, fun w hSw => ?_⟩) (by assumption) ?_
                  · (try dsimp only at hSw); go_simp; try with_reducible rfl
                  (try simp only [Act.put, List.setIfInBounds_toArray, List.set_cons_zero, List.set_cons_succ])
                  refine wpAnyH_take (i := 11) (v := (.bool (z != 0))) (op_at rfl) (by kernel_rfl) (by kernel_rfl) (by kernel_rfl) (fun _ _ _ h => h) (Or.inl ⟨rfl, fun w hSw => ?_⟩) (by assumption) ?_
                  · (try dsimp only at hSw); go_simp; try with_reducible rfl
                  (try simp only [Act.put, List.setIfInBounds_toArray, List.set_cons_zero, List.set_cons_succ])
                  refine wpAnyH_done (by kernel_rfl) ?_ _
                  have HON := HON0.out _ g
                  have HGN := hnx2.trans g
                  have hs5 := HGN.size
                  have HQ2 := Lib.hid (show nameL (fine xs) (ps.take (k + 1)) m = nameL (fine xs) (ps.take k) m from by rw [HNT.out, if_neg (by simp [hle])]; simp)
                  go_wp2_with fail
                  go_roundw
                  case rel => exact ⟨k + 1, by omega, by go_num, by rw [HPv.out], by rw [HQ2.out]; exact HON, HGN⟩
                  case measure => simp [intOf]; omega
              · have hzz : (z != 0) = true := bne_iff_ne.2 (by omega)
                by_cases hle : rk ≤ (m : Int)
                · go_wp2_with fail
                  rw [HW4.out]
                  generalize wr.heap.size = B at *
                  have gd := (Gr.refl W4).drew
                  replace y0 := gd.cell y0
                  replace y1 := gd.cell y1
                  replace y2 := gd.cell y2
                  replace a0 := gd.cell a0
                  replace a1 := gd.cell a1
                  replace a2 := gd.cell a2
                  replace g := g.trans gd
                  clear gd
                  refine wp_region_held_drew (S := (fun w' => (w'.cell? ⟨G, j * 3, none⟩ = some (.string y.nm) ∧ w'.cell? ⟨G, j * 3 + 1, none⟩ = some (.string y.st) ∧ w'.cell? ⟨G, j * 3 + 2, none⟩ = some y.u) ∧ (w'.cell? ⟨B, 0, none⟩ = some (.string x.nm) ∧ w'.cell? ⟨B, 1, none⟩ = some (.string x.st) ∧ w'.cell? ⟨B, 2, none⟩ = some (.slice pu x.xs.length cu)))) (by kernel_rfl) ⟨⟨y0, y1, y2⟩, a0, a1, a2⟩ (fun hHeld => ?_)
                  generalize W4.drew = V5 at *
                  refine wpAnyH_take (i := 0) (v := (.int .i64 k)) (op_at rfl) (by kernel_rfl) (by kernel_rfl) (by kernel_rfl) (fun _ _ _ h => h) (Or.inl ⟨rfl, fun w hSw => ?_⟩) (by assumption) ?_
                  · (try dsimp only at hSw); go_simp; try with_reducible rfl
                  (try simp only [Act.put, List.setIfInBounds_toArray, List.set_cons_zero, List.set_cons_succ])
                  refine wpAnyH_take (i := 1) (v := (.bool true)) (op_at rfl) (by kernel_rfl) (by kernel_rfl) (by kernel_rfl) (fun _ _ _ h => h) (Or.inl ⟨rfl, fun w hSw => ?_⟩) (by assumption) ?_
                  · (try dsimp only at hSw); go_simp; try with_reducible rfl
                  (try simp only [Act.put, List.setIfInBounds_toArray, List.set_cons_zero, List.set_cons_succ])
                  refine wpAnyH_take (i := 2) (v := (.bool true)) (op_at rfl) (by kernel_rfl) (by kernel_rfl) (by kernel_rfl) (fun _ _ _ h => h) (Or.inl ⟨rfl, fun w hSw => ?_⟩) (by assumption) ?_
                  · (try dsimp only at hSw); go_simp; try with_reducible rfl
                  (try simp only [Act.put, List.setIfInBounds_toArray, List.set_cons_zero, List.set_cons_succ])
                  refine wpAnyH_take (i := 3) (v := (.slice (some ⟨G, 0, none⟩) nf cap1)) (op_at rfl) (by kernel_rfl) (by kernel_rfl) (by kernel_rfl) (fun _ _ _ h => h) (Or.inl ⟨rfl, fun w hSw => ?_⟩) (by assumption) ?_
                  · (try dsimp only at hSw); go_simp; try with_reducible rfl
                  (try simp only [Act.put, List.setIfInBounds_toArray, List.set_cons_zero, List.set_cons_succ])
                  refine wpAnyH_take (i := 4) (v := (.int .i64 k)) (op_at rfl) (by kernel_rfl) (by kernel_rfl) (by kernel_rfl) (fun _ _ _ h => h) (Or.inl ⟨rfl, fun w hSw => ?_⟩) (by assumption) ?_
                  · (try dsimp only at hSw); go_simp; try with_reducible rfl
                  (try simp only [Act.put, List.setIfInBounds_toArray, List.set_cons_zero, List.set_cons_succ])
                  refine wpAnyH_take (i := 5) (v := (.int .i64 j)) (op_at rfl) (by kernel_rfl) (by kernel_rfl) (by kernel_rfl) (fun _ _ _ h => h) (Or.inl ⟨rfl, fun w hSw => ?_⟩) (by assumption) ?_
                  · (try dsimp only at hSw); go_simp; try with_reducible rfl
                  (try simp only [Act.put, List.setIfInBounds_toArray, List.set_cons_zero, List.set_cons_succ])
                  refine wpAnyH_take (i := 6) (v := (.pointer (some ⟨G, j * 3, none⟩))) (op_at rfl) (by kernel_rfl) (by kernel_rfl) (by kernel_rfl) (fun _ _ _ h => h) (Or.inl ⟨rfl, fun w hSw => ?_⟩) (by assumption) ?_
                  · (try dsimp only at hSw); go_simp; try with_reducible rfl
                  (try simp only [Act.put, List.setIfInBounds_toArray, List.set_cons_zero, List.set_cons_succ])
                  refine wpAnyH_take (i := 7) (v := (.agg #[.string y.nm, .string y.st, y.u])) (op_at rfl) (by kernel_rfl) (by kernel_rfl) (by kernel_rfl) (fun _ _ _ h => h) (Or.inl ⟨rfl, fun w hSw => ?_⟩) (by assumption) ?_
                  · (try dsimp only at hSw); go_simp; try with_reducible rfl
                  (try simp only [Act.put, List.setIfInBounds_toArray, List.set_cons_zero, List.set_cons_succ])
                  refine wpAnyH_take (i := 8) (v := (.agg #[.string x.nm, .string x.st, .slice pu x.xs.length cu])) (op_at rfl) (by kernel_rfl) (by kernel_rfl) (by kernel_rfl) (fun _ _ _ h => h) (Or.inl ⟨rfl, fun w hSw => ?_⟩) (by assumption) ?_
                  · (try dsimp only at hSw); go_simp; try with_reducible rfl
                  (try simp only [Act.put, List.setIfInBounds_toArray, List.set_cons_zero, List.set_cons_succ])
                  refine wpAnyH_ready (rs := [9]) (by kernel_rfl) (by simp) (AllReadyH.cons (op_at rfl) (fun K hK => ?_) AllReadyH.nil)
                  go_simp
                  (refine (HCm.out _ g).mono ?_; rintro e W5 ⟨rfl, hg⟩; replace y0 := hg.cell y0; replace y1 := hg.cell y1; replace y2 := hg.cell y2; replace a0 := hg.cell a0; replace a1 := hg.cell a1; replace a2 := hg.cell a2; replace g := g.trans hg; clear hg)
                  go_wp2_with fail
                  refine hK.out _ _ ⟨⟨y0, y1, y2⟩, a0, a1, a2⟩ (fun hHeld => ?_)
                  clear hK K
                  (try simp only [Act.put, List.setIfInBounds_toArray, List.set_cons_zero, List.set_cons_succ])
                  refine wpAnyH_take (i := 10) (v := (.bool (z != 0))) (op_at rfl) (by kernel_rfl) (by kernel_rfl) (by kernel_rfl) (fun _ _ _ h => h) (Or.inl ⟨rfl, fun w hSw => ?_⟩) (by assumption) ?_
                  · (try dsimp only at hSw); go_simp; try with_reducible rfl
                  (try simp only [Act.put, List.setIfInBounds_toArray, List.set_cons_zero, List.set_cons_succ])
                  refine wpAnyH_take (i := 11) (v := (.bool (z != 0))) (op_at rfl) (by kernel_rfl) (by kernel_rfl) (by kernel_rfl) (fun _ _ _ h => h) (Or.inl ⟨rfl, fun w hSw => ?_⟩) (by assumption) ?_
                  · (try dsimp only at hSw); go_simp; try with_reducible rfl
                  (try simp only [Act.put, List.setIfInBounds_toArray, List.set_cons_zero, List.set_cons_succ])
                  refine wpAnyH_done (by kernel_rfl) ?_ _
                  have HON := HON0.out _ g
                  have HGN := hnx2.trans g
                  have hs5 := HGN.size
                  have HQ2 := Lib.hid (show nameL (fine xs) (ps.take (k + 1)) m = nameL (fine xs) (ps.take k) m ++ [x.nm] from by rw [HNT.out, if_pos (by simp [hle])])
                  have HQ3 := Lib.hid (show strsV (nameL (fine xs) (ps.take k) m ++ [x.nm]) = strsV (nameL (fine xs) (ps.take k) m) ++ [.string x.nm] from by simp [strsV])
                  have HQ4 := Lib.hid (show (nameL (fine xs) (ps.take k) m ++ [x.nm]).length = (nameL (fine xs) (ps.take k) m).length + 1 from by simp)
                  generalize (nameL (fine xs) (ps.take k) m).length = z at *
                  go_wp2_with (first
                    | (at_builtin; refine wpList_append_own _ rfl _ _ 23 rfl w2.heap.size 9 i1 (.string ⟨#[]⟩) 1 16 Tryz.underlying23 hj hy0 hy1 hy2 rfl (by decide) _ _ _ rfl (HON.alloc _) ⟨W5.heap.size, 0, none⟩ 1 1 [.string x.nm] rfl rfl (cell_one_sz _ _ (by simp) _ _) (by intro u hu; simp at hu; subst hu; rfl) (by unfold maxLen; omega) (by omega) (by simp; omega) ?_; intro v1 w1 hown1 hgrow1 hnil1))
                  go_roundw
                  case rel => exact ⟨k + 1, by omega, by go_num, by rw [HPv.out, hrke]; congr 1; omega, by rw [HQ2.out, HQ3.out, HQ4.out]; exact hown1, Below.grown (HGN.alloc _) hgrow1 (by simp; omega) (fun j hj => (HON.lt j hj).1)⟩
                  case measure => simp [intOf]; omega
                · go_wp2_with fail
                  rw [HW4.out]
                  generalize wr.heap.size = B at *
                  have gd := (Gr.refl W4).drew
                  replace y0 := gd.cell y0
                  replace y1 := gd.cell y1
                  replace y2 := gd.cell y2
                  replace a0 := gd.cell a0
                  replace a1 := gd.cell a1
                  replace a2 := gd.cell a2
                  replace g := g.trans gd
                  clear gd
                  refine wp_region_held_drew (S := (fun w' => (w'.cell? ⟨G, j * 3, none⟩ = some (.string y.nm) ∧ w'.cell? ⟨G, j * 3 + 1, none⟩ = some (.string y.st) ∧ w'.cell? ⟨G, j * 3 + 2, none⟩ = some y.u) ∧ (w'.cell? ⟨B, 0, none⟩ = some (.string x.nm) ∧ w'.cell? ⟨B, 1, none⟩ = some (.string x.st) ∧ w'.cell? ⟨B, 2, none⟩ = some (.slice pu x.xs.length cu)))) (by kernel_rfl) ⟨⟨y0, y1, y2⟩, a0, a1, a2⟩ (fun hHeld => ?_)
                  generalize W4.drew = V5 at *
                  refine wpAnyH_take (i := 0) (v := (.int .i64 k)) (op_at rfl) (by kernel_rfl) (by kernel_rfl) (by kernel_rfl) (fun _ _ _ h => h) (Or.inl ⟨rfl, fun w hSw => ?_⟩) (by assumption) ?_
                  · (try dsimp only at hSw); go_simp; try with_reducible rfl
                  (try simp only [Act.put, List.setIfInBounds_toArray, List.set_cons_zero, List.set_cons_succ])
                  refine wpAnyH_take (i := 1) (v := (.bool true)) (op_at rfl) (by kernel_rfl) (by kernel_rfl) (by kernel_rfl) (fun _ _ _ h => h) (Or.inl ⟨rfl, fun w hSw => ?_⟩) (by assumption) ?_
                  · (try dsimp only at hSw); go_simp; try with_reducible rfl
                  (try simp only [Act.put, List.setIfInBounds_toArray, List.set_cons_zero, List.set_cons_succ])
                  refine wpAnyH_take (i := 2) (v := (.bool true)) (op_at rfl) (by kernel_rfl) (by kernel_rfl) (by kernel_rfl) (fun _ _ _ h => h) (Or.inl ⟨rfl, fun w hSw => ?_⟩) (by assumption) ?_
                  · (try dsimp only at hSw); go_simp; try with_reducible rfl
                  (try simp only [Act.put, List.setIfInBounds_toArray, List.set_cons_zero, List.set_cons_succ])
                  refine wpAnyH_take (i := 3) (v := (.slice (some ⟨G, 0, none⟩) nf cap1)) (op_at rfl) (by kernel_rfl) (by kernel_rfl) (by kernel_rfl) (fun _ _ _ h => h) (Or.inl ⟨rfl, fun w hSw => ?_⟩) (by assumption) ?_
                  · (try dsimp only at hSw); go_simp; try with_reducible rfl
                  (try simp only [Act.put, List.setIfInBounds_toArray, List.set_cons_zero, List.set_cons_succ])
                  refine wpAnyH_take (i := 4) (v := (.int .i64 k)) (op_at rfl) (by kernel_rfl) (by kernel_rfl) (by kernel_rfl) (fun _ _ _ h => h) (Or.inl ⟨rfl, fun w hSw => ?_⟩) (by assumption) ?_
                  · (try dsimp only at hSw); go_simp; try with_reducible rfl
                  (try simp only [Act.put, List.setIfInBounds_toArray, List.set_cons_zero, List.set_cons_succ])
                  refine wpAnyH_take (i := 5) (v := (.int .i64 j)) (op_at rfl) (by kernel_rfl) (by kernel_rfl) (by kernel_rfl) (fun _ _ _ h => h) (Or.inl ⟨rfl, fun w hSw => ?_⟩) (by assumption) ?_
                  · (try dsimp only at hSw); go_simp; try with_reducible rfl
                  (try simp only [Act.put, List.setIfInBounds_toArray, List.set_cons_zero, List.set_cons_succ])
                  refine wpAnyH_take (i := 6) (v := (.pointer (some ⟨G, j * 3, none⟩))) (op_at rfl) (by kernel_rfl) (by kernel_rfl) (by kernel_rfl) (fun _ _ _ h => h) (Or.inl ⟨rfl, fun w hSw => ?_⟩) (by assumption) ?_
                  · (try dsimp only at hSw); go_simp; try with_reducible rfl
                  (try simp only [Act.put, List.setIfInBounds_toArray, List.set_cons_zero, List.set_cons_succ])
                  refine wpAnyH_take (i := 7) (v := (.agg #[.string y.nm, .string y.st, y.u])) (op_at rfl) (by kernel_rfl) (by kernel_rfl) (by kernel_rfl) (fun _ _ _ h => h) (Or.inl ⟨rfl, fun w hSw => ?_⟩) (by assumption) ?_
                  · (try dsimp only at hSw); go_simp; try with_reducible rfl
                  (try simp only [Act.put, List.setIfInBounds_toArray, List.set_cons_zero, List.set_cons_succ])
                  refine wpAnyH_take (i := 8) (v := (.agg #[.string x.nm, .string x.st, .slice pu x.xs.length cu])) (op_at rfl) (by kernel_rfl) (by kernel_rfl) (by kernel_rfl) (fun _ _ _ h => h) (Or.inl ⟨rfl, fun w hSw => ?_⟩) (by assumption) ?_
                  · (try dsimp only at hSw); go_simp; try with_reducible rfl
                  (try simp only [Act.put, List.setIfInBounds_toArray, List.set_cons_zero, List.set_cons_succ])
                  refine wpAnyH_ready (rs := [9]) (by kernel_rfl) (by simp) (AllReadyH.cons (op_at rfl) (fun K hK => ?_) AllReadyH.nil)
                  go_simp
                  (refine (HCm.out _ g).mono ?_; rintro e W5 ⟨rfl, hg⟩; replace y0 := hg.cell y0; replace y1 := hg.cell y1; replace y2 := hg.cell y2; replace a0 := hg.cell a0; replace a1 := hg.cell a1; replace a2 := hg.cell a2; replace g := g.trans hg; clear hg)
                  go_wp2_with fail
                  refine hK.out _ _ ⟨⟨y0, y1, y2⟩, a0, a1, a2⟩ (fun hHeld => ?_)
                  clear hK K
                  (try simp only [Act.put, List.setIfInBounds_toArray, List.set_cons_zero, List.set_cons_succ])
                  refine wpAnyH_take (i := 10) (v := (.bool (z != 0))) (op_at rfl) (by kernel_rfl) (by kernel_rfl) (by kernel_rfl) (fun _ _ _ h => h) (Or.inl ⟨rfl, fun w hSw => ?_⟩) (by assumption) ?_
                  · (try dsimp only at hSw); go_simp; try with_reducible rfl
                  (try simp only [Act.put, List.setIfInBounds_toArray, List.set_cons_zero, List.set_cons_succ])
                  refine wpAnyH_take (i := 11) (v := (.bool (z != 0))) (op_at rfl) (by kernel_rfl) (by kernel_rfl) (by kernel_rfl) (fun _ _ _ h => h) (Or.inl ⟨rfl, fun w hSw => ?_⟩) (by assumption) ?_
                  · (try dsimp only at hSw); go_simp; try with_reducible rfl
                  (try simp only [Act.put, List.setIfInBounds_toArray, List.set_cons_zero, List.set_cons_succ])
                  refine wpAnyH_done (by kernel_rfl) ?_ _
                  have HON := HON0.out _ g
                  have HGN := hnx2.trans g
                  have hs5 := HGN.size
                  have HQ2 := Lib.hid (show nameL (fine xs) (ps.take (k + 1)) m = nameL (fine xs) (ps.take k) m from by rw [HNT.out, if_neg (by simp [hle])]; simp)
                  go_wp2_with fail
                  go_roundw
                  case rel => exact ⟨k + 1, by omega, by go_num, by rw [HPv.out, hrke]; congr 1; omega, by rw [HQ2.out]; exact HON, HGN⟩
                  case measure => simp [intOf]; omega
          · obtain rfl : k = nf := by omega
            rw [List.take_of_length_le (by omega), hTh] at hown
            go_wp2_with fail
            go_ret
            exact ⟨_, rfl, strs_of_owns hown rfl, g2.trans hnx2⟩
      · have hfe : fine xs = [] := by
          rcases hq : fine xs with _ | ⟨q, qs⟩
          · rfl
          · rw [hq] at hf0; simp at hf0
        have hth := thruB_none hfe m
        have hu5 : ∃ p c, u5 = .slice p 0 c := by
          rcases hown.2 with ⟨q, _⟩ | ⟨G, c, _, q, _⟩
          · exact ⟨_, _, q⟩
          · exact ⟨_, c, by rw [q, hfe]; rfl⟩
        obtain ⟨p, c, rfl⟩ := hu5
        have HS := Lib.hid (sortT_0 p c)
        clear hown hvals
        go_wp2_with fail
        refine (HS.out _ _).mono ?_
        rintro e w2 ⟨rfl, rfl⟩
        go_wp2_with fail
        refine wp_loop_rounds 2 ?_
        rw [rounds_succ]
        go_wp2_with fail
        go_ret
        exact ⟨_, rfl, by rw [hth]; exact ⟨none, 0, rfl, ⟨by simp, by unfold maxLen; omega⟩, .inl ⟨rfl, rfl, rfl⟩⟩, hnx⟩
theorem forward_0 (p : Option Addr) (cap m : Nat) (w : World) :
    Calls Tryz.prog 32 #[.slice p 0 cap, .int .i64 (m : Int)] w fun e w' => ∃ v, e = .returned v ∧ StrsV w' v [] ∧ Gr w w' := by
  have HS := Lib.hid (sortT_0 none 0)
  go_enter Tryz.func32, Tryz.ntmps32
  go_wp2_with fail
  refine wp_loop_rounds 2 ?_
  rw [rounds_succ]
  go_wp2_with fail
  refine (HS.out _ _).mono ?_
  rintro e w2 ⟨rfl, rfl⟩
  go_wp2_with fail
  refine wp_loop_rounds 2 ?_
  rw [rounds_succ]
  go_wp2_with fail
  go_ret
  exact ⟨_, rfl, ⟨none, 0, rfl, ⟨by simp, by unfold maxLen; omega⟩, .inl ⟨rfl, rfl, rfl⟩⟩, Gr.refl _⟩
end Go.Proofs.YtebnbjaaogfikaaGreatDoor
