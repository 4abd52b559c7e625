/- ResultRounds: the reference's Rank. -/
import Derived.Test.YtnbboheaheicnaaGreatDoorRoMS
import Derived.Test.YtnbboheaheicnaaGreatDoorThNG
namespace Go.Proofs.YtnbboheaheicnaaGreatDoor
open Go.RowKit Go.Lib
set_option linter.unusedSimpArgs false
set_option linter.unusedVariables false
theorem refCmp_ok {bs : List Bare} (hV : ValidB bs) {x y : RowR} (hx : bare x ∈ bs) (hy : bare y ∈ bs) {W : World} (h : IntsV W x.u x.xs) (h2 : IntsV W y.u y.xs) (l1 : x.xs.length ≤ 1000) :
    Calls Tryz.prog 46 #[.agg #[.string x.nm, .string x.st, x.u], .agg #[.string y.nm, .string y.st, y.u]] W fun e w' => e = .returned (.int .i64 (cmpB (bare x) (bare y))) ∧ Gr W w' := by
  have hf : fitB x.st y.st x.xs y.xs = true := by
    unfold fitB
    cases h1 : x.st.toList.isEmpty
    · simp
    · cases h2 : y.st.toList.isEmpty
      · simp
      · have e : x.xs.length = y.xs.length := hV.even _ hx _ hy h1 h2
        rw [e]; simp
  have := refCompare_c x.nm x.st y.nm y.st x.u y.u x.xs y.xs W h h2 l1 (hV.each _ hx) (hV.each _ hy) hf
  unfold resV at this
  exact this
theorem ints_take {l : List Int} {k : Nat} {x : Int} (h : l[k]? = some x) : ints (l.take (k + 1)) = ints (l.take k) ++ [.int .i64 x] := by
  rw [List.take_add_one, h]; simp [ints]
set_option maxHeartbeats 2000000 in
set_option maxRecDepth 100000 in
theorem refRank_pos (xs : List RowR) (n b off cap : Nat) (w : World) (hn : xs.length = n) (h1 : n ≤ 160) (hV : ValidB (xs.map bare)) (hc : ∀ i x, xs[i]? = some x → RowAt w b (off + i * 3) x) :
    Calls Tryz.prog 13 #[.slice (some ⟨b, off, none⟩) n cap] w fun e w' => ∃ v, e = .returned v ∧ w'.ownsRow w.heap.size 3 1 v n (ints (ranksB (xs.map bare))) ∧ Gr w w' := by
  obtain ⟨i1, hj, hy0, hy1, hy2⟩ := info_parts info3
  have HCC := Lib.hid hc
  have HVV := Lib.hid hV
  have hbl : (xs.map bare).length = n := by simp [hn]
  have hrl : (ranksB (xs.map bare)).length = n := by rw [ranksB_len, hbl]
  have HRow := Lib.hid (fun k (h : k < n) => (show ∃ x, xs[k]? = some x ∧ (ranksB (xs.map bare))[k]? = some (rankB (xs.map bare) (bare x)) ∧ bare x ∈ xs.map bare from by
    obtain ⟨x, hx⟩ : ∃ x, xs[k]? = some x := ⟨xs[k]'(by omega), List.getElem?_eq_getElem _⟩
    exact ⟨x, hx, ranksB_at (by rw [List.getElem?_map, hx]; rfl), List.mem_map.2 ⟨x, List.mem_of_getElem? hx, rfl⟩⟩))
  clear hc hV
  go_enter Tryz.func13, Tryz.ntmps13
  go_wp2_with fail
  go_loopw [3, 4] (fun v i wr => ∃ k : Nat, k ≤ n ∧ i = .int .i64 k ∧ wr.ownsRow w.heap.size 3 1 v k (ints ((ranksB (xs.map bare)).take k)) ∧ Gr w wr) (fun _ i _ => n - (intOf i).toNat)
  case atStart => exact ⟨0, Nat.zero_le _, rfl, World.ownsRow_nil _ _ _ _, Gr.refl _⟩
  case round =>
    obtain ⟨k, hk, rfl, hown, hnx⟩ := hrel
    have hsize := hnx.size
    by_cases hkN : k < n
    · obtain ⟨x, hx, hr1, hxm⟩ := HRow.out k hkN
      have hk2 : (k : Int) < n := by omega
      have HOW := Lib.hid (fun W (g : Gr wr W) => own_gr hown g)
      have HIT := Lib.hid (ints_take hr1)
      have HLk := Lib.hid (show (ints ((ranksB (xs.map bare)).take k)).length = k from by simp [ints, hrl]; omega)
      clear hown
      go_wp2_with fail
      go_loopw [5, 6] (fun c iq wi => ∃ q : Nat, q ≤ n ∧ iq = .int .i64 q ∧ c = .int .i64 (1 + cntB (xs.map bare) (bare x) q) ∧ Gr wr wi) (fun _ iq _ => n - (intOf iq).toNat)
      case atStart => exact ⟨0, Nat.zero_le _, rfl, rfl, Gr.refl _⟩
      case round =>
        obtain ⟨q, hq, rfl, rfl, hnq⟩ := hrel
        by_cases hqN : q < n
        · obtain ⟨y, hy, _, hym⟩ := HRow.out q hqN
          obtain ⟨x0, x1, x2, hxv, hxl⟩ := (HCC.out k x hx).gr (hnx.trans hnq)
          obtain ⟨y0, y1, y2, hyv, hyl⟩ := (HCC.out q y hy).gr (hnx.trans hnq)
          have HC1 := Lib.hid (fun W (g : Gr wr W) => refCmp_ok HVV.out hym hxm (hyv.gr g) (hxv.gr g) hyl)
          have hcn := cntB_step (bs := xs.map bare) (k := q) (b := bare x) (by rw [List.getElem?_map, hy]; rfl)
          have hcb := cntB_le (xs.map bare) (bare x) q
          have hq2 : (q : Int) < n := by omega
          have hq1 : (q : Int) ≤ 160 := by omega
          have g := Gr.refl wr
          generalize hz : cmpB (bare y) (bare x) = z at *
          have HCN := Lib.hid hcn
          have HNQ := Lib.hid hnq
          have hk2 : (k : Int) < n := by omega
          clear hcn hz hxv hyv hxl hyl hy hnq HRow HVV HCC HOW HIT HLk hr1 hxm hym
          generalize cntB (xs.map bare) (bare x) q = cq at *
          by_cases hzz : z < 0
          · have hd : decide (z < 0) = true := decide_eq_true hzz
            go_wp2_with fail
            have gd := (Gr.refl wr).drew
            replace y0 := gd.cell y0
            replace y1 := gd.cell y1
            replace y2 := gd.cell y2
            replace x0 := gd.cell x0
            replace x1 := gd.cell x1
            replace x2 := gd.cell x2
            replace g := g.trans gd
            clear gd
            refine wp_region_held_drew (S := (fun w' => (w'.cell? ⟨b, off + q * 3, none⟩ = some (.string y.nm) ∧ w'.cell? ⟨b, off + q * 3 + 1, none⟩ = some (.string y.st) ∧ w'.cell? ⟨b, off + q * 3 + 2, none⟩ = some y.u) ∧ (w'.cell? ⟨b, off + k * 3, none⟩ = some (.string x.nm) ∧ w'.cell? ⟨b, off + k * 3 + 1, none⟩ = some (.string x.st) ∧ w'.cell? ⟨b, off + k * 3 + 2, none⟩ = some x.u))) (by kernel_rfl) ⟨⟨y0, y1, y2⟩, ⟨x0, x1, x2⟩⟩ (fun hHeld => ?_)
            generalize wr.drew = Vz at *
            refine wpAnyH_take (i := 0) (v := (.slice (some ⟨b, off, none⟩) n cap)) (op_at rfl) (by kernel_rfl) (by kernel_rfl) (by kernel_rfl) (fun _ _ _ h => h) (Or.inl ⟨rfl, fun w hSw => ?_⟩) (by assumption) ?_
            · (try dsimp only at hSw); go_simp; try with_reducible rfl
            (try simp only [Act.put, List.setIfInBounds_toArray, List.set_cons_zero, List.set_cons_succ])
            refine wpAnyH_take (i := 1) (v := (.int .i64 q)) (op_at rfl) (by kernel_rfl) (by kernel_rfl) (by kernel_rfl) (fun _ _ _ h => h) (Or.inl ⟨rfl, fun w hSw => ?_⟩) (by assumption) ?_
            · (try dsimp only at hSw); go_simp; try with_reducible rfl
            (try simp only [Act.put, List.setIfInBounds_toArray, List.set_cons_zero, List.set_cons_succ])
            refine wpAnyH_take (i := 2) (v := (.pointer (some ⟨b, off + q * 3, none⟩))) (op_at rfl) (by kernel_rfl) (by kernel_rfl) (by kernel_rfl) (fun _ _ _ h => h) (Or.inl ⟨rfl, fun w hSw => ?_⟩) (by assumption) ?_
            · (try dsimp only at hSw); go_simp; try with_reducible rfl
            (try simp only [Act.put, List.setIfInBounds_toArray, List.set_cons_zero, List.set_cons_succ])
            refine wpAnyH_take (i := 3) (v := (.agg #[.string y.nm, .string y.st, y.u])) (op_at rfl) (by kernel_rfl) (by kernel_rfl) (by kernel_rfl) (fun _ _ _ h => h) (Or.inl ⟨rfl, fun w hSw => ?_⟩) (by assumption) ?_
            · (try dsimp only at hSw); go_simp; try with_reducible rfl
            (try simp only [Act.put, List.setIfInBounds_toArray, List.set_cons_zero, List.set_cons_succ])
            refine wpAnyH_take (i := 4) (v := (.slice (some ⟨b, off, none⟩) n cap)) (op_at rfl) (by kernel_rfl) (by kernel_rfl) (by kernel_rfl) (fun _ _ _ h => h) (Or.inl ⟨rfl, fun w hSw => ?_⟩) (by assumption) ?_
            · (try dsimp only at hSw); go_simp; try with_reducible rfl
            (try simp only [Act.put, List.setIfInBounds_toArray, List.set_cons_zero, List.set_cons_succ])
            refine wpAnyH_take (i := 5) (v := (.int .i64 k)) (op_at rfl) (by kernel_rfl) (by kernel_rfl) (by kernel_rfl) (fun _ _ _ h => h) (Or.inl ⟨rfl, fun w hSw => ?_⟩) (by assumption) ?_
            · (try dsimp only at hSw); go_simp; try with_reducible rfl
            (try simp only [Act.put, List.setIfInBounds_toArray, List.set_cons_zero, List.set_cons_succ])
            refine wpAnyH_take (i := 6) (v := (.pointer (some ⟨b, off + k * 3, none⟩))) (op_at rfl) (by kernel_rfl) (by kernel_rfl) (by kernel_rfl) (fun _ _ _ h => h) (Or.inl ⟨rfl, fun w hSw => ?_⟩) (by assumption) ?_
            · (try dsimp only at hSw); go_simp; try with_reducible rfl
            (try simp only [Act.put, List.setIfInBounds_toArray, List.set_cons_zero, List.set_cons_succ])
            refine wpAnyH_take (i := 7) (v := (.agg #[.string x.nm, .string x.st, x.u])) (op_at rfl) (by kernel_rfl) (by kernel_rfl) (by kernel_rfl) (fun _ _ _ h => h) (Or.inl ⟨rfl, fun w hSw => ?_⟩) (by assumption) ?_
            · (try dsimp only at hSw); go_simp; try with_reducible rfl
            (try simp only [Act.put, List.setIfInBounds_toArray, List.set_cons_zero, List.set_cons_succ])
            refine wpAnyH_ready (rs := [8]) (by kernel_rfl) (by simp) (AllReadyH.cons (op_at rfl) (fun K hK => ?_) AllReadyH.nil)
            go_simp
            (refine (HC1.out _ g).mono ?_; rintro e W2 ⟨rfl, hg⟩; replace y0 := hg.cell y0; replace y1 := hg.cell y1; replace y2 := hg.cell y2; replace x0 := hg.cell x0; replace x1 := hg.cell x1; replace x2 := hg.cell x2; replace g := g.trans hg; clear hg)
            go_wp2_with fail
            refine hK.out _ _ ⟨⟨y0, y1, y2⟩, ⟨x0, x1, x2⟩⟩ (fun hHeld => ?_)
            clear hK K
            (try simp only [Act.put, List.setIfInBounds_toArray, List.set_cons_zero, List.set_cons_succ])
            refine wpAnyH_take (i := 9) (v := (.bool (decide (z < 0)))) (op_at rfl) (by kernel_rfl) (by kernel_rfl) (by kernel_rfl) (fun _ _ _ h => h) (Or.inl ⟨rfl, fun w hSw => ?_⟩) (by assumption) ?_
            · (try dsimp only at hSw); go_simp; try with_reducible rfl
            (try simp only [Act.put, List.setIfInBounds_toArray, List.set_cons_zero, List.set_cons_succ])
            refine wpAnyH_done (by kernel_rfl) ?_ _
            go_wp2_with fail
            go_roundw
            case rel => exact ⟨q + 1, by omega, by go_num, by rw [HCN.out, if_pos (by omega)]; congr 1; omega, HNQ.out.trans g⟩
            case measure => simp [intOf]; omega
          · have hd : decide (z < 0) = false := decide_eq_false hzz
            go_wp2_with fail
            have gd := (Gr.refl wr).drew
            replace y0 := gd.cell y0
            replace y1 := gd.cell y1
            replace y2 := gd.cell y2
            replace x0 := gd.cell x0
            replace x1 := gd.cell x1
            replace x2 := gd.cell x2
            replace g := g.trans gd
            clear gd
            refine wp_region_held_drew (S := (fun w' => (w'.cell? ⟨b, off + q * 3, none⟩ = some (.string y.nm) ∧ w'.cell? ⟨b, off + q * 3 + 1, none⟩ = some (.string y.st) ∧ w'.cell? ⟨b, off + q * 3 + 2, none⟩ = some y.u) ∧ (w'.cell? ⟨b, off + k * 3, none⟩ = some (.string x.nm) ∧ w'.cell? ⟨b, off + k * 3 + 1, none⟩ = some (.string x.st) ∧ w'.cell? ⟨b, off + k * 3 + 2, none⟩ = some x.u))) (by kernel_rfl) ⟨⟨y0, y1, y2⟩, ⟨x0, x1, x2⟩⟩ (fun hHeld => ?_)
            generalize wr.drew = Vz at *
            refine wpAnyH_take (i := 0) (v := (.slice (some ⟨b, off, none⟩) n cap)) (op_at rfl) (by kernel_rfl) (by kernel_rfl) (by kernel_rfl) (fun _ _ _ h => h) (Or.inl ⟨rfl, fun w hSw => ?_⟩) (by assumption) ?_
            · (try dsimp only at hSw); go_simp; try with_reducible rfl
            (try simp only [Act.put, List.setIfInBounds_toArray, List.set_cons_zero, List.set_cons_succ])
            refine wpAnyH_take (i := 1) (v := (.int .i64 q)) (op_at rfl) (by kernel_rfl) (by kernel_rfl) (by kernel_rfl) (fun _ _ _ h => h) (Or.inl ⟨rfl, fun w hSw => ?_⟩) (by assumption) ?_
            · (try dsimp only at hSw); go_simp; try with_reducible rfl
            (try simp only [Act.put, List.setIfInBounds_toArray, List.set_cons_zero, List.set_cons_succ])
            refine wpAnyH_take (i := 2) (v := (.pointer (some ⟨b, off + q * 3, none⟩))) (op_at rfl) (by kernel_rfl) (by kernel_rfl) (by kernel_rfl) (fun _ _ _ h => h) (Or.inl ⟨rfl, fun w hSw => ?_⟩) (by assumption) ?_
            · (try dsimp only at hSw); go_simp; try with_reducible rfl
            (try simp only [Act.put, List.setIfInBounds_toArray, List.set_cons_zero, List.set_cons_succ])
            refine wpAnyH_take (i := 3) (v := (.agg #[.string y.nm, .string y.st, y.u])) (op_at rfl) (by kernel_rfl) (by kernel_rfl) (by kernel_rfl) (fun _ _ _ h => h) (Or.inl ⟨rfl, fun w hSw => ?_⟩) (by assumption) ?_
            · (try dsimp only at hSw); go_simp; try with_reducible rfl
            (try simp only [Act.put, List.setIfInBounds_toArray, List.set_cons_zero, List.set_cons_succ])
            refine wpAnyH_take (i := 4) (v := (.slice (some ⟨b, off, none⟩) n cap)) (op_at rfl) (by kernel_rfl) (by kernel_rfl) (by kernel_rfl) (fun _ _ _ h => h) (Or.inl ⟨rfl, fun w hSw => ?_⟩) (by assumption) ?_
            · (try dsimp only at hSw); go_simp; try with_reducible rfl
            (try simp only [Act.put, List.setIfInBounds_toArray, List.set_cons_zero, List.set_cons_succ])
            refine wpAnyH_take (i := 5) (v := (.int .i64 k)) (op_at rfl) (by kernel_rfl) (by kernel_rfl) (by kernel_rfl) (fun _ _ _ h => h) (Or.inl ⟨rfl, fun w hSw => ?_⟩) (by assumption) ?_
            · (try dsimp only at hSw); go_simp; try with_reducible rfl
            (try simp only [Act.put, List.setIfInBounds_toArray, List.set_cons_zero, List.set_cons_succ])
            refine wpAnyH_take (i := 6) (v := (.pointer (some ⟨b, off + k * 3, none⟩))) (op_at rfl) (by kernel_rfl) (by kernel_rfl) (by kernel_rfl) (fun _ _ _ h => h) (Or.inl ⟨rfl, fun w hSw => ?_⟩) (by assumption) ?_
            · (try dsimp only at hSw); go_simp; try with_reducible rfl
            (try simp only [Act.put, List.setIfInBounds_toArray, List.set_cons_zero, List.set_cons_succ])
            refine wpAnyH_take (i := 7) (v := (.agg #[.string x.nm, .string x.st, x.u])) (op_at rfl) (by kernel_rfl) (by kernel_rfl) (by kernel_rfl) (fun _ _ _ h => h) (Or.inl ⟨rfl, fun w hSw => ?_⟩) (by assumption) ?_
            · (try dsimp only at hSw); go_simp; try with_reducible rfl
            (try simp only [Act.put, List.setIfInBounds_toArray, List.set_cons_zero, List.set_cons_succ])
            refine wpAnyH_ready (rs := [8]) (by kernel_rfl) (by simp) (AllReadyH.cons (op_at rfl) (fun K hK => ?_) AllReadyH.nil)
            go_simp
            (refine (HC1.out _ g).mono ?_; rintro e W2 ⟨rfl, hg⟩; replace y0 := hg.cell y0; replace y1 := hg.cell y1; replace y2 := hg.cell y2; replace x0 := hg.cell x0; replace x1 := hg.cell x1; replace x2 := hg.cell x2; replace g := g.trans hg; clear hg)
            go_wp2_with fail
            refine hK.out _ _ ⟨⟨y0, y1, y2⟩, ⟨x0, x1, x2⟩⟩ (fun hHeld => ?_)
            clear hK K
            (try simp only [Act.put, List.setIfInBounds_toArray, List.set_cons_zero, List.set_cons_succ])
            refine wpAnyH_take (i := 9) (v := (.bool (decide (z < 0)))) (op_at rfl) (by kernel_rfl) (by kernel_rfl) (by kernel_rfl) (fun _ _ _ h => h) (Or.inl ⟨rfl, fun w hSw => ?_⟩) (by assumption) ?_
            · (try dsimp only at hSw); go_simp; try with_reducible rfl
            (try simp only [Act.put, List.setIfInBounds_toArray, List.set_cons_zero, List.set_cons_succ])
            refine wpAnyH_done (by kernel_rfl) ?_ _
            go_wp2_with fail
            go_roundw
            case rel => exact ⟨q + 1, by omega, by go_num, by rw [HCN.out, if_neg (by omega)]; congr 1; omega, HNQ.out.trans g⟩
            case measure => simp [intOf]; omega
        · obtain rfl : q = n := by omega
          have hfin := cntB_all (b := bare x) hbl
          have hown := HOW.out _ hnq
          rw [show 1 + cntB (xs.map bare) (bare x) q = rankB (xs.map bare) (bare x) by omega]
          have hsz := hnq.size
          have hlk := HLk.out
          generalize rankB (xs.map bare) (bare x) = rk at *
          go_wp2_with (first
            | (at_builtin; refine wpList_append_own _ rfl _ _ 25 rfl w.heap.size 3 i1 (.int .i64 0) 1 8 Tryz.underlying25 hj hy0 hy1 hy2 rfl (by decide) _ _ _ rfl (hown.alloc _) ⟨wr.heap.size, 0, none⟩ 1 1 [.int .i64 rk] rfl rfl (cell_one_new _ _ _) (by intro u hu; simp at hu; subst hu; rfl) (by unfold maxLen; omega) (by omega) (by simp; omega) ?_; intro v1 w1 hown1 hgrow1 hnil1))
          go_roundw
          case rel => exact ⟨k + 1, by omega, by go_num, by rw [HIT.out]; exact hown1, Below.grown ((hnx.trans hnq).alloc _) hgrow1 (by simp; omega) (fun j hj => (hown.lt j hj).1)⟩
          case measure => simp [intOf]; omega
    · obtain rfl : k = n := by omega
      rw [List.take_of_length_le (by omega)] at hown
      go_wp2_with fail
      go_ret
      exact ⟨_, rfl, hown, hnx⟩
theorem refRank_nil (p : Option Addr) (cap : Nat) (w : World) :
    Calls Tryz.prog 13 #[.slice p 0 cap] w fun e w' => e = .returned (.slice none 0 0) ∧ w = w' := by
  go_enter Tryz.func13, Tryz.ntmps13
  go_wp2_with fail
  refine wp_loop_rounds 2 ?_
  rw [rounds_succ]
  go_wp2_with fail
  go_ret
  exact ⟨rfl, rfl⟩
end Go.Proofs.YtnbboheaheicnaaGreatDoor
namespace Go.Proofs.YtnbboheaheicnaaGreatDoor
open Go.RowKit Go.Lib
set_option linter.unusedSimpArgs false
set_option linter.unusedVariables false
/-- the names at a rank among the first results -/
def atTake (bs : List Bare) (r : Int) (i : Nat) : List ByteArray := ((bs.take i).filter fun b => (rankB bs b == r) && b.st.toList.isEmpty).map fun b => b.nm
theorem atTake_step {bs : List Bare} {r : Int} {i : Nat} {b : Bare} (h : bs[i]? = some b) : atTake bs r (i + 1) = atTake bs r i ++ (if (rankB bs b == r) && b.st.toList.isEmpty then [b.nm] else []) := by
  unfold atTake
  rw [List.take_add_one, h, List.filter_append, List.map_append]
  cases hh : ((rankB bs b == r) && b.st.toList.isEmpty) <;> simp [hh]
theorem atTake_all {bs : List Bare} {r : Int} {n : Nat} (h : bs.length = n) : atTake bs r n = atB bs r := by
  unfold atTake atB
  rw [List.take_of_length_le (by omega)]
theorem atTake_len (bs : List Bare) (r : Int) (i : Nat) : (atTake bs r i).length ≤ i := by
  unfold atTake
  rw [List.length_map]
  have := List.length_filter_le (fun b => (rankB bs b == r) && b.st.toList.isEmpty) (bs.take i)
  rw [List.length_take] at this
  omega
set_option maxHeartbeats 2000000 in
set_option maxRecDepth 100000 in
theorem refThrough_pos (xs : List RowR) (n b off cap : Nat) (m : Nat) (w : World) (hn : xs.length = n) (h0 : 0 < n) (h1 : n ≤ 160) (hm : m ≤ 160) (hV : ValidB (xs.map bare)) (hc : ∀ i x, xs[i]? = some x → RowAt w b (off + i * 3) x) :
    Calls Tryz.prog 15 #[.slice (some ⟨b, off, none⟩) n cap, .int .i64 (m : Int)] w fun e w' => ∃ v, e = .returned v ∧ StrsV w' v (thruB (xs.map bare) m) ∧ Gr w w' := by
  obtain ⟨i1, hj, hy0, hy1, hy2⟩ := info_parts infoTh
  have HR := Lib.hid (refRank_pos xs n b off cap w hn h1 hV hc)
  have HCC := Lib.hid hc
  have hbl : (xs.map bare).length = n := by simp [hn]
  have HRow := Lib.hid (fun k (h : k < n) => (show ∃ x, xs[k]? = some x ∧ (ranksB (xs.map bare))[k]? = some (rankB (xs.map bare) (bare x)) ∧ (xs.map bare)[k]? = some (bare x) from by
    obtain ⟨x, hx⟩ : ∃ x, xs[k]? = some x := ⟨xs[k]'(by omega), List.getElem?_eq_getElem _⟩
    have hb : (xs.map bare)[k]? = some (bare x) := by rw [List.getElem?_map, hx]; rfl
    exact ⟨x, hx, ranksB_at hb, hb⟩))
  have HUp := Lib.hid (fun k => (show (upTo (xs.map bare) k).length ≤ n from by rw [← thruB_upTo hV k]; have := thruB_len (xs.map bare) k; omega))
  have HEnd := Lib.hid (show thruB (xs.map bare) m = upTo (xs.map bare) (min m n) from by
    by_cases hmn : m ≤ n
    · rw [Nat.min_eq_left hmn]; exact thruB_upTo hV m
    · rw [Nat.min_eq_right (by omega), thruB_big hbl m (by omega)]; exact thruB_upTo hV n)
  have HSt := Lib.hid (fun (r : Int) (i : Nat) (b : Bare) (h : (xs.map bare)[i]? = some b) => atTake_step (r := r) h)
  have HAll := Lib.hid (fun r => atTake_all (r := r) hbl)
  have HUS : Hid (∀ k, upTo (xs.map bare) (k + 1) = upTo (xs.map bare) k ++ atB (xs.map bare) (k + 1 : Nat)) := fun k => rfl
  have HAl := Lib.hid (fun r i => atTake_len (xs.map bare) r i)
  clear hc hV
  go_enter Tryz.func15, Tryz.ntmps15
  go_wp2_with fail
  refine HR.out.mono ?_
  rintro e w1 ⟨v1, rfl, ho1, g1⟩
  have hcl : ∃ g cap1, v1 = .slice (some ⟨g, 0, none⟩) n cap1 ∧ ∀ i x, (ranksB (xs.map bare))[i]? = some x → w1.cell? ⟨g, i, none⟩ = some (.int .i64 x) := by
    rcases ho1.2 with ⟨rfl, h⟩ | ⟨g, cap1, cur, rfl, _⟩
    · omega
    · refine ⟨g, cap1, rfl, fun i x hx => ?_⟩
      have := ho1.cells (g := g) rfl i (.int .i64 x) (by simp [ints, hx])
      rwa [show (⟨g, 0, none⟩ : Addr).add i = ⟨g, i, none⟩ by unfold Addr.add; split <;> simp_all] at this
  obtain ⟨gR, cap1, rfl, hRc⟩ := hcl
  have HRC := Lib.hid hRc
  generalize hbs : xs.map bare = bs at *
  clear ho1 hRc HR
  go_wp2_with fail
  go_loopw [6, 7] (fun v i wr => ∃ k : Nat, k ≤ min m n ∧ i = .int .i64 ((k : Int) + 1) ∧ wr.ownsRow w1.heap.size 9 1 v (upTo bs k).length (strsV (upTo bs k)) ∧ Gr w1 wr) (fun _ i _ => n + 1 - (intOf i).toNat)
  case atStart => exact ⟨0, Nat.zero_le _, rfl, World.ownsRow_nil _ _ _ _, Gr.refl _⟩
  case round =>
    obtain ⟨k, hk, rfl, hown, hnx⟩ := hrel
    have hsize := hnx.size
    by_cases hkN : k < min m n
    · have hk1 : (k : Int) + 1 ≤ m := by omega
      have hk2 : (k : Int) + 1 ≤ n := by omega
      have hun := HUp.out k
      go_wp2_with fail
      go_loopw [6, 8] (fun v i wr => ∃ q : Nat, q ≤ n ∧ i = .int .i64 q ∧ wr.ownsRow w1.heap.size 9 1 v (upTo bs k ++ atTake bs ((k : Int) + 1) q).length (strsV (upTo bs k ++ atTake bs ((k : Int) + 1) q)) ∧ Gr w1 wr) (fun _ i _ => n - (intOf i).toNat)
      case atStart => exact ⟨0, Nat.zero_le _, rfl, by simpa [atTake] using hown, hnx⟩
      case round =>
        obtain ⟨q, hq, rfl, hown, hnx⟩ := hrel
        have hsize := hnx.size
        by_cases hqN : q < n
        · obtain ⟨x, hx, hrx, hbx⟩ := HRow.out q hqN
          obtain ⟨x0, x1, x2, hxv, _⟩ := (HCC.out q x hx).gr (g1.trans hnx)
          have hr0 := hnx.cell (HRC.out q _ hrx)
          have hst := HSt.out ((k : Int) + 1) q _ hbx
          have hq2 : (q : Int) < n := by omega
          have hal := HAl.out ((k : Int) + 1) q
          have hll : (upTo bs k ++ atTake bs ((k : Int) + 1) q).length ≤ 2 * n := by rw [List.length_append]; omega
          have hbe : (bare x).st = x.st := rfl
          have hbn : (bare x).nm = x.nm := rfl
          rw [hbe, hbn] at hst
          generalize rankB bs (bare x) = rk at *
          have HOW := Lib.hid (fun W (g : Gr wr W) => own_gr hown g)
          clear hx hrx hbx hxv
          by_cases hrk : rk = (k : Int) + 1
          · subst hrk
            cases hs : x.st.toList.isEmpty
            · rw [hs] at hst
              have HS2 := Lib.hid (show atTake bs ((k : Int) + 1) (q + 1) = atTake bs ((k : Int) + 1) q from by rw [hst]; simp)
              clear hst
              go_wp2_with fail
              go_roundw
              case rel => exact ⟨q + 1, by omega, by go_num, by rw [HS2.out]; exact hown, hnx⟩
              case measure => simp [intOf]; omega
            · rw [hs] at hst
              have HS2 := Lib.hid (show upTo bs k ++ atTake bs ((k : Int) + 1) (q + 1) = (upTo bs k ++ atTake bs ((k : Int) + 1) q) ++ [x.nm] from by rw [hst, if_pos (by simp), List.append_assoc])
              have HS3 := Lib.hid (show strsV ((upTo bs k ++ atTake bs ((k : Int) + 1) q) ++ [x.nm]) = strsV (upTo bs k ++ atTake bs ((k : Int) + 1) q) ++ [.string x.nm] from by simp [strsV])
              have HS4 := Lib.hid (show ((upTo bs k ++ atTake bs ((k : Int) + 1) q) ++ [x.nm]).length = (upTo bs k ++ atTake bs ((k : Int) + 1) q).length + 1 from by rw [List.length_append]; rfl)
              clear hst
              generalize (upTo bs k ++ atTake bs ((k : Int) + 1) q).length = z at *
              go_wp2_with (first
                | (at_builtin; refine wpList_append_own _ rfl _ _ 30 rfl w1.heap.size 9 i1 (.string ⟨#[]⟩) 1 16 Tryz.underlying30 hj hy0 hy1 hy2 rfl (by decide) _ _ _ rfl (hown.alloc _) ⟨wr.heap.size, 0, none⟩ 1 1 [.string x.nm] rfl rfl (cell_one_new _ _ _) (by intro u hu; simp at hu; subst hu; rfl) (by unfold maxLen; omega) (by omega) (by simp; omega) ?_; intro v2 w2 hown2 hgrow2 hnil2))
              go_roundw
              case rel => exact ⟨q + 1, by omega, by go_num, by rw [HS2.out, HS3.out, HS4.out]; exact hown2, Below.grown (hnx.alloc _) hgrow2 (by simp; omega) (fun j hj => (hown.lt j hj).1)⟩
              case measure => simp [intOf]; omega
          · have hf : (rk == (k : Int) + 1) = false := beq_eq_false_iff_ne.2 hrk
            rw [hf] at hst
            have HS2 := Lib.hid (show atTake bs ((k : Int) + 1) (q + 1) = atTake bs ((k : Int) + 1) q from by rw [hst]; simp)
            clear hst
            go_wp2_with fail
            go_roundw
            case rel => exact ⟨q + 1, by omega, by go_num, by rw [HS2.out]; exact hown, hnx⟩
            case measure => simp [intOf]; omega
        · obtain rfl : q = n := by omega
          rw [HAll.out] at hown
          go_wp2_with fail
          go_roundw
          case rel => exact ⟨k + 1, by omega, by go_num, by rw [HUS.out]; exact hown, hnx⟩
          case measure => simp [intOf]; omega
    · obtain rfl : k = min m n := by omega
      have hE := HEnd.out
      rw [← hE] at hown
      have HSV := Lib.hid (strs_of_owns hown rfl)
      clear hE
      by_cases hmn : m ≤ n
      · have hf : ¬ (((min m n : Nat) : Int) + 1 ≤ m) := by omega
        clear hown
        go_wp2_with fail
        go_ret
        exact ⟨_, rfl, HSV.out, g1.trans hnx⟩
      · have hf1 : (((min m n : Nat) : Int) + 1 ≤ m) := by omega
        have hf : ¬ (((min m n : Nat) : Int) + 1 ≤ n) := by omega
        clear hown
        go_wp2_with fail
        go_ret
        exact ⟨_, rfl, HSV.out, g1.trans hnx⟩
end Go.Proofs.YtnbboheaheicnaaGreatDoor
