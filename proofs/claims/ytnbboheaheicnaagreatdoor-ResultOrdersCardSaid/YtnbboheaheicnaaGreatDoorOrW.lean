/- ResultOrders: the law, of a round without an error. -/
import Derived.Test.YtnbboheaheicnaaGreatDoorOrL
namespace Go.Proofs.YtnbboheaheicnaaGreatDoor
open Go.RowKit Go.Lib
set_option linter.unusedSimpArgs false
set_option linter.unusedVariables false
set_option maxHeartbeats 4000000 in
set_option maxRecDepth 100000 in
theorem rev_at {xs : List RowR} {n k : Nat} (hn : xs.length = n) (h : k < n) : ∃ x, xs.reverse[k]? = some x ∧ xs[n - 1 - k]? = some x := by
  have hr := List.getElem?_reverse (l := xs) (i := k) (by omega)
  rw [hn] at hr
  have hx : xs[n - 1 - k]? = some (xs[n - 1 - k]'(by omega)) := List.getElem?_eq_getElem _
  exact ⟨_, hr.trans hx, hx⟩
theorem cmp_ok {bs : List Bare} (hV : ValidB bs) {x y : RowR} (hx : bare x ∈ bs) (hy : bare y ∈ bs) {W : World} (hS : StatesIn W) (h : IntsV W x.u x.xs) (h2 : IntsV W y.u y.xs) (l1 : x.xs.length ≤ 1000) (l2 : y.xs.length ≤ 1000) :
    Calls Tryz.prog 16 #[.agg #[.string x.nm, .string x.st, x.u], .agg #[.string y.nm, .string y.st, y.u]] W fun e w' => e = .returned (.tuple #[.int .i64 (cmpB (bare x) (bare y)), .int .i64 0]) ∧ Gr W w' := by
  have h0 := twoE_zero hV hx hy
  have := resCompare_c x.nm x.st y.nm y.st x.u y.u x.xs y.xs W hS h h2 l1 l2
  unfold resV at this
  have h0' : twoE x.nm x.st y.nm y.st x.xs y.xs = 0 := h0
  rw [h0', if_pos rfl] at this
  exact this
theorem cmpB_three {bs : List Bare} {a b : Bare} (ha : a ∈ bs) (hb : b ∈ bs) : (cmpB a b = -1 ∧ rankB bs a < rankB bs b) ∨ (cmpB a b = 0 ∧ rankB bs a = rankB bs b) ∨ (cmpB a b = 1 ∧ rankB bs b < rankB bs a) := by
  have h3 : cmpB a b = -1 ∨ cmpB a b = 0 ∨ cmpB a b = 1 := by
    unfold cmpB ordZ
    simp only [firstE]
    have c3 : ∀ xs ys : List Int, cmpL xs ys = -1 ∨ cmpL xs ys = 0 ∨ cmpL xs ys = 1 := by
      intro xs
      induction xs with
      | nil => intro ys; cases ys <;> simp [cmpL]
      | cons p xs ih => 
        intro ys
        cases ys with
        | nil => simp [cmpL]
        | cons q ys =>
          simp only [cmpL]
          split
          · exact ih ys
          · rcases cmpZ_cases p q with ⟨_, e⟩ | ⟨_, e⟩ | ⟨_, e⟩ <;> rw [e] <;> simp
    split
    · split
      · simp
      · exact c3 _ _
    · rcases cmpZ_cases (gradeZ a.st.toList) (gradeZ b.st.toList) with ⟨_, e⟩ | ⟨_, e⟩ | ⟨_, e⟩ <;> rw [e] <;> simp
  rcases h3 with h | h | h
  · exact .inl ⟨h, rankB_less ha (by omega)⟩
  · exact .inr (.inl ⟨h, rankB_same h⟩)
  · exact .inr (.inr ⟨h, rankB_less hb (by have := cmpB_flip a b; omega)⟩)
/-- how many of the first are better -/
def cntB (bs : List Bare) (b : Bare) (q : Nat) : Int := ((bs.take q).countP fun c => decide (cmpB c b < 0) : Nat)
theorem cntB_step {bs : List Bare} {b y : Bare} {k : Nat} (h : bs[k]? = some y) : cntB bs b (k + 1) = cntB bs b k + (if cmpB y b < 0 then 1 else 0) := by
  unfold cntB
  rw [List.take_add_one, h, List.countP_append]
  by_cases e : cmpB y b < 0 <;> simp [e]
theorem cntB_le (bs : List Bare) (b : Bare) (q : Nat) : 0 ≤ cntB bs b q ∧ cntB bs b q ≤ q := by
  unfold cntB
  have := List.countP_le_length (p := fun c => decide (cmpB c b < 0)) (l := bs.take q)
  rw [List.length_take] at this
  omega
theorem cntB_all {bs : List Bare} {b : Bare} {n : Nat} (h : bs.length = n) : cntB bs b n + 1 = rankB bs b := by
  unfold cntB rankB
  rw [List.take_of_length_le (by omega)]
  omega
theorem row_at {xs : List RowR} {n k : Nat} {rs : List Int} (hn : xs.length = n) (hrl : rs.length = n) (hrs : ranksB (xs.map bare) = rs) (h : k < n) :
    ∃ x, xs[k]? = some x ∧ rs[k]? = some (rankB (xs.map bare) (bare x)) ∧ rs.reverse[n - 1 - k]? = some (rankB (xs.map bare) (bare x)) ∧ bare x ∈ xs.map bare := by
  obtain ⟨x, hx⟩ : ∃ x, xs[k]? = some x := ⟨xs[k]'(by omega), List.getElem?_eq_getElem _⟩
  have hr : rs[k]? = some (rankB (xs.map bare) (bare x)) := by rw [← hrs]; exact ranksB_at (by rw [List.getElem?_map, hx]; rfl)
  refine ⟨x, hx, hr, ?_, List.mem_map.2 ⟨x, List.mem_of_getElem? hx, rfl⟩⟩
  rw [List.getElem?_reverse (by omega), hrl, show n - 1 - (n - 1 - k) = k by omega]
  exact hr
set_option maxHeartbeats 4000000 in
set_option maxRecDepth 100000 in
theorem ord_fine (hS : SortFOK) (I : InsOK) (xs : List RowR) (n b off cap pk : Nat) (w : World) (hn : xs.length = n) (h0 : 0 < n) (h8 : n ≤ 8) (hcap : n ≤ cap) (hmx : cap ≤ maxLen) (hpk : pk < 256) (hSt : StatesIn w) (hA : AwakeOn w)
    (hc : ∀ i x, xs[i]? = some x → RowAt w b (off + i * 3) x) (hl : ∀ x ∈ xs, x.xs.length ≤ 10) (hV : ValidB (xs.map bare))
    (hSh : Calls Tryz.prog 5 #[.slice (some ⟨b, off, none⟩) n cap, .int .i64 8] w fun e w' => e = .returned (.bool true) ∧ w = w')
    (hCh : Calls Tryz.prog 10 #[.slice (some ⟨b, off, none⟩) n cap] w fun e w' => e = .returned (.int .i64 0) ∧ Gr w w') :
    Calls Tryz.prog 4 #[.slice (some ⟨b, off, none⟩) n cap, .int .u8 pk] w fun e w' => e = .returned (.bool true) ∧ Gr w w' := by
  obtain ⟨i0, hi, hz0, hz1, hz2⟩ := info_parts infoRes
  have HS := Lib.hid hSh
  have HC := Lib.hid hCh
  have HA : Hid (AwakeOn w) := hA
  have HRes := Lib.hid (fun W (g : Gr w W) => results_pos xs n b off cap W hn (by omega) (fun x hx => by have := hl x hx; omega) (fun i x hx => (hc i x hx).gr g))
  have HRk := Lib.hid (fun (ys zs : List RowR) (base : Nat) (v : Value) (W : World) (g : Gr w W) (hy : ys.map bare = xs.map bare ∨ ys.map bare = xs.reverse.map bare) (hz : Made W base ys zs) (hyn : ys.length = n) (hyl : ∀ y ∈ ys, y.xs.length ≤ 1000) (b1 : Nat) (ho : W.ownsRow b1 40 3 v n (rowCs zs)) =>
    rank_ok hS zs (hz.rows ho hyn hyl) (by rw [hz.len]; omega) (by rw [hz.len]; omega) (hSt.gr g) (zero_of_valid (by
      rw [hz.bare]
      rcases hy with hy | hy
      · rw [hy]; exact hV
      · rw [hy, List.map_reverse]; exact hV.rev)))
  have hn1 : ((n : Int) == 0) = false := beq_eq_false_iff_ne.2 (by omega)
  clear hSh hCh hA
  go_enter Tryz.func4, Tryz.ntmps4
  go_wp2_with (first
    | (refine HS.out.mono ?_; rintro e w4 ⟨rfl, rfl⟩)
    | (refine HC.out.mono ?_; rintro e w6 ⟨rfl, g6⟩))
  refine (HRes.out _ g6).mono ?_
  rintro e w1 ⟨v1, gs1, ys1, rfl, ho1, hc1, g1⟩
  go_wp2_with fail
  have hrk1 := HRk.out xs ys1 _ v1 w1 (g6.trans g1) (.inl rfl) hc1.made hn (fun y hy => by have := hl y hy; omega) _ ho1
  rw [ranksL_bare, hc1.bare, hc1.leny, hn] at hrk1
  refine hrk1.mono ?_
  rintro e w2 ⟨R1, rfl, hR1, hh1, g2⟩
  have g02 : Gr w w2 := g6.trans (g1.trans g2)
  clear hrk1 ho1 hc1 g2 hR1
  go_wp2_with fail
  have hbl : (xs.map bare).length = n := by simp [hn]
  have hrl : (ranksB (xs.map bare)).length = n := by rw [ranksB_len, hbl]
  have HRv := Lib.hid (fun k (h : k < n) => rev_at hn h)
  go_loopw [7, 53] (fun v i wr => ∃ (k : Nat) (zs : List RowR), k ≤ n ∧ i = .int .i64 k ∧ wr.ownsRow w2.heap.size 40 3 v k (rowCs zs) ∧ Made wr w2.heap.size (xs.reverse.take k) zs ∧ Gr w2 wr) (fun _ i _ => n - (intOf i).toNat)
  case atStart => exact ⟨0, [], Nat.zero_le _, rfl, World.ownsRow_nil _ _ _ _, by simpa using Made.nil _ _, Gr.refl _⟩
  case round =>
    obtain ⟨k, zs, hk, rfl, hown, hmd, hnx⟩ := hrel
    have hsize := hnx.size
    by_cases hkN : k < n
    · obtain ⟨x, hx, hx2⟩ := HRv.out k hkN
      have hi2 : (k : Int) < n := by omega
      go_wp2_with fail
      refine (HRes.out _ (g02.trans hnx)).mono ?_
      rintro e w3 ⟨v3, gs3, ys3, rfl, ho3, hc3, g3⟩
      have hj : n - 1 - k < ys3.length := by rw [hc3.leny, hn]; omega
      have hjg : n - 1 - k < gs3.length := by rw [hc3.leng, hn]; omega
      have hcy := hc3.cpy (n - 1 - k) x _ _ hx2 (List.getElem?_eq_getElem hj) (List.getElem?_eq_getElem hjg)
      have hgb := (hc3.rng _ (List.getElem_mem hjg)).1
      generalize hy : ys3[n - 1 - k] = y at hcy
      generalize gs3[n - 1 - k] = gy at hcy hgb
      have hy' : ys3[n - 1 - k]? = some y := by rw [← hy]; exact List.getElem?_eq_getElem hj
      obtain ⟨gr, capr, rfl, _, _, _, hrow⟩ := rows_of_owns (ys := ys3) (by rw [hc3.leny, hn]; exact ho3) (by omega) (fun i z hz => by
        have hxi : i < xs.length := by rw [← hc3.leny]; exact (List.getElem?_eq_some_iff.1 hz).1
        obtain ⟨g, _, c⟩ := hc3.made.cpy i _ z (List.getElem?_eq_getElem hxi) hz
        exact ⟨c.val, by rw [c.xs]; have := hl _ (List.getElem_mem hxi); omega⟩)
      obtain ⟨c0, c1, c2, _, _⟩ := hrow _ y hy'
      obtain ⟨capy, hu, hcp1, hcp2⟩ := hcy.u
      rw [hu] at c2
      simp only [Nat.zero_add] at c0 c1 c2
      have hyl : ys3.length = n := by rw [hc3.leny, hn]
      rw [hyl]
      have hown3 := own_gr hown g3
      have hmd3 := hmd.gr g3
      have hsz3 := g3.size
      have HTK := Lib.hid (show xs.reverse.take (k + 1) = xs.reverse.take k ++ [x] from by rw [List.take_add_one, hx]; rfl)
      have HLY := Lib.hid (show (rowCs zs).length = k * 3 from by have := hmd.len; rw [rowCs_len, this, List.length_take, List.length_reverse, hn, Nat.min_eq_left (by omega)])
      clear hrow ho3 hc3 hy hy' hyl hx hx2
      have hidx : ((n : Int) - 1 - k) = ((n - 1 - k : Nat) : Int) := by omega
      have hnk : n - 1 - k < n := by omega
      generalize n - 1 - k = j at *
      go_wp2_with (first
        | (at_builtin; refine wpList_append_own _ rfl _ _ 22 rfl w2.heap.size 40 i0 (.agg #[.string ⟨#[]⟩, .string ⟨#[]⟩, .slice none 0 0]) 3 56 Tryz.underlying22 hi hz0 hz1 hz2 rfl (by decide) _ _ _ rfl (hown3.alloc _) ⟨w3.heap.size, 0, none⟩ 1 1 [.string y.nm, .string y.st, .slice (some ⟨gy, 0, none⟩) x.xs.length capy] rfl rfl (cell_three_new _ _ _ _ _) (by intro u hu; simp at hu; rcases hu with rfl | rfl | rfl <;> rfl) (by unfold maxLen; omega) (by omega) (by simp; omega) ?_; intro v5 w5 hown5 hgrow5 hnil5))
      go_roundw
      case rel =>
        have hown4 := hown3.alloc (.cells #[.string y.nm, .string y.st, .slice (some ⟨gy, 0, none⟩) x.xs.length capy] 40)
        have hmd4 := (hmd3.gr ((Gr.refl w3).alloc (.cells #[.string y.nm, .string y.st, .slice (some ⟨gy, 0, none⟩) x.xs.length capy] 40))).kept hown4 (by decide) hgrow5
        have hcy4 : Cpy w5 gy x y := by
          obtain ⟨cur, q1, q2⟩ := hcy.cells
          have q3 := ((Gr.refl w3).alloc (.cells #[.string y.nm, .string y.st, .slice (some ⟨gy, 0, none⟩) x.xs.length capy] 40)).block q1
          refine hcy.gr ?_
          rw [hgrow5.block gy (Array.getElem?_eq_some_iff.1 q3).1 (cell_apart q3 hown4 (by decide)), q3, q1]
        refine ⟨k + 1, zs ++ [⟨y.nm, y.st, .slice (some ⟨gy, 0, none⟩) x.xs.length capy, y.xs⟩], by omega, by go_num, by rw [rowCs_add]; exact hown5, ?_, ?_⟩
        · rw [HTK.out]
          exact hmd4.add (by omega) ⟨hcy4.nm, hcy4.st, hcy4.xs, ⟨capy, rfl, hcp1, hcp2⟩, hcy4.cells⟩
        · exact Below.grown ((hnx.trans g3).alloc _) hgrow5 (by simp; omega) (fun j hj => (hown.lt j hj).1)
      case measure => simp [intOf]; omega
    · obtain rfl : k = n := by omega
      rw [List.take_of_length_le (by simp [hn])] at hmd
      have hzl : zs.length = k := by rw [hmd.len]; simp [hn]
      have hrk2 := HRk.out xs.reverse zs _ _ wr (g02.trans hnx) (.inr rfl) hmd (by simp [hn]) (fun y hy => by have := hl y (List.mem_reverse.1 hy); omega) _ hown
      rw [ranksL_bare, hmd.bare, List.map_reverse, ranksB_rev, hzl] at hrk2
      have HRK2 := Lib.hid hrk2
      clear hrk2 hown hmd hzl
      go_wp2_with fail
      refine HRK2.out.mono ?_
      rintro e w3 ⟨R2, rfl, hR2, hh2, g3⟩
      have g03 : Gr w w3 := g02.trans (hnx.trans g3)
      have hh1' := (hnx.trans g3).block hh1
      generalize hrs : ranksB (xs.map bare) = rs at *
      have HRS := Lib.hid hrs
      clear HRK2 hrs hnx g3 hh1 hR2
      obtain ⟨n, rfl⟩ : ∃ n, n = k := ⟨_, rfl⟩
      have HRow := Lib.hid (fun k (h : k < n) => row_at hn hrl HRS.out h)
      have HCC := Lib.hid hc
      have HL := Lib.hid hl
      have HVV := Lib.hid hV
      clear hc hl hV hi hz0 hz1 hz2 HRv
      go_wp2_with fail
      go_loopw [94] (fun ix wr => ∃ k : Nat, k ≤ n ∧ ix = .int .i64 k ∧ Gr w3 wr) (fun ix _ => n - (intOf ix).toNat)
      case atStart => exact ⟨0, Nat.zero_le _, rfl, Gr.refl _⟩
      case round =>
        obtain ⟨k, hk, rfl, hnx⟩ := hrel
        by_cases hkN : k < n
        · obtain ⟨x, hx, hr1, hr2, hxm⟩ := HRow.out k hkN
          have d1 := cell_ints (hnx.block hh1') hr1
          have d2 := cell_ints (hnx.block hh2) hr2
          generalize hrk : rankB (xs.map bare) (bare x) = rk at *
          have hidx : ((n : Int) - 1 - k) = ((n - 1 - k : Nat) : Int) := by omega
          have hnk : n - 1 - k < n := by omega
          have hi2 : (k : Int) < n := by omega
          generalize n - 1 - k = j at *
          go_wp2_with fail
          go_quiet (fail)
          go_wp2_with fail
          have hbx : Hid (rankB (xs.map bare) (bare x) = rk) := hrk
          have ha1 := hnx.drewN
          go_loopw [12, 112] (fun c iq wi => ∃ q : Nat, q ≤ n ∧ iq = .int .i64 q ∧ c = .int .i64 (cntB (xs.map bare) (bare x) q) ∧ Gr w3 wi) (fun _ iq _ => n - (intOf iq).toNat)
          case atStart => exact ⟨0, Nat.zero_le _, rfl, rfl, hnx.drewN _⟩
          case round =>
            obtain ⟨q, hq, rfl, rfl, hnq⟩ := hrel
            by_cases hqN : q < n
            · obtain ⟨y, hy, hs1, _, hym⟩ := HRow.out q hqN
              obtain ⟨x0, x1, x2, hxv, hxl⟩ := (HCC.out k x hx).gr (g03.trans hnq)
              obtain ⟨y0, y1, y2, hyv, hyl⟩ := (HCC.out q y hy).gr (g03.trans hnq)
              have e1 := cell_ints (hnq.block hh1') hr1
              have e2 := cell_ints (hnq.block hh1') hs1
              have HC1 := Lib.hid (fun W (g : Gr wr W) => cmp_ok HVV.out hym hxm (hSt.gr ((g03.trans hnq).trans g)) (hyv.gr g) (hxv.gr g) hyl hxl)
              have HC2 := Lib.hid (fun W (g : Gr wr W) => cmp_ok HVV.out hxm hym (hSt.gr ((g03.trans hnq).trans g)) (hxv.gr g) (hyv.gr g) hxl hyl)
              have hcs := cmpB_three (bs := xs.map bare) hym hxm
              rw [hbx.out] at hcs
              have hcn := cntB_step (bs := xs.map bare) (k := q) (b := bare x) (by rw [List.getElem?_map, hy]; rfl)
              have hcb := cntB_le (xs.map bare) (bare x) q
              have hq2 : (q : Int) < n := by omega
              have hk2 : (k : Int) < n := by omega
              have g := Gr.refl wr
              have hflip := cmpB_flip (bare y) (bare x)
              generalize hz : cmpB (bare y) (bare x) = z at *
              generalize hm : cmpB (bare x) (bare y) = m at *
              generalize rankB (xs.map bare) (bare y) = rq at *
              have HCS := Lib.hid hcs
              have HCN := Lib.hid hcn
              have HCB := Lib.hid hcb
              have HFL := Lib.hid hflip
              have HST := Lib.hid hnq
              clear hcs hcn hcb hflip hz hm hxv hyv hxl hyl hy hs1
              go_wp2_with fail
              have gd := (Gr.refl wr).drew
              replace y0 := gd.cell y0
              replace y1 := gd.cell y1
              replace y2 := gd.cell y2
              replace x0 := gd.cell x0
              replace x1 := gd.cell x1
              replace x2 := gd.cell x2
              replace g := g.trans gd
              clear gd
              refine wp_region_held_drew (S := (fun w' => (w'.cell? ⟨b, off + q * 3, none⟩ = some (.string y.nm) ∧ w'.cell? ⟨b, off + q * 3 + 1, none⟩ = some (.string y.st) ∧ w'.cell? ⟨b, off + q * 3 + 2, none⟩ = some y.u) ∧ (w'.cell? ⟨b, off + k * 3, none⟩ = some (.string x.nm) ∧ w'.cell? ⟨b, off + k * 3 + 1, none⟩ = some (.string x.st) ∧ w'.cell? ⟨b, off + k * 3 + 2, none⟩ = some x.u))) (by kernel_rfl) ⟨⟨y0, y1, y2⟩, ⟨x0, x1, x2⟩⟩ (fun hHeld => ?_)
              generalize wr.drew = Vz at *
              refine wpAnyH_take (i := 0) (v := (.slice (some ⟨b, off, none⟩) n cap)) (op_at rfl) (by kernel_rfl) (by kernel_rfl) (by kernel_rfl) (fun _ _ _ h => h) (Or.inl ⟨rfl, fun w hSw => ?_⟩) (by assumption) ?_
              · (try dsimp only at hSw); go_simp; try with_reducible rfl
              (try simp only [Act.put, List.setIfInBounds_toArray, List.set_cons_zero, List.set_cons_succ])
              refine wpAnyH_take (i := 1) (v := (.int .i64 q)) (op_at rfl) (by kernel_rfl) (by kernel_rfl) (by kernel_rfl) (fun _ _ _ h => h) (Or.inl ⟨rfl, fun w hSw => ?_⟩) (by assumption) ?_
              · (try dsimp only at hSw); go_simp; try with_reducible rfl
              (try simp only [Act.put, List.setIfInBounds_toArray, List.set_cons_zero, List.set_cons_succ])
              refine wpAnyH_take (i := 2) (v := (.pointer (some ⟨b, off + q * 3, none⟩))) (op_at rfl) (by kernel_rfl) (by kernel_rfl) (by kernel_rfl) (fun _ _ _ h => h) (Or.inl ⟨rfl, fun w hSw => ?_⟩) (by assumption) ?_
              · (try dsimp only at hSw); go_simp; try with_reducible rfl
              (try simp only [Act.put, List.setIfInBounds_toArray, List.set_cons_zero, List.set_cons_succ])
              refine wpAnyH_take (i := 3) (v := (.agg #[.string y.nm, .string y.st, y.u])) (op_at rfl) (by kernel_rfl) (by kernel_rfl) (by kernel_rfl) (fun _ _ _ h => h) (Or.inl ⟨rfl, fun w hSw => ?_⟩) (by assumption) ?_
              · (try dsimp only at hSw); go_simp; try with_reducible rfl
              (try simp only [Act.put, List.setIfInBounds_toArray, List.set_cons_zero, List.set_cons_succ])
              refine wpAnyH_take (i := 4) (v := (.slice (some ⟨b, off, none⟩) n cap)) (op_at rfl) (by kernel_rfl) (by kernel_rfl) (by kernel_rfl) (fun _ _ _ h => h) (Or.inl ⟨rfl, fun w hSw => ?_⟩) (by assumption) ?_
              · (try dsimp only at hSw); go_simp; try with_reducible rfl
              (try simp only [Act.put, List.setIfInBounds_toArray, List.set_cons_zero, List.set_cons_succ])
              refine wpAnyH_take (i := 5) (v := (.int .i64 k)) (op_at rfl) (by kernel_rfl) (by kernel_rfl) (by kernel_rfl) (fun _ _ _ h => h) (Or.inl ⟨rfl, fun w hSw => ?_⟩) (by assumption) ?_
              · (try dsimp only at hSw); go_simp; try with_reducible rfl
              (try simp only [Act.put, List.setIfInBounds_toArray, List.set_cons_zero, List.set_cons_succ])
              refine wpAnyH_take (i := 6) (v := (.pointer (some ⟨b, off + k * 3, none⟩))) (op_at rfl) (by kernel_rfl) (by kernel_rfl) (by kernel_rfl) (fun _ _ _ h => h) (Or.inl ⟨rfl, fun w hSw => ?_⟩) (by assumption) ?_
              · (try dsimp only at hSw); go_simp; try with_reducible rfl
              (try simp only [Act.put, List.setIfInBounds_toArray, List.set_cons_zero, List.set_cons_succ])
              refine wpAnyH_take (i := 7) (v := (.agg #[.string x.nm, .string x.st, x.u])) (op_at rfl) (by kernel_rfl) (by kernel_rfl) (by kernel_rfl) (fun _ _ _ h => h) (Or.inl ⟨rfl, fun w hSw => ?_⟩) (by assumption) ?_
              · (try dsimp only at hSw); go_simp; try with_reducible rfl
              (try simp only [Act.put, List.setIfInBounds_toArray, List.set_cons_zero, List.set_cons_succ])
              refine wpAnyH_ready (rs := [8]) (by kernel_rfl) (by simp) (AllReadyH.cons (op_at rfl) (fun K hK => ?_) AllReadyH.nil)
              go_simp
              (refine (HC1.out _ g).mono ?_; rintro e W2 ⟨rfl, hg⟩; replace y0 := hg.cell y0; replace y1 := hg.cell y1; replace y2 := hg.cell y2; replace x0 := hg.cell x0; replace x1 := hg.cell x1; replace x2 := hg.cell x2; replace g := g.trans hg; clear hg)
              go_wp2_with fail
              refine hK.out _ _ ⟨⟨y0, y1, y2⟩, ⟨x0, x1, x2⟩⟩ (fun hHeld => ?_)
              clear hK K
              (try simp only [Act.put, List.setIfInBounds_toArray, List.set_cons_zero, List.set_cons_succ])
              refine wpAnyH_take (i := 9) (v := (.tuple #[.int .i64 z, .int .i64 0])) (op_at rfl) (by kernel_rfl) (by kernel_rfl) (by kernel_rfl) (fun _ _ _ h => h) (Or.inl ⟨rfl, fun w hSw => ?_⟩) (by assumption) ?_
              · (try dsimp only at hSw); go_simp; try with_reducible rfl
              (try simp only [Act.put, List.setIfInBounds_toArray, List.set_cons_zero, List.set_cons_succ])
              refine wpAnyH_take (i := 10) (v := (.int .i64 z)) (op_at rfl) (by kernel_rfl) (by kernel_rfl) (by kernel_rfl) (fun _ _ _ h => h) (Or.inl ⟨rfl, fun w hSw => ?_⟩) (by assumption) ?_
              · (try dsimp only at hSw); go_simp; try with_reducible rfl
              (try simp only [Act.put, List.setIfInBounds_toArray, List.set_cons_zero, List.set_cons_succ])
              refine wpAnyH_take (i := 11) (v := (.int .i64 0)) (op_at rfl) (by kernel_rfl) (by kernel_rfl) (by kernel_rfl) (fun _ _ _ h => h) (Or.inl ⟨rfl, fun w hSw => ?_⟩) (by assumption) ?_
              · (try dsimp only at hSw); go_simp; try with_reducible rfl
              (try simp only [Act.put, List.setIfInBounds_toArray, List.set_cons_zero, List.set_cons_succ])
              refine wpAnyH_take (i := 12) (v := (.int .i64 z)) (op_at rfl) (by kernel_rfl) (by kernel_rfl) (by kernel_rfl) (fun _ _ _ h => h) (Or.inl ⟨rfl, fun w hSw => ?_⟩) (by assumption) ?_
              · (try dsimp only at hSw); go_simp; try with_reducible rfl
              (try simp only [Act.put, List.setIfInBounds_toArray, List.set_cons_zero, List.set_cons_succ])
              refine wpAnyH_take (i := 13) (v := (.int .i64 0)) (op_at rfl) (by kernel_rfl) (by kernel_rfl) (by kernel_rfl) (fun _ _ _ h => h) (Or.inl ⟨rfl, fun w hSw => ?_⟩) (by assumption) ?_
              · (try dsimp only at hSw); go_simp; try with_reducible rfl
              (try simp only [Act.put, List.setIfInBounds_toArray, List.set_cons_zero, List.set_cons_succ])
              refine wpAnyH_done (by kernel_rfl) ?_ _
              go_wp2_with fail
              have gd := (Gr.refl W2).drew
              replace y0 := gd.cell y0
              replace y1 := gd.cell y1
              replace y2 := gd.cell y2
              replace x0 := gd.cell x0
              replace x1 := gd.cell x1
              replace x2 := gd.cell x2
              replace g := g.trans gd
              clear gd
              refine wp_region_held_drew (S := (fun w' => (w'.cell? ⟨b, off + q * 3, none⟩ = some (.string y.nm) ∧ w'.cell? ⟨b, off + q * 3 + 1, none⟩ = some (.string y.st) ∧ w'.cell? ⟨b, off + q * 3 + 2, none⟩ = some y.u) ∧ (w'.cell? ⟨b, off + k * 3, none⟩ = some (.string x.nm) ∧ w'.cell? ⟨b, off + k * 3 + 1, none⟩ = some (.string x.st) ∧ w'.cell? ⟨b, off + k * 3 + 2, none⟩ = some x.u))) (by kernel_rfl) ⟨⟨y0, y1, y2⟩, ⟨x0, x1, x2⟩⟩ (fun hHeld => ?_)
              generalize W2.drew = Vm at *
              refine wpAnyH_take (i := 0) (v := (.slice (some ⟨b, off, none⟩) n cap)) (op_at rfl) (by kernel_rfl) (by kernel_rfl) (by kernel_rfl) (fun _ _ _ h => h) (Or.inl ⟨rfl, fun w hSw => ?_⟩) (by assumption) ?_
              · (try dsimp only at hSw); go_simp; try with_reducible rfl
              (try simp only [Act.put, List.setIfInBounds_toArray, List.set_cons_zero, List.set_cons_succ])
              refine wpAnyH_take (i := 1) (v := (.int .i64 k)) (op_at rfl) (by kernel_rfl) (by kernel_rfl) (by kernel_rfl) (fun _ _ _ h => h) (Or.inl ⟨rfl, fun w hSw => ?_⟩) (by assumption) ?_
              · (try dsimp only at hSw); go_simp; try with_reducible rfl
              (try simp only [Act.put, List.setIfInBounds_toArray, List.set_cons_zero, List.set_cons_succ])
              refine wpAnyH_take (i := 2) (v := (.pointer (some ⟨b, off + k * 3, none⟩))) (op_at rfl) (by kernel_rfl) (by kernel_rfl) (by kernel_rfl) (fun _ _ _ h => h) (Or.inl ⟨rfl, fun w hSw => ?_⟩) (by assumption) ?_
              · (try dsimp only at hSw); go_simp; try with_reducible rfl
              (try simp only [Act.put, List.setIfInBounds_toArray, List.set_cons_zero, List.set_cons_succ])
              refine wpAnyH_take (i := 3) (v := (.agg #[.string x.nm, .string x.st, x.u])) (op_at rfl) (by kernel_rfl) (by kernel_rfl) (by kernel_rfl) (fun _ _ _ h => h) (Or.inl ⟨rfl, fun w hSw => ?_⟩) (by assumption) ?_
              · (try dsimp only at hSw); go_simp; try with_reducible rfl
              (try simp only [Act.put, List.setIfInBounds_toArray, List.set_cons_zero, List.set_cons_succ])
              refine wpAnyH_take (i := 4) (v := (.slice (some ⟨b, off, none⟩) n cap)) (op_at rfl) (by kernel_rfl) (by kernel_rfl) (by kernel_rfl) (fun _ _ _ h => h) (Or.inl ⟨rfl, fun w hSw => ?_⟩) (by assumption) ?_
              · (try dsimp only at hSw); go_simp; try with_reducible rfl
              (try simp only [Act.put, List.setIfInBounds_toArray, List.set_cons_zero, List.set_cons_succ])
              refine wpAnyH_take (i := 5) (v := (.int .i64 q)) (op_at rfl) (by kernel_rfl) (by kernel_rfl) (by kernel_rfl) (fun _ _ _ h => h) (Or.inl ⟨rfl, fun w hSw => ?_⟩) (by assumption) ?_
              · (try dsimp only at hSw); go_simp; try with_reducible rfl
              (try simp only [Act.put, List.setIfInBounds_toArray, List.set_cons_zero, List.set_cons_succ])
              refine wpAnyH_take (i := 6) (v := (.pointer (some ⟨b, off + q * 3, none⟩))) (op_at rfl) (by kernel_rfl) (by kernel_rfl) (by kernel_rfl) (fun _ _ _ h => h) (Or.inl ⟨rfl, fun w hSw => ?_⟩) (by assumption) ?_
              · (try dsimp only at hSw); go_simp; try with_reducible rfl
              (try simp only [Act.put, List.setIfInBounds_toArray, List.set_cons_zero, List.set_cons_succ])
              refine wpAnyH_take (i := 7) (v := (.agg #[.string y.nm, .string y.st, y.u])) (op_at rfl) (by kernel_rfl) (by kernel_rfl) (by kernel_rfl) (fun _ _ _ h => h) (Or.inl ⟨rfl, fun w hSw => ?_⟩) (by assumption) ?_
              · (try dsimp only at hSw); go_simp; try with_reducible rfl
              (try simp only [Act.put, List.setIfInBounds_toArray, List.set_cons_zero, List.set_cons_succ])
              refine wpAnyH_ready (rs := [8]) (by kernel_rfl) (by simp) (AllReadyH.cons (op_at rfl) (fun K hK => ?_) AllReadyH.nil)
              go_simp
              (refine (HC2.out _ g).mono ?_; rintro e W5 ⟨rfl, hg⟩; replace y0 := hg.cell y0; replace y1 := hg.cell y1; replace y2 := hg.cell y2; replace x0 := hg.cell x0; replace x1 := hg.cell x1; replace x2 := hg.cell x2; replace g := g.trans hg; clear hg)
              go_wp2_with fail
              refine hK.out _ _ ⟨⟨y0, y1, y2⟩, ⟨x0, x1, x2⟩⟩ (fun hHeld => ?_)
              clear hK K
              (try simp only [Act.put, List.setIfInBounds_toArray, List.set_cons_zero, List.set_cons_succ])
              refine wpAnyH_take (i := 9) (v := (.tuple #[.int .i64 m, .int .i64 0])) (op_at rfl) (by kernel_rfl) (by kernel_rfl) (by kernel_rfl) (fun _ _ _ h => h) (Or.inl ⟨rfl, fun w hSw => ?_⟩) (by assumption) ?_
              · (try dsimp only at hSw); go_simp; try with_reducible rfl
              (try simp only [Act.put, List.setIfInBounds_toArray, List.set_cons_zero, List.set_cons_succ])
              refine wpAnyH_take (i := 10) (v := (.int .i64 m)) (op_at rfl) (by kernel_rfl) (by kernel_rfl) (by kernel_rfl) (fun _ _ _ h => h) (Or.inl ⟨rfl, fun w hSw => ?_⟩) (by assumption) ?_
              · (try dsimp only at hSw); go_simp; try with_reducible rfl
              (try simp only [Act.put, List.setIfInBounds_toArray, List.set_cons_zero, List.set_cons_succ])
              refine wpAnyH_take (i := 11) (v := (.int .i64 0)) (op_at rfl) (by kernel_rfl) (by kernel_rfl) (by kernel_rfl) (fun _ _ _ h => h) (Or.inl ⟨rfl, fun w hSw => ?_⟩) (by assumption) ?_
              · (try dsimp only at hSw); go_simp; try with_reducible rfl
              (try simp only [Act.put, List.setIfInBounds_toArray, List.set_cons_zero, List.set_cons_succ])
              refine wpAnyH_take (i := 12) (v := (.int .i64 m)) (op_at rfl) (by kernel_rfl) (by kernel_rfl) (by kernel_rfl) (fun _ _ _ h => h) (Or.inl ⟨rfl, fun w hSw => ?_⟩) (by assumption) ?_
              · (try dsimp only at hSw); go_simp; try with_reducible rfl
              (try simp only [Act.put, List.setIfInBounds_toArray, List.set_cons_zero, List.set_cons_succ])
              refine wpAnyH_take (i := 13) (v := (.int .i64 0)) (op_at rfl) (by kernel_rfl) (by kernel_rfl) (by kernel_rfl) (fun _ _ _ h => h) (Or.inl ⟨rfl, fun w hSw => ?_⟩) (by assumption) ?_
              · (try dsimp only at hSw); go_simp; try with_reducible rfl
              (try simp only [Act.put, List.setIfInBounds_toArray, List.set_cons_zero, List.set_cons_succ])
              refine wpAnyH_done (by kernel_rfl) ?_ _
              go_wp2_with fail
              have e1' := g.cell e1
              have e2' := g.cell e2
              have hcb := HCB.out
              clear x0 x1 x2 y0 y1 y2 HC1 HC2 HL HVV HCC
              rcases HCS.out with ⟨rfl, hr⟩ | ⟨rfl, hr⟩ | ⟨rfl, hr⟩
              · obtain rfl : m = 1 := by have := HFL.out; omega
                have hdl : decide (rq < rk) = true := decide_eq_true (by omega)
                have hde : (rq == rk) = false := beq_eq_false_iff_ne.2 (by omega)
                go_wp2_with fail
                go_big_quiet (fail)
                go_wp2_with fail
                go_roundw
                case rel => exact ⟨q + 1, by omega, by go_num, by rw [HCN.out]; simp, HST.out.trans (g.drewN _)⟩
                case measure => simp [intOf]; omega
              · obtain rfl : m = 0 := by have := HFL.out; omega
                have hdl : decide (rq < rk) = false := decide_eq_false (by omega)
                have hde : (rq == rk) = true := beq_iff_eq.2 hr
                go_wp2_with fail
                go_big_quiet (fail)
                go_wp2_with fail
                go_roundw
                case rel => exact ⟨q + 1, by omega, by go_num, by rw [HCN.out]; simp, HST.out.trans (g.drewN _)⟩
                case measure => simp [intOf]; omega
              · obtain rfl : m = -1 := by have := HFL.out; omega
                have hdl : decide (rq < rk) = false := decide_eq_false (by omega)
                have hde : (rq == rk) = false := beq_eq_false_iff_ne.2 (by omega)
                go_wp2_with fail
                go_big_quiet (fail)
                go_wp2_with fail
                go_roundw
                case rel => exact ⟨q + 1, by omega, by go_num, by rw [HCN.out]; simp, HST.out.trans (g.drewN _)⟩
                case measure => simp [intOf]; omega
            · obtain rfl : q = n := by omega
              have e1 := cell_ints (hnq.block hh1') hr1
              have hfin : cntB (xs.map bare) (bare x) q + 1 = rk := by rw [cntB_all hbl]; exact hbx.out
              have hcb := cntB_le (xs.map bare) (bare x) q
              have hk2 : (k : Int) < q := by omega
              generalize cntB (xs.map bare) (bare x) q = cb at *
              subst hfin
              go_wp2_with fail
              go_roundw
              case rel => exact ⟨k + 1, by omega, by go_num, hnq⟩
              case measure => simp [intOf]; omega
        · obtain rfl : k = n := by omega
          obtain ⟨n, rfl⟩ : ∃ n, n = k := ⟨_, rfl⟩
          clear hk hkN
          have hkk : pk % n < n := Nat.mod_lt _ h0
          have hmod : Int.tmod (pk : Int) (n : Int) = ((pk % n : Nat) : Int) := by rw [Int.tmod_eq_emod_of_nonneg (by omega)]; rfl
          obtain ⟨x, hx, hr1, _, hxm⟩ := HRow.out _ hkk
          generalize pk % n = k at *
          have hn2 : ¬ (n : Int) = 0 := by omega
          go_wp2_with fail
          refine (HRes.out _ (g03.trans hnx)).mono ?_
          rintro e w7 ⟨v7, gs7, ys7, rfl, ho7, hc7, g7⟩
          have g07 : Gr w w7 := (g03.trans hnx).trans g7
          have hy7 : k < ys7.length := by rw [hc7.leny, hn]; exact hkk
          have hj7 : k < gs7.length := by rw [hc7.leng, hn]; exact hkk
          have hy := List.getElem?_eq_getElem hy7
          have hg := List.getElem?_eq_getElem hj7
          have hgb := (hc7.rng _ (List.getElem_mem hj7)).1
          generalize ys7[k] = y at hy
          generalize gs7[k] = gy at hg hgb
          have hcy := hc7.cpy k x y gy hx hy hg
          obtain ⟨gr, capr, hv7, _, _, _, hrow⟩ := rows_of_owns (ys := ys7) (by rw [hc7.leny, hn]; exact ho7) (by omega) (fun i z hz => by
            have hxi : i < xs.length := by rw [← hc7.leny]; exact (List.getElem?_eq_some_iff.1 hz).1
            obtain ⟨g, _, c⟩ := hc7.made.cpy i _ z (List.getElem?_eq_getElem hxi) hz
            exact ⟨c.val, by rw [c.xs]; have := HL.out _ (List.getElem_mem hxi); omega⟩)
          rw [hc7.leny, hn] at hv7
          subst hv7
          obtain ⟨c0, c1, c2, _, _⟩ := hrow k y hy
          obtain ⟨capy, hu, hcp1, hcp2⟩ := hcy.u
          rw [hu] at c2
          simp only [Nat.zero_add] at c0 c1 c2
          have hk2 : (k : Int) < n := by omega
          have HLL := Lib.hid (fun y (hy : y ∈ xs) => (show y.xs.length ≤ 1000 from by have := HL.out y hy; omega))
          have hlen0 : x.xs.length ≤ 10 := HL.out x (List.mem_of_getElem? hx)
          clear hrow
          have HB : Hid (rankB (xs.map bare) (bare x) = rankB (xs.map bare) (bare x)) := rfl
          generalize hrk : rankB (xs.map bare) (bare x) = rk at hr1
          have hr0 := cell_ints hh1' hr1
          have hst7 := hSt.gr g07
          rcases hxs : x.xs with _ | ⟨a, t⟩
          · have HR3 := Lib.hid (rank_raised hS (hc7.made.rows ho7 hn HLL.out) (by rw [hc7.leny, hn]) h0 (by omega) hst7 (by rw [hc7.bare]; exact HVV.out) hy (rk := rk) (by
              rw [hc7.bare, show bare y = bare x by simp [bare, hcy.nm, hcy.st, hcy.xs], hrk]; omega))
            rw [hxs] at c2
            clear hc7 ho7 hcy hy hg hst7
            go_wp2_with fail
            refine HR3.out.mono ?_
            rintro e w8 ⟨R3, tk, rfl, ht8, hle8, g8⟩
            have g38 : Gr w3 w8 := hnx.trans (g7.trans g8)
            have g08 : Gr w w8 := g03.trans g38
            clear HR3 c0 c1 c2
            go_wp2_with fail
            refine (HRes.out _ g08).mono ?_
            rintro e w9 ⟨v9, gs9, ys9, rfl, ho9, hc9, g9⟩
            have HT9 := through_ok hS I (hc9.made.rows ho9 hn HLL.out) (by rw [hc9.leny]; omega) (by rw [hc9.leny]; omega) (hSt.gr (g08.trans g9)) (by rw [hc9.bare]; exact HVV.out) (k : Int) (by omega)
            rw [hc9.bare] at HT9
            clear hc9 ho9
            go_wp2_with fail
            refine HT9.mono ?_
            rintro e wA ⟨ua, rfl, hua, gA⟩
            have g0A := (g08.trans g9).trans gA
            have g3A := (g38.trans g9).trans gA
            have g8A := g9.trans gA
            clear HT9
            obtain ⟨pa, capa, rfl, hca, _⟩ := id hua.out
            have HUA := Lib.hid hua
            clear hua
            go_wp2_with fail
            refine (HRes.out _ g0A).mono ?_
            rintro e wB ⟨vB, gsB, ysB, rfl, hoB, hcB, gB⟩
            have HTB := through_ok hS I (hcB.made.rows hoB hn HLL.out) (by rw [hcB.leny]; omega) (by rw [hcB.leny]; omega) (hSt.gr (g0A.trans gB)) (by rw [hcB.bare]; exact HVV.out) ((k : Int) + 1) (by omega)
            rw [hcB.bare] at HTB
            clear hcB hoB
            go_wp2_with fail
            refine HTB.mono ?_
            rintro e wC ⟨ub, rfl, hub, gC⟩
            have g0C := (g0A.trans gB).trans gC
            have g8C := (g8A.trans gB).trans gC
            have gAC := gB.trans gC
            clear HTB
            have hpre := thruB_prefix (show (k : Int) ≤ (k : Int) + 1 by omega) (xs.map bare)
            have hNl := thruB_len (xs.map bare) k
            generalize thruB (xs.map bare) ((k : Int) + 1) = NB at *
            generalize thruB (xs.map bare) (k : Int) = NA at *
            have hle := hpre.length_le
            have hle2 : (NA.length : Int) ≤ NB.length := by omega
            obtain ⟨pb, capb, rfl, hcb, hdb⟩ := hub.out
            have hd1 : decide (rk < tk) = false := decide_eq_false (by omega)
            have hd2 : decide ((NB.length : Int) < NA.length) = false := decide_eq_false (by omega)
            have r3 := g8C.cell ht8
            have r1 := g8C.cell (g38.cell hr0)
            have HPre := Lib.hid hpre
            have HNA : Hid (NA.length ≤ 1000) := by have := hNl; rw [hbl] at this; exact Nat.le_trans this (by omega)
            clear hub hpre hNl ht8 hr0
            rcases hdb with ⟨rfl, rfl, rfl⟩ | ⟨bb, rfl, hdb⟩
            · obtain rfl : NA = [] := List.prefix_nil.1 HPre.out
              go_wp2_with fail
              go_big_quiet (fail)
              go_wp2_with fail
              refine (sameWords_c (ns := []) (HUA.out.gr (gAC.drewN _)) ⟨none, 0, rfl, ⟨Nat.le_refl _, by unfold maxLen; omega⟩, .inl ⟨rfl, rfl, rfl⟩⟩ (by simp)).mono ?_
              rintro e wD ⟨rfl, gD⟩
              go_wp2_with fail
              refine (HA.out _ ((g0C.drewN _).trans gD)).mono ?_
              rintro e wE ⟨rfl, gE⟩
              go_wp2_with fail
              go_ret
              exact ⟨rfl, ((g0C.drewN _).trans gD).trans gE⟩
            · have hla : (NA.length : Int) ≤ capb := by omega
              have HSub := Lib.hid (fun W (g : Gr wC W) => (show StrsV W (.slice (some ⟨bb, 0, none⟩) NA.length capb) NA from ⟨_, capb, rfl, ⟨by omega, hcb.2⟩, .inr ⟨bb, rfl, fun i s hs => g.cell (hdb i s (by obtain ⟨t, rfl⟩ := HPre.out; rw [List.getElem?_append_left (List.getElem?_eq_some_iff.1 hs).1]; exact hs))⟩⟩))
              go_wp2_with fail
              go_big_quiet (fail)
              go_wp2_with fail
              refine (sameWords_c (HUA.out.gr (gAC.drewN _)) (HSub.out _ ((Gr.refl _).drewN _)) HNA.out).mono ?_
              rintro e wD ⟨rfl, gD⟩
              go_wp2_with fail
              refine (HA.out _ ((g0C.drewN _).trans gD)).mono ?_
              rintro e wE ⟨rfl, gE⟩
              go_wp2_with fail
              go_ret
              exact ⟨rfl, ((g0C.drewN _).trans gD).trans gE⟩
          · by_cases hav : a < 999999999
            · obtain ⟨cur, hgc, hgt⟩ := hcy.cells
              have hcur0 : w7.cell? ⟨gy, 0, none⟩ = some (.int .i64 a) := by
                have := hcy.val.out
                obtain ⟨p2, cap2, e2, h2⟩ := this
                rw [hu, hcy.xs, hxs] at e2
                rw [hcy.xs, hxs] at h2
                obtain ⟨b2, off2, e3, h3⟩ := h2 (by simp)
                rw [e3] at e2
                simp only [Value.slice.injEq, Option.some.injEq, Addr.mk.injEq] at e2
                obtain ⟨⟨rfl, rfl, _⟩, _⟩ := e2
                exact h3 0 a rfl
              have hfz := frozen_of_row w7 gy 0 _ 3 hgc
              have hgS : Gr wr (w7.setCell ⟨gy, 0, none⟩ (.int .i64 (a + 1))) := Below.setCell g7 hgb _
              have hbz : bare ⟨y.nm, y.st, y.u, (a + 1) :: t⟩ = up (bare x) a t := by simp [bare, up, hcy.nm, hcy.st]
              have hzk : (ys7.set k ⟨y.nm, y.st, y.u, (a + 1) :: t⟩)[k]? = some ⟨y.nm, y.st, y.u, (a + 1) :: t⟩ := by rw [List.getElem?_set, if_pos rfl, if_pos hy7]
              have hbk : (xs.map bare)[k]? = some (bare x) := by rw [List.getElem?_map, hx]; rfl
              have HR3 := Lib.hid (rank_raised hS (raised_rows hc7 ho7 hn (by decide) hx hy hg hxs HLL.out (a + 1)) (by rw [List.length_set, hc7.leny, hn]) h0 (by omega) (hSt.gr ((g03.trans hnx).trans hgS)) (by rw [raised_bare hc7.bare hx hy hxs]; exact valid_up HVV.out hbk hxs hav) hzk (rk := rk) (by
                rw [raised_bare hc7.bare hx hy hxs, hbz, ← hrk]; exact rank_up hbk hxs))
              have hlo : -999999999 ≤ a := by
                have h5 := firstE_zero (HVV.out.each _ hxm) _ (by simp only [List.mem_cons]; exact .inr (.inr (.inr (.inr (.inl rfl)))))
                have h6 : valsE x.xs = 0 := h5
                rw [hxs] at h6
                unfold valsE at h6
                exact (outE_zero.1 (firstE_zero h6 (outE a (-999999999) 999999999) (by simp))).1
              rw [hxs] at c2
              clear hc7 ho7 hcy hy hg hst7 hzk hbz hbk hgt
              go_wp2_with fail
              refine HR3.out.mono ?_
              rintro e w8 ⟨R3, tk, rfl, ht8, hle8, g8⟩
              have g38 : Gr w3 w8 := hnx.trans (hgS.trans g8)
              have g08 : Gr w w8 := g03.trans g38
              clear HR3 c0 c1 c2
              go_wp2_with fail
              refine (HRes.out _ g08).mono ?_
              rintro e w9 ⟨v9, gs9, ys9, rfl, ho9, hc9, g9⟩
              have HT9 := through_ok hS I (hc9.made.rows ho9 hn HLL.out) (by rw [hc9.leny]; omega) (by rw [hc9.leny]; omega) (hSt.gr (g08.trans g9)) (by rw [hc9.bare]; exact HVV.out) (k : Int) (by omega)
              rw [hc9.bare] at HT9
              clear hc9 ho9
              go_wp2_with fail
              refine HT9.mono ?_
              rintro e wA ⟨ua, rfl, hua, gA⟩
              have g0A := (g08.trans g9).trans gA
              have g3A := (g38.trans g9).trans gA
              have g8A := g9.trans gA
              clear HT9
              obtain ⟨pa, capa, rfl, hca, _⟩ := id hua.out
              have HUA := Lib.hid hua
              clear hua
              go_wp2_with fail
              refine (HRes.out _ g0A).mono ?_
              rintro e wB ⟨vB, gsB, ysB, rfl, hoB, hcB, gB⟩
              have HTB := through_ok hS I (hcB.made.rows hoB hn HLL.out) (by rw [hcB.leny]; omega) (by rw [hcB.leny]; omega) (hSt.gr (g0A.trans gB)) (by rw [hcB.bare]; exact HVV.out) ((k : Int) + 1) (by omega)
              rw [hcB.bare] at HTB
              clear hcB hoB
              go_wp2_with fail
              refine HTB.mono ?_
              rintro e wC ⟨ub, rfl, hub, gC⟩
              have g0C := (g0A.trans gB).trans gC
              have g8C := (g8A.trans gB).trans gC
              have gAC := gB.trans gC
              clear HTB
              have hpre := thruB_prefix (show (k : Int) ≤ (k : Int) + 1 by omega) (xs.map bare)
              have hNl := thruB_len (xs.map bare) k
              generalize thruB (xs.map bare) ((k : Int) + 1) = NB at *
              generalize thruB (xs.map bare) (k : Int) = NA at *
              have hle := hpre.length_le
              have hle2 : (NA.length : Int) ≤ NB.length := by omega
              obtain ⟨pb, capb, rfl, hcb, hdb⟩ := hub.out
              have hd1 : decide (rk < tk) = false := decide_eq_false (by omega)
              have hd2 : decide ((NB.length : Int) < NA.length) = false := decide_eq_false (by omega)
              have r3 := g8C.cell ht8
              have r1 := g8C.cell (g38.cell hr0)
              have HPre := Lib.hid hpre
              have HNA : Hid (NA.length ≤ 1000) := by have := hNl; rw [hbl] at this; exact Nat.le_trans this (by omega)
              clear hub hpre hNl ht8 hr0
              rcases hdb with ⟨rfl, rfl, rfl⟩ | ⟨bb, rfl, hdb⟩
              · obtain rfl : NA = [] := List.prefix_nil.1 HPre.out
                go_wp2_with fail
                go_big_quiet (fail)
                go_wp2_with fail
                refine (sameWords_c (ns := []) (HUA.out.gr (gAC.drewN _)) ⟨none, 0, rfl, ⟨Nat.le_refl _, by unfold maxLen; omega⟩, .inl ⟨rfl, rfl, rfl⟩⟩ (by simp)).mono ?_
                rintro e wD ⟨rfl, gD⟩
                go_wp2_with fail
                refine (HA.out _ ((g0C.drewN _).trans gD)).mono ?_
                rintro e wE ⟨rfl, gE⟩
                go_wp2_with fail
                go_ret
                exact ⟨rfl, ((g0C.drewN _).trans gD).trans gE⟩
              · have hla : (NA.length : Int) ≤ capb := by omega
                have HSub := Lib.hid (fun W (g : Gr wC W) => (show StrsV W (.slice (some ⟨bb, 0, none⟩) NA.length capb) NA from ⟨_, capb, rfl, ⟨by omega, hcb.2⟩, .inr ⟨bb, rfl, fun i s hs => g.cell (hdb i s (by obtain ⟨t, rfl⟩ := HPre.out; rw [List.getElem?_append_left (List.getElem?_eq_some_iff.1 hs).1]; exact hs))⟩⟩))
                go_wp2_with fail
                go_big_quiet (fail)
                go_wp2_with fail
                refine (sameWords_c (HUA.out.gr (gAC.drewN _)) (HSub.out _ ((Gr.refl _).drewN _)) HNA.out).mono ?_
                rintro e wD ⟨rfl, gD⟩
                go_wp2_with fail
                refine (HA.out _ ((g0C.drewN _).trans gD)).mono ?_
                rintro e wE ⟨rfl, gE⟩
                go_wp2_with fail
                go_ret
                exact ⟨rfl, ((g0C.drewN _).trans gD).trans gE⟩
            · have HR3 := Lib.hid (rank_raised hS (hc7.made.rows ho7 hn HLL.out) (by rw [hc7.leny, hn]) h0 (by omega) hst7 (by rw [hc7.bare]; exact HVV.out) hy (rk := rk) (by
                rw [hc7.bare, show bare y = bare x by simp [bare, hcy.nm, hcy.st, hcy.xs], hrk]; omega))
              have hcur0 : w7.cell? ⟨gy, 0, none⟩ = some (.int .i64 a) := by
                have := hcy.val.out
                obtain ⟨p2, cap2, e2, h2⟩ := this
                rw [hu, hcy.xs, hxs] at e2
                rw [hcy.xs, hxs] at h2
                obtain ⟨b2, off2, e3, h3⟩ := h2 (by simp)
                rw [e3] at e2
                simp only [Value.slice.injEq, Option.some.injEq, Addr.mk.injEq] at e2
                obtain ⟨⟨rfl, rfl, _⟩, _⟩ := e2
                exact h3 0 a rfl
              rw [hxs] at c2
              clear hc7 ho7 hcy hy hg hst7
              go_wp2_with fail
              refine HR3.out.mono ?_
              rintro e w8 ⟨R3, tk, rfl, ht8, hle8, g8⟩
              have g38 : Gr w3 w8 := hnx.trans (g7.trans g8)
              have g08 : Gr w w8 := g03.trans g38
              clear HR3 c0 c1 c2
              go_wp2_with fail
              refine (HRes.out _ g08).mono ?_
              rintro e w9 ⟨v9, gs9, ys9, rfl, ho9, hc9, g9⟩
              have HT9 := through_ok hS I (hc9.made.rows ho9 hn HLL.out) (by rw [hc9.leny]; omega) (by rw [hc9.leny]; omega) (hSt.gr (g08.trans g9)) (by rw [hc9.bare]; exact HVV.out) (k : Int) (by omega)
              rw [hc9.bare] at HT9
              clear hc9 ho9
              go_wp2_with fail
              refine HT9.mono ?_
              rintro e wA ⟨ua, rfl, hua, gA⟩
              have g0A := (g08.trans g9).trans gA
              have g3A := (g38.trans g9).trans gA
              have g8A := g9.trans gA
              clear HT9
              obtain ⟨pa, capa, rfl, hca, _⟩ := id hua.out
              have HUA := Lib.hid hua
              clear hua
              go_wp2_with fail
              refine (HRes.out _ g0A).mono ?_
              rintro e wB ⟨vB, gsB, ysB, rfl, hoB, hcB, gB⟩
              have HTB := through_ok hS I (hcB.made.rows hoB hn HLL.out) (by rw [hcB.leny]; omega) (by rw [hcB.leny]; omega) (hSt.gr (g0A.trans gB)) (by rw [hcB.bare]; exact HVV.out) ((k : Int) + 1) (by omega)
              rw [hcB.bare] at HTB
              clear hcB hoB
              go_wp2_with fail
              refine HTB.mono ?_
              rintro e wC ⟨ub, rfl, hub, gC⟩
              have g0C := (g0A.trans gB).trans gC
              have g8C := (g8A.trans gB).trans gC
              have gAC := gB.trans gC
              clear HTB
              have hpre := thruB_prefix (show (k : Int) ≤ (k : Int) + 1 by omega) (xs.map bare)
              have hNl := thruB_len (xs.map bare) k
              generalize thruB (xs.map bare) ((k : Int) + 1) = NB at *
              generalize thruB (xs.map bare) (k : Int) = NA at *
              have hle := hpre.length_le
              have hle2 : (NA.length : Int) ≤ NB.length := by omega
              obtain ⟨pb, capb, rfl, hcb, hdb⟩ := hub.out
              have hd1 : decide (rk < tk) = false := decide_eq_false (by omega)
              have hd2 : decide ((NB.length : Int) < NA.length) = false := decide_eq_false (by omega)
              have r3 := g8C.cell ht8
              have r1 := g8C.cell (g38.cell hr0)
              have HPre := Lib.hid hpre
              have HNA : Hid (NA.length ≤ 1000) := by have := hNl; rw [hbl] at this; exact Nat.le_trans this (by omega)
              clear hub hpre hNl ht8 hr0
              rcases hdb with ⟨rfl, rfl, rfl⟩ | ⟨bb, rfl, hdb⟩
              · obtain rfl : NA = [] := List.prefix_nil.1 HPre.out
                go_wp2_with fail
                go_big_quiet (fail)
                go_wp2_with fail
                refine (sameWords_c (ns := []) (HUA.out.gr (gAC.drewN _)) ⟨none, 0, rfl, ⟨Nat.le_refl _, by unfold maxLen; omega⟩, .inl ⟨rfl, rfl, rfl⟩⟩ (by simp)).mono ?_
                rintro e wD ⟨rfl, gD⟩
                go_wp2_with fail
                refine (HA.out _ ((g0C.drewN _).trans gD)).mono ?_
                rintro e wE ⟨rfl, gE⟩
                go_wp2_with fail
                go_ret
                exact ⟨rfl, ((g0C.drewN _).trans gD).trans gE⟩
              · have hla : (NA.length : Int) ≤ capb := by omega
                have HSub := Lib.hid (fun W (g : Gr wC W) => (show StrsV W (.slice (some ⟨bb, 0, none⟩) NA.length capb) NA from ⟨_, capb, rfl, ⟨by omega, hcb.2⟩, .inr ⟨bb, rfl, fun i s hs => g.cell (hdb i s (by obtain ⟨t, rfl⟩ := HPre.out; rw [List.getElem?_append_left (List.getElem?_eq_some_iff.1 hs).1]; exact hs))⟩⟩))
                go_wp2_with fail
                go_big_quiet (fail)
                go_wp2_with fail
                refine (sameWords_c (HUA.out.gr (gAC.drewN _)) (HSub.out _ ((Gr.refl _).drewN _)) HNA.out).mono ?_
                rintro e wD ⟨rfl, gD⟩
                go_wp2_with fail
                refine (HA.out _ ((g0C.drewN _).trans gD)).mono ?_
                rintro e wE ⟨rfl, gE⟩
                go_wp2_with fail
                go_ret
                exact ⟨rfl, ((g0C.drewN _).trans gD).trans gE⟩
end Go.Proofs.YtnbboheaheicnaaGreatDoor
