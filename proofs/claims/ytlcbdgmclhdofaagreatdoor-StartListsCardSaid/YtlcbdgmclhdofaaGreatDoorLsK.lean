/- Starters: the reference's Seeded. -/
import Derived.Test.YtlcbdgmclhdofaaGreatDoorGInB
import Derived.Test.YtlcbdgmclhdofaaGreatDoorDrC
import Derived.Test.YtlcbdgmclhdofaaGreatDoorGLsI
namespace Go.Proofs.YtlcbdgmclhdofaaGreatDoor
open Go.RowKit Go.Lib
set_option linter.unusedSimpArgs false
set_option linter.unusedVariables false
set_option maxHeartbeats 4000000 in
set_option maxRecDepth 100000 in
theorem refSeeded_pos (xs : List EntR) (kn n b off cap : Nat) (w : World) (hn : xs.length = n) (h0 : 0 < n) (h24 : n ≤ 24) (k1 : 1 ≤ kn) (k2 : kn < 2147483647) (hr : ∀ x ∈ xs, 0 ≤ x.sd ∧ x.sd ≤ 999999999) (hc : ∀ i x, xs[i]? = some x → EntAt w b (off + i * 3) x) :
    Calls Tryz.prog 17 #[.slice (some ⟨b, off, none⟩) n cap, .int .i64 (kn : Int)] w fun e w' => ∃ u r, e = .returned u ∧ OrdL xs kn r ∧ w'.ownsRow w.heap.size 3 1 u n (nats r) ∧ Gr w w' := by
  have HD := Lib.hid (refDraw_c kn n w k1 k2 (by omega))
  have HC := Lib.hid hc
  have HN := Lib.hid hn
  have HR := Lib.hid hr
  have HLT : Hid (∀ a ∈ (drawN kn n).toList, a < n) := fun a ha => by
    have := List.mem_range.1 ((drawN_perm kn n).mem_iff.1 ha)
    omega
  clear hc hn hr
  go_enter Tryz.func17, Tryz.ntmps17
  go_wp2_with fail
  refine HD.out.mono ?_
  rintro e W1 ⟨p, cd, rfl, hp, hcd, hcm, hsz, hg1⟩
  obtain ⟨gd, rfl, hrow⟩ := hp h0
  have HRW := Lib.hid hrow
  have HSZ := Lib.hid hsz
  have HG1 := Lib.hid hg1
  clear HD hp hrow hsz hg1
  go_wp2_with fail
  go_loopw [6, 7, 8] (fun ov iv av wr => ∃ (i : Nat) (r : List Nat) (ou : Value), ou = ov ∧ i ≤ n ∧ iv = .int .i64 i ∧ Hid (r.length = i) ∧ wr.ownsRow w.heap.size 3 1 ou i (nats r) ∧ (i = 0 → ou = .slice none 0 0) ∧ Hid (RefN (keyN xs) r ((drawN kn n).toList.take i)) ∧ Gr W1 wr) (fun _ iv _ _ => n - (intOf iv).toNat)
  case atStart => exact ⟨0, [], _, rfl, Nat.zero_le _, rfl, rfl, World.ownsRow_nil _ _ _ _, fun _ => rfl, refN_nil _, Gr.refl _⟩
  case round =>
    obtain ⟨i, r, ou, rfl, hi, rfl, HLr, hown, hnil, HRf, hg⟩ := hrel
    by_cases hlt : i < n
    · obtain ⟨dv, hdv⟩ : ∃ dv, (drawN kn n).toList[i]? = some dv := ⟨_, List.getElem?_eq_getElem (by rw [Array.length_toList]; have := HSZ.out; omega)⟩
      have hdl := HLT.out dv (List.mem_of_getElem? hdv)
      obtain ⟨x, hx⟩ : ∃ x, xs[dv]? = some x := ⟨xs[dv]'(by have := HN.out; omega), List.getElem?_eq_getElem _⟩
      have hkx := keyN_at hx
      have hrx := HR.out x (List.mem_of_getElem? hx)
      have f0 := HRW.out.cell (i := i) (by have := HSZ.out; omega)
      rw [show (drawN kn n).getD i 0 = dv by
        rw [Array.getElem?_toList] at hdv
        simp [Array.getD_eq_getD_getElem?, hdv]] at f0
      have f1 := (HC.out dv x hx).sd
      replace f1 := HG1.out.cell f1
      have HLN : Hid (∀ a, a ≤ i → (r.take a ++ dv :: r.drop a).length = i + 1) := fun a ha => by
        have := HLr.out
        simp; omega
      have HTK : Hid ((drawN kn n).toList.take (i + 1) = (drawN kn n).toList.take i ++ [dv]) := by
        unfold Hid
        rw [List.take_add_one, hdv]
        rfl
      obtain ⟨po, co, rfl, hco⟩ : ∃ p c, ou = .slice p i c ∧ (0 < i → ∃ g, p = some ⟨g, 0, none⟩ ∧ i ≤ c ∧ ∀ j a, r[j]? = some a → wr.cell? ⟨g, j, none⟩ = some (.int .i64 ((a : Nat) : Int))) := by
        rcases Nat.eq_zero_or_pos i with e0 | e0
        · exact ⟨none, 0, by rw [hnil e0, e0], fun h => by omega⟩
        · obtain ⟨g, c, e1, _, _, ⟨e2, _⟩, e3⟩ := own_at hown e0
          exact ⟨_, c, e1, fun _ => ⟨g, rfl, e2, fun j a hj => e3 j _ (by unfold nats; rw [List.getElem?_map, hj]; rfl)⟩⟩
      have HCO := Lib.hid hco
      have HX := Lib.hid hx
      have HI := Lib.hid hdv
      clear hdv hco hx
      go_wp2_with fail
      go_loopg [8] i (fun gk av wr2 => ∃ a : Nat, av = .int .i64 a ∧ gk = a ∧ a ≤ i ∧ Hid (∀ j t, a ≤ j → r[j]? = some t → keyN xs dv < keyN xs t) ∧ Gr wr wr2)
      case atStart => exact ⟨i, rfl, rfl, Nat.le_refl _, fun j t hj ht => absurd (List.getElem?_eq_some_iff.1 ht).1 (by have := HLr.out; omega), Gr.refl _⟩
      case round =>
        obtain ⟨a, rfl, hgk, hai, HA, hg2⟩ := hrel
        rcases Nat.eq_zero_or_pos a with h0 | h0
        · subst h0
          have HRX : Hid (RefN (keyN xs) (r.take (0) ++ dv :: r.drop (0)) ((drawN kn n).toList.take (i + 1))) := by
            unfold Hid
            rw [HTK.out]
            exact refN_put HRf.out dv 0 (fun j t hj => by omega) HA.out
          have gd : Gr wr wr.drew := (Gr.refl wr).drew
          replace hg2 := hg2.trans gd
          replace f0 := (hg.trans hg2).cell f0
          clear gd HA
          go_wp2_with fail
          refine wp_region_held_drew (S := (fun _ => True)) (by kernel_rfl) trivial (fun hHeld => ?_)
          generalize wr.drew = V at *
          refine wpAnyH_take (i := 0) (v := (.int .i64 ((0 : Nat) : Int))) (op_at rfl) (by kernel_rfl) (by kernel_rfl) (by kernel_rfl) (fun _ _ _ h => h) (Or.inl ⟨rfl, fun w hSw => ?_⟩) (by assumption) ?_
          · (try dsimp only at hSw); go_simp; try with_reducible rfl
          (try simp only [Act.put, List.setIfInBounds_toArray, List.set_cons_zero, List.set_cons_succ])
          refine wpAnyH_take (i := 1) (v := (.bool false)) (op_at rfl) (by kernel_rfl) (by kernel_rfl) (by kernel_rfl) (fun _ _ _ h => h) (Or.inl ⟨rfl, fun w hSw => ?_⟩) (by assumption) ?_
          · (try dsimp only at hSw); go_simp; try with_reducible rfl
          (try simp only [Act.put, List.setIfInBounds_toArray, List.set_cons_zero, List.set_cons_succ])
          refine wpAnyH_take (i := 2) (v := (.bool false)) (op_at rfl) (by kernel_rfl) (by kernel_rfl) (by kernel_rfl) (fun _ _ _ h => h) (Or.inl ⟨rfl, fun w hSw => ?_⟩) (by assumption) ?_
          · (try dsimp only at hSw); go_simp; try with_reducible rfl
          (try simp only [Act.put, List.setIfInBounds_toArray, List.set_cons_zero, List.set_cons_succ])
          refine wpAnyH_take (i := 3) (v := undef) (op_at rfl) (by kernel_rfl) (by kernel_rfl) (by kernel_rfl) (fun _ _ _ h => h) (Or.inr ⟨rfl, rfl⟩) (by assumption) ?_
          (try simp only [Act.put, List.setIfInBounds_toArray, List.set_cons_zero, List.set_cons_succ])
          refine wpAnyH_take (i := 4) (v := undef) (op_at rfl) (by kernel_rfl) (by kernel_rfl) (by kernel_rfl) (fun _ _ _ h => h) (Or.inr ⟨rfl, rfl⟩) (by assumption) ?_
          (try simp only [Act.put, List.setIfInBounds_toArray, List.set_cons_zero, List.set_cons_succ])
          refine wpAnyH_take (i := 5) (v := undef) (op_at rfl) (by kernel_rfl) (by kernel_rfl) (by kernel_rfl) (fun _ _ _ h => h) (Or.inr ⟨rfl, rfl⟩) (by assumption) ?_
          (try simp only [Act.put, List.setIfInBounds_toArray, List.set_cons_zero, List.set_cons_succ])
          refine wpAnyH_take (i := 6) (v := undef) (op_at rfl) (by kernel_rfl) (by kernel_rfl) (by kernel_rfl) (fun _ _ _ h => h) (Or.inr ⟨rfl, rfl⟩) (by assumption) ?_
          (try simp only [Act.put, List.setIfInBounds_toArray, List.set_cons_zero, List.set_cons_succ])
          refine wpAnyH_take (i := 7) (v := undef) (op_at rfl) (by kernel_rfl) (by kernel_rfl) (by kernel_rfl) (fun _ _ _ h => h) (Or.inr ⟨rfl, rfl⟩) (by assumption) ?_
          (try simp only [Act.put, List.setIfInBounds_toArray, List.set_cons_zero, List.set_cons_succ])
          refine wpAnyH_take (i := 8) (v := undef) (op_at rfl) (by kernel_rfl) (by kernel_rfl) (by kernel_rfl) (fun _ _ _ h => h) (Or.inr ⟨rfl, rfl⟩) (by assumption) ?_
          (try simp only [Act.put, List.setIfInBounds_toArray, List.set_cons_zero, List.set_cons_succ])
          refine wpAnyH_take (i := 9) (v := undef) (op_at rfl) (by kernel_rfl) (by kernel_rfl) (by kernel_rfl) (fun _ _ _ h => h) (Or.inr ⟨rfl, rfl⟩) (by assumption) ?_
          (try simp only [Act.put, List.setIfInBounds_toArray, List.set_cons_zero, List.set_cons_succ])
          refine wpAnyH_take (i := 10) (v := undef) (op_at rfl) (by kernel_rfl) (by kernel_rfl) (by kernel_rfl) (fun _ _ _ h => h) (Or.inr ⟨rfl, rfl⟩) (by assumption) ?_
          (try simp only [Act.put, List.setIfInBounds_toArray, List.set_cons_zero, List.set_cons_succ])
          refine wpAnyH_take (i := 11) (v := undef) (op_at rfl) (by kernel_rfl) (by kernel_rfl) (by kernel_rfl) (fun _ _ _ h => h) (Or.inr ⟨rfl, rfl⟩) (by assumption) ?_
          (try simp only [Act.put, List.setIfInBounds_toArray, List.set_cons_zero, List.set_cons_succ])
          refine wpAnyH_take (i := 12) (v := undef) (op_at rfl) (by kernel_rfl) (by kernel_rfl) (by kernel_rfl) (fun _ _ _ h => h) (Or.inr ⟨rfl, rfl⟩) (by assumption) ?_
          (try simp only [Act.put, List.setIfInBounds_toArray, List.set_cons_zero, List.set_cons_succ])
          refine wpAnyH_take (i := 13) (v := undef) (op_at rfl) (by kernel_rfl) (by kernel_rfl) (by kernel_rfl) (fun _ _ _ h => h) (Or.inr ⟨rfl, rfl⟩) (by assumption) ?_
          (try simp only [Act.put, List.setIfInBounds_toArray, List.set_cons_zero, List.set_cons_succ])
          refine wpAnyH_take (i := 14) (v := undef) (op_at rfl) (by kernel_rfl) (by kernel_rfl) (by kernel_rfl) (fun _ _ _ h => h) (Or.inr ⟨rfl, rfl⟩) (by assumption) ?_
          (try simp only [Act.put, List.setIfInBounds_toArray, List.set_cons_zero, List.set_cons_succ])
          refine wpAnyH_take (i := 15) (v := undef) (op_at rfl) (by kernel_rfl) (by kernel_rfl) (by kernel_rfl) (fun _ _ _ h => h) (Or.inr ⟨rfl, rfl⟩) (by assumption) ?_
          (try simp only [Act.put, List.setIfInBounds_toArray, List.set_cons_zero, List.set_cons_succ])
          refine wpAnyH_take (i := 16) (v := undef) (op_at rfl) (by kernel_rfl) (by kernel_rfl) (by kernel_rfl) (fun _ _ _ h => h) (Or.inr ⟨rfl, rfl⟩) (by assumption) ?_
          (try simp only [Act.put, List.setIfInBounds_toArray, List.set_cons_zero, List.set_cons_succ])
          refine wpAnyH_take (i := 17) (v := undef) (op_at rfl) (by kernel_rfl) (by kernel_rfl) (by kernel_rfl) (fun _ _ _ h => h) (Or.inr ⟨rfl, rfl⟩) (by assumption) ?_
          (try simp only [Act.put, List.setIfInBounds_toArray, List.set_cons_zero, List.set_cons_succ])
          refine wpAnyH_take (i := 18) (v := undef) (op_at rfl) (by kernel_rfl) (by kernel_rfl) (by kernel_rfl) (fun _ _ _ h => h) (Or.inr ⟨rfl, rfl⟩) (by assumption) ?_
          (try simp only [Act.put, List.setIfInBounds_toArray, List.set_cons_zero, List.set_cons_succ])
          refine wpAnyH_take (i := 19) (v := undef) (op_at rfl) (by kernel_rfl) (by kernel_rfl) (by kernel_rfl) (fun _ _ _ h => h) (Or.inr ⟨rfl, rfl⟩) (by assumption) ?_
          (try simp only [Act.put, List.setIfInBounds_toArray, List.set_cons_zero, List.set_cons_succ])
          refine wpAnyH_take (i := 20) (v := undef) (op_at rfl) (by kernel_rfl) (by kernel_rfl) (by kernel_rfl) (fun _ _ _ h => h) (Or.inr ⟨rfl, rfl⟩) (by assumption) ?_
          (try simp only [Act.put, List.setIfInBounds_toArray, List.set_cons_zero, List.set_cons_succ])
          refine wpAnyH_take (i := 21) (v := (.bool false)) (op_at rfl) (by kernel_rfl) (by kernel_rfl) (by kernel_rfl) (fun _ _ _ h => h) (Or.inl ⟨rfl, fun w hSw => ?_⟩) (by assumption) ?_
          · (try dsimp only at hSw); go_simp; try with_reducible rfl
          (try simp only [Act.put, List.setIfInBounds_toArray, List.set_cons_zero, List.set_cons_succ])
          refine wpAnyH_done (by kernel_rfl) ?_ _
          have HOW := Lib.hid (own_kept hown (hg2))
          go_wp2_with fail
          refine (insert_c dv HOW.out hnil HLr.out (by omega) (show 0 ≤ i by omega)).mono ?_
          rintro e W9 ⟨v', rfl, hown', hg9⟩
          have HO9 := Lib.hid (own_low hown' (Nat.le_trans HG1.out.size (Nat.le_trans hg.size hg2.size)))
          have HG9 := Lib.hid ((hg.trans hg2).trans hg9)
          clear hown' hg9
          go_wp2_with fail
          go_roundw
          case rel => exact ⟨i + 1, r.take (0) ++ dv :: r.drop (0), _, rfl, by omega, by go_num, HLN.out (0) (by omega), HO9.out, fun h => absurd h (by omega), HRX, HG9.out⟩
          case measure => simp [intOf]; omega
        · obtain ⟨a, rfl⟩ : ∃ q, a = q + 1 := ⟨a - 1, by omega⟩
          obtain ⟨gx, rfl, hic, hrw⟩ := HCO.out (by omega)
          obtain ⟨tv, htv⟩ : ∃ tv, r[a]? = some tv := ⟨_, List.getElem?_eq_getElem (by have := HLr.out; omega)⟩
          have htl : tv < n := by
            have h1 : tv ∈ r.filter (fun x => keyN xs x == keyN xs tv) := List.mem_filter.2 ⟨List.mem_of_getElem? htv, by simp⟩
            rw [HRf.out.flt] at h1
            exact HLT.out tv (List.mem_of_mem_take (List.mem_filter.1 h1).1)
          obtain ⟨y, hy⟩ : ∃ y, xs[tv]? = some y := ⟨xs[tv]'(by have := HN.out; omega), List.getElem?_eq_getElem _⟩
          have hky := keyN_at hy
          have hry := HR.out y (List.mem_of_getElem? hy)
          have f2 := hg2.cell (hrw a tv htv)
          have f3 := ((HG1.out.trans hg).trans hg2).cell (HC.out tv y hy).sd
          replace f0 := (hg.trans hg2).cell f0
          replace f1 := (hg.trans hg2).cell f1
          have hdi : (dv : Int) < n := by omega
          have hti : (tv : Int) < n := by omega
          have hii : (i : Int) < n := by omega
          have hai2 : (a : Int) < i := by omega
          have ha0 : decide ((0 : Int) < (a : Int) + 1) = true := decide_eq_true (by omega)
          have haw : IntKind.i64.wrap (a : Int) = a := by rw [IntKind.wrap_i64]; omega
          have gd : Gr wr wr.drew := (Gr.refl wr).drew
          replace hg2 := hg2.trans gd
          replace f0 := gd.cell f0
          replace f1 := gd.cell f1
          replace f2 := gd.cell f2
          replace f3 := gd.cell f3
          have HTV := Lib.hid htv
          clear gd hrw htv hy
          by_cases hbb : rankE x < rankE y
          · have HB : Hid (∀ W, Calls Tryz.prog 55 #[.int .i64 x.sd, .int .i64 y.sd] W fun e w' => e = .returned (.bool true) ∧ W = w') := fun W => by
              have := before6_c x.sd y.sd W
              rwa [bef_rank hrx.1 hrx.2 hry.1 hry.2, decide_eq_true hbb] at this
            have HA2 : Hid (∀ j t, a ≤ j → r[j]? = some t → keyN xs dv < keyN xs t) := fun j t hj ht => by
              rcases Nat.lt_or_ge a j with q | q
              · exact HA.out j t (by omega) ht
              · obtain rfl : j = a := by omega
                rw [HTV.out] at ht
                cases ht
                rw [hkx, hky]
                exact hbb
            clear hbb hkx hky hrx hry HA
            go_wp2_with fail
            refine wp_region_held_drew (S := (fun w' => w'.cell? ⟨gd, i, none⟩ = some (.int .i64 (dv : Int)) ∧ w'.cell? ⟨b, off + dv * 3 + 2, none⟩ = some (.int .i64 x.sd) ∧ w'.cell? ⟨gx, a, none⟩ = some (.int .i64 (tv : Int)) ∧ w'.cell? ⟨b, off + tv * 3 + 2, none⟩ = some (.int .i64 y.sd))) (by kernel_rfl) ⟨f0, f1, f2, f3⟩ (fun hHeld => ?_)
            generalize wr.drew = V at *
            refine wpAnyH_take (i := 0) (v := (.int .i64 ((a : Int) + 1))) (op_at rfl) (by kernel_rfl) (by kernel_rfl) (by kernel_rfl) (fun _ _ _ h => h) (Or.inl ⟨rfl, fun w hSw => ?_⟩) (by assumption) ?_
            · (try dsimp only at hSw); go_simp; try with_reducible rfl
            (try simp only [Act.put, List.setIfInBounds_toArray, List.set_cons_zero, List.set_cons_succ])
            refine wpAnyH_take (i := 1) (v := (.bool true)) (op_at rfl) (by kernel_rfl) (by kernel_rfl) (by kernel_rfl) (fun _ _ _ h => h) (Or.inl ⟨rfl, fun w hSw => ?_⟩) (by assumption) ?_
            · (try dsimp only at hSw); go_simp; try with_reducible rfl
            (try simp only [Act.put, List.setIfInBounds_toArray, List.set_cons_zero, List.set_cons_succ])
            refine wpAnyH_take (i := 2) (v := (.bool true)) (op_at rfl) (by kernel_rfl) (by kernel_rfl) (by kernel_rfl) (fun _ _ _ h => h) (Or.inl ⟨rfl, fun w hSw => ?_⟩) (by assumption) ?_
            · (try dsimp only at hSw); go_simp; try with_reducible rfl
            (try simp only [Act.put, List.setIfInBounds_toArray, List.set_cons_zero, List.set_cons_succ])
            refine wpAnyH_take (i := 3) (v := (.slice (some ⟨b, off, none⟩) n cap)) (op_at rfl) (by kernel_rfl) (by kernel_rfl) (by kernel_rfl) (fun _ _ _ h => h) (Or.inl ⟨rfl, fun w hSw => ?_⟩) (by assumption) ?_
            · (try dsimp only at hSw); go_simp; try with_reducible rfl
            (try simp only [Act.put, List.setIfInBounds_toArray, List.set_cons_zero, List.set_cons_succ])
            refine wpAnyH_take (i := 4) (v := (.slice (some ⟨gd, 0, none⟩) n cd)) (op_at rfl) (by kernel_rfl) (by kernel_rfl) (by kernel_rfl) (fun _ _ _ h => h) (Or.inl ⟨rfl, fun w hSw => ?_⟩) (by assumption) ?_
            · (try dsimp only at hSw); go_simp; try with_reducible rfl
            (try simp only [Act.put, List.setIfInBounds_toArray, List.set_cons_zero, List.set_cons_succ])
            refine wpAnyH_take (i := 5) (v := (.int .i64 i)) (op_at rfl) (by kernel_rfl) (by kernel_rfl) (by kernel_rfl) (fun _ _ _ h => h) (Or.inl ⟨rfl, fun w hSw => ?_⟩) (by assumption) ?_
            · (try dsimp only at hSw); go_simp; try with_reducible rfl
            (try simp only [Act.put, List.setIfInBounds_toArray, List.set_cons_zero, List.set_cons_succ])
            refine wpAnyH_take (i := 6) (v := (.pointer (some ⟨gd, i, none⟩))) (op_at rfl) (by kernel_rfl) (by kernel_rfl) (by kernel_rfl) (fun _ _ _ h => h) (Or.inl ⟨rfl, fun w hSw => ?_⟩) (by assumption) ?_
            · (try dsimp only at hSw); go_simp; try with_reducible rfl
            (try simp only [Act.put, List.setIfInBounds_toArray, List.set_cons_zero, List.set_cons_succ])
            refine wpAnyH_take (i := 7) (v := (.int .i64 (dv : Int))) (op_at rfl) (by kernel_rfl) (by kernel_rfl) (by kernel_rfl) (fun _ _ _ h => h) (Or.inl ⟨rfl, fun w hSw => ?_⟩) (by assumption) ?_
            · (try dsimp only at hSw); go_simp; try with_reducible rfl
            (try simp only [Act.put, List.setIfInBounds_toArray, List.set_cons_zero, List.set_cons_succ])
            refine wpAnyH_take (i := 8) (v := (.pointer (some ⟨b, off + dv * 3, none⟩))) (op_at rfl) (by kernel_rfl) (by kernel_rfl) (by kernel_rfl) (fun _ _ _ h => h) (Or.inl ⟨rfl, fun w hSw => ?_⟩) (by assumption) ?_
            · (try dsimp only at hSw); go_simp; try with_reducible rfl
            (try simp only [Act.put, List.setIfInBounds_toArray, List.set_cons_zero, List.set_cons_succ])
            refine wpAnyH_take (i := 9) (v := (.pointer (some ⟨b, off + dv * 3 + 2, none⟩))) (op_at rfl) (by kernel_rfl) (by kernel_rfl) (by kernel_rfl) (fun _ _ _ h => h) (Or.inl ⟨rfl, fun w hSw => ?_⟩) (by assumption) ?_
            · (try dsimp only at hSw); go_simp; try with_reducible rfl
            (try simp only [Act.put, List.setIfInBounds_toArray, List.set_cons_zero, List.set_cons_succ])
            refine wpAnyH_take (i := 10) (v := (.int .i64 x.sd)) (op_at rfl) (by kernel_rfl) (by kernel_rfl) (by kernel_rfl) (fun _ _ _ h => h) (Or.inl ⟨rfl, fun w hSw => ?_⟩) (by assumption) ?_
            · (try dsimp only at hSw); go_simp; try with_reducible rfl
            (try simp only [Act.put, List.setIfInBounds_toArray, List.set_cons_zero, List.set_cons_succ])
            refine wpAnyH_take (i := 11) (v := (.slice (some ⟨b, off, none⟩) n cap)) (op_at rfl) (by kernel_rfl) (by kernel_rfl) (by kernel_rfl) (fun _ _ _ h => h) (Or.inl ⟨rfl, fun w hSw => ?_⟩) (by assumption) ?_
            · (try dsimp only at hSw); go_simp; try with_reducible rfl
            (try simp only [Act.put, List.setIfInBounds_toArray, List.set_cons_zero, List.set_cons_succ])
            refine wpAnyH_take (i := 12) (v := (.slice (some ⟨gx, 0, none⟩) i co)) (op_at rfl) (by kernel_rfl) (by kernel_rfl) (by kernel_rfl) (fun _ _ _ h => h) (Or.inl ⟨rfl, fun w hSw => ?_⟩) (by assumption) ?_
            · (try dsimp only at hSw); go_simp; try with_reducible rfl
            (try simp only [Act.put, List.setIfInBounds_toArray, List.set_cons_zero, List.set_cons_succ])
            refine wpAnyH_take (i := 13) (v := (.int .i64 ((a : Int) + 1))) (op_at rfl) (by kernel_rfl) (by kernel_rfl) (by kernel_rfl) (fun _ _ _ h => h) (Or.inl ⟨rfl, fun w hSw => ?_⟩) (by assumption) ?_
            · (try dsimp only at hSw); go_simp; try with_reducible rfl
            (try simp only [Act.put, List.setIfInBounds_toArray, List.set_cons_zero, List.set_cons_succ])
            refine wpAnyH_take (i := 14) (v := (.int .i64 (a : Int))) (op_at rfl) (by kernel_rfl) (by kernel_rfl) (by kernel_rfl) (fun _ _ _ h => h) (Or.inl ⟨rfl, fun w hSw => ?_⟩) (by assumption) ?_
            · (try dsimp only at hSw); go_simp; try with_reducible rfl
            (try simp only [Act.put, List.setIfInBounds_toArray, List.set_cons_zero, List.set_cons_succ])
            refine wpAnyH_take (i := 15) (v := (.pointer (some ⟨gx, a, none⟩))) (op_at rfl) (by kernel_rfl) (by kernel_rfl) (by kernel_rfl) (fun _ _ _ h => h) (Or.inl ⟨rfl, fun w hSw => ?_⟩) (by assumption) ?_
            · (try dsimp only at hSw); go_simp; try with_reducible rfl
            (try simp only [Act.put, List.setIfInBounds_toArray, List.set_cons_zero, List.set_cons_succ])
            refine wpAnyH_take (i := 16) (v := (.int .i64 (tv : Int))) (op_at rfl) (by kernel_rfl) (by kernel_rfl) (by kernel_rfl) (fun _ _ _ h => h) (Or.inl ⟨rfl, fun w hSw => ?_⟩) (by assumption) ?_
            · (try dsimp only at hSw); go_simp; try with_reducible rfl
            (try simp only [Act.put, List.setIfInBounds_toArray, List.set_cons_zero, List.set_cons_succ])
            refine wpAnyH_take (i := 17) (v := (.pointer (some ⟨b, off + tv * 3, none⟩))) (op_at rfl) (by kernel_rfl) (by kernel_rfl) (by kernel_rfl) (fun _ _ _ h => h) (Or.inl ⟨rfl, fun w hSw => ?_⟩) (by assumption) ?_
            · (try dsimp only at hSw); go_simp; try with_reducible rfl
            (try simp only [Act.put, List.setIfInBounds_toArray, List.set_cons_zero, List.set_cons_succ])
            refine wpAnyH_take (i := 18) (v := (.pointer (some ⟨b, off + tv * 3 + 2, none⟩))) (op_at rfl) (by kernel_rfl) (by kernel_rfl) (by kernel_rfl) (fun _ _ _ h => h) (Or.inl ⟨rfl, fun w hSw => ?_⟩) (by assumption) ?_
            · (try dsimp only at hSw); go_simp; try with_reducible rfl
            (try simp only [Act.put, List.setIfInBounds_toArray, List.set_cons_zero, List.set_cons_succ])
            refine wpAnyH_take (i := 19) (v := (.int .i64 y.sd)) (op_at rfl) (by kernel_rfl) (by kernel_rfl) (by kernel_rfl) (fun _ _ _ h => h) (Or.inl ⟨rfl, fun w hSw => ?_⟩) (by assumption) ?_
            · (try dsimp only at hSw); go_simp; try with_reducible rfl
            (try simp only [Act.put, List.setIfInBounds_toArray, List.set_cons_zero, List.set_cons_succ])
            refine wpAnyH_ready (rs := [20]) (by kernel_rfl) (by simp) (AllReadyH.cons (op_at rfl) (fun K hK => ?_) AllReadyH.nil)
            go_simp
            (refine (HB.out _).mono ?_; rintro e w8 ⟨rfl, rfl⟩)
            go_wp2_with fail
            refine hK.out _ _ ⟨f0, f1, f2, f3⟩ (fun hHeld => ?_)
            clear hK K
            (try simp only [Act.put, List.setIfInBounds_toArray, List.set_cons_zero, List.set_cons_succ])
            refine wpAnyH_take (i := 21) (v := (.bool true)) (op_at rfl) (by kernel_rfl) (by kernel_rfl) (by kernel_rfl) (fun _ _ _ h => h) (Or.inl ⟨rfl, fun w hSw => ?_⟩) (by assumption) ?_
            · (try dsimp only at hSw); go_simp; try with_reducible rfl
            (try simp only [Act.put, List.setIfInBounds_toArray, List.set_cons_zero, List.set_cons_succ])
            refine wpAnyH_done (by kernel_rfl) ?_ _
            go_wp2_with fail
            go_roundg (gk - 1)
            case measure => omega
            case rel => exact ⟨a, by go_num, by omega, by omega, HA2, hg2⟩
          · have HB : Hid (∀ W, Calls Tryz.prog 55 #[.int .i64 x.sd, .int .i64 y.sd] W fun e w' => e = .returned (.bool false) ∧ W = w') := fun W => by
              have := before6_c x.sd y.sd W
              rwa [bef_rank hrx.1 hrx.2 hry.1 hry.2, decide_eq_false hbb] at this
            have HRX : Hid (RefN (keyN xs) (r.take (a + 1) ++ dv :: r.drop (a + 1)) ((drawN kn n).toList.take (i + 1))) := by
              unfold Hid
              rw [HTK.out]
              exact refN_put HRf.out dv (a + 1) (ascN_low HRf.out.asc HTV.out (by rw [hkx, hky]; omega)) HA.out
            clear hbb hkx hky hrx hry HA
            go_wp2_with fail
            refine wp_region_held_drew (S := (fun w' => w'.cell? ⟨gd, i, none⟩ = some (.int .i64 (dv : Int)) ∧ w'.cell? ⟨b, off + dv * 3 + 2, none⟩ = some (.int .i64 x.sd) ∧ w'.cell? ⟨gx, a, none⟩ = some (.int .i64 (tv : Int)) ∧ w'.cell? ⟨b, off + tv * 3 + 2, none⟩ = some (.int .i64 y.sd))) (by kernel_rfl) ⟨f0, f1, f2, f3⟩ (fun hHeld => ?_)
            generalize wr.drew = V at *
            refine wpAnyH_take (i := 0) (v := (.int .i64 ((a : Int) + 1))) (op_at rfl) (by kernel_rfl) (by kernel_rfl) (by kernel_rfl) (fun _ _ _ h => h) (Or.inl ⟨rfl, fun w hSw => ?_⟩) (by assumption) ?_
            · (try dsimp only at hSw); go_simp; try with_reducible rfl
            (try simp only [Act.put, List.setIfInBounds_toArray, List.set_cons_zero, List.set_cons_succ])
            refine wpAnyH_take (i := 1) (v := (.bool true)) (op_at rfl) (by kernel_rfl) (by kernel_rfl) (by kernel_rfl) (fun _ _ _ h => h) (Or.inl ⟨rfl, fun w hSw => ?_⟩) (by assumption) ?_
            · (try dsimp only at hSw); go_simp; try with_reducible rfl
            (try simp only [Act.put, List.setIfInBounds_toArray, List.set_cons_zero, List.set_cons_succ])
            refine wpAnyH_take (i := 2) (v := (.bool true)) (op_at rfl) (by kernel_rfl) (by kernel_rfl) (by kernel_rfl) (fun _ _ _ h => h) (Or.inl ⟨rfl, fun w hSw => ?_⟩) (by assumption) ?_
            · (try dsimp only at hSw); go_simp; try with_reducible rfl
            (try simp only [Act.put, List.setIfInBounds_toArray, List.set_cons_zero, List.set_cons_succ])
            refine wpAnyH_take (i := 3) (v := (.slice (some ⟨b, off, none⟩) n cap)) (op_at rfl) (by kernel_rfl) (by kernel_rfl) (by kernel_rfl) (fun _ _ _ h => h) (Or.inl ⟨rfl, fun w hSw => ?_⟩) (by assumption) ?_
            · (try dsimp only at hSw); go_simp; try with_reducible rfl
            (try simp only [Act.put, List.setIfInBounds_toArray, List.set_cons_zero, List.set_cons_succ])
            refine wpAnyH_take (i := 4) (v := (.slice (some ⟨gd, 0, none⟩) n cd)) (op_at rfl) (by kernel_rfl) (by kernel_rfl) (by kernel_rfl) (fun _ _ _ h => h) (Or.inl ⟨rfl, fun w hSw => ?_⟩) (by assumption) ?_
            · (try dsimp only at hSw); go_simp; try with_reducible rfl
            (try simp only [Act.put, List.setIfInBounds_toArray, List.set_cons_zero, List.set_cons_succ])
            refine wpAnyH_take (i := 5) (v := (.int .i64 i)) (op_at rfl) (by kernel_rfl) (by kernel_rfl) (by kernel_rfl) (fun _ _ _ h => h) (Or.inl ⟨rfl, fun w hSw => ?_⟩) (by assumption) ?_
            · (try dsimp only at hSw); go_simp; try with_reducible rfl
            (try simp only [Act.put, List.setIfInBounds_toArray, List.set_cons_zero, List.set_cons_succ])
            refine wpAnyH_take (i := 6) (v := (.pointer (some ⟨gd, i, none⟩))) (op_at rfl) (by kernel_rfl) (by kernel_rfl) (by kernel_rfl) (fun _ _ _ h => h) (Or.inl ⟨rfl, fun w hSw => ?_⟩) (by assumption) ?_
            · (try dsimp only at hSw); go_simp; try with_reducible rfl
            (try simp only [Act.put, List.setIfInBounds_toArray, List.set_cons_zero, List.set_cons_succ])
            refine wpAnyH_take (i := 7) (v := (.int .i64 (dv : Int))) (op_at rfl) (by kernel_rfl) (by kernel_rfl) (by kernel_rfl) (fun _ _ _ h => h) (Or.inl ⟨rfl, fun w hSw => ?_⟩) (by assumption) ?_
            · (try dsimp only at hSw); go_simp; try with_reducible rfl
            (try simp only [Act.put, List.setIfInBounds_toArray, List.set_cons_zero, List.set_cons_succ])
            refine wpAnyH_take (i := 8) (v := (.pointer (some ⟨b, off + dv * 3, none⟩))) (op_at rfl) (by kernel_rfl) (by kernel_rfl) (by kernel_rfl) (fun _ _ _ h => h) (Or.inl ⟨rfl, fun w hSw => ?_⟩) (by assumption) ?_
            · (try dsimp only at hSw); go_simp; try with_reducible rfl
            (try simp only [Act.put, List.setIfInBounds_toArray, List.set_cons_zero, List.set_cons_succ])
            refine wpAnyH_take (i := 9) (v := (.pointer (some ⟨b, off + dv * 3 + 2, none⟩))) (op_at rfl) (by kernel_rfl) (by kernel_rfl) (by kernel_rfl) (fun _ _ _ h => h) (Or.inl ⟨rfl, fun w hSw => ?_⟩) (by assumption) ?_
            · (try dsimp only at hSw); go_simp; try with_reducible rfl
            (try simp only [Act.put, List.setIfInBounds_toArray, List.set_cons_zero, List.set_cons_succ])
            refine wpAnyH_take (i := 10) (v := (.int .i64 x.sd)) (op_at rfl) (by kernel_rfl) (by kernel_rfl) (by kernel_rfl) (fun _ _ _ h => h) (Or.inl ⟨rfl, fun w hSw => ?_⟩) (by assumption) ?_
            · (try dsimp only at hSw); go_simp; try with_reducible rfl
            (try simp only [Act.put, List.setIfInBounds_toArray, List.set_cons_zero, List.set_cons_succ])
            refine wpAnyH_take (i := 11) (v := (.slice (some ⟨b, off, none⟩) n cap)) (op_at rfl) (by kernel_rfl) (by kernel_rfl) (by kernel_rfl) (fun _ _ _ h => h) (Or.inl ⟨rfl, fun w hSw => ?_⟩) (by assumption) ?_
            · (try dsimp only at hSw); go_simp; try with_reducible rfl
            (try simp only [Act.put, List.setIfInBounds_toArray, List.set_cons_zero, List.set_cons_succ])
            refine wpAnyH_take (i := 12) (v := (.slice (some ⟨gx, 0, none⟩) i co)) (op_at rfl) (by kernel_rfl) (by kernel_rfl) (by kernel_rfl) (fun _ _ _ h => h) (Or.inl ⟨rfl, fun w hSw => ?_⟩) (by assumption) ?_
            · (try dsimp only at hSw); go_simp; try with_reducible rfl
            (try simp only [Act.put, List.setIfInBounds_toArray, List.set_cons_zero, List.set_cons_succ])
            refine wpAnyH_take (i := 13) (v := (.int .i64 ((a : Int) + 1))) (op_at rfl) (by kernel_rfl) (by kernel_rfl) (by kernel_rfl) (fun _ _ _ h => h) (Or.inl ⟨rfl, fun w hSw => ?_⟩) (by assumption) ?_
            · (try dsimp only at hSw); go_simp; try with_reducible rfl
            (try simp only [Act.put, List.setIfInBounds_toArray, List.set_cons_zero, List.set_cons_succ])
            refine wpAnyH_take (i := 14) (v := (.int .i64 (a : Int))) (op_at rfl) (by kernel_rfl) (by kernel_rfl) (by kernel_rfl) (fun _ _ _ h => h) (Or.inl ⟨rfl, fun w hSw => ?_⟩) (by assumption) ?_
            · (try dsimp only at hSw); go_simp; try with_reducible rfl
            (try simp only [Act.put, List.setIfInBounds_toArray, List.set_cons_zero, List.set_cons_succ])
            refine wpAnyH_take (i := 15) (v := (.pointer (some ⟨gx, a, none⟩))) (op_at rfl) (by kernel_rfl) (by kernel_rfl) (by kernel_rfl) (fun _ _ _ h => h) (Or.inl ⟨rfl, fun w hSw => ?_⟩) (by assumption) ?_
            · (try dsimp only at hSw); go_simp; try with_reducible rfl
            (try simp only [Act.put, List.setIfInBounds_toArray, List.set_cons_zero, List.set_cons_succ])
            refine wpAnyH_take (i := 16) (v := (.int .i64 (tv : Int))) (op_at rfl) (by kernel_rfl) (by kernel_rfl) (by kernel_rfl) (fun _ _ _ h => h) (Or.inl ⟨rfl, fun w hSw => ?_⟩) (by assumption) ?_
            · (try dsimp only at hSw); go_simp; try with_reducible rfl
            (try simp only [Act.put, List.setIfInBounds_toArray, List.set_cons_zero, List.set_cons_succ])
            refine wpAnyH_take (i := 17) (v := (.pointer (some ⟨b, off + tv * 3, none⟩))) (op_at rfl) (by kernel_rfl) (by kernel_rfl) (by kernel_rfl) (fun _ _ _ h => h) (Or.inl ⟨rfl, fun w hSw => ?_⟩) (by assumption) ?_
            · (try dsimp only at hSw); go_simp; try with_reducible rfl
            (try simp only [Act.put, List.setIfInBounds_toArray, List.set_cons_zero, List.set_cons_succ])
            refine wpAnyH_take (i := 18) (v := (.pointer (some ⟨b, off + tv * 3 + 2, none⟩))) (op_at rfl) (by kernel_rfl) (by kernel_rfl) (by kernel_rfl) (fun _ _ _ h => h) (Or.inl ⟨rfl, fun w hSw => ?_⟩) (by assumption) ?_
            · (try dsimp only at hSw); go_simp; try with_reducible rfl
            (try simp only [Act.put, List.setIfInBounds_toArray, List.set_cons_zero, List.set_cons_succ])
            refine wpAnyH_take (i := 19) (v := (.int .i64 y.sd)) (op_at rfl) (by kernel_rfl) (by kernel_rfl) (by kernel_rfl) (fun _ _ _ h => h) (Or.inl ⟨rfl, fun w hSw => ?_⟩) (by assumption) ?_
            · (try dsimp only at hSw); go_simp; try with_reducible rfl
            (try simp only [Act.put, List.setIfInBounds_toArray, List.set_cons_zero, List.set_cons_succ])
            refine wpAnyH_ready (rs := [20]) (by kernel_rfl) (by simp) (AllReadyH.cons (op_at rfl) (fun K hK => ?_) AllReadyH.nil)
            go_simp
            (refine (HB.out _).mono ?_; rintro e w8 ⟨rfl, rfl⟩)
            go_wp2_with fail
            refine hK.out _ _ ⟨f0, f1, f2, f3⟩ (fun hHeld => ?_)
            clear hK K
            (try simp only [Act.put, List.setIfInBounds_toArray, List.set_cons_zero, List.set_cons_succ])
            refine wpAnyH_take (i := 21) (v := (.bool false)) (op_at rfl) (by kernel_rfl) (by kernel_rfl) (by kernel_rfl) (fun _ _ _ h => h) (Or.inl ⟨rfl, fun w hSw => ?_⟩) (by assumption) ?_
            · (try dsimp only at hSw); go_simp; try with_reducible rfl
            (try simp only [Act.put, List.setIfInBounds_toArray, List.set_cons_zero, List.set_cons_succ])
            refine wpAnyH_done (by kernel_rfl) ?_ _
            have HOW := Lib.hid (own_kept hown (hg2))
            go_wp2_with fail
            refine (insert_c dv HOW.out hnil HLr.out (by omega) (show a + 1 ≤ i by omega)).mono ?_
            rintro e W9 ⟨v', rfl, hown', hg9⟩
            have HO9 := Lib.hid (own_low hown' (Nat.le_trans HG1.out.size (Nat.le_trans hg.size hg2.size)))
            have HG9 := Lib.hid ((hg.trans hg2).trans hg9)
            clear hown' hg9
            go_wp2_with fail
            go_roundw
            case rel => exact ⟨i + 1, r.take (a + 1) ++ dv :: r.drop (a + 1), _, rfl, by omega, by go_num, HLN.out (a + 1) (by omega), HO9.out, fun h => absurd h (by omega), HRX, HG9.out⟩
            case measure => simp [intOf]; omega
    · obtain hin : i = n := by omega
      subst hin
      have hx := HRf.out
      rw [List.take_of_length_le (by rw [Array.length_toList, HSZ.out]; exact Nat.le_refl _)] at hx
      have HO : Hid (OrdL xs kn r) := ord_of_ref (by rw [HN.out]; exact HLr.out) (by rw [HN.out]; exact hx)
      have HOW := Lib.hid hown
      have HGG := Lib.hid (HG1.out.trans hg)
      clear hx
      go_wp2_with fail
      go_ret
      exact ⟨_, r, rfl, HO.out, HOW.out, HGG.out⟩
end Go.Proofs.YtlcbdgmclhdofaaGreatDoor
