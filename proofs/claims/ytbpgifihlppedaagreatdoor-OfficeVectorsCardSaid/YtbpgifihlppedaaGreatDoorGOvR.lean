/- Archives (chapter 10): the reference: Gaps. -/
import Derived.Test.YtbpgifihlppedaaGreatDoorOvQ
namespace Go.Proofs.YtbpgifihlppedaaGreatDoor
open Go.RowKit Go.Lib
set_option linter.unusedSimpArgs false
set_option linter.unusedVariables false
set_option maxRecDepth 100000 in
/-- one more mark, appended -/
theorem step_mk {w : World} {o : Oper} {a : Act} {K : Act → World → Prop} {Q : Exit → Act → World → Prop} (TS T : TypeId) (hu : Tryz.prog.underlying TS = some (.slice T)) (hT : (Tryz.prog.info? T).map (fun i => (i.zero, i.size, i.bytes)) = some (some (.agg #[.string ⟨#[]⟩, .int .i64 0]), 2, 24))
    (s x : Operand) (ho : o.op = .call { callee := .builtin .append, args := #[s, x], argTypes := #[TS, TS] })
    (base : Nat) (v : Value) (n : Nat) (xs : List Value) (hs : a.eval s = v) (hown : w.ownsRow base T 2 v n xs) (r : MkR) (g c : Nat) (hx : a.eval x = .slice (some ⟨g, 0, none⟩) 1 c)
    (h0 : w.cell? ⟨g, 0, none⟩ = some (.string r.de)) (h1 : w.cell? ⟨g, 1, none⟩ = some (.int .i64 r.nu)) (hn : n ≤ 1000) (hbase : base ≤ w.heap.size)
    (h : ∀ v' w', w'.ownsRow base T 2 v' (n + 1) (xs ++ mkC r) → w.grownBy w' v.ownBlock → K (a.put o.dst v') w') : Oper.wp Tryz.prog o a w K Q := by
  obtain ⟨i1, hj, hy0, hy1, hy2⟩ := info_parts hT
  obtain ⟨v', w', hr, e2, e3, _, _⟩ := run_append_own_at (P := Tryz.prog) w base TS o.type T i1 (.agg #[.string ⟨#[]⟩, .int .i64 0]) 2 24 hu hj hy0 hy1 hy2 rfl (by decide) v n xs hown ⟨g, 0, none⟩ 1 c (mkC r) (by simp [mkC])
    (fun j u hu => by
      have ea : (⟨g, 0, none⟩ : Addr).add j = ⟨g, j, none⟩ := by unfold Addr.add; split <;> simp_all
      rw [ea]
      unfold mkC at hu
      rcases j with _ | _ | j <;> simp at hu <;> subst hu <;> assumption)
    (fun u hu => by unfold mkC at hu; simp at hu; rcases hu with rfl | rfl <;> rfl) (by unfold maxLen; omega) (by omega) hbase
  unfold Oper.wp
  simp [execOp, ho, resolve, invoke, builtin, hs, hx, hr, Result.andThen]
  exact h v' w' e2 e3
theorem gapM_len (l : List EnR) (m : MkR) : (gapM l m).length ≤ 1 := by unfold gapM; split <;> simp
theorem gapM_take {l : List EnR} {v : List MkR} {i : Nat} {y : MkR} (h : v[i]? = some y) : (v.take (i + 1)).flatMap (gapM l) = (v.take i).flatMap (gapM l) ++ gapM l y := by
  rw [List.take_add_one, h]; simp
theorem gapM_flat_len (l : List EnR) : ∀ v : List MkR, (v.flatMap (gapM l)).length ≤ v.length
  | [] => by simp
  | m :: v => by
    have h1 := gapM_len l m
    have h2 := gapM_flat_len l v
    simp only [List.flatMap_cons, List.length_append, List.length_cons]; omega
theorem vecL_len (l : List EnR) : (vecL l).length ≤ l.length := by unfold vecL; rw [List.length_reverse]; exact vecRev_len l
theorem vecL_bound (l : List EnR) : ∀ m ∈ vecL l, 0 ≤ m.nu ∧ m.nu ≤ (l.length : Int) := fun m hm => by
  unfold vecL at hm
  rw [List.mem_reverse] at hm
  have := vec_bound l [] 0 (fun m hm => by cases hm) m hm
  simpa using this
set_option maxHeartbeats 4000000 in
set_option maxRecDepth 100000 in
theorem refGaps_c {w : World} {q : Option Addr} {l : List EnR} {n cap : Nat} (hn : n = l.length) (h1 : n ≤ 1000) (hr : EnS w q l) :
    Calls Tryz.prog 37 #[.slice q n cap] w fun e w' => RetMk e w' (gapsR l) ∧ Gr w w' := by
  have HV := Lib.hid (refVector_c (cap := cap) hn h1 hr)
  have HN := Lib.hid hn
  have HR := Lib.hid hr.out
  clear hr hn
  go_enter Tryz.func37, Tryz.ntmps37
  go_wp2_with fail
  refine HV.out.mono ?_
  rintro e W0 ⟨⟨q2, c2, rfl, hcc, hmk⟩, hg0⟩
  have HMK := Lib.hid hmk.out
  have HG0 := Lib.hid hg0
  obtain ⟨m, hm⟩ : ∃ m, m = (vecL l).length := ⟨_, rfl⟩
  have HM := Lib.hid hm
  have hmn : m ≤ 1000 := by have := vecL_len l; have := HN.out; omega
  have HBD := Lib.hid (vecL_bound l)
  rw [← hm]
  clear hcc hmk hg0 hm HV
  go_wp2_with fail
  go_loopg [3, 5, 6, 7] m (fun gk s3 s5 s6 s7 wr => ∃ i : Nat, s5 = .int .i64 (i : Int) ∧ gk + i = m ∧ Hid (wr.ownsRow W0.heap.size 67 2 s3 (((vecL l).take i).flatMap (gapM l)).length (mkCs (((vecL l).take i).flatMap (gapM l)))) ∧ Hid (Gr W0 wr))
  case atStart => exact ⟨0, rfl, by omega, World.ownsRow_nil _ _ _ _, Gr.refl _⟩
  case round =>
    obtain ⟨i, rfl, hgk, HOWN, HG⟩ := hrel
    obtain ⟨g1, rfl⟩ : ∃ g, g = gk := ⟨gk, rfl⟩
    by_cases hlt : i < m
    · obtain ⟨y, hy⟩ : ∃ y, (vecL l)[i]? = some y := ⟨(vecL l)[i]'(by have := HM.out; omega), List.getElem?_eq_getElem _⟩
      obtain ⟨b2, o2, rfl, hc2⟩ := HMK.out (by have := HM.out; omega)
      obtain ⟨y0, y1⟩ := hc2 i y hy
      have hyb := HBD.out y (List.mem_of_getElem? hy)
      have HTT := Lib.hid (gapM_take (l := l) hy)
      have hlt2 : (i : Int) < (m : Int) := by omega
      have HRL : Hid ((((vecL l).take i).flatMap (gapM l)).length ≤ i) := Nat.le_trans (gapM_flat_len _ _) (by rw [List.length_take]; omega)
      have Y00 := Lib.hid y0
      have Y11 := Lib.hid y1
      have HHG := HG
      clear hy hc2 y0 y1
      generalize hRR : ((vecL l).take i).flatMap (gapM l) = RR at *
      go_wp2_with fail
      go_loopg [6, 7] n (fun gk2 s6 s7 wr2 => ∃ k : Nat, s7 = .int .i64 (k : Int) ∧ s6 = .int .i64 (grt (l.take k) y.de) ∧ gk2 + k = n ∧ Hid (Gr wr wr2))
      case atStart => exact ⟨0, rfl, rfl, by omega, Gr.refl _⟩
      case round =>
        obtain ⟨k, rfl, rfl, hgk2, HG2⟩ := hrel
        have g0 := HHG.out.trans HG2.out
        have y0 := g0.cell Y00.out
        have y1 := g0.cell Y11.out
        by_cases hlk : k < n
        · obtain ⟨x, hx⟩ : ∃ x, l[k]? = some x := ⟨l[k]'(by have := HN.out; omega), List.getElem?_eq_getElem _⟩
          obtain ⟨b, off, rfl, hc⟩ := HR.out (by have := HN.out; omega)
          obtain ⟨x0, x1, _⟩ := (hc k x hx).gr (HG0.out.trans g0)
          have hlk2 : (k : Int) < (n : Int) := by omega
          have hstep : grt (l.take (k + 1)) y.de = if (x.de.toList == y.de.toList) = true then x.nu else grt (l.take k) y.de := by rw [List.take_add_one, hx]; exact grt_add _ _ _
          clear hx hc g0
          generalize grt (l.take k) y.de = nn at *
          cases he : (x.de.toList == y.de.toList)
          · have HST : Hid (grt (l.take (k + 1)) y.de = nn) := by rw [Hid, hstep, he]; rfl
            clear hstep
            go_upto_region 10 with fail
            go_big_quiet (fail)
            go_wp2_with fail
            go_roundg (gk - 1)
            case measure => omega
            case rel => exact ⟨k + 1, by go_num, by rw [HST.out], by omega, HG2.out.drewN _⟩
          · have HST : Hid (grt (l.take (k + 1)) y.de = x.nu) := by rw [Hid, hstep, he]; rfl
            clear hstep
            go_upto_region 10 with fail
            go_big_quiet (fail)
            have x1' := ((Gr.refl wr).drewN nq).cell x1
            go_wp2_with fail
            go_roundg (gk - 1)
            case measure => omega
            case rel => exact ⟨k + 1, by go_num, by rw [HST.out], by omega, HG2.out.drewN _⟩
        · have hlk2 : ¬ (k : Int) < (n : Int) := by omega
          have hlk3 : l.take k = l := List.take_of_length_le (by have := HN.out; omega)
          rw [hlk3]
          have HOW2 := Lib.hid (own_kept HOWN.out HG2.out)
          have HGW := Lib.hid g0
          have hRL := HRL.out
          obtain ⟨K0, hK0⟩ : ∃ K, K = RR.length := ⟨_, rfl⟩
          have HK0 := Lib.hid hK0
          rw [← hK0] at HOW2 hRL
          clear hlk3 g0 hK0
          by_cases hq : y.nu < grt l y.de
          · have HST : Hid (((vecL l).take (i + 1)).flatMap (gapM l) = RR ++ [⟨y.de, y.nu + 1⟩]) := by
              rw [Hid, HTT.out]; unfold gapM; rw [if_pos hq]
            generalize grt l y.de = nn at *
            have hw3 : IntKind.i64.wrap (y.nu + 1) = y.nu + 1 := by have := HN.out; rw [IntKind.wrap_i64]; omega
            have gd := (Gr.refl wr).drew
            have y1w := y1
            replace y0 := gd.cell y0
            replace y1 := gd.cell y1
            have hownD := own_kept HOW2.out (gd.alloc (.cells #[.string y.de, .int .i64 (y.nu + 1)] 67))
            have hgD := HGW.out.trans (gd.alloc (.cells #[.string y.de, .int .i64 (y.nu + 1)] 67))
            go_upto_region 13 with fail
            clear y1w
            refine wp_region_held_drew (S := (fun w' => w'.cell? ⟨b2, o2 + i * 2, none⟩ = some (.string y.de) ∧ w'.cell? ⟨b2, o2 + i * 2 + 1, none⟩ = some (.int .i64 y.nu))) (by kernel_rfl) ⟨y0, y1⟩ (fun hHeld => ?_)
            have HOV := Lib.hid hownD
            have HBV := Lib.hid hgD
            clear hownD hgD gd
            generalize wr.drew = V at *
            refine wpAnyH_take (i := 0) (v := u3) (op_at rfl) (by kernel_rfl) (by kernel_rfl) (by kernel_rfl) (fun _ _ _ h => h) (Or.inl ⟨rfl, fun w hSw => ?_⟩) (by assumption) ?_
            · (try dsimp only at hSw); go_simp; try with_reducible rfl
            (try simp only [Act.put, List.setIfInBounds_toArray, List.set_cons_zero, List.set_cons_succ])
            refine wpAnyH_take (i := 1) (v := (.slice (some ⟨b2, o2, none⟩) m c2)) (op_at rfl) (by kernel_rfl) (by kernel_rfl) (by kernel_rfl) (fun _ _ _ h => h) (Or.inl ⟨rfl, fun w hSw => ?_⟩) (by assumption) ?_
            · (try dsimp only at hSw); go_simp; try with_reducible rfl
            (try simp only [Act.put, List.setIfInBounds_toArray, List.set_cons_zero, List.set_cons_succ])
            refine wpAnyH_take (i := 2) (v := (.int .i64 (i : Int))) (op_at rfl) (by kernel_rfl) (by kernel_rfl) (by kernel_rfl) (fun _ _ _ h => h) (Or.inl ⟨rfl, fun w hSw => ?_⟩) (by assumption) ?_
            · (try dsimp only at hSw); go_simp; try with_reducible rfl
            (try simp only [Act.put, List.setIfInBounds_toArray, List.set_cons_zero, List.set_cons_succ])
            refine wpAnyH_take (i := 3) (v := (.pointer (some ⟨b2, o2 + i * 2, none⟩))) (op_at rfl) (by kernel_rfl) (by kernel_rfl) (by kernel_rfl) (fun _ _ _ h => h) (Or.inl ⟨rfl, fun w hSw => ?_⟩) (by assumption) ?_
            · (try dsimp only at hSw); go_simp; try with_reducible rfl
            (try simp only [Act.put, List.setIfInBounds_toArray, List.set_cons_zero, List.set_cons_succ])
            refine wpAnyH_take (i := 4) (v := (.pointer (some ⟨b2, o2 + i * 2, none⟩))) (op_at rfl) (by kernel_rfl) (by kernel_rfl) (by kernel_rfl) (fun _ _ _ h => h) (Or.inl ⟨rfl, fun w hSw => ?_⟩) (by assumption) ?_
            · (try dsimp only at hSw); go_simp; try with_reducible rfl
            (try simp only [Act.put, List.setIfInBounds_toArray, List.set_cons_zero, List.set_cons_succ])
            refine wpAnyH_take (i := 5) (v := (.string y.de)) (op_at rfl) (by kernel_rfl) (by kernel_rfl) (by kernel_rfl) (fun _ _ _ h => h) (Or.inl ⟨rfl, fun w hSw => ?_⟩) (by assumption) ?_
            · (try dsimp only at hSw); go_simp; try with_reducible rfl
            (try simp only [Act.put, List.setIfInBounds_toArray, List.set_cons_zero, List.set_cons_succ])
            refine wpAnyH_take (i := 6) (v := (.slice (some ⟨b2, o2, none⟩) m c2)) (op_at rfl) (by kernel_rfl) (by kernel_rfl) (by kernel_rfl) (fun _ _ _ h => h) (Or.inl ⟨rfl, fun w hSw => ?_⟩) (by assumption) ?_
            · (try dsimp only at hSw); go_simp; try with_reducible rfl
            (try simp only [Act.put, List.setIfInBounds_toArray, List.set_cons_zero, List.set_cons_succ])
            refine wpAnyH_take (i := 7) (v := (.int .i64 (i : Int))) (op_at rfl) (by kernel_rfl) (by kernel_rfl) (by kernel_rfl) (fun _ _ _ h => h) (Or.inl ⟨rfl, fun w hSw => ?_⟩) (by assumption) ?_
            · (try dsimp only at hSw); go_simp; try with_reducible rfl
            (try simp only [Act.put, List.setIfInBounds_toArray, List.set_cons_zero, List.set_cons_succ])
            refine wpAnyH_take (i := 8) (v := (.pointer (some ⟨b2, o2 + i * 2, none⟩))) (op_at rfl) (by kernel_rfl) (by kernel_rfl) (by kernel_rfl) (fun _ _ _ h => h) (Or.inl ⟨rfl, fun w hSw => ?_⟩) (by assumption) ?_
            · (try dsimp only at hSw); go_simp; try with_reducible rfl
            (try simp only [Act.put, List.setIfInBounds_toArray, List.set_cons_zero, List.set_cons_succ])
            refine wpAnyH_take (i := 9) (v := (.pointer (some ⟨b2, o2 + i * 2 + 1, none⟩))) (op_at rfl) (by kernel_rfl) (by kernel_rfl) (by kernel_rfl) (fun _ _ _ h => h) (Or.inl ⟨rfl, fun w hSw => ?_⟩) (by assumption) ?_
            · (try dsimp only at hSw); go_simp; try with_reducible rfl
            (try simp only [Act.put, List.setIfInBounds_toArray, List.set_cons_zero, List.set_cons_succ])
            refine wpAnyH_take (i := 10) (v := (.int .i64 y.nu)) (op_at rfl) (by kernel_rfl) (by kernel_rfl) (by kernel_rfl) (fun _ _ _ h => h) (Or.inl ⟨rfl, fun w hSw => ?_⟩) (by assumption) ?_
            · (try dsimp only at hSw); go_simp; try with_reducible rfl
            (try simp only [Act.put, List.setIfInBounds_toArray, List.set_cons_zero, List.set_cons_succ])
            refine wpAnyH_take (i := 11) (v := (.int .i64 (y.nu + 1))) (op_at rfl) (by kernel_rfl) (by kernel_rfl) (by kernel_rfl) (fun _ _ _ h => h) (Or.inl ⟨rfl, fun w hSw => ?_⟩) (by assumption) ?_
            · (try dsimp only at hSw); go_simp; try with_reducible rfl
            (try simp only [Act.put, List.setIfInBounds_toArray, List.set_cons_zero, List.set_cons_succ])
            refine wpAnyH_take (i := 12) (v := (.agg #[.string y.de, .int .i64 (y.nu + 1)])) (op_at rfl) (by kernel_rfl) (by kernel_rfl) (by kernel_rfl) (fun _ _ _ h => h) (Or.inl ⟨rfl, fun w hSw => ?_⟩) (by assumption) ?_
            · (try dsimp only at hSw); go_simp; try with_reducible rfl
            (try simp only [Act.put, List.setIfInBounds_toArray, List.set_cons_zero, List.set_cons_succ])
            refine wpAnyH_ready (rs := [13]) (by kernel_rfl) (by simp) (AllReadyH.cons (op_at rfl) (fun K hK => ?_) AllReadyH.nil)
            go_simp
            replace y0 := ((Gr.refl V).alloc (.cells #[.string y.de, .int .i64 (y.nu + 1)] 67)).cell y0
            replace y1 := ((Gr.refl V).alloc (.cells #[.string y.de, .int .i64 (y.nu + 1)] 67)).cell y1
            refine hK.out _ _ ⟨y0, y1⟩ (fun hHeld => ?_)
            clear hK K
            (try simp only [Act.put, List.setIfInBounds_toArray, List.set_cons_zero, List.set_cons_succ])
            refine wpAnyH_ready (rs := [14]) (by kernel_rfl) (by simp) (AllReadyH.cons (op_at rfl) (fun K hK => ?_) AllReadyH.nil)
            rw [if_pos (show Region.wanted _ _ = true from rfl)]
            refine step_mk 58 67 Tryz.underlying58 infoMkR _ _ rfl W0.heap.size u3 K0 (mkCs RR) rfl HOV.out ⟨y.de, y.nu + 1⟩ V.heap.size 1 rfl (cell_new V #[.string y.de, .int .i64 (y.nu + 1)] 67 0 (by simp)) (cell_new V #[.string y.de, .int .i64 (y.nu + 1)] 67 1 (by simp)) (by omega) HBV.out.size ?_
            intro v1 w1 hown1 hgrow1
            have C1 := Lib.hid hown1
            have C2 : Hid (Gr W0 w1) := Below.grown HBV.out hgrow1 HBV.out.size (fun q hq => (own_in HOV.out hq).2)
            replace y0 := C2.out.cell Y00.out
            replace y1 := C2.out.cell Y11.out
            clear hown1 hgrow1
            refine hK.out _ _ ⟨y0, y1⟩ (fun hHeld => ?_)
            clear hK K
            (try simp only [Act.put, List.setIfInBounds_toArray, List.set_cons_zero, List.set_cons_succ])
            refine wpAnyH_take (i := 15) (v := v1) (op_at rfl) (by kernel_rfl) (by kernel_rfl) (by kernel_rfl) (fun _ _ _ h => h) (Or.inl ⟨rfl, fun w hSw => ?_⟩) (by assumption) ?_
            · (try dsimp only at hSw); go_simp; try with_reducible rfl
            (try simp only [Act.put, List.setIfInBounds_toArray, List.set_cons_zero, List.set_cons_succ])
            refine wpAnyH_done (by kernel_rfl) ?_ _
            go_wp2_with fail
            go_roundg (g1 - 1)
            case measure => omega
            case rel => exact ⟨i + 1, by go_num, by omega, by rw [HST.out, mkCs_add, List.length_append, ← HK0.out]; exact C1.out, C2.out⟩
          · have HST : Hid (((vecL l).take (i + 1)).flatMap (gapM l) = RR) := by
              rw [Hid, HTT.out]; unfold gapM; rw [if_neg hq, List.append_nil]
            generalize grt l y.de = nn at *
            go_wp2_with fail
            go_roundg (g1 - 1)
            case measure => omega
            case rel => exact ⟨i + 1, by go_num, by omega, by rw [HST.out, ← HK0.out]; exact HOW2.out, HGW.out⟩
    · obtain rfl : m = i := by omega
      have hlt2 : ¬ (m : Int) < (m : Int) := by omega
      have hli : (vecL l).take m = vecL l := List.take_of_length_le (by have := HM.out; omega)
      have ho := HOWN.out
      rw [hli] at ho
      obtain ⟨qq, cc, hsl, hc1, hc2⟩ := own_shape ho
      have HRET : Hid (RetMk (.returned u3) wr (gapsR l)) := by
        unfold gapsR
        rw [hsl] at ho ⊢
        exact ⟨qq, cc, rfl, ⟨hc1, hc2⟩, MkS.of_own ho rfl⟩
      clear ho HOWN hsl hc1 hc2
      go_wp2_with fail
      go_ret
      exact ⟨HRET.out, HG0.out.trans HG.out⟩
end Go.Proofs.YtbpgifihlppedaaGreatDoor
namespace Go.Proofs.YtbpgifihlppedaaGreatDoor
open Go.RowKit Go.Lib
set_option linter.unusedSimpArgs false
set_option linter.unusedVariables false
theorem set7O {w : World} {g T : Nat} {r0 r1 r2 r3 r4 r5 r6 : Value} (h : w.heap[g]? = some (.cells #[r0, r1, r2, r3, r4, r5, r6] T)) (a b c d e f k : Value) : (((((((w.setCell ⟨g, 0, none⟩ a).setCell ⟨g, 1, none⟩ b).setCell ⟨g, 2, none⟩ c).setCell ⟨g, 3, none⟩ d).setCell ⟨g, 4, none⟩ e).setCell ⟨g, 5, none⟩ f).setCell ⟨g, 6, none⟩ k).heap[g]? = some (.cells #[a, b, c, d, e, f, k] T) := by
  simp [World.setCell, Array.getElem?_modify, h]
theorem cells7_ofO {w : World} {g : Nat} {a b c d e f k : Value} {T : TypeId} {z : Nat × Nat} (h : w.heap[g]? = some (.cells #[a, b, c, d, e, f, k] T z)) : w.cell? ⟨g, 0, none⟩ = some a ∧ w.cell? ⟨g, 1, none⟩ = some b ∧ w.cell? ⟨g, 2, none⟩ = some c ∧ w.cell? ⟨g, 3, none⟩ = some d ∧ w.cell? ⟨g, 4, none⟩ = some e ∧ w.cell? ⟨g, 5, none⟩ = some f ∧ w.cell? ⟨g, 6, none⟩ = some k := by
  simp [World.cell?, h]
set_option maxHeartbeats 4000000 in
set_option maxRecDepth 100000 in
theorem copyEn_c {e : EnR} {w : World} (h : RowsX w e.p e.n e.cap e.xs) (hn : e.n ≤ 1000) (hl : ∀ x ∈ e.xs, x.xs.length ≤ 1000) :
    Calls Tryz.prog 80 #[enV e] w fun r w' => ∃ q k ys, r = .returned (enV { e with p := q, cap := k, xs := ys }) ∧ CpS w' w.heap.size q e.n k ys ∧ ys.map rk = e.xs.map rk ∧ Gr w w' := by
  obtain ⟨de, nu, ck, ro, va, st, p, n, cap, xs⟩ := e
  unfold enV
  simp only at h hn hl ⊢
  have HS := Lib.hid (fun V (g : Gr w V) => copySh_c (ro := ro) (st := st) (va := va) (h.gr g) hn hl)
  obtain ⟨W1, hW1, g1, a0, a1, a2, a3, a4, a5, a6⟩ := bx7 w (.string de) (.int .i64 nu) (.int .i64 ck) (.string ro) (.int .i64 va) (.string st) (.slice p n cap) 82
  have HW := Lib.hid hW1
  have HSZ : Hid (W1.heap.size = w.heap.size + 1) := by rw [Hid, ← hW1]; simp
  have HB1 : Hid (W1.heap[w.heap.size]? = some (.cells #[.string de, .int .i64 nu, .int .i64 ck, .string ro, .int .i64 va, .string st, .slice p n cap] 82 (0, 0))) := by rw [Hid, ← hW1]; exact heap_alloc_new w _
  clear hW1 h
  go_enter Tryz.func80, Tryz.ntmps80
  go_wp2_with fail
  rw [HW.out]
  clear HW
  have hsz : W1.heap.size = w.heap.size + 1 := HSZ.out
  obtain ⟨W2, hW2, g2, z0, z1, z2, z3, z4, z5, z6⟩ := bx7 W1 (.string ⟨#[]⟩) (.int .i64 0) (.int .i64 0) (.string ⟨#[]⟩) (.int .i64 0) (.string ⟨#[]⟩) (.slice none 0 0) 82
  have hb2 : W2.heap[W1.heap.size]? = some (.cells #[.string ⟨#[]⟩, .int .i64 0, .int .i64 0, .string ⟨#[]⟩, .int .i64 0, .string ⟨#[]⟩, .slice none 0 0] 82 (0, 0)) := by rw [← hW2]; exact heap_alloc_new W1 _
  have hb1 := Gr.block g2 HB1.out
  rw [hW2]
  replace a0 := g2.cell a0
  replace a1 := g2.cell a1
  replace a2 := g2.cell a2
  replace a3 := g2.cell a3
  replace a4 := g2.cell a4
  replace a5 := g2.cell a5
  replace a6 := g2.cell a6
  go_wp2_with fail
  refine (HS.out _ (g1.trans g2)).mono ?_
  rintro e W3 ⟨q, k, ys, rfl, hcp, hmp, hg⟩
  replace hb1 := Gr.block hg hb1
  replace hb2 := Gr.block hg hb2
  replace a0 := hg.cell a0
  replace a1 := hg.cell a1
  replace a2 := hg.cell a2
  replace a3 := hg.cell a3
  replace a4 := hg.cell a4
  replace a5 := hg.cell a5
  replace a6 := hg.cell a6
  replace z0 := hg.cell z0
  replace z1 := hg.cell z1
  replace z2 := hg.cell z2
  replace z3 := hg.cell z3
  replace z4 := hg.cell z4
  replace z5 := hg.cell z5
  replace z6 := hg.cell z6
  have f1 : ∀ o, W3.frozen? ⟨w.heap.size, o, none⟩ = false := fun o => frozen_of_row _ _ o _ _ hb1
  have f2 : ∀ o, W3.frozen? ⟨W1.heap.size, o, none⟩ = false := fun o => frozen_of_row _ _ o _ _ hb2
  have HO := Lib.hid hcp
  have HM := Lib.hid hmp
  have HG := Lib.hid ((g1.trans g2).trans hg)
  rw [hsz] at hb2
  have HB2' := Lib.hid hb2
  rw [hsz] at z0 z1 z2 z3 z4 z5 z6 f2
  have HS2 : Hid (W2.heap.size = w.heap.size + 2) := by rw [Hid, ← hW2]; simp [hsz]
  clear hW2 g2 hg hcp hmp hb1 hb2 HB1 HS
  obtain ⟨Bx, hBx⟩ : ∃ B, w.heap.size = B := ⟨_, rfl⟩
  have HBW := Lib.hid hBx
  rw [hBx] at a0 a1 a2 a3 a4 a5 a6 z0 z1 z2 z3 z4 z5 z6 f1 f2 HS2 HB2' ⊢
  clear hBx hsz HSZ
  go_wp2_with fail
  have hb : ((((W3.setCell ⟨Bx, 3, none⟩ (.string ro)).setCell ⟨Bx, 4, none⟩ (.int .i64 va)).setCell ⟨Bx, 5, none⟩ (.string st)).setCell ⟨Bx, 6, none⟩ (.slice q n k)).heap[Bx + 1]? = some (.cells #[.string ⟨#[]⟩, .int .i64 0, .int .i64 0, .string ⟨#[]⟩, .int .i64 0, .string ⟨#[]⟩, .slice none 0 0] 82 (0, 0)) := by
    rw [Below.heap_setCell _ _ _ _ (by show Bx + 1 ≠ Bx; omega), Below.heap_setCell _ _ _ _ (by show Bx + 1 ≠ Bx; omega), Below.heap_setCell _ _ _ _ (by show Bx + 1 ≠ Bx; omega), Below.heap_setCell _ _ _ _ (by show Bx + 1 ≠ Bx; omega)]
    exact HB2'.out
  have hb7 := set7O hb (.string de) (.int .i64 nu) (.int .i64 ck) (.string ro) (.int .i64 va) (.string st) (.slice q n k)
  obtain ⟨y0, y1, y2, y3, y4, y5, y6⟩ := cells7_ofO hb7
  have hw : w.heap.size = Bx := HBW.out
  have h2 : W2.heap.size = Bx + 2 := HS2.out
  have ho := HO.out
  rw [h2] at ho
  refine bodyPost_ret (v := .agg #[.string de, .int .i64 nu, .int .i64 ck, .string ro, .int .i64 va, .string st, .slice q n k]) (by simp [results, Tryz.results80, go_sem, y0, y1, y2, y3, y4, y5, y6]) rfl ⟨q, k, ys, rfl, ?_, HM.out, ?_⟩
  · exact CpS.low (((((((((((ho.set_low _ _ (by show Bx < Bx + 2; omega)).set_low _ _ (by show Bx < Bx + 2; omega)).set_low _ _ (by show Bx < Bx + 2; omega)).set_low _ _ (by show Bx < Bx + 2; omega)).set_low _ _ (by show Bx + 1 < Bx + 2; omega)).set_low _ _ (by show Bx + 1 < Bx + 2; omega)).set_low _ _ (by show Bx + 1 < Bx + 2; omega)).set_low _ _ (by show Bx + 1 < Bx + 2; omega)).set_low _ _ (by show Bx + 1 < Bx + 2; omega)).set_low _ _ (by show Bx + 1 < Bx + 2; omega)).set_low _ _ (by show Bx + 1 < Bx + 2; omega)) (by omega)
  · exact Below.setCell (Below.setCell (Below.setCell (Below.setCell (Below.setCell (Below.setCell (Below.setCell (Below.setCell (Below.setCell (Below.setCell (Below.setCell HG.out (by show w.heap.size ≤ Bx; omega) _) (by show w.heap.size ≤ Bx; omega) _) (by show w.heap.size ≤ Bx; omega) _) (by show w.heap.size ≤ Bx; omega) _) (by show w.heap.size ≤ Bx + 1; omega) _) (by show w.heap.size ≤ Bx + 1; omega) _) (by show w.heap.size ≤ Bx + 1; omega) _) (by show w.heap.size ≤ Bx + 1; omega) _) (by show w.heap.size ≤ Bx + 1; omega) _) (by show w.heap.size ≤ Bx + 1; omega) _) (by show w.heap.size ≤ Bx + 1; omega) _
end Go.Proofs.YtbpgifihlppedaaGreatDoor
namespace Go.Proofs.YtbpgifihlppedaaGreatDoor
open Go.RowKit Go.Lib
set_option linter.unusedSimpArgs false
set_option linter.unusedVariables false
theorem uMapNO : Tryz.prog.underlying 135 = some (.map 9 3) := by kernel_rfl
theorem zeroNO (w : World) : (zeroValue 3).run Tryz.prog w = .ok (.int .i64 0) w := by kernel_rfl
def evNO (n : Int) : Value := .int .i64 n
/-- what is known of the desks -/
structure KnO (ks : List (ByteArray × Int)) (v : List MkR) : Prop where
  at_ : ∀ d, ((lookG ks d).map evNO).getD (.int .i64 0) = .int .i64 (lastN v d)
theorem KnO.nil : KnO [] [] := ⟨fun d => by simp [lookG, lastN]⟩
theorem KnO.put {ks : List (ByteArray × Int)} {v : List MkR} {m : MkR} (h : KnO ks v) : KnO (putG ks m.de m.nu) (v ++ [m]) := ⟨fun d => by
  rw [lastN_add, lookG_putO]
  cases hd : (m.de.toList == d.toList)
  · simpa using h.at_ d
  · simp [evNO]⟩
/-- what Lacking returns -/
structure RetLk (r : Ending) (w' : World) (L : List EnR) : Prop where
  mk' ::
  out : ∃ q c es, r = .returned (.tuple #[.slice q L.length c, .int .i64 0]) ∧ es.length = L.length ∧ es.map ek = L.map ek ∧ EnS w' q es ∧ (L.length ≤ c ∧ c ≤ maxLen)
set_option maxHeartbeats 4000000 in
set_option maxRecDepth 100000 in
theorem lack_err {w : World} {q q2 : Option Addr} {l : List EnR} {v : List MkR} {n m cap cap2 : Nat} (hn : n = l.length) (h1 : n ≤ 1000) (hr : EnS w q l) (hf : Few l) (hm : m = v.length) (h2 : m ≤ 1000) (hv : MkS w q2 v) (he : firstE [archE l, vecE v] ≠ 0) :
    Calls Tryz.prog 34 #[.agg #[.slice q n cap], .slice q2 m cap2] w fun e w' => e = .returned (.tuple #[.slice none 0 0, .int .i64 (firstE [archE l, vecE v])]) ∧ Gr w w' := by
  have HCA := Lib.hid (fun V (g : Gr w V) => checkArch_c (cap := cap) hn h1 (hr.gr g) hf)
  have HCV := Lib.hid (fun V (g : Gr w V) => checkVec_c (cap := cap2) hm h2 (hv.gr g))
  have HFI := Lib.hid (fun b cap w => first_two (archE l) (vecE v) b cap w)
  have hz : (firstE [archE l, vecE v] != 0) = true := bne_iff_ne.2 he
  generalize firstE [archE l, vecE v] = z at *
  generalize archE l = z1 at *
  generalize vecE v = z2 at *
  obtain ⟨W1, hW1, g1, a0⟩ := box1 w (.slice q n cap) 24
  have HW := Lib.hid hW1
  clear hW1 hr hf hv hn hm he
  go_enter Tryz.func34, Tryz.ntmps34
  go_wp2_with fail
  rw [HW.out]
  clear HW
  go_wp2_with fail
  refine (HCA.out _ g1).mono ?_
  rintro e W2 ⟨rfl, hg2⟩
  replace a0 := hg2.cell a0
  replace g1 := g1.trans hg2
  clear hg2
  go_wp2_with fail
  refine (HCV.out _ g1).mono ?_
  rintro e W3 ⟨rfl, hg3⟩
  replace a0 := hg3.cell a0
  replace g1 := g1.trans hg3
  clear hg3
  obtain ⟨W4, hW4, g4, q0, q1⟩ := box2v W3 (.int .i64 z1) (.int .i64 z2) 37
  have HW4 := Lib.hid hW4
  clear hW4
  go_wp2_with fail
  rw [HW4.out]
  refine (HFI.out _ _ W4 q0 q1).mono ?_
  rintro e W5 ⟨rfl, rfl⟩
  go_wp2_with fail
  exact bodyPost_ret (v := .tuple #[.slice none 0 0, .int .i64 z]) (by simp [results, Tryz.results34, go_sem]) rfl ⟨rfl, g1.trans g4⟩
set_option maxHeartbeats 4000000 in
set_option maxRecDepth 100000 in
theorem lack_ok {w : World} {q q2 : Option Addr} {l : List EnR} {v : List MkR} {n m cap cap2 : Nat} (hn : n = l.length) (h1 : n ≤ 1000) (hr : EnS w q l) (hf : Few l) (hs : ∀ e ∈ l, e.n ≤ 1000) (hm : m = v.length) (h2 : m ≤ 1000) (hv : MkS w q2 v) (he : firstE [archE l, vecE v] = 0) :
    Calls Tryz.prog 34 #[.agg #[.slice q n cap], .slice q2 m cap2] w fun e w' => RetLk e w' (lackL l v) ∧ Gr w w' := by
  have HCA := Lib.hid (fun V (g : Gr w V) => checkArch_c (cap := cap) hn h1 (hr.gr g) hf)
  have HCV := Lib.hid (fun V (g : Gr w V) => checkVec_c (cap := cap2) hm h2 (hv.gr g))
  have HFI := Lib.hid (fun b cap w => first_two (archE l) (vecE v) b cap w)
  rw [he] at HFI
  generalize archE l = z1 at *
  generalize vecE v = z2 at *
  obtain ⟨i0, hi, hz0, hz1, hz2⟩ := info_parts infoEnP
  have HI0 := Lib.hid (And.intro hi (And.intro hz0 (And.intro hz1 hz2)))
  have HN := Lib.hid hn
  have HM := Lib.hid hm
  have HR := Lib.hid hr.out
  have HV := Lib.hid hv.out
  have HFW := Lib.hid hf
  have HSS := Lib.hid hs
  obtain ⟨W1, hW1, g1, a0⟩ := box1 w (.slice q n cap) 24
  have HW := Lib.hid hW1
  clear hW1 hr hf hs hv hn hm he hi hz0 hz1 hz2
  go_enter Tryz.func34, Tryz.ntmps34
  go_wp2_with fail
  rw [HW.out]
  clear HW
  go_wp2_with fail
  refine (HCA.out _ g1).mono ?_
  rintro e W2 ⟨rfl, hg2⟩
  replace a0 := hg2.cell a0
  replace g1 := g1.trans hg2
  clear hg2
  go_wp2_with fail
  refine (HCV.out _ g1).mono ?_
  rintro e W3 ⟨rfl, hg3⟩
  replace a0 := hg3.cell a0
  replace g1 := g1.trans hg3
  clear hg3
  obtain ⟨W4, hW4, g4, q0, q1⟩ := box2v W3 (.int .i64 z1) (.int .i64 z2) 37
  have HW4 := Lib.hid hW4
  clear hW4
  go_wp2_with fail
  rw [HW4.out]
  refine (HFI.out _ _ W4 q0 q1).mono ?_
  rintro e W5 ⟨rfl, rfl⟩
  replace a0 := g4.cell a0
  have HG4 := Lib.hid (g1.trans g4)
  have hmm := @run_makeMap Tryz.prog
  have hm0 := mapG_new (ev := evNO) W4
  have HL : Hid (∃ a b, w.heap.size = a ∧ b = a) := ⟨_, _, rfl, rfl⟩
  have gM := (Gr.refl W4).alloc (.map #[] 0)
  have HA0 := Lib.hid (gM.cell a0)
  have HGM := Lib.hid (HG4.out.trans gM)
  clear HCA HCV HFI HW4 q0 q1 g1 g4 gM
  go_wp2_with fail
  clear hmm
  have hwm : w.heap.size ≤ W4.heap.size := HG4.out.size
  have HM0 := Lib.hid hm0
  clear hm0
  obtain ⟨WM, hWM⟩ : ∃ W, W = W4.alloc (.map #[] 0) := ⟨_, rfl⟩
  rw [← hWM] at HA0 HGM HM0 ⊢
  generalize W4.heap.size = mg at *
  clear hWM HG4
  go_loopg [9, 25] m (fun gk s9 s25 wr => ∃ (k : Nat) (ks : List (ByteArray × Int)), s25 = .int .i64 (k : Int) ∧ gk + k = m ∧ Hid (MapG evNO wr mg ks) ∧ Hid (KnO ks (v.take k)) ∧ Hid (Gr w wr) ∧ Hid (wr.cell? ⟨w.heap.size, 0, none⟩ = some (.slice q n cap)))
  case atStart => exact ⟨0, [], rfl, by omega, HM0.out, KnO.nil, HGM.out, HA0.out⟩
  case round =>
    obtain ⟨k, ks, rfl, hgk, HKS, HKN, HG, HCL⟩ := hrel
    by_cases hlk : k < m
    · obtain ⟨y, hy⟩ : ∃ y, v[k]? = some y := ⟨v[k]'(by have := HM.out; omega), List.getElem?_eq_getElem _⟩
      obtain ⟨b2, o2, rfl, hc2⟩ := HV.out (by have := HM.out; omega)
      obtain ⟨y0, y1⟩ := hc2 k y hy
      replace y0 := HG.out.cell y0
      replace y1 := HG.out.cell y1
      have hlk2 : (k : Int) < (m : Int) := by omega
      have g1 := (Gr.refl wr).alloc (.cells #[.string y.de, .int .i64 y.nu] 96)
      obtain ⟨ob, hput, hks2⟩ := mapG_put uMapNO (HKS.out.gr g1) y.de y.nu
      have hput2 : (Instr.mapUpdate 135 (.map (some mg)) (.string y.de) (.int .i64 y.nu)).run Tryz.prog _ = _ := hput
      have HKS2 := Lib.hid hks2
      have HKN2 : Hid (KnO (putG ks y.de y.nu) (v.take (k + 1))) := by
        rw [Hid, List.take_add_one, hy]; exact HKN.out.put
      have HG2 := Lib.hid (gr_putG (ob := ob) (HG.out.trans g1) hwm)
      have hne : w.heap.size ≠ mg := fun e => by
        obtain ⟨⟨es, clock, h9, _⟩⟩ := HKS.out
        have := HCL.out
        rw [e] at this
        simp [World.cell?, h9] at this
      have HCL2 : Hid ((putGB (wr.alloc (.cells #[.string y.de, .int .i64 y.nu] 96)) mg ob).cell? ⟨w.heap.size, 0, none⟩ = some (.slice q n cap)) := MapG.cellO (HKS.out.gr g1) (g1.cell HCL.out) ob
      clear hy hc2 g1 hks2 hput hne
      go_wp2_with fail
      go_roundg (gk - 1)
      case measure => omega
      case rel => exact ⟨k + 1, _, by go_num, by omega, HKS2.out, HKN2.out, HG2.out, HCL2.out⟩
    · obtain rfl : m = k := by omega
      have hlk2 : ¬ (m : Int) < (m : Int) := by omega
      have hvm : v.take m = v := List.take_of_length_le (by have := HM.out; omega)
      have hkn := HKN.out
      rw [hvm] at hkn
      have HKN2 := Lib.hid hkn
      have hcl := HCL.out
      have HHG := HG
      have HKSS := HKS
      clear hvm hkn HKN
      obtain ⟨WQ, hWQ⟩ : ∃ W, W = wr := ⟨wr, rfl⟩
      subst hWQ
      go_wp2_with fail
      clear hcl
      go_loopg [10, 12, 38] n (fun gk s10 s12 s38 wr2 => ∃ (i : Nat) (es : List EnR), s38 = .int .i64 (i : Int) ∧ gk + i = n ∧ Hid (wr2.ownsRow WQ.heap.size 82 7 s10 (lackL (l.take i) v).length (enCs es)) ∧ Hid (es.length = (lackL (l.take i) v).length) ∧ Hid (es.map ek = (lackL (l.take i) v).map ek) ∧ Hid (∀ f ∈ es, CpS wr2 WQ.heap.size f.p f.n f.cap f.xs) ∧ Hid (Gr WQ wr2))
      case atStart => exact ⟨0, [], rfl, by omega, World.ownsRow_nil _ _ _ _, rfl, rfl, (fun f hf => by cases hf), Gr.refl _⟩
      case round =>
        obtain ⟨i, es, rfl, hgk2, HOWN, HEL, HEK, HCP, HG2⟩ := hrel
        have hsz := HG2.out.size
        by_cases hlt : i < n
        · obtain ⟨x, hx⟩ : ∃ x, l[i]? = some x := ⟨l[i]'(by have := HN.out; omega), List.getElem?_eq_getElem _⟩
          obtain ⟨b, off, rfl, hc⟩ := HR.out (by have := HN.out; omega)
          have gw := HHG.out.trans HG2.out
          have hat := (hc i x hx).gr gw
          obtain ⟨a0, a1, a2, a3, a4, a5, a6, hrx⟩ := hat
          have hlt2 : (i : Int) < (n : Int) := by omega
          have hTT : lackL (l.take (i + 1)) v = if lastN v x.de < x.nu then lackL (l.take i) v ++ [x] else lackL (l.take i) v := by rw [List.take_add_one, hx]; exact lackL_add _ _ _
          have hLL : (lackL (l.take i) v).length ≤ i := Nat.le_trans (lack_len _ _) (by rw [List.length_take]; omega)
          have g1 := (Gr.refl wr).alloc (.cells #[.string x.de, .int .i64 x.nu, .int .i64 x.ck, .string x.ro, .int .i64 x.va, .string x.st, .slice x.p x.n x.cap] 82)
          have hlook := mapG_look uMapNO zeroNO ((HKSS.out.gr HG2.out).gr g1) x.de
          rw [HKN2.out.at_] at hlook
          have HCE0 := Lib.hid (copyEn_c (hrx.gr g1) (HSS.out x (List.mem_of_getElem? hx)) (fun y hy => by have := HFW.out x (List.mem_of_getElem? hx) y hy; omega))
          unfold enV at HCE0
          simp only at HCE0
          have HG1 := Lib.hid g1
          clear hx hc hrx gw g1
          generalize lackL (l.take i) v = LL at *
          generalize lastN v x.de = nn at *
          by_cases hq : nn < x.nu
          · rw [if_pos hq] at hTT
            have HTT := Lib.hid hTT
            clear hTT
            go_wp2_with fail
            refine HCE0.out.mono ?_
            rintro e V ⟨pq, pk, ys, rfl, hcp, hrk, hg⟩
            have gV := HG1.out.trans hg
            have hownV := own_kept HOWN.out gV
            have HGV : Hid (Gr WQ V) := HG2.out.trans gV
            have hszV := HGV.out.size
            have hcpl := hcp.low (show WQ.heap.size ≤ _ from Nat.le_trans HG2.out.size HG1.out.size)
            have HCV : Hid (∀ f ∈ es, CpS V WQ.heap.size f.p f.n f.cap f.xs) := fun f hf => (HCP.out f hf).gr gV
            obtain ⟨hi, hz0, hz1, hz2⟩ := HI0.out
            have gA := (Gr.refl V).alloc (.cells #[.string x.de, .int .i64 x.nu, .int .i64 x.ck, .string x.ro, .int .i64 x.va, .string x.st, .slice pq x.n pk] 82)
            have hownA := own_kept hownV gA
            clear hg gV hcp HCP HOWN HCE0 a0 a1 a2 a3 a4 a5 a6
            go_wp2_with (at_builtin; refine wpList_append_own _ rfl _ _ 22 rfl WQ.heap.size 82 i0 (.agg #[.string ⟨#[]⟩, .int .i64 0, .int .i64 0, .string ⟨#[]⟩, .int .i64 0, .string ⟨#[]⟩, .slice none 0 0]) 7 96 Tryz.underlying22 hi hz0 hz1 hz2 rfl (by decide) _ _ _ rfl (hownA) ⟨V.heap.size, 0, none⟩ 1 1 [.string x.de, .int .i64 x.nu, .int .i64 x.ck, .string x.ro, .int .i64 x.va, .string x.st, .slice pq x.n pk] rfl rfl (cell_seven _ _ _ _ _ _ _ _ _) (one_seven _ _ _ _ _ _ _ _ _) (by unfold maxLen; omega) (by omega) (by simp; omega) ?_; intro v1 w1 hown1 hgrow1 hnil)
            have HGR : Hid (Gr WQ w1) := Below.grown (HGV.out.alloc _) hgrow1 (by simp; omega) (fun q hq => (own_in hownV hq).2)
            have HO1 := Lib.hid hown1
            have HC1 : Hid (∀ f ∈ es ++ [({ x with p := pq, cap := pk, xs := ys } : EnR)], CpS w1 WQ.heap.size f.p f.n f.cap f.xs) := by
              intro f hf
              rcases List.mem_append.1 hf with hf | hf
              · exact ((HCV.out f hf).gr gA).apart hownA (by decide) (by decide) hgrow1
              · rw [List.mem_singleton] at hf
                subst hf
                exact (hcpl.gr gA).apart hownA (by decide) (by decide) hgrow1
            have hek : ek ({ x with p := pq, cap := pk, xs := ys } : EnR) = ek x := by unfold ek; simp only; rw [hrk]
            have HEK1 : Hid ((es ++ [({ x with p := pq, cap := pk, xs := ys } : EnR)]).map ek = (LL ++ [x]).map ek) := by
              rw [Hid, List.map_append, List.map_append, HEK.out, List.map_singleton, List.map_singleton, hek]
            have HEL1 : Hid ((es ++ [({ x with p := pq, cap := pk, xs := ys } : EnR)]).length = (LL ++ [x]).length) := by
              rw [Hid, List.length_append, List.length_append, HEL.out]; rfl
            clear hown1 hgrow1 hownV hownA hnil gA hi hz0 hz1 hz2 hcpl hrk hek HCV
            go_wp2_with fail
            go_roundg (gk - 1)
            case measure => omega
            case rel => exact ⟨i + 1, _, by go_num, by omega, by rw [HTT.out, enCs_add, List.length_append]; exact HO1.out, by rw [HTT.out]; exact HEL1.out, by rw [HTT.out]; exact HEK1.out, HC1.out, HGR.out⟩
          · rw [if_neg hq] at hTT
            have HTT := Lib.hid hTT
            clear hTT
            go_wp2_with fail
            go_roundg (gk - 1)
            case measure => omega
            case rel => exact ⟨i + 1, es, by go_num, by omega, by rw [HTT.out]; exact own_kept HOWN.out HG1.out, by rw [HTT.out]; exact HEL.out, by rw [HTT.out]; exact HEK.out, (fun f hf => (HCP.out f hf).gr HG1.out), HG2.out.trans HG1.out⟩
        · have hlt2 : ¬ (i : Int) < (n : Int) := by omega
          have hli : l.take i = l := List.take_of_length_le (by have := HN.out; omega)
          have ho := HOWN.out
          rw [hli] at ho HEL HEK
          obtain ⟨qq, cc, hsl, hc1, hc2⟩ := own_shape ho
          have HRET : Hid (RetLk (.returned (.tuple #[u10, .int .i64 0])) wr (lackL l v)) := by
            rw [hsl] at ho ⊢
            exact ⟨qq, cc, es, rfl, HEL.out, HEK.out, EnS.of_own ho HEL.out (fun f hf => (HCP.out f hf).rows), ⟨hc1, hc2⟩⟩
          clear ho HOWN hsl hc1 hc2
          go_wp2_with fail
          exact bodyPost_ret (v := .tuple #[u10, .int .i64 0]) (by simp [results, Tryz.results34, go_sem]) rfl ⟨HRET.out, HHG.out.trans HG2.out⟩
end Go.Proofs.YtbpgifihlppedaaGreatDoor
