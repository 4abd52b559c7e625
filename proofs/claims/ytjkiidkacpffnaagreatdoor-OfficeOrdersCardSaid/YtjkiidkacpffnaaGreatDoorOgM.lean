/- Sheets (chapter 10): the law OfficeOrders. -/
import Derived.Test.YtjkiidkacpffnaaGreatDoorGRkM
namespace Go.Proofs.YtjkiidkacpffnaaGreatDoor
open Go.RowKit Go.Lib
set_option linter.unusedSimpArgs false
set_option linter.unusedVariables false
theorem uMapIO : Tryz.prog.underlying 44 = some (.map 9 3) := by kernel_rfl
theorem zeroIO (w : World) : (zeroValue 3).run Tryz.prog w = .ok (.int .i64 0) w := by kernel_rfl
def evIO (z : Int) : Value := .int .i64 z
def ksO : List (ByteArray × Int) := putG (putG (putG (putG [] ⟨#[]⟩ 0) ⟨#[100, 110, 115]⟩ 1) ⟨#[100, 110, 102]⟩ 2) ⟨#[100, 115, 113]⟩ 3
theorem ksO_at (s : ByteArray) (h : gradeZ s.toList ≠ -1) : ((lookG ksO s).map evIO).getD (.int .i64 0) = .int .i64 (gradeZ s.toList) := by
  have e0 : (⟨#[]⟩ : ByteArray).toList = [] := by rw [tl]
  have e1 : (⟨#[100, 110, 115]⟩ : ByteArray).toList = [100, 110, 115] := by rw [tl]
  have e2 : (⟨#[100, 110, 102]⟩ : ByteArray).toList = [100, 110, 102] := by rw [tl]
  have e3 : (⟨#[100, 115, 113]⟩ : ByteArray).toList = [100, 115, 113] := by rw [tl]
  unfold ksO
  rw [lookG_putO, lookG_putO, lookG_putO, lookG_putO, e0, e1, e2, e3]
  rcases grade_of s.toList with e | e | e | e | ⟨q0, q1, q2, q3⟩
  case other => exact absurd (gradeZ_other q0 q1 q2 q3) h
  all_goals (rw [e]; rfl)
set_option maxHeartbeats 4000000 in
set_option maxRecDepth 100000 in
theorem lawOrders_c {w : World} {xs : List RowR} {p : Option Addr} {n cap : Nat} (ro st : ByteArray) (va : Int) (hx : RowsX w p n cap xs)
    (hA : ∀ W1, Gr w W1 → Calls Tryz.prog 7 #[] W1 fun e w' => e = .returned (.bool true) ∧ Gr W1 w') :
    Calls Tryz.prog 4 #[.agg #[.string ro, .int .i64 va, .string st, .slice p n cap]] w fun e w' => e = .returned (.bool true) ∧ Gr w w' := by
  obtain ⟨W, hW, g, s0, s1, s2, s3⟩ := box4 w (.string ro) (.int .i64 va) (.string st) (.slice p n cap) 24
  have HW := Lib.hid hW
  have HA := Lib.hid hA
  have HX := Lib.hid hx
  have HSh := Lib.hid (fun W (k : Gr w W) => shortSh_c (w := W) (cap := cap) ro st va (HX.out.gr k).len (Nat.le_trans HX.out.cap.1 HX.out.cap.2) (HX.out.gr k).at_)
  have hsz : w.heap.size ≤ W.heap.size := g.size
  clear hW hA hx
  go_enter Tryz.func4, Tryz.ntmps4
  go_wp2_with fail
  rw [HW.out]
  clear HW
  generalize hLw : w.heap.size = L at *
  go_wp2_with fail
  refine (HSh.out _ g).mono ?_
  rintro e W3 ⟨⟨r, rfl, hr⟩, hg⟩
  replace s0 := hg.cell s0
  replace s1 := hg.cell s1
  replace s2 := hg.cell s2
  replace s3 := hg.cell s3
  replace g := g.trans hg
  clear hg HSh
  cases r
  · clear hr HX
    go_wp2_with fail
    refine (HA.out _ g).mono ?_
    rintro e w9 ⟨rfl, hg⟩
    go_wp2_with fail
    go_ret
    exact ⟨rfl, g.trans hg⟩
  have hv := HX.out.rows (hr rfl)
  have hn := HX.out.len
  clear hr HX
  have HRef := Lib.hid (refSheet_all ro st va (hv.gr g))
  go_wp2_with fail
  refine HRef.out.mono ?_
  rintro e W4 ⟨rfl, hg⟩
  replace s0 := hg.cell s0
  replace s1 := hg.cell s1
  replace s2 := hg.cell s2
  replace s3 := hg.cell s3
  replace g := g.trans hg
  clear hg HRef
  by_cases hE : sheetE ro va st xs = 0
  case neg =>
    have hz : (sheetE ro va st xs != 0) = true := bne_iff_ne.2 hE
    generalize sheetE ro va st xs = E at *
    clear hE hv
    go_wp2_with fail
    refine (HA.out _ g).mono ?_
    rintro e w9 ⟨rfl, hg⟩
    go_wp2_with fail
    go_ret
    exact ⟨rfl, g.trans hg⟩
  have hz : (sheetE ro va st xs != 0) = false := by rw [hE]; rfl
  by_cases h8 : (8 : Int) < n
  · have h8d : decide ((8 : Int) < n) = true := decide_eq_true h8
    rw [hE]
    clear hv
    go_wp2_with fail
    refine (HA.out _ g).mono ?_
    rintro e w9 ⟨rfl, hg⟩
    go_wp2_with fail
    go_ret
    exact ⟨rfl, g.trans hg⟩
  have h8d : decide ((8 : Int) < n) = false := decide_eq_false h8
  have HRk := Lib.hid (officeRanks_ok ro st va (hv.gr g) hE)
  have HLEN := Lib.hid (lens_of_zero hE)
  have hgr := grades_of_zero hE
  have HRANK := Lib.hid (fun (k : Nat) (x y : RowR) (hx : x ∈ xs) (hy : xs[k]? = some y) => rank_iff hgr hx hy)
  have HGRADE := Lib.hid hgr
  rw [hE]
  clear hgr hz
  go_wp2_with fail
  refine HRk.out.mono ?_
  rintro e WR ⟨vr, rfl, hown, hg⟩
  replace s3 := hg.cell s3
  replace g := g.trans hg
  obtain ⟨rq0, rc, rfl, hI⟩ := own_sliceO hown
  clear s0 s1 s2 hg hown HRk hE
  have hLR : L ≤ WR.heap.size := by rw [← hLw]; exact g.size
  -- the map of the states
  have hm0 := mapG_new (ev := evIO) WR
  obtain ⟨o1, p1, hm1⟩ := mapG_put uMapIO hm0 ⟨#[]⟩ 0
  obtain ⟨o2, p2, hm2⟩ := mapG_put uMapIO hm1 ⟨#[100, 110, 115]⟩ 1
  obtain ⟨o3, p3, hm3⟩ := mapG_put uMapIO hm2 ⟨#[100, 110, 102]⟩ 2
  obtain ⟨o4, p4, hm4⟩ := mapG_put uMapIO hm3 ⟨#[100, 115, 113]⟩ 3
  have hGM := gr_putG (ob := o4) (gr_putG (ob := o3) (gr_putG (ob := o2) (gr_putG (ob := o1) ((Gr.refl WR).alloc (.map #[] 0)) (Nat.le_refl _)) (Nat.le_refl _)) (Nat.le_refl _)) (Nat.le_refl _)
  have p1 : (Instr.mapUpdate 44 (.map (some WR.heap.size)) (.string ⟨#[]⟩) (.int .i64 0)).run Tryz.prog _ = _ := p1
  have p2 : (Instr.mapUpdate 44 (.map (some WR.heap.size)) (.string ⟨#[100, 110, 115]⟩) (.int .i64 1)).run Tryz.prog _ = _ := p2
  have p3 : (Instr.mapUpdate 44 (.map (some WR.heap.size)) (.string ⟨#[100, 110, 102]⟩) (.int .i64 2)).run Tryz.prog _ = _ := p3
  have p4 : (Instr.mapUpdate 44 (.map (some WR.heap.size)) (.string ⟨#[100, 115, 113]⟩) (.int .i64 3)).run Tryz.prog _ = _ := p4
  obtain ⟨WM, hWM⟩ : ∃ V, putGB (putGB (putGB (putGB (WR.alloc (.map #[] 0)) WR.heap.size o1) WR.heap.size o2) WR.heap.size o3) WR.heap.size o4 = V := ⟨_, rfl⟩
  rw [hWM] at hm4 hGM
  have HM4 : Hid (MapG evIO WM WR.heap.size ksO) := hm4
  have HWM := Lib.hid hWM
  have HGM := Lib.hid hGM
  have HII := Lib.hid (hI.gr hGM)
  have HG := Lib.hid (g.trans hGM)
  have hs3M := hGM.cell s3
  have s3w := hs3M
  rw [← hWM] at s3w
  have HCC := Lib.hid (fun (h0 : 0 < n) => hv.atO.2.2 h0)
  have hmm := @run_makeMap Tryz.prog
  have hrl : (ranksO xs).length = n := by simp [ranksO, hn]
  have HRow := Lib.hid (fun k (h : k < n) => (show ∃ x, xs[k]? = some x ∧ (ranksO xs)[k]? = some (rankO xs x) from by
    obtain ⟨x, hx⟩ : ∃ x, xs[k]? = some x := ⟨xs[k]'(by omega), List.getElem?_eq_getElem _⟩
    exact ⟨x, hx, ranksO_at hx⟩))
  have HFin := Lib.hid (fun x => (show 1 + cntO xs x n = rankO xs x from by unfold rankO; rw [hn]))
  have HNN : Hid (xs.length = n) := hn
  clear hm0 hm1 hm2 hm3 hm4 hWM hGM hI g hv hn hLw hLR hrl
  go_wp2_with fail
  rw [HWM.out]
  clear HWM p1 p2 p3 p4 hmm s3 s3w
  generalize WR.heap.size = mg at *
  have s3 := hs3M
  clear hs3M
  go_loopg [47] n (fun gk s47 wr => ∃ k : Nat, s47 = .int .i64 k ∧ gk + k = n ∧ Gr WM wr)
  case atStart => exact ⟨0, rfl, by omega, Gr.refl _⟩
  case round =>
    obtain ⟨k, rfl, hk, hnx⟩ := hrel
    by_cases hkN : k < n
    · obtain ⟨x, hx, hrx⟩ := HRow.out k hkN
      obtain ⟨b, off, rfl, hcc⟩ := HCC.out (by omega)
      have HCR := Lib.hid hcc
      obtain ⟨rb, rf, rfl, hri⟩ := HII.out.out (by omega)
      have HRI := Lib.hid hri
      obtain ⟨c0, c1, c2, hxv, _⟩ := (hcc k x hx).gr (HG.out.trans hnx)
      obtain ⟨⟨pu, cu, hu, hhx⟩⟩ := id hxv
      rw [hu] at c2
      have a3 := hnx.cell s3
      have rk0 := hnx.cell (hri k _ hrx)
      have hk2 : (k : Int) < n := by omega
      have HX := Lib.hid hx
      obtain ⟨W5, hW5, g5, x0, x1, x2⟩ := box3 wr (.string x.nm) (.string x.st) (.slice pu x.xs.length cu) 46
      have HHX := Lib.hid hhx
      have a3w := g5.cell a3
      rw [← hW5] at a3w
      have HW5 := Lib.hid hW5
      have HGX0 := HGRADE.out x (List.mem_of_getElem? hx)
      have hxm := List.mem_of_getElem? hx
      have HR := Lib.hid (HRANK.out)
      obtain ⟨G, rfl⟩ : ∃ G, G = gk := ⟨_, rfl⟩
      clear hx hu hxv hhx hW5 hcc hri hrx
      go_wp2_with fail
      rw [HW5.out]
      clear HW5 a3w c0 c1 c2
      have HG5 := Lib.hid g5
      have HNX := Lib.hid hnx
      have rk5 := g5.cell rk0
      clear g5 a3 rk0
      generalize wr.heap.size = Bx at *
      obtain ⟨rx, hrx⟩ : ∃ z, z = rankO xs x := ⟨_, rfl⟩
      rw [← hrx] at rk5
      obtain ⟨gx, hgx⟩ : ∃ z, z = gradeZ x.st.toList := ⟨_, rfl⟩
      go_loopw [8, 55] (fun c iq wi => ∃ q : Nat, q ≤ n ∧ iq = .int .i64 q ∧ c = .int .i64 (1 + cntO xs x q) ∧ Gr W5 wi) (fun _ iq _ => n - (intOf iq).toNat)
      case atStart => exact ⟨0, Nat.zero_le _, rfl, rfl, Gr.refl _⟩
      case round =>
        obtain ⟨q, hq, rfl, rfl, hnq⟩ := hrel
        by_cases hqN : q < n
        · obtain ⟨y, hy, hry⟩ := HRow.out q hqN
          obtain ⟨y0, y1, y2, hyv, _⟩ := (HCR.out q y hy).gr (HG.out.trans (HNX.out.trans (HG5.out.trans hnq)))
          obtain ⟨⟨pv, cv, hv, hhy⟩⟩ := id hyv
          rw [hv] at y2
          have rq0 := (HNX.out.trans (HG5.out.trans hnq)).cell (HRI.out q _ hry)
          have hym := List.mem_of_getElem? hy
          have HR1 : Hid (decide (rankO xs y < rx) = betO y x) := by unfold Hid; rw [hrx]; exact HRANK.out q x y hxm hy
          have HR2 : Hid (decide (rx < rankO xs y) = betO x y) := by unfold Hid; rw [hrx]; exact HRANK.out k y x hym HX.out
          have HCNT := Lib.hid (cntO_step (x := x) hy)
          rw [← HR1.out] at HCNT
          have HGY0 := HGRADE.out y hym
          have hcb := cntO_le xs x q
          obtain ⟨WA, hWA, g, yb0, yb1, yb2⟩ := box3 wr (.string y.nm) (.string y.st) (.slice pv y.xs.length cv) 46
          have HWA := Lib.hid hWA
          have xb1 := g.cell (hnq.cell x1)
          have xb2 := g.cell (hnq.cell x2)
          have rk := g.cell (hnq.cell rk5)
          have rq := g.cell rq0
          have HHX2 := Lib.hid (fun h0 => (show ∃ b off, pu = some ⟨b, off, none⟩ ∧ ∀ i z, x.xs[i]? = some z → wr.cell? ⟨b, off + i, none⟩ = some (.int .i64 z) from by
            obtain ⟨b, off, e, hc⟩ := HHX.out h0
            exact ⟨b, off, e, fun i z hz => (HG5.out.trans hnq).cell (hc i z hz)⟩))
          have HHY := Lib.hid hhy
          have HMP := Lib.hid (HM4.out.gr (HNX.out.trans (HG5.out.trans hnq)))
          obtain ⟨gy, hgy⟩ : ∃ z, z = gradeZ y.st.toList := ⟨_, rfl⟩
          have HLX : Hid (∀ W', Gr wr W' → (Instr.lookup 44 (.map (some mg)) (.string x.st) false).run Tryz.prog W' = .ok (.int .i64 gx) W') := fun W' k' => by
            rw [mapG_look uMapIO zeroIO (HMP.out.gr k') x.st, ksO_at _ HGX0, hgx]
          have HLY : Hid (∀ W', Gr wr W' → (Instr.lookup 44 (.map (some mg)) (.string y.st) false).run Tryz.prog W' = .ok (.int .i64 gy) W') := fun W' k' => by
            rw [mapG_look uMapIO zeroIO (HMP.out.gr k') y.st, ksO_at _ HGY0, hgy]
          have HGX : Hid (gradeZ x.st.toList = gx) := hgx.symm
          have HGY : Hid (gradeZ y.st.toList = gy) := hgy.symm
          have HGXn : Hid (gx ≠ -1) := by unfold Hid; rw [hgx]; exact HGX0
          have HY := Lib.hid hy
          have HNQ := Lib.hid hnq
          have hq2 : (q : Int) < n := by omega
          have hq1 : (q : Int) ≤ 8 := by omega
          have HHX := HHX2
          clear HHX2
          generalize rankO xs y = ry at *
          clear hy hry hyv hv hhy hgy hWA rq0 hym HGX0 HGY0 HMP yb0 hnq x0 x1 x2 rk5 hrx hgx hxm HR
          generalize cntO xs x q = cq at *
          have hRG := HRANK.out
          by_cases hst : x.st.toList = y.st.toList
          · have hs2 : (x.st.toList == y.st.toList) = true := beq_iff_eq.2 hst
            have hgg : decide (gx < gy) = false := decide_eq_false (by rw [← HGX.out, ← HGY.out, hst]; omega)
            have hlen : x.xs.length = y.xs.length := HLEN.out k q x y HX.out HY.out hs2
            have HC12 : Hid (decide (rx < ry) = decide (0 < cmpL x.xs y.xs)) := by
              unfold Hid
              rw [HR2.out]
              unfold betO
              rw [if_pos hs2]
            have HCEQ : Hid (cmpL x.xs y.xs = 0 → ry = rx) := fun h => by
              have h1 : betO x y = false := by unfold betO; rw [if_pos hs2]; exact decide_eq_false (by omega)
              have h2 : betO y x = false := by
                have hf := cmpL_flip x.xs y.xs
                unfold betO
                rw [if_pos (by rw [hst]; simp)]
                exact decide_eq_false (by omega)
              rw [← HR2.out] at h1
              rw [← HR1.out] at h2
              have h1 := of_decide_eq_false h1
              have h2 := of_decide_eq_false h2
              omega
            have HXV := Lib.hid (fun j (h : j < x.xs.length) => (show ∃ c d, x.xs[j]? = some c ∧ y.xs[j]? = some d from ⟨_, _, List.getElem?_eq_getElem h, List.getElem?_eq_getElem (by omega)⟩))
            have HEnd : Hid (∀ j, x.xs.length ≤ j → cmpL (x.xs.drop j) (y.xs.drop j) = 0) := by
              intro j hj
              rw [cmpL_end hj, decide_eq_false (by omega)]
              rfl
            have HStep := Lib.hid (fun j c d (hc : x.xs[j]? = some c) (hd : y.xs[j]? = some d) => cmpL_drop hc hd)
            rw [← hlen] at HWA yb2 y2 HHY
            clear HY hs2 HR1 HR2 HLEN HRANK HGRADE hRG HX HRow HCC
            generalize x.xs.length = xn at *
            clear hlen
            cases hD : decide (ry < rx)
            · rw [hD] at HCNT
              have HCN2 : Hid (cntO xs x (q + 1) = cq) := by unfold Hid; rw [HCNT.out]; rfl
              clear HCNT
              go_wp2_with fail
              rw [HWA.out]
              generalize wr.heap.size = By at *
              have gd := (Gr.refl WA).drew
              replace xb1 := gd.cell xb1
              replace xb2 := gd.cell xb2
              replace yb1 := gd.cell yb1
              replace yb2 := gd.cell yb2
              replace rk := gd.cell rk
              replace rq := gd.cell rq
              replace g := g.trans gd
              clear gd
              refine wp_region_held_drew (S := (fun w' => w'.cell? ⟨Bx, 1, none⟩ = some (.string x.st) ∧ w'.cell? ⟨Bx, 2, none⟩ = some (.slice pu xn cu) ∧ w'.cell? ⟨By, 1, none⟩ = some (.string y.st) ∧ w'.cell? ⟨By, 2, none⟩ = some (.slice pv xn cv) ∧ w'.cell? ⟨rb, rf + k, none⟩ = some (.int .i64 rx) ∧ w'.cell? ⟨rb, rf + q, none⟩ = some (.int .i64 ry))) (by kernel_rfl) ⟨xb1, xb2, yb1, yb2, rk, rq⟩ (fun hHeld => ?_)
              generalize WA.drew = V14 at *
              refine wpAnyH_take (i := 0) (v := (.slice (some ⟨rb, rf, none⟩) n rc)) (op_at rfl) (by kernel_rfl) (by kernel_rfl) (by kernel_rfl) (fun _ _ _ h => h) (Or.inl ⟨rfl, fun w hSw => ?_⟩) (by assumption) ?_
              · (try dsimp only at hSw); go_simp; try with_reducible rfl
              (try simp only [Act.put, List.setIfInBounds_toArray, List.set_cons_zero, List.set_cons_succ])
              refine wpAnyH_take (i := 1) (v := (.int .i64 q)) (op_at rfl) (by kernel_rfl) (by kernel_rfl) (by kernel_rfl) (fun _ _ _ h => h) (Or.inl ⟨rfl, fun w hSw => ?_⟩) (by assumption) ?_
              · (try dsimp only at hSw); go_simp; try with_reducible rfl
              (try simp only [Act.put, List.setIfInBounds_toArray, List.set_cons_zero, List.set_cons_succ])
              refine wpAnyH_take (i := 2) (v := (.pointer (some ⟨rb, rf + q, none⟩))) (op_at rfl) (by kernel_rfl) (by kernel_rfl) (by kernel_rfl) (fun _ _ _ h => h) (Or.inl ⟨rfl, fun w hSw => ?_⟩) (by assumption) ?_
              · (try dsimp only at hSw); go_simp; try with_reducible rfl
              (try simp only [Act.put, List.setIfInBounds_toArray, List.set_cons_zero, List.set_cons_succ])
              refine wpAnyH_take (i := 3) (v := (.int .i64 ry)) (op_at rfl) (by kernel_rfl) (by kernel_rfl) (by kernel_rfl) (fun _ _ _ h => h) (Or.inl ⟨rfl, fun w hSw => ?_⟩) (by assumption) ?_
              · (try dsimp only at hSw); go_simp; try with_reducible rfl
              (try simp only [Act.put, List.setIfInBounds_toArray, List.set_cons_zero, List.set_cons_succ])
              refine wpAnyH_take (i := 4) (v := (.slice (some ⟨rb, rf, none⟩) n rc)) (op_at rfl) (by kernel_rfl) (by kernel_rfl) (by kernel_rfl) (fun _ _ _ h => h) (Or.inl ⟨rfl, fun w hSw => ?_⟩) (by assumption) ?_
              · (try dsimp only at hSw); go_simp; try with_reducible rfl
              (try simp only [Act.put, List.setIfInBounds_toArray, List.set_cons_zero, List.set_cons_succ])
              refine wpAnyH_take (i := 5) (v := (.int .i64 k)) (op_at rfl) (by kernel_rfl) (by kernel_rfl) (by kernel_rfl) (fun _ _ _ h => h) (Or.inl ⟨rfl, fun w hSw => ?_⟩) (by assumption) ?_
              · (try dsimp only at hSw); go_simp; try with_reducible rfl
              (try simp only [Act.put, List.setIfInBounds_toArray, List.set_cons_zero, List.set_cons_succ])
              refine wpAnyH_take (i := 6) (v := (.pointer (some ⟨rb, rf + k, none⟩))) (op_at rfl) (by kernel_rfl) (by kernel_rfl) (by kernel_rfl) (fun _ _ _ h => h) (Or.inl ⟨rfl, fun w hSw => ?_⟩) (by assumption) ?_
              · (try dsimp only at hSw); go_simp; try with_reducible rfl
              (try simp only [Act.put, List.setIfInBounds_toArray, List.set_cons_zero, List.set_cons_succ])
              refine wpAnyH_take (i := 7) (v := (.int .i64 rx)) (op_at rfl) (by kernel_rfl) (by kernel_rfl) (by kernel_rfl) (fun _ _ _ h => h) (Or.inl ⟨rfl, fun w hSw => ?_⟩) (by assumption) ?_
              · (try dsimp only at hSw); go_simp; try with_reducible rfl
              (try simp only [Act.put, List.setIfInBounds_toArray, List.set_cons_zero, List.set_cons_succ])
              refine wpAnyH_take (i := 8) (v := (.bool false)) (op_at rfl) (by kernel_rfl) (by kernel_rfl) (by kernel_rfl) (fun _ _ _ h => h) (Or.inl ⟨rfl, fun w hSw => ?_⟩) (by assumption) ?_
              · (try dsimp only at hSw); go_simp; try with_reducible rfl
              (try simp only [Act.put, List.setIfInBounds_toArray, List.set_cons_zero, List.set_cons_succ])
              refine wpAnyH_done (by kernel_rfl) ?_ _
              clear hHeld
              go_wp2_with fail
              have gd := (Gr.refl V14).drew
              replace xb1 := gd.cell xb1
              replace xb2 := gd.cell xb2
              replace yb1 := gd.cell yb1
              replace yb2 := gd.cell yb2
              replace rk := gd.cell rk
              replace rq := gd.cell rq
              replace g := g.trans gd
              clear gd
              refine wp_region_held_drew (S := (fun w' => w'.cell? ⟨Bx, 1, none⟩ = some (.string x.st) ∧ w'.cell? ⟨Bx, 2, none⟩ = some (.slice pu xn cu) ∧ w'.cell? ⟨By, 1, none⟩ = some (.string y.st) ∧ w'.cell? ⟨By, 2, none⟩ = some (.slice pv xn cv) ∧ w'.cell? ⟨rb, rf + k, none⟩ = some (.int .i64 rx) ∧ w'.cell? ⟨rb, rf + q, none⟩ = some (.int .i64 ry) ∧ (Instr.lookup 44 (.map (some mg)) (.string x.st) false).run Tryz.prog w' = .ok (.int .i64 gx) w' ∧ (Instr.lookup 44 (.map (some mg)) (.string y.st) false).run Tryz.prog w' = .ok (.int .i64 gy) w')) (by kernel_rfl) ⟨xb1, xb2, yb1, yb2, rk, rq, HLX.out _ g, HLY.out _ g⟩ (fun hHeld => ?_)
              generalize V14.drew = V16 at *
              refine wpAnyH_take (i := 0) (v := (.map (some mg))) (op_at rfl) (by kernel_rfl) (by kernel_rfl) (by kernel_rfl) (fun _ _ _ h => h) (Or.inl ⟨rfl, fun w hSw => ?_⟩) (by assumption) ?_
              · (try dsimp only at hSw); go_simp; try with_reducible rfl
              (try simp only [Act.put, List.setIfInBounds_toArray, List.set_cons_zero, List.set_cons_succ])
              refine wpAnyH_take (i := 1) (v := (.pointer (some ⟨Bx, 1, none⟩))) (op_at rfl) (by kernel_rfl) (by kernel_rfl) (by kernel_rfl) (fun _ _ _ h => h) (Or.inl ⟨rfl, fun w hSw => ?_⟩) (by assumption) ?_
              · (try dsimp only at hSw); go_simp; try with_reducible rfl
              (try simp only [Act.put, List.setIfInBounds_toArray, List.set_cons_zero, List.set_cons_succ])
              refine wpAnyH_take (i := 2) (v := (.string x.st)) (op_at rfl) (by kernel_rfl) (by kernel_rfl) (by kernel_rfl) (fun _ _ _ h => h) (Or.inl ⟨rfl, fun w hSw => ?_⟩) (by assumption) ?_
              · (try dsimp only at hSw); go_simp; try with_reducible rfl
              (try simp only [Act.put, List.setIfInBounds_toArray, List.set_cons_zero, List.set_cons_succ])
              refine wpAnyH_take (i := 3) (v := (.int .i64 gx)) (op_at rfl) (by kernel_rfl) (by kernel_rfl) (by kernel_rfl) (fun _ _ _ h => h) (Or.inl ⟨rfl, fun w hSw => ?_⟩) (by assumption) ?_
              · (try dsimp only at hSw); go_simp; try with_reducible rfl
              (try simp only [Act.put, List.setIfInBounds_toArray, List.set_cons_zero, List.set_cons_succ])
              refine wpAnyH_take (i := 4) (v := (.map (some mg))) (op_at rfl) (by kernel_rfl) (by kernel_rfl) (by kernel_rfl) (fun _ _ _ h => h) (Or.inl ⟨rfl, fun w hSw => ?_⟩) (by assumption) ?_
              · (try dsimp only at hSw); go_simp; try with_reducible rfl
              (try simp only [Act.put, List.setIfInBounds_toArray, List.set_cons_zero, List.set_cons_succ])
              refine wpAnyH_take (i := 5) (v := (.pointer (some ⟨By, 1, none⟩))) (op_at rfl) (by kernel_rfl) (by kernel_rfl) (by kernel_rfl) (fun _ _ _ h => h) (Or.inl ⟨rfl, fun w hSw => ?_⟩) (by assumption) ?_
              · (try dsimp only at hSw); go_simp; try with_reducible rfl
              (try simp only [Act.put, List.setIfInBounds_toArray, List.set_cons_zero, List.set_cons_succ])
              refine wpAnyH_take (i := 6) (v := (.string y.st)) (op_at rfl) (by kernel_rfl) (by kernel_rfl) (by kernel_rfl) (fun _ _ _ h => h) (Or.inl ⟨rfl, fun w hSw => ?_⟩) (by assumption) ?_
              · (try dsimp only at hSw); go_simp; try with_reducible rfl
              (try simp only [Act.put, List.setIfInBounds_toArray, List.set_cons_zero, List.set_cons_succ])
              refine wpAnyH_take (i := 7) (v := (.int .i64 gy)) (op_at rfl) (by kernel_rfl) (by kernel_rfl) (by kernel_rfl) (fun _ _ _ h => h) (Or.inl ⟨rfl, fun w hSw => ?_⟩) (by assumption) ?_
              · (try dsimp only at hSw); go_simp; try with_reducible rfl
              (try simp only [Act.put, List.setIfInBounds_toArray, List.set_cons_zero, List.set_cons_succ])
              refine wpAnyH_take (i := 8) (v := (.bool false)) (op_at rfl) (by kernel_rfl) (by kernel_rfl) (by kernel_rfl) (fun _ _ _ h => h) (Or.inl ⟨rfl, fun w hSw => ?_⟩) (by assumption) ?_
              · (try dsimp only at hSw); go_simp; try with_reducible rfl
              (try simp only [Act.put, List.setIfInBounds_toArray, List.set_cons_zero, List.set_cons_succ])
              refine wpAnyH_take (i := 9) (v := (.bool false)) (op_at rfl) (by kernel_rfl) (by kernel_rfl) (by kernel_rfl) (fun _ _ _ h => h) (Or.inl ⟨rfl, fun w hSw => ?_⟩) (by assumption) ?_
              · (try dsimp only at hSw); go_simp; try with_reducible rfl
              (try simp only [Act.put, List.setIfInBounds_toArray, List.set_cons_zero, List.set_cons_succ])
              refine wpAnyH_take (i := 10) (v := undef) (op_at rfl) (by kernel_rfl) (by kernel_rfl) (by kernel_rfl) (fun _ _ _ h => h) (Or.inr ⟨rfl, rfl⟩) (by assumption) ?_
              (try simp only [Act.put, List.setIfInBounds_toArray, List.set_cons_zero, List.set_cons_succ])
              refine wpAnyH_take (i := 11) (v := undef) (op_at rfl) (by kernel_rfl) (by kernel_rfl) (by kernel_rfl) (fun _ _ _ h => h) (Or.inr ⟨rfl, rfl⟩) (by assumption) ?_
              (try simp only [Act.put, List.setIfInBounds_toArray, List.set_cons_zero, List.set_cons_succ])
              refine wpAnyH_take (i := 12) (v := undef) (op_at rfl) (by kernel_rfl) (by kernel_rfl) (by kernel_rfl) (fun _ _ _ h => h) (Or.inr ⟨rfl, rfl⟩) (by assumption) ?_
              (try simp only [Act.put, List.setIfInBounds_toArray, List.set_cons_zero, List.set_cons_succ])
              refine wpAnyH_take (i := 13) (v := undef) (op_at rfl) (by kernel_rfl) (by kernel_rfl) (by kernel_rfl) (fun _ _ _ h => h) (Or.inr ⟨rfl, rfl⟩) (by assumption) ?_
              (try simp only [Act.put, List.setIfInBounds_toArray, List.set_cons_zero, List.set_cons_succ])
              refine wpAnyH_take (i := 14) (v := undef) (op_at rfl) (by kernel_rfl) (by kernel_rfl) (by kernel_rfl) (fun _ _ _ h => h) (Or.inr ⟨rfl, rfl⟩) (by assumption) ?_
              (try simp only [Act.put, List.setIfInBounds_toArray, List.set_cons_zero, List.set_cons_succ])
              refine wpAnyH_take (i := 15) (v := undef) (op_at rfl) (by kernel_rfl) (by kernel_rfl) (by kernel_rfl) (fun _ _ _ h => h) (Or.inr ⟨rfl, rfl⟩) (by assumption) ?_
              (try simp only [Act.put, List.setIfInBounds_toArray, List.set_cons_zero, List.set_cons_succ])
              refine wpAnyH_take (i := 16) (v := undef) (op_at rfl) (by kernel_rfl) (by kernel_rfl) (by kernel_rfl) (fun _ _ _ h => h) (Or.inr ⟨rfl, rfl⟩) (by assumption) ?_
              (try simp only [Act.put, List.setIfInBounds_toArray, List.set_cons_zero, List.set_cons_succ])
              refine wpAnyH_take (i := 17) (v := undef) (op_at rfl) (by kernel_rfl) (by kernel_rfl) (by kernel_rfl) (fun _ _ _ h => h) (Or.inr ⟨rfl, rfl⟩) (by assumption) ?_
              (try simp only [Act.put, List.setIfInBounds_toArray, List.set_cons_zero, List.set_cons_succ])
              refine wpAnyH_take (i := 18) (v := undef) (op_at rfl) (by kernel_rfl) (by kernel_rfl) (by kernel_rfl) (fun _ _ _ h => h) (Or.inr ⟨rfl, rfl⟩) (by assumption) ?_
              (try simp only [Act.put, List.setIfInBounds_toArray, List.set_cons_zero, List.set_cons_succ])
              refine wpAnyH_take (i := 19) (v := (.bool false)) (op_at rfl) (by kernel_rfl) (by kernel_rfl) (by kernel_rfl) (fun _ _ _ h => h) (Or.inl ⟨rfl, fun w hSw => ?_⟩) (by assumption) ?_
              · (try dsimp only at hSw); go_simp; try with_reducible rfl
              (try simp only [Act.put, List.setIfInBounds_toArray, List.set_cons_zero, List.set_cons_succ])
              refine wpAnyH_done (by kernel_rfl) ?_ _
              clear hHeld
              go_wp2_with fail
              have GV := Lib.hid g
              have XB2 := Lib.hid xb2
              have YB2 := Lib.hid yb2
              have RK := Lib.hid rk
              have RQ := Lib.hid rq
              clear xb1 xb2 yb1 yb2 rk rq g
              go_loopg [11] xn (fun gk3 s11 wi => ∃ j : Nat, s11 = .int .i64 j ∧ gk3 + j = xn ∧ Gr V16 wi ∧ Hid (cmpL (x.xs.drop j) (y.xs.drop j) = cmpL x.xs y.xs))
              case atStart => exact ⟨0, rfl, by omega, Gr.refl _, by simp [Hid]⟩
              case round =>
                obtain ⟨j, rfl, hj, hgj, HFj⟩ := hrel
                have xb2 := hgj.cell XB2.out
                have yb2 := hgj.cell YB2.out
                have rk := hgj.cell RK.out
                have rq := hgj.cell RQ.out
                by_cases hjl : j < xn
                · obtain ⟨c, d, hc, hd⟩ := HXV.out j hjl
                  obtain ⟨bx, ox, rfl, hcx⟩ := HHX.out (by omega)
                  obtain ⟨by2, oy, rfl, hcy⟩ := HHY.out (by omega)
                  have cx := (GV.out.trans hgj).cell (hcx j c hc)
                  have cy := (GV.out.trans hgj).cell (hcy j d hd)
                  have hst2 := HStep.out j c d hc hd
                  have hj2 : (j : Int) < xn := by omega
                  have hj3 : decide ((j : Int) < xn) = true := decide_eq_true hj2
                  have hj4 : ((j : Int) == xn) = false := beq_eq_false_iff_ne.2 (by omega)
                  clear hc hd hcx hcy
                  by_cases hcd : c = d
                  · subst hcd
                    rw [cmpZ_self, if_pos rfl] at hst2
                    have HF2 := Lib.hid hst2
                    have q1 : (c == c) = true := by simp
                    clear hst2
                    go_wp2_with fail
                    go_big_quiet (fail)
                    go_wp2_with fail
                    go_roundg (gk - 1)
                    case measure => omega
                    case rel => exact ⟨j + 1, by go_num, by omega, hgj.drewN _, by unfold Hid; rw [← HF2.out, HFj.out]⟩
                  · have q1 : (c == d) = false := beq_eq_false_iff_ne.2 hcd
                    have hz : ¬ cmpZ c d = 0 := fun h => hcd (cmpZ_zero h)
                    rw [if_neg hz] at hst2
                    have hpos : decide (0 < cmpZ c d) = decide (d < c) := by
                      unfold cmpZ
                      by_cases h1 : c < d
                      · have h2 : ¬ d < c := by omega
                        simp [h1, h2]
                      · by_cases h2 : d < c
                        · simp [h1, h2]
                        · exact absurd (show c = d by omega) hcd
                    have hcc : decide (rx < ry) = decide (d < c) := by rw [HC12.out, ← HFj.out, hst2, hpos]
                    clear hst2 hpos hz hcd HFj HC12
                    cases hdc : decide (d < c)
                    · rw [hdc] at hcc
                      go_wp2_with fail
                      go_big_quiet (fail)
                      go_wp2_with fail
                      go_big_quiet (fail)
                      go_wp2_with fail
                      go_roundw
                      case rel => exact ⟨q + 1, by omega, by go_num, by rw [HCN2.out]; try rfl, HNQ.out.trans (GV.out.trans (hgj.drewN _))⟩
                      case measure => simp [intOf]; omega
                    · rw [hdc] at hcc
                      go_wp2_with fail
                      go_big_quiet (fail)
                      go_wp2_with fail
                      go_big_quiet (fail)
                      go_wp2_with fail
                      go_roundw
                      case rel => exact ⟨q + 1, by omega, by go_num, by rw [HCN2.out]; try rfl, HNQ.out.trans (GV.out.trans (hgj.drewN _))⟩
                      case measure => simp [intOf]; omega
                · have hj2 : ¬ (j : Int) < xn := by omega
                  have hjn : j = xn := by omega
                  have hj3 : decide ((j : Int) < xn) = false := decide_eq_false hj2
                  have hj4 : ((j : Int) == xn) = true := by rw [hjn]; simp
                  have hreq : ry = rx := HCEQ.out (by rw [← HFj.out, HEnd.out j (by omega)])
                  have hne : (rx != ry) = false := by rw [hreq]; simp
                  clear hreq HFj HC12 HCEQ HXV HEnd HStep hjn
                  go_wp2_with fail
                  go_big_quiet (fail)
                  go_wp2_with fail
                  go_big_quiet (fail)
                  go_wp2_with fail
                  go_roundw
                  case rel => exact ⟨q + 1, by omega, by go_num, by rw [HCN2.out]; try rfl, HNQ.out.trans (GV.out.trans (hgj.drewN _))⟩
                  case measure => simp [intOf]; omega
            · rw [hD] at HCNT
              have HCN2 : Hid (cntO xs x (q + 1) = cq + 1) := by unfold Hid; rw [HCNT.out]; rfl
              clear HCNT
              go_wp2_with fail
              rw [HWA.out]
              generalize wr.heap.size = By at *
              have gd := (Gr.refl WA).drew
              replace xb1 := gd.cell xb1
              replace xb2 := gd.cell xb2
              replace yb1 := gd.cell yb1
              replace yb2 := gd.cell yb2
              replace rk := gd.cell rk
              replace rq := gd.cell rq
              replace g := g.trans gd
              clear gd
              refine wp_region_held_drew (S := (fun w' => w'.cell? ⟨Bx, 1, none⟩ = some (.string x.st) ∧ w'.cell? ⟨Bx, 2, none⟩ = some (.slice pu xn cu) ∧ w'.cell? ⟨By, 1, none⟩ = some (.string y.st) ∧ w'.cell? ⟨By, 2, none⟩ = some (.slice pv xn cv) ∧ w'.cell? ⟨rb, rf + k, none⟩ = some (.int .i64 rx) ∧ w'.cell? ⟨rb, rf + q, none⟩ = some (.int .i64 ry))) (by kernel_rfl) ⟨xb1, xb2, yb1, yb2, rk, rq⟩ (fun hHeld => ?_)
              generalize WA.drew = V14 at *
              refine wpAnyH_take (i := 0) (v := (.slice (some ⟨rb, rf, none⟩) n rc)) (op_at rfl) (by kernel_rfl) (by kernel_rfl) (by kernel_rfl) (fun _ _ _ h => h) (Or.inl ⟨rfl, fun w hSw => ?_⟩) (by assumption) ?_
              · (try dsimp only at hSw); go_simp; try with_reducible rfl
              (try simp only [Act.put, List.setIfInBounds_toArray, List.set_cons_zero, List.set_cons_succ])
              refine wpAnyH_take (i := 1) (v := (.int .i64 q)) (op_at rfl) (by kernel_rfl) (by kernel_rfl) (by kernel_rfl) (fun _ _ _ h => h) (Or.inl ⟨rfl, fun w hSw => ?_⟩) (by assumption) ?_
              · (try dsimp only at hSw); go_simp; try with_reducible rfl
              (try simp only [Act.put, List.setIfInBounds_toArray, List.set_cons_zero, List.set_cons_succ])
              refine wpAnyH_take (i := 2) (v := (.pointer (some ⟨rb, rf + q, none⟩))) (op_at rfl) (by kernel_rfl) (by kernel_rfl) (by kernel_rfl) (fun _ _ _ h => h) (Or.inl ⟨rfl, fun w hSw => ?_⟩) (by assumption) ?_
              · (try dsimp only at hSw); go_simp; try with_reducible rfl
              (try simp only [Act.put, List.setIfInBounds_toArray, List.set_cons_zero, List.set_cons_succ])
              refine wpAnyH_take (i := 3) (v := (.int .i64 ry)) (op_at rfl) (by kernel_rfl) (by kernel_rfl) (by kernel_rfl) (fun _ _ _ h => h) (Or.inl ⟨rfl, fun w hSw => ?_⟩) (by assumption) ?_
              · (try dsimp only at hSw); go_simp; try with_reducible rfl
              (try simp only [Act.put, List.setIfInBounds_toArray, List.set_cons_zero, List.set_cons_succ])
              refine wpAnyH_take (i := 4) (v := (.slice (some ⟨rb, rf, none⟩) n rc)) (op_at rfl) (by kernel_rfl) (by kernel_rfl) (by kernel_rfl) (fun _ _ _ h => h) (Or.inl ⟨rfl, fun w hSw => ?_⟩) (by assumption) ?_
              · (try dsimp only at hSw); go_simp; try with_reducible rfl
              (try simp only [Act.put, List.setIfInBounds_toArray, List.set_cons_zero, List.set_cons_succ])
              refine wpAnyH_take (i := 5) (v := (.int .i64 k)) (op_at rfl) (by kernel_rfl) (by kernel_rfl) (by kernel_rfl) (fun _ _ _ h => h) (Or.inl ⟨rfl, fun w hSw => ?_⟩) (by assumption) ?_
              · (try dsimp only at hSw); go_simp; try with_reducible rfl
              (try simp only [Act.put, List.setIfInBounds_toArray, List.set_cons_zero, List.set_cons_succ])
              refine wpAnyH_take (i := 6) (v := (.pointer (some ⟨rb, rf + k, none⟩))) (op_at rfl) (by kernel_rfl) (by kernel_rfl) (by kernel_rfl) (fun _ _ _ h => h) (Or.inl ⟨rfl, fun w hSw => ?_⟩) (by assumption) ?_
              · (try dsimp only at hSw); go_simp; try with_reducible rfl
              (try simp only [Act.put, List.setIfInBounds_toArray, List.set_cons_zero, List.set_cons_succ])
              refine wpAnyH_take (i := 7) (v := (.int .i64 rx)) (op_at rfl) (by kernel_rfl) (by kernel_rfl) (by kernel_rfl) (fun _ _ _ h => h) (Or.inl ⟨rfl, fun w hSw => ?_⟩) (by assumption) ?_
              · (try dsimp only at hSw); go_simp; try with_reducible rfl
              (try simp only [Act.put, List.setIfInBounds_toArray, List.set_cons_zero, List.set_cons_succ])
              refine wpAnyH_take (i := 8) (v := (.bool true)) (op_at rfl) (by kernel_rfl) (by kernel_rfl) (by kernel_rfl) (fun _ _ _ h => h) (Or.inl ⟨rfl, fun w hSw => ?_⟩) (by assumption) ?_
              · (try dsimp only at hSw); go_simp; try with_reducible rfl
              (try simp only [Act.put, List.setIfInBounds_toArray, List.set_cons_zero, List.set_cons_succ])
              refine wpAnyH_done (by kernel_rfl) ?_ _
              clear hHeld
              go_wp2_with fail
              have gd := (Gr.refl V14).drew
              replace xb1 := gd.cell xb1
              replace xb2 := gd.cell xb2
              replace yb1 := gd.cell yb1
              replace yb2 := gd.cell yb2
              replace rk := gd.cell rk
              replace rq := gd.cell rq
              replace g := g.trans gd
              clear gd
              refine wp_region_held_drew (S := (fun w' => w'.cell? ⟨Bx, 1, none⟩ = some (.string x.st) ∧ w'.cell? ⟨Bx, 2, none⟩ = some (.slice pu xn cu) ∧ w'.cell? ⟨By, 1, none⟩ = some (.string y.st) ∧ w'.cell? ⟨By, 2, none⟩ = some (.slice pv xn cv) ∧ w'.cell? ⟨rb, rf + k, none⟩ = some (.int .i64 rx) ∧ w'.cell? ⟨rb, rf + q, none⟩ = some (.int .i64 ry) ∧ (Instr.lookup 44 (.map (some mg)) (.string x.st) false).run Tryz.prog w' = .ok (.int .i64 gx) w' ∧ (Instr.lookup 44 (.map (some mg)) (.string y.st) false).run Tryz.prog w' = .ok (.int .i64 gy) w')) (by kernel_rfl) ⟨xb1, xb2, yb1, yb2, rk, rq, HLX.out _ g, HLY.out _ g⟩ (fun hHeld => ?_)
              generalize V14.drew = V16 at *
              refine wpAnyH_take (i := 0) (v := (.map (some mg))) (op_at rfl) (by kernel_rfl) (by kernel_rfl) (by kernel_rfl) (fun _ _ _ h => h) (Or.inl ⟨rfl, fun w hSw => ?_⟩) (by assumption) ?_
              · (try dsimp only at hSw); go_simp; try with_reducible rfl
              (try simp only [Act.put, List.setIfInBounds_toArray, List.set_cons_zero, List.set_cons_succ])
              refine wpAnyH_take (i := 1) (v := (.pointer (some ⟨Bx, 1, none⟩))) (op_at rfl) (by kernel_rfl) (by kernel_rfl) (by kernel_rfl) (fun _ _ _ h => h) (Or.inl ⟨rfl, fun w hSw => ?_⟩) (by assumption) ?_
              · (try dsimp only at hSw); go_simp; try with_reducible rfl
              (try simp only [Act.put, List.setIfInBounds_toArray, List.set_cons_zero, List.set_cons_succ])
              refine wpAnyH_take (i := 2) (v := (.string x.st)) (op_at rfl) (by kernel_rfl) (by kernel_rfl) (by kernel_rfl) (fun _ _ _ h => h) (Or.inl ⟨rfl, fun w hSw => ?_⟩) (by assumption) ?_
              · (try dsimp only at hSw); go_simp; try with_reducible rfl
              (try simp only [Act.put, List.setIfInBounds_toArray, List.set_cons_zero, List.set_cons_succ])
              refine wpAnyH_take (i := 3) (v := (.int .i64 gx)) (op_at rfl) (by kernel_rfl) (by kernel_rfl) (by kernel_rfl) (fun _ _ _ h => h) (Or.inl ⟨rfl, fun w hSw => ?_⟩) (by assumption) ?_
              · (try dsimp only at hSw); go_simp; try with_reducible rfl
              (try simp only [Act.put, List.setIfInBounds_toArray, List.set_cons_zero, List.set_cons_succ])
              refine wpAnyH_take (i := 4) (v := (.map (some mg))) (op_at rfl) (by kernel_rfl) (by kernel_rfl) (by kernel_rfl) (fun _ _ _ h => h) (Or.inl ⟨rfl, fun w hSw => ?_⟩) (by assumption) ?_
              · (try dsimp only at hSw); go_simp; try with_reducible rfl
              (try simp only [Act.put, List.setIfInBounds_toArray, List.set_cons_zero, List.set_cons_succ])
              refine wpAnyH_take (i := 5) (v := (.pointer (some ⟨By, 1, none⟩))) (op_at rfl) (by kernel_rfl) (by kernel_rfl) (by kernel_rfl) (fun _ _ _ h => h) (Or.inl ⟨rfl, fun w hSw => ?_⟩) (by assumption) ?_
              · (try dsimp only at hSw); go_simp; try with_reducible rfl
              (try simp only [Act.put, List.setIfInBounds_toArray, List.set_cons_zero, List.set_cons_succ])
              refine wpAnyH_take (i := 6) (v := (.string y.st)) (op_at rfl) (by kernel_rfl) (by kernel_rfl) (by kernel_rfl) (fun _ _ _ h => h) (Or.inl ⟨rfl, fun w hSw => ?_⟩) (by assumption) ?_
              · (try dsimp only at hSw); go_simp; try with_reducible rfl
              (try simp only [Act.put, List.setIfInBounds_toArray, List.set_cons_zero, List.set_cons_succ])
              refine wpAnyH_take (i := 7) (v := (.int .i64 gy)) (op_at rfl) (by kernel_rfl) (by kernel_rfl) (by kernel_rfl) (fun _ _ _ h => h) (Or.inl ⟨rfl, fun w hSw => ?_⟩) (by assumption) ?_
              · (try dsimp only at hSw); go_simp; try with_reducible rfl
              (try simp only [Act.put, List.setIfInBounds_toArray, List.set_cons_zero, List.set_cons_succ])
              refine wpAnyH_take (i := 8) (v := (.bool false)) (op_at rfl) (by kernel_rfl) (by kernel_rfl) (by kernel_rfl) (fun _ _ _ h => h) (Or.inl ⟨rfl, fun w hSw => ?_⟩) (by assumption) ?_
              · (try dsimp only at hSw); go_simp; try with_reducible rfl
              (try simp only [Act.put, List.setIfInBounds_toArray, List.set_cons_zero, List.set_cons_succ])
              refine wpAnyH_take (i := 9) (v := (.bool false)) (op_at rfl) (by kernel_rfl) (by kernel_rfl) (by kernel_rfl) (fun _ _ _ h => h) (Or.inl ⟨rfl, fun w hSw => ?_⟩) (by assumption) ?_
              · (try dsimp only at hSw); go_simp; try with_reducible rfl
              (try simp only [Act.put, List.setIfInBounds_toArray, List.set_cons_zero, List.set_cons_succ])
              refine wpAnyH_take (i := 10) (v := undef) (op_at rfl) (by kernel_rfl) (by kernel_rfl) (by kernel_rfl) (fun _ _ _ h => h) (Or.inr ⟨rfl, rfl⟩) (by assumption) ?_
              (try simp only [Act.put, List.setIfInBounds_toArray, List.set_cons_zero, List.set_cons_succ])
              refine wpAnyH_take (i := 11) (v := undef) (op_at rfl) (by kernel_rfl) (by kernel_rfl) (by kernel_rfl) (fun _ _ _ h => h) (Or.inr ⟨rfl, rfl⟩) (by assumption) ?_
              (try simp only [Act.put, List.setIfInBounds_toArray, List.set_cons_zero, List.set_cons_succ])
              refine wpAnyH_take (i := 12) (v := undef) (op_at rfl) (by kernel_rfl) (by kernel_rfl) (by kernel_rfl) (fun _ _ _ h => h) (Or.inr ⟨rfl, rfl⟩) (by assumption) ?_
              (try simp only [Act.put, List.setIfInBounds_toArray, List.set_cons_zero, List.set_cons_succ])
              refine wpAnyH_take (i := 13) (v := undef) (op_at rfl) (by kernel_rfl) (by kernel_rfl) (by kernel_rfl) (fun _ _ _ h => h) (Or.inr ⟨rfl, rfl⟩) (by assumption) ?_
              (try simp only [Act.put, List.setIfInBounds_toArray, List.set_cons_zero, List.set_cons_succ])
              refine wpAnyH_take (i := 14) (v := undef) (op_at rfl) (by kernel_rfl) (by kernel_rfl) (by kernel_rfl) (fun _ _ _ h => h) (Or.inr ⟨rfl, rfl⟩) (by assumption) ?_
              (try simp only [Act.put, List.setIfInBounds_toArray, List.set_cons_zero, List.set_cons_succ])
              refine wpAnyH_take (i := 15) (v := undef) (op_at rfl) (by kernel_rfl) (by kernel_rfl) (by kernel_rfl) (fun _ _ _ h => h) (Or.inr ⟨rfl, rfl⟩) (by assumption) ?_
              (try simp only [Act.put, List.setIfInBounds_toArray, List.set_cons_zero, List.set_cons_succ])
              refine wpAnyH_take (i := 16) (v := undef) (op_at rfl) (by kernel_rfl) (by kernel_rfl) (by kernel_rfl) (fun _ _ _ h => h) (Or.inr ⟨rfl, rfl⟩) (by assumption) ?_
              (try simp only [Act.put, List.setIfInBounds_toArray, List.set_cons_zero, List.set_cons_succ])
              refine wpAnyH_take (i := 17) (v := undef) (op_at rfl) (by kernel_rfl) (by kernel_rfl) (by kernel_rfl) (fun _ _ _ h => h) (Or.inr ⟨rfl, rfl⟩) (by assumption) ?_
              (try simp only [Act.put, List.setIfInBounds_toArray, List.set_cons_zero, List.set_cons_succ])
              refine wpAnyH_take (i := 18) (v := undef) (op_at rfl) (by kernel_rfl) (by kernel_rfl) (by kernel_rfl) (fun _ _ _ h => h) (Or.inr ⟨rfl, rfl⟩) (by assumption) ?_
              (try simp only [Act.put, List.setIfInBounds_toArray, List.set_cons_zero, List.set_cons_succ])
              refine wpAnyH_take (i := 19) (v := (.bool false)) (op_at rfl) (by kernel_rfl) (by kernel_rfl) (by kernel_rfl) (fun _ _ _ h => h) (Or.inl ⟨rfl, fun w hSw => ?_⟩) (by assumption) ?_
              · (try dsimp only at hSw); go_simp; try with_reducible rfl
              (try simp only [Act.put, List.setIfInBounds_toArray, List.set_cons_zero, List.set_cons_succ])
              refine wpAnyH_done (by kernel_rfl) ?_ _
              clear hHeld
              go_wp2_with fail
              have GV := Lib.hid g
              have XB2 := Lib.hid xb2
              have YB2 := Lib.hid yb2
              have RK := Lib.hid rk
              have RQ := Lib.hid rq
              clear xb1 xb2 yb1 yb2 rk rq g
              go_loopg [11] xn (fun gk3 s11 wi => ∃ j : Nat, s11 = .int .i64 j ∧ gk3 + j = xn ∧ Gr V16 wi ∧ Hid (cmpL (x.xs.drop j) (y.xs.drop j) = cmpL x.xs y.xs))
              case atStart => exact ⟨0, rfl, by omega, Gr.refl _, by simp [Hid]⟩
              case round =>
                obtain ⟨j, rfl, hj, hgj, HFj⟩ := hrel
                have xb2 := hgj.cell XB2.out
                have yb2 := hgj.cell YB2.out
                have rk := hgj.cell RK.out
                have rq := hgj.cell RQ.out
                by_cases hjl : j < xn
                · obtain ⟨c, d, hc, hd⟩ := HXV.out j hjl
                  obtain ⟨bx, ox, rfl, hcx⟩ := HHX.out (by omega)
                  obtain ⟨by2, oy, rfl, hcy⟩ := HHY.out (by omega)
                  have cx := (GV.out.trans hgj).cell (hcx j c hc)
                  have cy := (GV.out.trans hgj).cell (hcy j d hd)
                  have hst2 := HStep.out j c d hc hd
                  have hj2 : (j : Int) < xn := by omega
                  have hj3 : decide ((j : Int) < xn) = true := decide_eq_true hj2
                  have hj4 : ((j : Int) == xn) = false := beq_eq_false_iff_ne.2 (by omega)
                  clear hc hd hcx hcy
                  by_cases hcd : c = d
                  · subst hcd
                    rw [cmpZ_self, if_pos rfl] at hst2
                    have HF2 := Lib.hid hst2
                    have q1 : (c == c) = true := by simp
                    clear hst2
                    go_wp2_with fail
                    go_big_quiet (fail)
                    go_wp2_with fail
                    go_roundg (gk - 1)
                    case measure => omega
                    case rel => exact ⟨j + 1, by go_num, by omega, hgj.drewN _, by unfold Hid; rw [← HF2.out, HFj.out]⟩
                  · have q1 : (c == d) = false := beq_eq_false_iff_ne.2 hcd
                    have hz : ¬ cmpZ c d = 0 := fun h => hcd (cmpZ_zero h)
                    rw [if_neg hz] at hst2
                    have hpos : decide (0 < cmpZ c d) = decide (d < c) := by
                      unfold cmpZ
                      by_cases h1 : c < d
                      · have h2 : ¬ d < c := by omega
                        simp [h1, h2]
                      · by_cases h2 : d < c
                        · simp [h1, h2]
                        · exact absurd (show c = d by omega) hcd
                    have hcc : decide (rx < ry) = decide (d < c) := by rw [HC12.out, ← HFj.out, hst2, hpos]
                    clear hst2 hpos hz hcd HFj HC12
                    cases hdc : decide (d < c)
                    · rw [hdc] at hcc
                      go_wp2_with fail
                      go_big_quiet (fail)
                      go_wp2_with fail
                      go_big_quiet (fail)
                      go_wp2_with fail
                      go_roundw
                      case rel => exact ⟨q + 1, by omega, by go_num, by rw [HCN2.out]; try (congr 1; omega), HNQ.out.trans (GV.out.trans (hgj.drewN _))⟩
                      case measure => simp [intOf]; omega
                    · rw [hdc] at hcc
                      go_wp2_with fail
                      go_big_quiet (fail)
                      go_wp2_with fail
                      go_big_quiet (fail)
                      go_wp2_with fail
                      go_roundw
                      case rel => exact ⟨q + 1, by omega, by go_num, by rw [HCN2.out]; try (congr 1; omega), HNQ.out.trans (GV.out.trans (hgj.drewN _))⟩
                      case measure => simp [intOf]; omega
                · have hj2 : ¬ (j : Int) < xn := by omega
                  have hjn : j = xn := by omega
                  have hj3 : decide ((j : Int) < xn) = false := decide_eq_false hj2
                  have hj4 : ((j : Int) == xn) = true := by rw [hjn]; simp
                  have hreq : ry = rx := HCEQ.out (by rw [← HFj.out, HEnd.out j (by omega)])
                  have hne : (rx != ry) = false := by rw [hreq]; simp
                  clear hreq HFj HC12 HCEQ HXV HEnd HStep hjn
                  go_wp2_with fail
                  go_big_quiet (fail)
                  go_wp2_with fail
                  go_big_quiet (fail)
                  go_wp2_with fail
                  go_roundw
                  case rel => exact ⟨q + 1, by omega, by go_num, by rw [HCN2.out]; try (congr 1; omega), HNQ.out.trans (GV.out.trans (hgj.drewN _))⟩
                  case measure => simp [intOf]; omega
          · have hs2 : (x.st.toList == y.st.toList) = false := by simpa using hst
            have hgne : gx ≠ gy := fun e => hst (gradeZ_inj (by rw [HGX.out, HGY.out]; exact e) (by rw [HGX.out]; exact HGXn.out))
            by_cases hlt : gx < gy
            · have hgg : decide (gx < gy) = true := decide_eq_true hlt
              have h1 : betO x y = true := by unfold betO; rw [if_neg (by rw [hs2]; simp), HGX.out, HGY.out]; exact hgg
              have h2 : betO y x = false := by unfold betO; rw [if_neg (by intro e; exact hst (eq_of_beq e).symm), HGX.out, HGY.out]; exact decide_eq_false (by omega)
              rw [← HR2.out] at h1
              rw [← HR1.out] at h2
              have hge : decide (ry ≤ rx) = false := decide_eq_false (by have := of_decide_eq_true h1; omega)
              rw [h2] at HCNT
              have HCN2 : Hid (cntO xs x (q + 1) = cq) := by unfold Hid; rw [HCNT.out]; rfl
              have hD := h2
              clear HCNT HY HR1 HR2 HLEN HRANK HGRADE hRG HX HRow HCC h1 h2 hlt
              generalize x.xs.length = xn at *
              generalize y.xs.length = yn at *
              go_wp2_with fail
              rw [HWA.out]
              generalize wr.heap.size = By at *
              have gd := (Gr.refl WA).drew
              replace xb1 := gd.cell xb1
              replace xb2 := gd.cell xb2
              replace yb1 := gd.cell yb1
              replace yb2 := gd.cell yb2
              replace rk := gd.cell rk
              replace rq := gd.cell rq
              replace g := g.trans gd
              clear gd
              refine wp_region_held_drew (S := (fun w' => w'.cell? ⟨Bx, 1, none⟩ = some (.string x.st) ∧ w'.cell? ⟨Bx, 2, none⟩ = some (.slice pu xn cu) ∧ w'.cell? ⟨By, 1, none⟩ = some (.string y.st) ∧ w'.cell? ⟨By, 2, none⟩ = some (.slice pv yn cv) ∧ w'.cell? ⟨rb, rf + k, none⟩ = some (.int .i64 rx) ∧ w'.cell? ⟨rb, rf + q, none⟩ = some (.int .i64 ry))) (by kernel_rfl) ⟨xb1, xb2, yb1, yb2, rk, rq⟩ (fun hHeld => ?_)
              generalize WA.drew = V14 at *
              refine wpAnyH_take (i := 0) (v := (.slice (some ⟨rb, rf, none⟩) n rc)) (op_at rfl) (by kernel_rfl) (by kernel_rfl) (by kernel_rfl) (fun _ _ _ h => h) (Or.inl ⟨rfl, fun w hSw => ?_⟩) (by assumption) ?_
              · (try dsimp only at hSw); go_simp; try with_reducible rfl
              (try simp only [Act.put, List.setIfInBounds_toArray, List.set_cons_zero, List.set_cons_succ])
              refine wpAnyH_take (i := 1) (v := (.int .i64 q)) (op_at rfl) (by kernel_rfl) (by kernel_rfl) (by kernel_rfl) (fun _ _ _ h => h) (Or.inl ⟨rfl, fun w hSw => ?_⟩) (by assumption) ?_
              · (try dsimp only at hSw); go_simp; try with_reducible rfl
              (try simp only [Act.put, List.setIfInBounds_toArray, List.set_cons_zero, List.set_cons_succ])
              refine wpAnyH_take (i := 2) (v := (.pointer (some ⟨rb, rf + q, none⟩))) (op_at rfl) (by kernel_rfl) (by kernel_rfl) (by kernel_rfl) (fun _ _ _ h => h) (Or.inl ⟨rfl, fun w hSw => ?_⟩) (by assumption) ?_
              · (try dsimp only at hSw); go_simp; try with_reducible rfl
              (try simp only [Act.put, List.setIfInBounds_toArray, List.set_cons_zero, List.set_cons_succ])
              refine wpAnyH_take (i := 3) (v := (.int .i64 ry)) (op_at rfl) (by kernel_rfl) (by kernel_rfl) (by kernel_rfl) (fun _ _ _ h => h) (Or.inl ⟨rfl, fun w hSw => ?_⟩) (by assumption) ?_
              · (try dsimp only at hSw); go_simp; try with_reducible rfl
              (try simp only [Act.put, List.setIfInBounds_toArray, List.set_cons_zero, List.set_cons_succ])
              refine wpAnyH_take (i := 4) (v := (.slice (some ⟨rb, rf, none⟩) n rc)) (op_at rfl) (by kernel_rfl) (by kernel_rfl) (by kernel_rfl) (fun _ _ _ h => h) (Or.inl ⟨rfl, fun w hSw => ?_⟩) (by assumption) ?_
              · (try dsimp only at hSw); go_simp; try with_reducible rfl
              (try simp only [Act.put, List.setIfInBounds_toArray, List.set_cons_zero, List.set_cons_succ])
              refine wpAnyH_take (i := 5) (v := (.int .i64 k)) (op_at rfl) (by kernel_rfl) (by kernel_rfl) (by kernel_rfl) (fun _ _ _ h => h) (Or.inl ⟨rfl, fun w hSw => ?_⟩) (by assumption) ?_
              · (try dsimp only at hSw); go_simp; try with_reducible rfl
              (try simp only [Act.put, List.setIfInBounds_toArray, List.set_cons_zero, List.set_cons_succ])
              refine wpAnyH_take (i := 6) (v := (.pointer (some ⟨rb, rf + k, none⟩))) (op_at rfl) (by kernel_rfl) (by kernel_rfl) (by kernel_rfl) (fun _ _ _ h => h) (Or.inl ⟨rfl, fun w hSw => ?_⟩) (by assumption) ?_
              · (try dsimp only at hSw); go_simp; try with_reducible rfl
              (try simp only [Act.put, List.setIfInBounds_toArray, List.set_cons_zero, List.set_cons_succ])
              refine wpAnyH_take (i := 7) (v := (.int .i64 rx)) (op_at rfl) (by kernel_rfl) (by kernel_rfl) (by kernel_rfl) (fun _ _ _ h => h) (Or.inl ⟨rfl, fun w hSw => ?_⟩) (by assumption) ?_
              · (try dsimp only at hSw); go_simp; try with_reducible rfl
              (try simp only [Act.put, List.setIfInBounds_toArray, List.set_cons_zero, List.set_cons_succ])
              refine wpAnyH_take (i := 8) (v := (.bool false)) (op_at rfl) (by kernel_rfl) (by kernel_rfl) (by kernel_rfl) (fun _ _ _ h => h) (Or.inl ⟨rfl, fun w hSw => ?_⟩) (by assumption) ?_
              · (try dsimp only at hSw); go_simp; try with_reducible rfl
              (try simp only [Act.put, List.setIfInBounds_toArray, List.set_cons_zero, List.set_cons_succ])
              refine wpAnyH_done (by kernel_rfl) ?_ _
              clear hHeld
              go_wp2_with fail
              have gd := (Gr.refl V14).drew
              replace xb1 := gd.cell xb1
              replace xb2 := gd.cell xb2
              replace yb1 := gd.cell yb1
              replace yb2 := gd.cell yb2
              replace rk := gd.cell rk
              replace rq := gd.cell rq
              replace g := g.trans gd
              clear gd
              refine wp_region_held_drew (S := (fun w' => w'.cell? ⟨Bx, 1, none⟩ = some (.string x.st) ∧ w'.cell? ⟨Bx, 2, none⟩ = some (.slice pu xn cu) ∧ w'.cell? ⟨By, 1, none⟩ = some (.string y.st) ∧ w'.cell? ⟨By, 2, none⟩ = some (.slice pv yn cv) ∧ w'.cell? ⟨rb, rf + k, none⟩ = some (.int .i64 rx) ∧ w'.cell? ⟨rb, rf + q, none⟩ = some (.int .i64 ry) ∧ (Instr.lookup 44 (.map (some mg)) (.string x.st) false).run Tryz.prog w' = .ok (.int .i64 gx) w' ∧ (Instr.lookup 44 (.map (some mg)) (.string y.st) false).run Tryz.prog w' = .ok (.int .i64 gy) w')) (by kernel_rfl) ⟨xb1, xb2, yb1, yb2, rk, rq, HLX.out _ g, HLY.out _ g⟩ (fun hHeld => ?_)
              generalize V14.drew = V16 at *
              refine wpAnyH_take (i := 0) (v := (.map (some mg))) (op_at rfl) (by kernel_rfl) (by kernel_rfl) (by kernel_rfl) (fun _ _ _ h => h) (Or.inl ⟨rfl, fun w hSw => ?_⟩) (by assumption) ?_
              · (try dsimp only at hSw); go_simp; try with_reducible rfl
              (try simp only [Act.put, List.setIfInBounds_toArray, List.set_cons_zero, List.set_cons_succ])
              refine wpAnyH_take (i := 1) (v := (.pointer (some ⟨Bx, 1, none⟩))) (op_at rfl) (by kernel_rfl) (by kernel_rfl) (by kernel_rfl) (fun _ _ _ h => h) (Or.inl ⟨rfl, fun w hSw => ?_⟩) (by assumption) ?_
              · (try dsimp only at hSw); go_simp; try with_reducible rfl
              (try simp only [Act.put, List.setIfInBounds_toArray, List.set_cons_zero, List.set_cons_succ])
              refine wpAnyH_take (i := 2) (v := (.string x.st)) (op_at rfl) (by kernel_rfl) (by kernel_rfl) (by kernel_rfl) (fun _ _ _ h => h) (Or.inl ⟨rfl, fun w hSw => ?_⟩) (by assumption) ?_
              · (try dsimp only at hSw); go_simp; try with_reducible rfl
              (try simp only [Act.put, List.setIfInBounds_toArray, List.set_cons_zero, List.set_cons_succ])
              refine wpAnyH_take (i := 3) (v := (.int .i64 gx)) (op_at rfl) (by kernel_rfl) (by kernel_rfl) (by kernel_rfl) (fun _ _ _ h => h) (Or.inl ⟨rfl, fun w hSw => ?_⟩) (by assumption) ?_
              · (try dsimp only at hSw); go_simp; try with_reducible rfl
              (try simp only [Act.put, List.setIfInBounds_toArray, List.set_cons_zero, List.set_cons_succ])
              refine wpAnyH_take (i := 4) (v := (.map (some mg))) (op_at rfl) (by kernel_rfl) (by kernel_rfl) (by kernel_rfl) (fun _ _ _ h => h) (Or.inl ⟨rfl, fun w hSw => ?_⟩) (by assumption) ?_
              · (try dsimp only at hSw); go_simp; try with_reducible rfl
              (try simp only [Act.put, List.setIfInBounds_toArray, List.set_cons_zero, List.set_cons_succ])
              refine wpAnyH_take (i := 5) (v := (.pointer (some ⟨By, 1, none⟩))) (op_at rfl) (by kernel_rfl) (by kernel_rfl) (by kernel_rfl) (fun _ _ _ h => h) (Or.inl ⟨rfl, fun w hSw => ?_⟩) (by assumption) ?_
              · (try dsimp only at hSw); go_simp; try with_reducible rfl
              (try simp only [Act.put, List.setIfInBounds_toArray, List.set_cons_zero, List.set_cons_succ])
              refine wpAnyH_take (i := 6) (v := (.string y.st)) (op_at rfl) (by kernel_rfl) (by kernel_rfl) (by kernel_rfl) (fun _ _ _ h => h) (Or.inl ⟨rfl, fun w hSw => ?_⟩) (by assumption) ?_
              · (try dsimp only at hSw); go_simp; try with_reducible rfl
              (try simp only [Act.put, List.setIfInBounds_toArray, List.set_cons_zero, List.set_cons_succ])
              refine wpAnyH_take (i := 7) (v := (.int .i64 gy)) (op_at rfl) (by kernel_rfl) (by kernel_rfl) (by kernel_rfl) (fun _ _ _ h => h) (Or.inl ⟨rfl, fun w hSw => ?_⟩) (by assumption) ?_
              · (try dsimp only at hSw); go_simp; try with_reducible rfl
              (try simp only [Act.put, List.setIfInBounds_toArray, List.set_cons_zero, List.set_cons_succ])
              refine wpAnyH_take (i := 8) (v := (.bool true)) (op_at rfl) (by kernel_rfl) (by kernel_rfl) (by kernel_rfl) (fun _ _ _ h => h) (Or.inl ⟨rfl, fun w hSw => ?_⟩) (by assumption) ?_
              · (try dsimp only at hSw); go_simp; try with_reducible rfl
              (try simp only [Act.put, List.setIfInBounds_toArray, List.set_cons_zero, List.set_cons_succ])
              refine wpAnyH_take (i := 9) (v := (.bool true)) (op_at rfl) (by kernel_rfl) (by kernel_rfl) (by kernel_rfl) (fun _ _ _ h => h) (Or.inl ⟨rfl, fun w hSw => ?_⟩) (by assumption) ?_
              · (try dsimp only at hSw); go_simp; try with_reducible rfl
              (try simp only [Act.put, List.setIfInBounds_toArray, List.set_cons_zero, List.set_cons_succ])
              refine wpAnyH_take (i := 10) (v := (.slice (some ⟨rb, rf, none⟩) n rc)) (op_at rfl) (by kernel_rfl) (by kernel_rfl) (by kernel_rfl) (fun _ _ _ h => h) (Or.inl ⟨rfl, fun w hSw => ?_⟩) (by assumption) ?_
              · (try dsimp only at hSw); go_simp; try with_reducible rfl
              (try simp only [Act.put, List.setIfInBounds_toArray, List.set_cons_zero, List.set_cons_succ])
              refine wpAnyH_take (i := 11) (v := (.int .i64 k)) (op_at rfl) (by kernel_rfl) (by kernel_rfl) (by kernel_rfl) (fun _ _ _ h => h) (Or.inl ⟨rfl, fun w hSw => ?_⟩) (by assumption) ?_
              · (try dsimp only at hSw); go_simp; try with_reducible rfl
              (try simp only [Act.put, List.setIfInBounds_toArray, List.set_cons_zero, List.set_cons_succ])
              refine wpAnyH_take (i := 12) (v := (.pointer (some ⟨rb, rf + k, none⟩))) (op_at rfl) (by kernel_rfl) (by kernel_rfl) (by kernel_rfl) (fun _ _ _ h => h) (Or.inl ⟨rfl, fun w hSw => ?_⟩) (by assumption) ?_
              · (try dsimp only at hSw); go_simp; try with_reducible rfl
              (try simp only [Act.put, List.setIfInBounds_toArray, List.set_cons_zero, List.set_cons_succ])
              refine wpAnyH_take (i := 13) (v := (.int .i64 rx)) (op_at rfl) (by kernel_rfl) (by kernel_rfl) (by kernel_rfl) (fun _ _ _ h => h) (Or.inl ⟨rfl, fun w hSw => ?_⟩) (by assumption) ?_
              · (try dsimp only at hSw); go_simp; try with_reducible rfl
              (try simp only [Act.put, List.setIfInBounds_toArray, List.set_cons_zero, List.set_cons_succ])
              refine wpAnyH_take (i := 14) (v := (.slice (some ⟨rb, rf, none⟩) n rc)) (op_at rfl) (by kernel_rfl) (by kernel_rfl) (by kernel_rfl) (fun _ _ _ h => h) (Or.inl ⟨rfl, fun w hSw => ?_⟩) (by assumption) ?_
              · (try dsimp only at hSw); go_simp; try with_reducible rfl
              (try simp only [Act.put, List.setIfInBounds_toArray, List.set_cons_zero, List.set_cons_succ])
              refine wpAnyH_take (i := 15) (v := (.int .i64 q)) (op_at rfl) (by kernel_rfl) (by kernel_rfl) (by kernel_rfl) (fun _ _ _ h => h) (Or.inl ⟨rfl, fun w hSw => ?_⟩) (by assumption) ?_
              · (try dsimp only at hSw); go_simp; try with_reducible rfl
              (try simp only [Act.put, List.setIfInBounds_toArray, List.set_cons_zero, List.set_cons_succ])
              refine wpAnyH_take (i := 16) (v := (.pointer (some ⟨rb, rf + q, none⟩))) (op_at rfl) (by kernel_rfl) (by kernel_rfl) (by kernel_rfl) (fun _ _ _ h => h) (Or.inl ⟨rfl, fun w hSw => ?_⟩) (by assumption) ?_
              · (try dsimp only at hSw); go_simp; try with_reducible rfl
              (try simp only [Act.put, List.setIfInBounds_toArray, List.set_cons_zero, List.set_cons_succ])
              refine wpAnyH_take (i := 17) (v := (.int .i64 ry)) (op_at rfl) (by kernel_rfl) (by kernel_rfl) (by kernel_rfl) (fun _ _ _ h => h) (Or.inl ⟨rfl, fun w hSw => ?_⟩) (by assumption) ?_
              · (try dsimp only at hSw); go_simp; try with_reducible rfl
              (try simp only [Act.put, List.setIfInBounds_toArray, List.set_cons_zero, List.set_cons_succ])
              refine wpAnyH_take (i := 18) (v := (.bool false)) (op_at rfl) (by kernel_rfl) (by kernel_rfl) (by kernel_rfl) (fun _ _ _ h => h) (Or.inl ⟨rfl, fun w hSw => ?_⟩) (by assumption) ?_
              · (try dsimp only at hSw); go_simp; try with_reducible rfl
              (try simp only [Act.put, List.setIfInBounds_toArray, List.set_cons_zero, List.set_cons_succ])
              refine wpAnyH_take (i := 19) (v := (.bool false)) (op_at rfl) (by kernel_rfl) (by kernel_rfl) (by kernel_rfl) (fun _ _ _ h => h) (Or.inl ⟨rfl, fun w hSw => ?_⟩) (by assumption) ?_
              · (try dsimp only at hSw); go_simp; try with_reducible rfl
              (try simp only [Act.put, List.setIfInBounds_toArray, List.set_cons_zero, List.set_cons_succ])
              refine wpAnyH_done (by kernel_rfl) ?_ _
              clear hHeld
              go_wp2_with fail
              go_roundw
              case rel => exact ⟨q + 1, by omega, by go_num, by rw [HCN2.out]; try rfl, HNQ.out.trans g⟩
              case measure => simp [intOf]; omega
            · have hgg : decide (gx < gy) = false := decide_eq_false hlt
              have h2 : betO y x = true := by unfold betO; rw [if_neg (by intro e; exact hst (eq_of_beq e).symm), HGX.out, HGY.out]; exact decide_eq_true (by omega)
              rw [← HR1.out] at h2
              rw [h2] at HCNT
              have HCN2 : Hid (cntO xs x (q + 1) = cq + 1) := by unfold Hid; rw [HCNT.out]; rfl
              have hD := h2
              clear HCNT HY HR1 HR2 HLEN HRANK HGRADE hRG HX HRow HCC h2 hlt
              generalize x.xs.length = xn at *
              generalize y.xs.length = yn at *
              go_wp2_with fail
              rw [HWA.out]
              generalize wr.heap.size = By at *
              have gd := (Gr.refl WA).drew
              replace xb1 := gd.cell xb1
              replace xb2 := gd.cell xb2
              replace yb1 := gd.cell yb1
              replace yb2 := gd.cell yb2
              replace rk := gd.cell rk
              replace rq := gd.cell rq
              replace g := g.trans gd
              clear gd
              refine wp_region_held_drew (S := (fun w' => w'.cell? ⟨Bx, 1, none⟩ = some (.string x.st) ∧ w'.cell? ⟨Bx, 2, none⟩ = some (.slice pu xn cu) ∧ w'.cell? ⟨By, 1, none⟩ = some (.string y.st) ∧ w'.cell? ⟨By, 2, none⟩ = some (.slice pv yn cv) ∧ w'.cell? ⟨rb, rf + k, none⟩ = some (.int .i64 rx) ∧ w'.cell? ⟨rb, rf + q, none⟩ = some (.int .i64 ry))) (by kernel_rfl) ⟨xb1, xb2, yb1, yb2, rk, rq⟩ (fun hHeld => ?_)
              generalize WA.drew = V14 at *
              refine wpAnyH_take (i := 0) (v := (.slice (some ⟨rb, rf, none⟩) n rc)) (op_at rfl) (by kernel_rfl) (by kernel_rfl) (by kernel_rfl) (fun _ _ _ h => h) (Or.inl ⟨rfl, fun w hSw => ?_⟩) (by assumption) ?_
              · (try dsimp only at hSw); go_simp; try with_reducible rfl
              (try simp only [Act.put, List.setIfInBounds_toArray, List.set_cons_zero, List.set_cons_succ])
              refine wpAnyH_take (i := 1) (v := (.int .i64 q)) (op_at rfl) (by kernel_rfl) (by kernel_rfl) (by kernel_rfl) (fun _ _ _ h => h) (Or.inl ⟨rfl, fun w hSw => ?_⟩) (by assumption) ?_
              · (try dsimp only at hSw); go_simp; try with_reducible rfl
              (try simp only [Act.put, List.setIfInBounds_toArray, List.set_cons_zero, List.set_cons_succ])
              refine wpAnyH_take (i := 2) (v := (.pointer (some ⟨rb, rf + q, none⟩))) (op_at rfl) (by kernel_rfl) (by kernel_rfl) (by kernel_rfl) (fun _ _ _ h => h) (Or.inl ⟨rfl, fun w hSw => ?_⟩) (by assumption) ?_
              · (try dsimp only at hSw); go_simp; try with_reducible rfl
              (try simp only [Act.put, List.setIfInBounds_toArray, List.set_cons_zero, List.set_cons_succ])
              refine wpAnyH_take (i := 3) (v := (.int .i64 ry)) (op_at rfl) (by kernel_rfl) (by kernel_rfl) (by kernel_rfl) (fun _ _ _ h => h) (Or.inl ⟨rfl, fun w hSw => ?_⟩) (by assumption) ?_
              · (try dsimp only at hSw); go_simp; try with_reducible rfl
              (try simp only [Act.put, List.setIfInBounds_toArray, List.set_cons_zero, List.set_cons_succ])
              refine wpAnyH_take (i := 4) (v := (.slice (some ⟨rb, rf, none⟩) n rc)) (op_at rfl) (by kernel_rfl) (by kernel_rfl) (by kernel_rfl) (fun _ _ _ h => h) (Or.inl ⟨rfl, fun w hSw => ?_⟩) (by assumption) ?_
              · (try dsimp only at hSw); go_simp; try with_reducible rfl
              (try simp only [Act.put, List.setIfInBounds_toArray, List.set_cons_zero, List.set_cons_succ])
              refine wpAnyH_take (i := 5) (v := (.int .i64 k)) (op_at rfl) (by kernel_rfl) (by kernel_rfl) (by kernel_rfl) (fun _ _ _ h => h) (Or.inl ⟨rfl, fun w hSw => ?_⟩) (by assumption) ?_
              · (try dsimp only at hSw); go_simp; try with_reducible rfl
              (try simp only [Act.put, List.setIfInBounds_toArray, List.set_cons_zero, List.set_cons_succ])
              refine wpAnyH_take (i := 6) (v := (.pointer (some ⟨rb, rf + k, none⟩))) (op_at rfl) (by kernel_rfl) (by kernel_rfl) (by kernel_rfl) (fun _ _ _ h => h) (Or.inl ⟨rfl, fun w hSw => ?_⟩) (by assumption) ?_
              · (try dsimp only at hSw); go_simp; try with_reducible rfl
              (try simp only [Act.put, List.setIfInBounds_toArray, List.set_cons_zero, List.set_cons_succ])
              refine wpAnyH_take (i := 7) (v := (.int .i64 rx)) (op_at rfl) (by kernel_rfl) (by kernel_rfl) (by kernel_rfl) (fun _ _ _ h => h) (Or.inl ⟨rfl, fun w hSw => ?_⟩) (by assumption) ?_
              · (try dsimp only at hSw); go_simp; try with_reducible rfl
              (try simp only [Act.put, List.setIfInBounds_toArray, List.set_cons_zero, List.set_cons_succ])
              refine wpAnyH_take (i := 8) (v := (.bool true)) (op_at rfl) (by kernel_rfl) (by kernel_rfl) (by kernel_rfl) (fun _ _ _ h => h) (Or.inl ⟨rfl, fun w hSw => ?_⟩) (by assumption) ?_
              · (try dsimp only at hSw); go_simp; try with_reducible rfl
              (try simp only [Act.put, List.setIfInBounds_toArray, List.set_cons_zero, List.set_cons_succ])
              refine wpAnyH_done (by kernel_rfl) ?_ _
              clear hHeld
              go_wp2_with fail
              have gd := (Gr.refl V14).drew
              replace xb1 := gd.cell xb1
              replace xb2 := gd.cell xb2
              replace yb1 := gd.cell yb1
              replace yb2 := gd.cell yb2
              replace rk := gd.cell rk
              replace rq := gd.cell rq
              replace g := g.trans gd
              clear gd
              refine wp_region_held_drew (S := (fun w' => w'.cell? ⟨Bx, 1, none⟩ = some (.string x.st) ∧ w'.cell? ⟨Bx, 2, none⟩ = some (.slice pu xn cu) ∧ w'.cell? ⟨By, 1, none⟩ = some (.string y.st) ∧ w'.cell? ⟨By, 2, none⟩ = some (.slice pv yn cv) ∧ w'.cell? ⟨rb, rf + k, none⟩ = some (.int .i64 rx) ∧ w'.cell? ⟨rb, rf + q, none⟩ = some (.int .i64 ry) ∧ (Instr.lookup 44 (.map (some mg)) (.string x.st) false).run Tryz.prog w' = .ok (.int .i64 gx) w' ∧ (Instr.lookup 44 (.map (some mg)) (.string y.st) false).run Tryz.prog w' = .ok (.int .i64 gy) w')) (by kernel_rfl) ⟨xb1, xb2, yb1, yb2, rk, rq, HLX.out _ g, HLY.out _ g⟩ (fun hHeld => ?_)
              generalize V14.drew = V16 at *
              refine wpAnyH_take (i := 0) (v := (.map (some mg))) (op_at rfl) (by kernel_rfl) (by kernel_rfl) (by kernel_rfl) (fun _ _ _ h => h) (Or.inl ⟨rfl, fun w hSw => ?_⟩) (by assumption) ?_
              · (try dsimp only at hSw); go_simp; try with_reducible rfl
              (try simp only [Act.put, List.setIfInBounds_toArray, List.set_cons_zero, List.set_cons_succ])
              refine wpAnyH_take (i := 1) (v := (.pointer (some ⟨Bx, 1, none⟩))) (op_at rfl) (by kernel_rfl) (by kernel_rfl) (by kernel_rfl) (fun _ _ _ h => h) (Or.inl ⟨rfl, fun w hSw => ?_⟩) (by assumption) ?_
              · (try dsimp only at hSw); go_simp; try with_reducible rfl
              (try simp only [Act.put, List.setIfInBounds_toArray, List.set_cons_zero, List.set_cons_succ])
              refine wpAnyH_take (i := 2) (v := (.string x.st)) (op_at rfl) (by kernel_rfl) (by kernel_rfl) (by kernel_rfl) (fun _ _ _ h => h) (Or.inl ⟨rfl, fun w hSw => ?_⟩) (by assumption) ?_
              · (try dsimp only at hSw); go_simp; try with_reducible rfl
              (try simp only [Act.put, List.setIfInBounds_toArray, List.set_cons_zero, List.set_cons_succ])
              refine wpAnyH_take (i := 3) (v := (.int .i64 gx)) (op_at rfl) (by kernel_rfl) (by kernel_rfl) (by kernel_rfl) (fun _ _ _ h => h) (Or.inl ⟨rfl, fun w hSw => ?_⟩) (by assumption) ?_
              · (try dsimp only at hSw); go_simp; try with_reducible rfl
              (try simp only [Act.put, List.setIfInBounds_toArray, List.set_cons_zero, List.set_cons_succ])
              refine wpAnyH_take (i := 4) (v := (.map (some mg))) (op_at rfl) (by kernel_rfl) (by kernel_rfl) (by kernel_rfl) (fun _ _ _ h => h) (Or.inl ⟨rfl, fun w hSw => ?_⟩) (by assumption) ?_
              · (try dsimp only at hSw); go_simp; try with_reducible rfl
              (try simp only [Act.put, List.setIfInBounds_toArray, List.set_cons_zero, List.set_cons_succ])
              refine wpAnyH_take (i := 5) (v := (.pointer (some ⟨By, 1, none⟩))) (op_at rfl) (by kernel_rfl) (by kernel_rfl) (by kernel_rfl) (fun _ _ _ h => h) (Or.inl ⟨rfl, fun w hSw => ?_⟩) (by assumption) ?_
              · (try dsimp only at hSw); go_simp; try with_reducible rfl
              (try simp only [Act.put, List.setIfInBounds_toArray, List.set_cons_zero, List.set_cons_succ])
              refine wpAnyH_take (i := 6) (v := (.string y.st)) (op_at rfl) (by kernel_rfl) (by kernel_rfl) (by kernel_rfl) (fun _ _ _ h => h) (Or.inl ⟨rfl, fun w hSw => ?_⟩) (by assumption) ?_
              · (try dsimp only at hSw); go_simp; try with_reducible rfl
              (try simp only [Act.put, List.setIfInBounds_toArray, List.set_cons_zero, List.set_cons_succ])
              refine wpAnyH_take (i := 7) (v := (.int .i64 gy)) (op_at rfl) (by kernel_rfl) (by kernel_rfl) (by kernel_rfl) (fun _ _ _ h => h) (Or.inl ⟨rfl, fun w hSw => ?_⟩) (by assumption) ?_
              · (try dsimp only at hSw); go_simp; try with_reducible rfl
              (try simp only [Act.put, List.setIfInBounds_toArray, List.set_cons_zero, List.set_cons_succ])
              refine wpAnyH_take (i := 8) (v := (.bool false)) (op_at rfl) (by kernel_rfl) (by kernel_rfl) (by kernel_rfl) (fun _ _ _ h => h) (Or.inl ⟨rfl, fun w hSw => ?_⟩) (by assumption) ?_
              · (try dsimp only at hSw); go_simp; try with_reducible rfl
              (try simp only [Act.put, List.setIfInBounds_toArray, List.set_cons_zero, List.set_cons_succ])
              refine wpAnyH_take (i := 9) (v := (.bool false)) (op_at rfl) (by kernel_rfl) (by kernel_rfl) (by kernel_rfl) (fun _ _ _ h => h) (Or.inl ⟨rfl, fun w hSw => ?_⟩) (by assumption) ?_
              · (try dsimp only at hSw); go_simp; try with_reducible rfl
              (try simp only [Act.put, List.setIfInBounds_toArray, List.set_cons_zero, List.set_cons_succ])
              refine wpAnyH_take (i := 10) (v := undef) (op_at rfl) (by kernel_rfl) (by kernel_rfl) (by kernel_rfl) (fun _ _ _ h => h) (Or.inr ⟨rfl, rfl⟩) (by assumption) ?_
              (try simp only [Act.put, List.setIfInBounds_toArray, List.set_cons_zero, List.set_cons_succ])
              refine wpAnyH_take (i := 11) (v := undef) (op_at rfl) (by kernel_rfl) (by kernel_rfl) (by kernel_rfl) (fun _ _ _ h => h) (Or.inr ⟨rfl, rfl⟩) (by assumption) ?_
              (try simp only [Act.put, List.setIfInBounds_toArray, List.set_cons_zero, List.set_cons_succ])
              refine wpAnyH_take (i := 12) (v := undef) (op_at rfl) (by kernel_rfl) (by kernel_rfl) (by kernel_rfl) (fun _ _ _ h => h) (Or.inr ⟨rfl, rfl⟩) (by assumption) ?_
              (try simp only [Act.put, List.setIfInBounds_toArray, List.set_cons_zero, List.set_cons_succ])
              refine wpAnyH_take (i := 13) (v := undef) (op_at rfl) (by kernel_rfl) (by kernel_rfl) (by kernel_rfl) (fun _ _ _ h => h) (Or.inr ⟨rfl, rfl⟩) (by assumption) ?_
              (try simp only [Act.put, List.setIfInBounds_toArray, List.set_cons_zero, List.set_cons_succ])
              refine wpAnyH_take (i := 14) (v := undef) (op_at rfl) (by kernel_rfl) (by kernel_rfl) (by kernel_rfl) (fun _ _ _ h => h) (Or.inr ⟨rfl, rfl⟩) (by assumption) ?_
              (try simp only [Act.put, List.setIfInBounds_toArray, List.set_cons_zero, List.set_cons_succ])
              refine wpAnyH_take (i := 15) (v := undef) (op_at rfl) (by kernel_rfl) (by kernel_rfl) (by kernel_rfl) (fun _ _ _ h => h) (Or.inr ⟨rfl, rfl⟩) (by assumption) ?_
              (try simp only [Act.put, List.setIfInBounds_toArray, List.set_cons_zero, List.set_cons_succ])
              refine wpAnyH_take (i := 16) (v := undef) (op_at rfl) (by kernel_rfl) (by kernel_rfl) (by kernel_rfl) (fun _ _ _ h => h) (Or.inr ⟨rfl, rfl⟩) (by assumption) ?_
              (try simp only [Act.put, List.setIfInBounds_toArray, List.set_cons_zero, List.set_cons_succ])
              refine wpAnyH_take (i := 17) (v := undef) (op_at rfl) (by kernel_rfl) (by kernel_rfl) (by kernel_rfl) (fun _ _ _ h => h) (Or.inr ⟨rfl, rfl⟩) (by assumption) ?_
              (try simp only [Act.put, List.setIfInBounds_toArray, List.set_cons_zero, List.set_cons_succ])
              refine wpAnyH_take (i := 18) (v := undef) (op_at rfl) (by kernel_rfl) (by kernel_rfl) (by kernel_rfl) (fun _ _ _ h => h) (Or.inr ⟨rfl, rfl⟩) (by assumption) ?_
              (try simp only [Act.put, List.setIfInBounds_toArray, List.set_cons_zero, List.set_cons_succ])
              refine wpAnyH_take (i := 19) (v := (.bool false)) (op_at rfl) (by kernel_rfl) (by kernel_rfl) (by kernel_rfl) (fun _ _ _ h => h) (Or.inl ⟨rfl, fun w hSw => ?_⟩) (by assumption) ?_
              · (try dsimp only at hSw); go_simp; try with_reducible rfl
              (try simp only [Act.put, List.setIfInBounds_toArray, List.set_cons_zero, List.set_cons_succ])
              refine wpAnyH_done (by kernel_rfl) ?_ _
              clear hHeld
              go_wp2_with fail
              go_roundw
              case rel => exact ⟨q + 1, by omega, by go_num, by rw [HCN2.out]; try (congr 1; omega), HNQ.out.trans g⟩
              case measure => simp [intOf]; omega
        · obtain rfl : q = n := by omega
          rw [HFin.out, ← hrx]
          have rk := hnq.cell rk5
          have hne : (rx != rx) = false := by simp
          have HNQ := Lib.hid hnq
          clear hnq x0 x1 x2 rk5 hrx hgx hxm HR HGX0
          go_wp2_with fail
          go_roundg (G - 1)
          case measure => omega
          case rel => exact ⟨k + 1, by go_num, by omega, HNX.out.trans (HG5.out.trans HNQ.out)⟩
    · have hk2 : ¬ (k : Int) < n := by omega
      have HAW := Lib.hid (HA.out _ (HG.out.trans hnx))
      go_wp2_with fail
      refine HAW.out.mono ?_
      rintro e w9 ⟨rfl, hg9⟩
      go_wp2_with fail
      go_ret
      exact ⟨rfl, (HG.out.trans hnx).trans hg9⟩
end Go.Proofs.YtjkiidkacpffnaaGreatDoor
