/- Archives (chapter 10): equal results, sheets and entries, compared. -/
import Derived.Test.YtbpgifihlppedaaGreatDoorOvG
namespace Go.Proofs.YtbpgifihlppedaaGreatDoor
open Go.RowKit Go.Lib
set_option linter.unusedSimpArgs false
set_option linter.unusedVariables false
/-- what a result says -/
def rk (x : RowR) : ByteArray × ByteArray × List Int := (x.nm, x.st, x.xs)
/-- what an entry says -/
def ek (e : EnR) : ByteArray × Int × Int × ByteArray × Int × ByteArray × List (ByteArray × ByteArray × List Int) := (e.de, e.nu, e.ck, e.ro, e.va, e.st, e.xs.map rk)
theorem IntsV.intS {w : World} {p : Option Addr} {n c : Nat} {xs : List Int} (h : IntsV w (.slice p n c) xs) : n = xs.length ∧ IntS w p n xs := by
  obtain ⟨p', c', e, hh⟩ := h
  simp only [Value.slice.injEq] at e
  obtain ⟨rfl, rfl, rfl⟩ := e
  exact ⟨rfl, rfl, hh⟩
set_option maxHeartbeats 4000000 in
set_option maxRecDepth 100000 in
theorem sameRes_c {nm st : ByteArray} {u1 u2 : Value} {xs : List Int} {w : World} (h1 : IntsV w u1 xs) (h2 : IntsV w u2 xs) (hl : xs.length ≤ 1000) :
    Calls Tryz.prog 77 #[.agg #[.string nm, .string st, u1], .agg #[.string nm, .string st, u2]] w fun e w' => e = .returned (.bool true) ∧ Gr w w' := by
  obtain ⟨⟨p1, k1, e1, _⟩⟩ := id h1
  obtain ⟨⟨p2, k2, e2, _⟩⟩ := id h2
  rw [e1] at h1
  rw [e2] at h2
  rw [e1, e2]
  have HS := Lib.hid (fun V (g : Gr w V) => sameIO_c (c := k1) (c2 := k2) ((h1.gr g).intS.2) ((h2.gr g).intS.2) hl)
  have hn1 : (nm.toList == nm.toList) = true := beq_self_eq_true _
  have hn2 : (st.toList == st.toList) = true := beq_self_eq_true _
  obtain ⟨W1, hW1, g1, a0, a1, a2⟩ := box3 w (.string nm) (.string st) (.slice p1 xs.length k1) 86
  obtain ⟨W2, hW2, g2, b0, b1, b2⟩ := box3 W1 (.string nm) (.string st) (.slice p2 xs.length k2) 86
  replace a0 := g2.cell a0
  replace a1 := g2.cell a1
  replace a2 := g2.cell a2
  have g := g1.trans g2
  have hsz : W1.heap.size = w.heap.size + 1 := by rw [← hW1]; simp
  rw [hsz] at b0 b1 b2
  rw [← hW1] at hW2
  have HW := Lib.hid hW2
  clear hW1 hW2 g1 g2 hsz h1 h2 e1 e2
  generalize xs.length = n at *
  go_enter Tryz.func77, Tryz.ntmps77
  go_wp2_with fail
  rw [HW.out]
  clear HW
  generalize w.heap.size + 1 = Cx at *
  generalize w.heap.size = Bx at *
  go_wp2_with fail
  refine (HS.out _ g).mono ?_
  rintro e w4 ⟨rfl, hg⟩
  go_wp2_with fail
  go_ret
  exact ⟨rfl, g.trans hg⟩
set_option maxHeartbeats 4000000 in
set_option maxRecDepth 100000 in
theorem sameSh_c {ro st : ByteArray} {va : Int} {p1 p2 : Option Addr} {n k1 k2 : Nat} {xs ys : List RowR} {w : World} (h1 : RowsX w p1 n k1 xs) (h2 : RowsX w p2 n k2 ys) (he : xs.map rk = ys.map rk) (hn : n ≤ 1000) (hl : ∀ x ∈ xs, x.xs.length ≤ 1000) :
    Calls Tryz.prog 27 #[.agg #[.string ro, .int .i64 va, .string st, .slice p1 n k1], .agg #[.string ro, .int .i64 va, .string st, .slice p2 n k2]] w fun e w' => e = .returned (.bool true) ∧ Gr w w' := by
  have hr1 : (ro.toList == ro.toList) = true := beq_self_eq_true _
  have hr2 : (st.toList == st.toList) = true := beq_self_eq_true _
  have hv1 : (va != va) = false := bne_self_eq_false _
  have hn1 : ((n : Int) != (n : Int)) = false := bne_self_eq_false _
  have HA := Lib.hid h1
  have HB := Lib.hid h2
  have HEQ := Lib.hid he
  have HL := Lib.hid hl
  obtain ⟨W1, hW1, g1, a0, a1, a2, a3⟩ := box4 w (.string ro) (.int .i64 va) (.string st) (.slice p1 n k1) 32
  obtain ⟨W2, hW2, g2, b0, b1, b2, b3⟩ := box4 W1 (.string ro) (.int .i64 va) (.string st) (.slice p2 n k2) 32
  replace a0 := g2.cell a0
  replace a1 := g2.cell a1
  replace a2 := g2.cell a2
  replace a3 := g2.cell a3
  have g := g1.trans g2
  have hsz : W1.heap.size = w.heap.size + 1 := by rw [← hW1]; simp
  rw [hsz] at b0 b1 b2 b3
  rw [← hW1] at hW2
  have HW := Lib.hid hW2
  clear hW1 hW2 g1 g2 hsz h1 h2 he hl
  go_enter Tryz.func27, Tryz.ntmps27
  go_wp2_with fail
  rw [HW.out]
  clear HW
  generalize w.heap.size + 1 = Cx at *
  generalize w.heap.size = Bx at *
  have A3 := Lib.hid a3
  have B3 := Lib.hid b3
  have GG := Lib.hid g
  go_wp2_with fail
  clear a0 a1 a2 a3 b0 b1 b2 b3 g
  go_loopg [5] n (fun gk s5 wr => ∃ i : Nat, s5 = .int .i64 (i : Int) ∧ gk + i = n ∧ Hid (Gr W2 wr))
  case atStart => exact ⟨0, rfl, by omega, Gr.refl _⟩
  case round =>
    obtain ⟨i, rfl, hgk, HG⟩ := hrel
    have a3 := HG.out.cell A3.out
    have b3 := HG.out.cell B3.out
    by_cases hlt : i < n
    · have hxl := HA.out.len
      have hyl := HB.out.len
      obtain ⟨x, hx⟩ : ∃ x, xs[i]? = some x := ⟨xs[i]'(by omega), List.getElem?_eq_getElem _⟩
      obtain ⟨y, hy⟩ : ∃ y, ys[i]? = some y := ⟨ys[i]'(by omega), List.getElem?_eq_getElem _⟩
      have hxy : rk x = rk y := by
        have h1 : (xs.map rk)[i]? = some (rk x) := by rw [List.getElem?_map, hx]; rfl
        have h2 : (ys.map rk)[i]? = some (rk y) := by rw [List.getElem?_map, hy]; rfl
        rw [HEQ.out, h2] at h1
        exact (Option.some.inj h1).symm
      unfold rk at hxy
      simp only [Prod.mk.injEq] at hxy
      obtain ⟨e1, e2, e3⟩ := hxy
      obtain ⟨b1, o1, rfl, hc1⟩ := HA.out.at_ (by omega)
      obtain ⟨b2, o2, rfl, hc2⟩ := HB.out.at_ (by omega)
      have g0 := GG.out.trans HG.out
      have hx1 := (hc1 i x hx).gr g0
      have hy1 := (hc2 i y hy).gr g0
      obtain ⟨x0, x1, x2, vx⟩ := hx1
      obtain ⟨y0, y1, y2, vy⟩ := hy1
      rw [← e1] at y0
      rw [← e2] at y1
      rw [← e3] at vy
      have HSR := Lib.hid (fun V (g : Gr wr V) => sameRes_c (nm := x.nm) (st := x.st) (vx.gr g) (vy.gr g) (HL.out x (List.mem_of_getElem? hx)))
      have hlt2 : (i : Int) < (n : Int) := by omega
      have gd := (Gr.refl wr).drew
      replace a3 := gd.cell a3
      replace b3 := gd.cell b3
      replace x0 := gd.cell x0
      replace x1 := gd.cell x1
      replace x2 := gd.cell x2
      replace y0 := gd.cell y0
      replace y1 := gd.cell y1
      replace y2 := gd.cell y2
      have g := gd
      have a3' := HG.out.cell A3.out
      clear gd hx hy hc1 hc2 vx vy e1 e2 e3 g0 hxl hyl
      go_wp2_with fail
      clear a3'
      refine wp_region_held_drew (S := (fun w' => w'.cell? ⟨Bx, 3, none⟩ = some (.slice (some ⟨b1, o1, none⟩) n k1) ∧ w'.cell? ⟨Cx, 3, none⟩ = some (.slice (some ⟨b2, o2, none⟩) n k2) ∧ w'.cell? ⟨b1, o1 + i * 3, none⟩ = some (.string x.nm) ∧ w'.cell? ⟨b1, o1 + i * 3 + 1, none⟩ = some (.string x.st) ∧ w'.cell? ⟨b1, o1 + i * 3 + 2, none⟩ = some x.u ∧ w'.cell? ⟨b2, o2 + i * 3, none⟩ = some (.string x.nm) ∧ w'.cell? ⟨b2, o2 + i * 3 + 1, none⟩ = some (.string x.st) ∧ w'.cell? ⟨b2, o2 + i * 3 + 2, none⟩ = some y.u)) (by kernel_rfl) ⟨a3, b3, x0, x1, x2, y0, y1, y2⟩ (fun hHeld => ?_)
      generalize wr.drew = V at *
      refine wpAnyH_take (i := 0) (v := (.pointer (some ⟨Bx, 3, none⟩))) (op_at rfl) (by kernel_rfl) (by kernel_rfl) (by kernel_rfl) (fun _ _ _ h => h) (Or.inl ⟨rfl, fun w hSw => ?_⟩) (by assumption) ?_
      · (try dsimp only at hSw); go_simp; try with_reducible rfl
      (try simp only [Act.put, List.setIfInBounds_toArray, List.set_cons_zero, List.set_cons_succ])
      refine wpAnyH_take (i := 1) (v := (.slice (some ⟨b1, o1, none⟩) n k1)) (op_at rfl) (by kernel_rfl) (by kernel_rfl) (by kernel_rfl) (fun _ _ _ h => h) (Or.inl ⟨rfl, fun w hSw => ?_⟩) (by assumption) ?_
      · (try dsimp only at hSw); go_simp; try with_reducible rfl
      (try simp only [Act.put, List.setIfInBounds_toArray, List.set_cons_zero, List.set_cons_succ])
      refine wpAnyH_take (i := 2) (v := (.int .i64 (i : Int))) (op_at rfl) (by kernel_rfl) (by kernel_rfl) (by kernel_rfl) (fun _ _ _ h => h) (Or.inl ⟨rfl, fun w hSw => ?_⟩) (by assumption) ?_
      · (try dsimp only at hSw); go_simp; try with_reducible rfl
      (try simp only [Act.put, List.setIfInBounds_toArray, List.set_cons_zero, List.set_cons_succ])
      refine wpAnyH_take (i := 3) (v := (.pointer (some ⟨b1, o1 + i * 3, none⟩))) (op_at rfl) (by kernel_rfl) (by kernel_rfl) (by kernel_rfl) (fun _ _ _ h => h) (Or.inl ⟨rfl, fun w hSw => ?_⟩) (by assumption) ?_
      · (try dsimp only at hSw); go_simp; try with_reducible rfl
      (try simp only [Act.put, List.setIfInBounds_toArray, List.set_cons_zero, List.set_cons_succ])
      refine wpAnyH_take (i := 4) (v := (.agg #[.string x.nm, .string x.st, x.u])) (op_at rfl) (by kernel_rfl) (by kernel_rfl) (by kernel_rfl) (fun _ _ _ h => h) (Or.inl ⟨rfl, fun w hSw => ?_⟩) (by assumption) ?_
      · (try dsimp only at hSw); go_simp; try with_reducible rfl
      (try simp only [Act.put, List.setIfInBounds_toArray, List.set_cons_zero, List.set_cons_succ])
      refine wpAnyH_take (i := 5) (v := (.pointer (some ⟨Cx, 3, none⟩))) (op_at rfl) (by kernel_rfl) (by kernel_rfl) (by kernel_rfl) (fun _ _ _ h => h) (Or.inl ⟨rfl, fun w hSw => ?_⟩) (by assumption) ?_
      · (try dsimp only at hSw); go_simp; try with_reducible rfl
      (try simp only [Act.put, List.setIfInBounds_toArray, List.set_cons_zero, List.set_cons_succ])
      refine wpAnyH_take (i := 6) (v := (.slice (some ⟨b2, o2, none⟩) n k2)) (op_at rfl) (by kernel_rfl) (by kernel_rfl) (by kernel_rfl) (fun _ _ _ h => h) (Or.inl ⟨rfl, fun w hSw => ?_⟩) (by assumption) ?_
      · (try dsimp only at hSw); go_simp; try with_reducible rfl
      (try simp only [Act.put, List.setIfInBounds_toArray, List.set_cons_zero, List.set_cons_succ])
      refine wpAnyH_take (i := 7) (v := (.int .i64 (i : Int))) (op_at rfl) (by kernel_rfl) (by kernel_rfl) (by kernel_rfl) (fun _ _ _ h => h) (Or.inl ⟨rfl, fun w hSw => ?_⟩) (by assumption) ?_
      · (try dsimp only at hSw); go_simp; try with_reducible rfl
      (try simp only [Act.put, List.setIfInBounds_toArray, List.set_cons_zero, List.set_cons_succ])
      refine wpAnyH_take (i := 8) (v := (.pointer (some ⟨b2, o2 + i * 3, none⟩))) (op_at rfl) (by kernel_rfl) (by kernel_rfl) (by kernel_rfl) (fun _ _ _ h => h) (Or.inl ⟨rfl, fun w hSw => ?_⟩) (by assumption) ?_
      · (try dsimp only at hSw); go_simp; try with_reducible rfl
      (try simp only [Act.put, List.setIfInBounds_toArray, List.set_cons_zero, List.set_cons_succ])
      refine wpAnyH_take (i := 9) (v := (.agg #[.string x.nm, .string x.st, y.u])) (op_at rfl) (by kernel_rfl) (by kernel_rfl) (by kernel_rfl) (fun _ _ _ h => h) (Or.inl ⟨rfl, fun w hSw => ?_⟩) (by assumption) ?_
      · (try dsimp only at hSw); go_simp; try with_reducible rfl
      (try simp only [Act.put, List.setIfInBounds_toArray, List.set_cons_zero, List.set_cons_succ])
      refine wpAnyH_ready (rs := [10]) (by kernel_rfl) (by simp) (AllReadyH.cons (op_at rfl) (fun K hK => ?_) AllReadyH.nil)
      go_simp
      (refine (HSR.out _ g).mono ?_; rintro e W4 ⟨rfl, hg⟩; replace a3 := hg.cell a3; replace b3 := hg.cell b3; replace x0 := hg.cell x0; replace x1 := hg.cell x1; replace x2 := hg.cell x2; replace y0 := hg.cell y0; replace y1 := hg.cell y1; replace y2 := hg.cell y2; replace g := g.trans hg; clear hg)
      go_wp2_with fail
      refine hK.out _ _ ⟨a3, b3, x0, x1, x2, y0, y1, y2⟩ (fun hHeld => ?_)
      clear hK K
      (try simp only [Act.put, List.setIfInBounds_toArray, List.set_cons_zero, List.set_cons_succ])
      refine wpAnyH_take (i := 11) (v := (.bool false)) (op_at rfl) (by kernel_rfl) (by kernel_rfl) (by kernel_rfl) (fun _ _ _ h => h) (Or.inl ⟨rfl, fun w hSw => ?_⟩) (by assumption) ?_
      · (try dsimp only at hSw); go_simp; try with_reducible rfl
      (try simp only [Act.put, List.setIfInBounds_toArray, List.set_cons_zero, List.set_cons_succ])
      refine wpAnyH_done (by kernel_rfl) ?_ _
      go_wp2_with fail
      go_roundg (gk - 1)
      case measure => omega
      case rel => exact ⟨i + 1, by go_num, by omega, HG.out.trans g⟩
    · obtain rfl : n = i := by omega
      have hlt2 : ¬ (n : Int) < (n : Int) := by omega
      go_wp2_with fail
      go_ret
      exact ⟨rfl, GG.out.trans HG.out⟩
set_option maxHeartbeats 4000000 in
set_option maxRecDepth 100000 in
theorem sameEn_c {e f : EnR} {w : World} (h1 : RowsX w e.p e.n e.cap e.xs) (h2 : RowsX w f.p f.n f.cap f.xs) (he : ek e = ek f) (hn : e.n ≤ 1000) (hl : ∀ x ∈ e.xs, x.xs.length ≤ 1000) :
    Calls Tryz.prog 70 #[enV e, enV f] w fun r w' => r = .returned (.bool true) ∧ Gr w w' := by
  obtain ⟨ede, enu, eck, ero, eva, est, ep, en, ec, exs⟩ := e
  obtain ⟨fde, fnu, fck, fro, fva, fst, fp, fn, fc, fxs⟩ := f
  unfold ek at he
  simp only [Prod.mk.injEq] at he
  simp only at h1 h2 hn hl
  obtain ⟨rfl, rfl, rfl, rfl, rfl, rfl, he⟩ := he
  have hnn : fn = en := by
    have := congrArg List.length he
    rw [List.length_map, List.length_map, h1.len, h2.len] at this
    exact this.symm
  subst hnn
  unfold enV
  simp only
  have HS := Lib.hid (fun V (g : Gr w V) => sameSh_c (ro := ero) (st := est) (va := eva) (h1.gr g) (h2.gr g) he hn hl)
  have hn1 : (ede.toList == ede.toList) = true := beq_self_eq_true _
  have hn2 : (enu == enu) = true := beq_self_eq_true _
  have hn3 : (eck == eck) = true := beq_self_eq_true _
  obtain ⟨W1, hW1, g1, a0, a1, a2, a3, a4, a5, a6⟩ := bx7 w (.string ede) (.int .i64 enu) (.int .i64 eck) (.string ero) (.int .i64 eva) (.string est) (.slice ep fn ec) 65
  obtain ⟨W2, hW2, g2, b0, b1, b2, b3, b4, b5, b6⟩ := bx7 W1 (.string ede) (.int .i64 enu) (.int .i64 eck) (.string ero) (.int .i64 eva) (.string est) (.slice fp fn fc) 65
  replace a0 := g2.cell a0
  replace a1 := g2.cell a1
  replace a2 := g2.cell a2
  replace a3 := g2.cell a3
  replace a4 := g2.cell a4
  replace a5 := g2.cell a5
  replace a6 := g2.cell a6
  have g := g1.trans g2
  have hsz : W1.heap.size = w.heap.size + 1 := by rw [← hW1]; simp
  rw [hsz] at b0 b1 b2 b3 b4 b5 b6
  rw [← hW1] at hW2
  have HW := Lib.hid hW2
  clear hW1 hW2 g1 g2 hsz h1 h2 he hl
  go_enter Tryz.func70, Tryz.ntmps70
  go_wp2_with fail
  rw [HW.out]
  clear HW
  generalize w.heap.size + 1 = Cx at *
  generalize w.heap.size = Bx at *
  go_wp2_with fail
  refine (HS.out _ g).mono ?_
  rintro e w4 ⟨rfl, hg⟩
  go_wp2_with fail
  go_ret
  exact ⟨rfl, g.trans hg⟩
set_option maxHeartbeats 4000000 in
set_option maxRecDepth 100000 in
theorem sameEns_c {q1 q2 : Option Addr} {c1 c2 n : Nat} {l m : List EnR} {w : World} (h1 : EnS w q1 l) (h2 : EnS w q2 m) (hn : n = l.length) (he : l.map ek = m.map ek) (hm : n ≤ 1000) (hf : ∀ e ∈ l, e.n ≤ 1000) (hl : ∀ e ∈ l, ∀ x ∈ e.xs, x.xs.length ≤ 1000) :
    Calls Tryz.prog 19 #[.slice q1 n c1, .slice q2 n c2] w fun e w' => e = .returned (.bool true) ∧ Gr w w' := by
  have HN := Lib.hid hn
  have HM : Hid (n = m.length) := by
    have := congrArg List.length he
    rw [List.length_map, List.length_map] at this
    rw [Hid, hn, this]
  have HA := Lib.hid h1.out
  have HB := Lib.hid h2.out
  have HEQ := Lib.hid he
  have HF := Lib.hid hf
  have HL := Lib.hid hl
  clear h1 h2 hn he hf hl
  have hnn : ((n : Int) != (n : Int)) = false := bne_self_eq_false _
  go_enter Tryz.func19, Tryz.ntmps19
  go_wp2_with fail
  go_loopg [5] n (fun gk s5 wr => ∃ i : Nat, s5 = .int .i64 (i : Int) ∧ gk + i = n ∧ Hid (Gr w wr))
  case atStart => exact ⟨0, rfl, by omega, Gr.refl _⟩
  case round =>
    obtain ⟨i, rfl, hgk, HG⟩ := hrel
    by_cases hlt : i < n
    · obtain ⟨x, hx⟩ : ∃ x, l[i]? = some x := ⟨l[i]'(by have := HN.out; omega), List.getElem?_eq_getElem _⟩
      obtain ⟨y, hy⟩ : ∃ y, m[i]? = some y := ⟨m[i]'(by have := HM.out; omega), List.getElem?_eq_getElem _⟩
      have hxy : ek x = ek y := by
        have h1 : (l.map ek)[i]? = some (ek x) := by rw [List.getElem?_map, hx]; rfl
        have h2 : (m.map ek)[i]? = some (ek y) := by rw [List.getElem?_map, hy]; rfl
        rw [HEQ.out, h2] at h1
        exact (Option.some.inj h1).symm
      obtain ⟨b1, o1, rfl, hc1⟩ := HA.out (by have := HN.out; omega)
      obtain ⟨b2, o2, rfl, hc2⟩ := HB.out (by have := HM.out; omega)
      have gd := HG.out.drew
      have hx1 := (hc1 i x hx).gr gd
      have hy1 := (hc2 i y hy).gr gd
      have HSE0 := Lib.hid (fun V (g : Gr wr.drew V) => sameEn_c (hx1.rows.gr g) (hy1.rows.gr g) hxy (HF.out x (List.mem_of_getElem? hx)) (HL.out x (List.mem_of_getElem? hx)))
      unfold enV at HSE0
      have HSE := HSE0
      clear HSE0
      obtain ⟨x0, x1, x2, x3, x4, x5, x6, _⟩ := hx1
      obtain ⟨y0, y1, y2, y3, y4, y5, y6, _⟩ := hy1
      have hlt2 : (i : Int) < (n : Int) := by omega
      have g := Gr.refl wr.drew
      have HGD := Lib.hid gd
      clear gd hx hy hc1 hc2 hxy
      go_wp2_with fail
      refine wp_region_held_drew (S := (fun w' => w'.cell? ⟨b1, o1 + i * 7, none⟩ = some (.string x.de) ∧ w'.cell? ⟨b1, o1 + i * 7 + 1, none⟩ = some (.int .i64 x.nu) ∧ w'.cell? ⟨b1, o1 + i * 7 + 2, none⟩ = some (.int .i64 x.ck) ∧ w'.cell? ⟨b1, o1 + i * 7 + 3, none⟩ = some (.string x.ro) ∧ w'.cell? ⟨b1, o1 + i * 7 + 4, none⟩ = some (.int .i64 x.va) ∧ w'.cell? ⟨b1, o1 + i * 7 + 5, none⟩ = some (.string x.st) ∧ w'.cell? ⟨b1, o1 + i * 7 + 6, none⟩ = some (.slice x.p x.n x.cap) ∧ w'.cell? ⟨b2, o2 + i * 7, none⟩ = some (.string y.de) ∧ w'.cell? ⟨b2, o2 + i * 7 + 1, none⟩ = some (.int .i64 y.nu) ∧ w'.cell? ⟨b2, o2 + i * 7 + 2, none⟩ = some (.int .i64 y.ck) ∧ w'.cell? ⟨b2, o2 + i * 7 + 3, none⟩ = some (.string y.ro) ∧ w'.cell? ⟨b2, o2 + i * 7 + 4, none⟩ = some (.int .i64 y.va) ∧ w'.cell? ⟨b2, o2 + i * 7 + 5, none⟩ = some (.string y.st) ∧ w'.cell? ⟨b2, o2 + i * 7 + 6, none⟩ = some (.slice y.p y.n y.cap))) (by kernel_rfl) ⟨x0, x1, x2, x3, x4, x5, x6, y0, y1, y2, y3, y4, y5, y6⟩ (fun hHeld => ?_)
      generalize wr.drew = V at *
      refine wpAnyH_take (i := 0) (v := (.slice (some ⟨b1, o1, none⟩) n c1)) (op_at rfl) (by kernel_rfl) (by kernel_rfl) (by kernel_rfl) (fun _ _ _ h => h) (Or.inl ⟨rfl, fun w hSw => ?_⟩) (by assumption) ?_
      · (try dsimp only at hSw); go_simp; try with_reducible rfl
      (try simp only [Act.put, List.setIfInBounds_toArray, List.set_cons_zero, List.set_cons_succ])
      refine wpAnyH_take (i := 1) (v := (.int .i64 (i : Int))) (op_at rfl) (by kernel_rfl) (by kernel_rfl) (by kernel_rfl) (fun _ _ _ h => h) (Or.inl ⟨rfl, fun w hSw => ?_⟩) (by assumption) ?_
      · (try dsimp only at hSw); go_simp; try with_reducible rfl
      (try simp only [Act.put, List.setIfInBounds_toArray, List.set_cons_zero, List.set_cons_succ])
      refine wpAnyH_take (i := 2) (v := (.pointer (some ⟨b1, o1 + i * 7, none⟩))) (op_at rfl) (by kernel_rfl) (by kernel_rfl) (by kernel_rfl) (fun _ _ _ h => h) (Or.inl ⟨rfl, fun w hSw => ?_⟩) (by assumption) ?_
      · (try dsimp only at hSw); go_simp; try with_reducible rfl
      (try simp only [Act.put, List.setIfInBounds_toArray, List.set_cons_zero, List.set_cons_succ])
      refine wpAnyH_take (i := 3) (v := (.agg #[.string x.de, .int .i64 x.nu, .int .i64 x.ck, .string x.ro, .int .i64 x.va, .string x.st, .slice x.p x.n x.cap])) (op_at rfl) (by kernel_rfl) (by kernel_rfl) (by kernel_rfl) (fun _ _ _ h => h) (Or.inl ⟨rfl, fun w hSw => ?_⟩) (by assumption) ?_
      · (try dsimp only at hSw); go_simp; try with_reducible rfl
      (try simp only [Act.put, List.setIfInBounds_toArray, List.set_cons_zero, List.set_cons_succ])
      refine wpAnyH_take (i := 4) (v := (.slice (some ⟨b2, o2, none⟩) n c2)) (op_at rfl) (by kernel_rfl) (by kernel_rfl) (by kernel_rfl) (fun _ _ _ h => h) (Or.inl ⟨rfl, fun w hSw => ?_⟩) (by assumption) ?_
      · (try dsimp only at hSw); go_simp; try with_reducible rfl
      (try simp only [Act.put, List.setIfInBounds_toArray, List.set_cons_zero, List.set_cons_succ])
      refine wpAnyH_take (i := 5) (v := (.int .i64 (i : Int))) (op_at rfl) (by kernel_rfl) (by kernel_rfl) (by kernel_rfl) (fun _ _ _ h => h) (Or.inl ⟨rfl, fun w hSw => ?_⟩) (by assumption) ?_
      · (try dsimp only at hSw); go_simp; try with_reducible rfl
      (try simp only [Act.put, List.setIfInBounds_toArray, List.set_cons_zero, List.set_cons_succ])
      refine wpAnyH_take (i := 6) (v := (.pointer (some ⟨b2, o2 + i * 7, none⟩))) (op_at rfl) (by kernel_rfl) (by kernel_rfl) (by kernel_rfl) (fun _ _ _ h => h) (Or.inl ⟨rfl, fun w hSw => ?_⟩) (by assumption) ?_
      · (try dsimp only at hSw); go_simp; try with_reducible rfl
      (try simp only [Act.put, List.setIfInBounds_toArray, List.set_cons_zero, List.set_cons_succ])
      refine wpAnyH_take (i := 7) (v := (.agg #[.string y.de, .int .i64 y.nu, .int .i64 y.ck, .string y.ro, .int .i64 y.va, .string y.st, .slice y.p y.n y.cap])) (op_at rfl) (by kernel_rfl) (by kernel_rfl) (by kernel_rfl) (fun _ _ _ h => h) (Or.inl ⟨rfl, fun w hSw => ?_⟩) (by assumption) ?_
      · (try dsimp only at hSw); go_simp; try with_reducible rfl
      (try simp only [Act.put, List.setIfInBounds_toArray, List.set_cons_zero, List.set_cons_succ])
      refine wpAnyH_ready (rs := [8]) (by kernel_rfl) (by simp) (AllReadyH.cons (op_at rfl) (fun K hK => ?_) AllReadyH.nil)
      go_simp
      (refine (HSE.out _ g).mono ?_; rintro e W4 ⟨rfl, hg⟩; replace x0 := hg.cell x0; replace x1 := hg.cell x1; replace x2 := hg.cell x2; replace x3 := hg.cell x3; replace x4 := hg.cell x4; replace x5 := hg.cell x5; replace x6 := hg.cell x6; replace y0 := hg.cell y0; replace y1 := hg.cell y1; replace y2 := hg.cell y2; replace y3 := hg.cell y3; replace y4 := hg.cell y4; replace y5 := hg.cell y5; replace y6 := hg.cell y6; replace g := g.trans hg; clear hg)
      go_wp2_with fail
      refine hK.out _ _ ⟨x0, x1, x2, x3, x4, x5, x6, y0, y1, y2, y3, y4, y5, y6⟩ (fun hHeld => ?_)
      clear hK K
      (try simp only [Act.put, List.setIfInBounds_toArray, List.set_cons_zero, List.set_cons_succ])
      refine wpAnyH_take (i := 9) (v := (.bool false)) (op_at rfl) (by kernel_rfl) (by kernel_rfl) (by kernel_rfl) (fun _ _ _ h => h) (Or.inl ⟨rfl, fun w hSw => ?_⟩) (by assumption) ?_
      · (try dsimp only at hSw); go_simp; try with_reducible rfl
      (try simp only [Act.put, List.setIfInBounds_toArray, List.set_cons_zero, List.set_cons_succ])
      refine wpAnyH_done (by kernel_rfl) ?_ _
      go_wp2_with fail
      go_roundg (gk - 1)
      case measure => omega
      case rel => exact ⟨i + 1, by go_num, by omega, HGD.out.trans g⟩
    · obtain rfl : n = i := by omega
      have hlt2 : ¬ (n : Int) < (n : Int) := by omega
      go_wp2_with fail
      go_ret
      exact ⟨rfl, HG.out⟩
end Go.Proofs.YtbpgifihlppedaaGreatDoor
