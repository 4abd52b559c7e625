/- Archives (chapter 10): equal results, sheets and entries, compared. -/
import Derived.Test.YtnihclhhbegjhaaGreatDoorOvG
import Derived.Lib.SliceRun
namespace Go.Proofs.YtnihclhhbegjhaaGreatDoor
open Go.RowKit Go.Lib
set_option linter.unusedSimpArgs false
set_option linter.unusedVariables false
def rk (x : RowR) : ByteArray × ByteArray × List Int := (x.nm, x.st, x.xs)
def ek (e : EnR) : ByteArray × Int × Int × ByteArray × Int × ByteArray × List (ByteArray × ByteArray × List Int) := (e.de, e.nu, e.ck, e.ro, e.va, e.st, e.xs.map rk)
theorem IntsV.intS {w : World} {p : Option Addr} {n c : Nat} {xs : List Int} (h : IntsV w (.slice p n c) xs) : n = xs.length ∧ IntS w p n xs := by
  obtain ⟨p', c', e, hh⟩ := h
  simp only [Value.slice.injEq] at e
  obtain ⟨rfl, rfl, rfl⟩ := e
  exact ⟨rfl, rfl, hh⟩
set_option maxHeartbeats 4000000 in
set_option maxRecDepth 100000 in
theorem sameRes_c {nm st : ByteArray} {u1 u2 : Value} {xs : List Int} {w : World} (h1 : IntsV w u1 xs) (h2 : IntsV w u2 xs) (hl : xs.length ≤ 1000) :
    Calls Tryz.prog 74 #[.agg #[.string nm, .string st, u1], .agg #[.string nm, .string st, u2]] w fun e w' => e = .returned (.bool true) ∧ Gr w w' := by
  obtain ⟨⟨p1, k1, e1, _⟩⟩ := id h1
  obtain ⟨⟨p2, k2, e2, _⟩⟩ := id h2
  rw [e1] at h1
  rw [e2] at h2
  rw [e1, e2]
  have HS := Lib.hid (fun V (g : Gr w V) => sameIO_c (c := k1) (c2 := k2) ((h1.gr g).intS.2) ((h2.gr g).intS.2) hl)
  have hn1 : (nm.toList == nm.toList) = true := beq_self_eq_true _
  have hn2 : (st.toList == st.toList) = true := beq_self_eq_true _
  obtain ⟨W1, hW1, g1, a0, a1, a2⟩ := box3 w (.string nm) (.string st) (.slice p1 xs.length k1) 91
  obtain ⟨W2, hW2, g2, b0, b1, b2⟩ := box3 W1 (.string nm) (.string st) (.slice p2 xs.length k2) 91
  replace a0 := g2.cell a0
  replace a1 := g2.cell a1
  replace a2 := g2.cell a2
  have g := g1.trans g2
  have hsz : W1.heap.size = w.heap.size + 1 := by rw [← hW1]; simp
  rw [hsz] at b0 b1 b2
  rw [← hW1] at hW2
  have HW := Lib.hid hW2
  clear hW1 hW2 g1 g2 hsz h1 h2 e1 e2
  generalize xs.length = n at *
  go_enter Tryz.func74, Tryz.ntmps74
  go_wp2_with fail
  rw [HW.out]
  clear HW
  generalize w.heap.size + 1 = Cx at *
  generalize w.heap.size = Bx at *
  go_wp2_with fail
  refine (HS.out _ g).mono ?_
  rintro e w4 ⟨rfl, hg⟩
  go_wp2_with fail
  go_ret
  exact ⟨rfl, g.trans hg⟩
set_option maxHeartbeats 4000000 in
set_option maxRecDepth 100000 in
theorem sameSh_c {ro st : ByteArray} {va : Int} {p1 p2 : Option Addr} {n k1 k2 : Nat} {xs ys : List RowR} {w : World} (h1 : RowsX w p1 n k1 xs) (h2 : RowsX w p2 n k2 ys) (he : xs.map rk = ys.map rk) (hn : n ≤ 1000) (hl : ∀ x ∈ xs, x.xs.length ≤ 1000) :
    Calls Tryz.prog 28 #[.agg #[.string ro, .int .i64 va, .string st, .slice p1 n k1], .agg #[.string ro, .int .i64 va, .string st, .slice p2 n k2]] w fun e w' => e = .returned (.bool true) ∧ Gr w w' := by
  have hr1 : (ro.toList == ro.toList) = true := beq_self_eq_true _
  have hr2 : (st.toList == st.toList) = true := beq_self_eq_true _
  have hv1 : (va != va) = false := bne_self_eq_false _
  have hn1 : ((n : Int) != (n : Int)) = false := bne_self_eq_false _
  have HA := Lib.hid h1
  have HB := Lib.hid h2
  have HEQ := Lib.hid he
  have HL := Lib.hid hl
  obtain ⟨W1, hW1, g1, a0, a1, a2, a3⟩ := box4 w (.string ro) (.int .i64 va) (.string st) (.slice p1 n k1) 32
  obtain ⟨W2, hW2, g2, b0, b1, b2, b3⟩ := box4 W1 (.string ro) (.int .i64 va) (.string st) (.slice p2 n k2) 32
  replace a0 := g2.cell a0
  replace a1 := g2.cell a1
  replace a2 := g2.cell a2
  replace a3 := g2.cell a3
  have g := g1.trans g2
  have hsz : W1.heap.size = w.heap.size + 1 := by rw [← hW1]; simp
  rw [hsz] at b0 b1 b2 b3
  rw [← hW1] at hW2
  have HW := Lib.hid hW2
  clear hW1 hW2 g1 g2 hsz h1 h2 he hl
  go_enter Tryz.func28, Tryz.ntmps28
  go_wp2_with fail
  rw [HW.out]
  clear HW
  generalize w.heap.size + 1 = Cx at *
  generalize w.heap.size = Bx at *
  have A3 := Lib.hid a3
  have B3 := Lib.hid b3
  have GG := Lib.hid g
  go_wp2_with fail
  clear a0 a1 a2 a3 b0 b1 b2 b3 g
  go_loopg [5] n (fun gk s5 wr => ∃ i : Nat, s5 = .int .i64 (i : Int) ∧ gk + i = n ∧ Hid (Gr W2 wr))
  case atStart => exact ⟨0, rfl, by omega, Gr.refl _⟩
  case round =>
    obtain ⟨i, rfl, hgk, HG⟩ := hrel
    have a3 := HG.out.cell A3.out
    have b3 := HG.out.cell B3.out
    by_cases hlt : i < n
    · have hxl := HA.out.len
      have hyl := HB.out.len
      obtain ⟨x, hx⟩ : ∃ x, xs[i]? = some x := ⟨xs[i]'(by omega), List.getElem?_eq_getElem _⟩
      obtain ⟨y, hy⟩ : ∃ y, ys[i]? = some y := ⟨ys[i]'(by omega), List.getElem?_eq_getElem _⟩
      have hxy : rk x = rk y := by
        have h1 : (xs.map rk)[i]? = some (rk x) := by rw [List.getElem?_map, hx]; rfl
        have h2 : (ys.map rk)[i]? = some (rk y) := by rw [List.getElem?_map, hy]; rfl
        rw [HEQ.out, h2] at h1
        exact (Option.some.inj h1).symm
      unfold rk at hxy
      simp only [Prod.mk.injEq] at hxy
      obtain ⟨e1, e2, e3⟩ := hxy
      obtain ⟨b1, o1, rfl, hc1⟩ := HA.out.at_ (by omega)
      obtain ⟨b2, o2, rfl, hc2⟩ := HB.out.at_ (by omega)
      have g0 := GG.out.trans HG.out
      have hx1 := (hc1 i x hx).gr g0
      have hy1 := (hc2 i y hy).gr g0
      obtain ⟨x0, x1, x2, vx⟩ := hx1
      obtain ⟨y0, y1, y2, vy⟩ := hy1
      rw [← e1] at y0
      rw [← e2] at y1
      rw [← e3] at vy
      have HSR := Lib.hid (fun V (g : Gr wr V) => sameRes_c (nm := x.nm) (st := x.st) (vx.gr g) (vy.gr g) (HL.out x (List.mem_of_getElem? hx)))
      have hlt2 : (i : Int) < (n : Int) := by omega
      have gd := (Gr.refl wr).drew
      replace a3 := gd.cell a3
      replace b3 := gd.cell b3
      replace x0 := gd.cell x0
      replace x1 := gd.cell x1
      replace x2 := gd.cell x2
      replace y0 := gd.cell y0
      replace y1 := gd.cell y1
      replace y2 := gd.cell y2
      have g := gd
      have a3' := HG.out.cell A3.out
      clear gd hx hy hc1 hc2 vx vy e1 e2 e3 g0 hxl hyl
      go_wp2_with fail
      clear a3'
      refine wp_region_held_drew (S := (fun w' => w'.cell? ⟨Bx, 3, none⟩ = some (.slice (some ⟨b1, o1, none⟩) n k1) ∧ w'.cell? ⟨Cx, 3, none⟩ = some (.slice (some ⟨b2, o2, none⟩) n k2) ∧ w'.cell? ⟨b1, o1 + i * 3, none⟩ = some (.string x.nm) ∧ w'.cell? ⟨b1, o1 + i * 3 + 1, none⟩ = some (.string x.st) ∧ w'.cell? ⟨b1, o1 + i * 3 + 2, none⟩ = some x.u ∧ w'.cell? ⟨b2, o2 + i * 3, none⟩ = some (.string x.nm) ∧ w'.cell? ⟨b2, o2 + i * 3 + 1, none⟩ = some (.string x.st) ∧ w'.cell? ⟨b2, o2 + i * 3 + 2, none⟩ = some y.u)) (by kernel_rfl) ⟨a3, b3, x0, x1, x2, y0, y1, y2⟩ (fun hHeld => ?_)
      generalize wr.drew = V at *
      refine wpAnyH_take (i := 0) (v := (.pointer (some ⟨Bx, 3, none⟩))) (op_at rfl) (by kernel_rfl) (by kernel_rfl) (by kernel_rfl) (fun _ _ _ h => h) (Or.inl ⟨rfl, fun w hSw => ?_⟩) (by assumption) ?_
      · (try dsimp only at hSw); go_simp; try with_reducible rfl
      (try simp only [Act.put, tz0, tz1, tz2])
      refine wpAnyH_take (i := 1) (v := (.slice (some ⟨b1, o1, none⟩) n k1)) (op_at rfl) (by kernel_rfl) (by kernel_rfl) (by kernel_rfl) (fun _ _ _ h => h) (Or.inl ⟨rfl, fun w hSw => ?_⟩) (by assumption) ?_
      · (try dsimp only at hSw); go_simp; try with_reducible rfl
      (try simp only [Act.put, tz0, tz1, tz2])
      refine wpAnyH_take (i := 2) (v := (.int .i64 (i : Int))) (op_at rfl) (by kernel_rfl) (by kernel_rfl) (by kernel_rfl) (fun _ _ _ h => h) (Or.inl ⟨rfl, fun w hSw => ?_⟩) (by assumption) ?_
      · (try dsimp only at hSw); go_simp; try with_reducible rfl
      (try simp only [Act.put, tz0, tz1, tz2])
      refine wpAnyH_take (i := 3) (v := (.pointer (some ⟨b1, o1 + i * 3, none⟩))) (op_at rfl) (by kernel_rfl) (by kernel_rfl) (by kernel_rfl) (fun _ _ _ h => h) (Or.inl ⟨rfl, fun w hSw => ?_⟩) (by assumption) ?_
      · (try dsimp only at hSw); go_simp; try with_reducible rfl
      (try simp only [Act.put, tz0, tz1, tz2])
      refine wpAnyH_take (i := 4) (v := (.agg #[.string x.nm, .string x.st, x.u])) (op_at rfl) (by kernel_rfl) (by kernel_rfl) (by kernel_rfl) (fun _ _ _ h => h) (Or.inl ⟨rfl, fun w hSw => ?_⟩) (by assumption) ?_
      · (try dsimp only at hSw); go_simp; try with_reducible rfl
      (try simp only [Act.put, tz0, tz1, tz2])
      refine wpAnyH_take (i := 5) (v := (.pointer (some ⟨Cx, 3, none⟩))) (op_at rfl) (by kernel_rfl) (by kernel_rfl) (by kernel_rfl) (fun _ _ _ h => h) (Or.inl ⟨rfl, fun w hSw => ?_⟩) (by assumption) ?_
      · (try dsimp only at hSw); go_simp; try with_reducible rfl
      (try simp only [Act.put, tz0, tz1, tz2])
      refine wpAnyH_take (i := 6) (v := (.slice (some ⟨b2, o2, none⟩) n k2)) (op_at rfl) (by kernel_rfl) (by kernel_rfl) (by kernel_rfl) (fun _ _ _ h => h) (Or.inl ⟨rfl, fun w hSw => ?_⟩) (by assumption) ?_
      · (try dsimp only at hSw); go_simp; try with_reducible rfl
      (try simp only [Act.put, tz0, tz1, tz2])
      refine wpAnyH_take (i := 7) (v := (.int .i64 (i : Int))) (op_at rfl) (by kernel_rfl) (by kernel_rfl) (by kernel_rfl) (fun _ _ _ h => h) (Or.inl ⟨rfl, fun w hSw => ?_⟩) (by assumption) ?_
      · (try dsimp only at hSw); go_simp; try with_reducible rfl
      (try simp only [Act.put, tz0, tz1, tz2])
      refine wpAnyH_take (i := 8) (v := (.pointer (some ⟨b2, o2 + i * 3, none⟩))) (op_at rfl) (by kernel_rfl) (by kernel_rfl) (by kernel_rfl) (fun _ _ _ h => h) (Or.inl ⟨rfl, fun w hSw => ?_⟩) (by assumption) ?_
      · (try dsimp only at hSw); go_simp; try with_reducible rfl
      (try simp only [Act.put, tz0, tz1, tz2])
      refine wpAnyH_take (i := 9) (v := (.agg #[.string x.nm, .string x.st, y.u])) (op_at rfl) (by kernel_rfl) (by kernel_rfl) (by kernel_rfl) (fun _ _ _ h => h) (Or.inl ⟨rfl, fun w hSw => ?_⟩) (by assumption) ?_
      · (try dsimp only at hSw); go_simp; try with_reducible rfl
      (try simp only [Act.put, tz0, tz1, tz2])
      refine wpAnyH_ready (rs := [10]) (by kernel_rfl) (by simp) (AllReadyH.cons (op_at rfl) (fun K hK => ?_) AllReadyH.nil)
      go_simp
      (refine (HSR.out _ g).mono ?_; rintro e W4 ⟨rfl, hg⟩; replace a3 := hg.cell a3; replace b3 := hg.cell b3; replace x0 := hg.cell x0; replace x1 := hg.cell x1; replace x2 := hg.cell x2; replace y0 := hg.cell y0; replace y1 := hg.cell y1; replace y2 := hg.cell y2; replace g := g.trans hg; clear hg)
      go_wp2_with fail
      refine hK.out _ _ ⟨a3, b3, x0, x1, x2, y0, y1, y2⟩ (fun hHeld => ?_)
      clear hK K
      (try simp only [Act.put, tz0, tz1, tz2])
      refine wpAnyH_take (i := 11) (v := (.bool false)) (op_at rfl) (by kernel_rfl) (by kernel_rfl) (by kernel_rfl) (fun _ _ _ h => h) (Or.inl ⟨rfl, fun w hSw => ?_⟩) (by assumption) ?_
      · (try dsimp only at hSw); go_simp; try with_reducible rfl
      (try simp only [Act.put, tz0, tz1, tz2])
      refine wpAnyH_done (by kernel_rfl) ?_ _
      go_wp2_with fail
      go_roundg (gk - 1)
      case measure => omega
      case rel => exact ⟨i + 1, by go_num, by omega, HG.out.trans g⟩
    · obtain rfl : n = i := by omega
      have hlt2 : ¬ (n : Int) < (n : Int) := by omega
      go_wp2_with fail
      go_ret
      exact ⟨rfl, GG.out.trans HG.out⟩
set_option maxHeartbeats 4000000 in
set_option maxRecDepth 100000 in
theorem sameEn_c {e f : EnR} {w : World} (h1 : RowsX w e.p e.n e.cap e.xs) (h2 : RowsX w f.p f.n f.cap f.xs) (he : ek e = ek f) (hn : e.n ≤ 1000) (hl : ∀ x ∈ e.xs, x.xs.length ≤ 1000) :
    Calls Tryz.prog 67 #[enV e, enV f] w fun r w' => r = .returned (.bool true) ∧ Gr w w' := by
  obtain ⟨ede, enu, eck, ero, eva, est, ep, en, ec, exs⟩ := e
  obtain ⟨fde, fnu, fck, fro, fva, fst, fp, fn, fc, fxs⟩ := f
  unfold ek at he
  simp only [Prod.mk.injEq] at he
  simp only at h1 h2 hn hl
  obtain ⟨rfl, rfl, rfl, rfl, rfl, rfl, he⟩ := he
  have hnn : fn = en := by
    have := congrArg List.length he
    rw [List.length_map, List.length_map, h1.len, h2.len] at this
    exact this.symm
  subst hnn
  unfold enV
  simp only
  have HS := Lib.hid (fun V (g : Gr w V) => sameSh_c (ro := ero) (st := est) (va := eva) (h1.gr g) (h2.gr g) he hn hl)
  have hn1 : (ede.toList == ede.toList) = true := beq_self_eq_true _
  have hn2 : (enu == enu) = true := beq_self_eq_true _
  have hn3 : (eck == eck) = true := beq_self_eq_true _
  obtain ⟨W1, hW1, g1, a0, a1, a2, a3, a4, a5, a6⟩ := bx7 w (.string ede) (.int .i64 enu) (.int .i64 eck) (.string ero) (.int .i64 eva) (.string est) (.slice ep fn ec) 65
  obtain ⟨W2, hW2, g2, b0, b1, b2, b3, b4, b5, b6⟩ := bx7 W1 (.string ede) (.int .i64 enu) (.int .i64 eck) (.string ero) (.int .i64 eva) (.string est) (.slice fp fn fc) 65
  replace a0 := g2.cell a0
  replace a1 := g2.cell a1
  replace a2 := g2.cell a2
  replace a3 := g2.cell a3
  replace a4 := g2.cell a4
  replace a5 := g2.cell a5
  replace a6 := g2.cell a6
  have g := g1.trans g2
  have hsz : W1.heap.size = w.heap.size + 1 := by rw [← hW1]; simp
  rw [hsz] at b0 b1 b2 b3 b4 b5 b6
  rw [← hW1] at hW2
  have HW := Lib.hid hW2
  clear hW1 hW2 g1 g2 hsz h1 h2 he hl
  go_enter Tryz.func67, Tryz.ntmps67
  go_wp2_with fail
  rw [HW.out]
  clear HW
  generalize w.heap.size + 1 = Cx at *
  generalize w.heap.size = Bx at *
  go_wp2_with fail
  refine (HS.out _ g).mono ?_
  rintro e w4 ⟨rfl, hg⟩
  go_wp2_with fail
  go_ret
  exact ⟨rfl, g.trans hg⟩
set_option maxHeartbeats 4000000 in
set_option maxRecDepth 100000 in
theorem sameEns_c {q1 q2 : Option Addr} {c1 c2 n : Nat} {l m : List EnR} {w : World} (h1 : EnS w q1 l) (h2 : EnS w q2 m) (hn : n = l.length) (he : l.map ek = m.map ek) (hm : n ≤ 1000) (hf : ∀ e ∈ l, e.n ≤ 1000) (hl : ∀ e ∈ l, ∀ x ∈ e.xs, x.xs.length ≤ 1000) :
    Calls Tryz.prog 20 #[.slice q1 n c1, .slice q2 n c2] w fun e w' => e = .returned (.bool true) ∧ Gr w w' := by
  have HN := Lib.hid hn
  have HM : Hid (n = m.length) := by
    have := congrArg List.length he
    rw [List.length_map, List.length_map] at this
    rw [Hid, hn, this]
  have HA := Lib.hid h1.out
  have HB := Lib.hid h2.out
  have HEQ := Lib.hid he
  have HF := Lib.hid hf
  have HL := Lib.hid hl
  clear h1 h2 hn he hf hl
  have hnn : ((n : Int) != (n : Int)) = false := bne_self_eq_false _
  go_enter Tryz.func20, Tryz.ntmps20
  go_wp2_with fail
  go_loopg [5] n (fun gk s5 wr => ∃ i : Nat, s5 = .int .i64 (i : Int) ∧ gk + i = n ∧ Hid (Gr w wr))
  case atStart => exact ⟨0, rfl, by omega, Gr.refl _⟩
  case round =>
    obtain ⟨i, rfl, hgk, HG⟩ := hrel
    by_cases hlt : i < n
    · obtain ⟨x, hx⟩ : ∃ x, l[i]? = some x := ⟨l[i]'(by have := HN.out; omega), List.getElem?_eq_getElem _⟩
      obtain ⟨y, hy⟩ : ∃ y, m[i]? = some y := ⟨m[i]'(by have := HM.out; omega), List.getElem?_eq_getElem _⟩
      have hxy : ek x = ek y := by
        have h1 : (l.map ek)[i]? = some (ek x) := by rw [List.getElem?_map, hx]; rfl
        have h2 : (m.map ek)[i]? = some (ek y) := by rw [List.getElem?_map, hy]; rfl
        rw [HEQ.out, h2] at h1
        exact (Option.some.inj h1).symm
      obtain ⟨b1, o1, rfl, hc1⟩ := HA.out (by have := HN.out; omega)
      obtain ⟨b2, o2, rfl, hc2⟩ := HB.out (by have := HM.out; omega)
      have gd := HG.out.drew
      have hx1 := (hc1 i x hx).gr gd
      have hy1 := (hc2 i y hy).gr gd
      have HSE0 := Lib.hid (fun V (g : Gr wr.drew V) => sameEn_c (hx1.rows.gr g) (hy1.rows.gr g) hxy (HF.out x (List.mem_of_getElem? hx)) (HL.out x (List.mem_of_getElem? hx)))
      unfold enV at HSE0
      have HSE := HSE0
      clear HSE0
      obtain ⟨x0, x1, x2, x3, x4, x5, x6, _⟩ := hx1
      obtain ⟨y0, y1, y2, y3, y4, y5, y6, _⟩ := hy1
      have hlt2 : (i : Int) < (n : Int) := by omega
      have g := Gr.refl wr.drew
      have HGD := Lib.hid gd
      clear gd hx hy hc1 hc2 hxy
      go_wp2_with fail
      refine wp_region_held_drew (S := (fun w' => w'.cell? ⟨b1, o1 + i * 7, none⟩ = some (.string x.de) ∧ w'.cell? ⟨b1, o1 + i * 7 + 1, none⟩ = some (.int .i64 x.nu) ∧ w'.cell? ⟨b1, o1 + i * 7 + 2, none⟩ = some (.int .i64 x.ck) ∧ w'.cell? ⟨b1, o1 + i * 7 + 3, none⟩ = some (.string x.ro) ∧ w'.cell? ⟨b1, o1 + i * 7 + 4, none⟩ = some (.int .i64 x.va) ∧ w'.cell? ⟨b1, o1 + i * 7 + 5, none⟩ = some (.string x.st) ∧ w'.cell? ⟨b1, o1 + i * 7 + 6, none⟩ = some (.slice x.p x.n x.cap) ∧ w'.cell? ⟨b2, o2 + i * 7, none⟩ = some (.string y.de) ∧ w'.cell? ⟨b2, o2 + i * 7 + 1, none⟩ = some (.int .i64 y.nu) ∧ w'.cell? ⟨b2, o2 + i * 7 + 2, none⟩ = some (.int .i64 y.ck) ∧ w'.cell? ⟨b2, o2 + i * 7 + 3, none⟩ = some (.string y.ro) ∧ w'.cell? ⟨b2, o2 + i * 7 + 4, none⟩ = some (.int .i64 y.va) ∧ w'.cell? ⟨b2, o2 + i * 7 + 5, none⟩ = some (.string y.st) ∧ w'.cell? ⟨b2, o2 + i * 7 + 6, none⟩ = some (.slice y.p y.n y.cap))) (by kernel_rfl) ⟨x0, x1, x2, x3, x4, x5, x6, y0, y1, y2, y3, y4, y5, y6⟩ (fun hHeld => ?_)
      generalize wr.drew = V at *
      refine wpAnyH_take (i := 0) (v := (.slice (some ⟨b1, o1, none⟩) n c1)) (op_at rfl) (by kernel_rfl) (by kernel_rfl) (by kernel_rfl) (fun _ _ _ h => h) (Or.inl ⟨rfl, fun w hSw => ?_⟩) (by assumption) ?_
      · (try dsimp only at hSw); go_simp; try with_reducible rfl
      (try simp only [Act.put, tz0, tz1, tz2])
      refine wpAnyH_take (i := 1) (v := (.int .i64 (i : Int))) (op_at rfl) (by kernel_rfl) (by kernel_rfl) (by kernel_rfl) (fun _ _ _ h => h) (Or.inl ⟨rfl, fun w hSw => ?_⟩) (by assumption) ?_
      · (try dsimp only at hSw); go_simp; try with_reducible rfl
      (try simp only [Act.put, tz0, tz1, tz2])
      refine wpAnyH_take (i := 2) (v := (.pointer (some ⟨b1, o1 + i * 7, none⟩))) (op_at rfl) (by kernel_rfl) (by kernel_rfl) (by kernel_rfl) (fun _ _ _ h => h) (Or.inl ⟨rfl, fun w hSw => ?_⟩) (by assumption) ?_
      · (try dsimp only at hSw); go_simp; try with_reducible rfl
      (try simp only [Act.put, tz0, tz1, tz2])
      refine wpAnyH_take (i := 3) (v := (.agg #[.string x.de, .int .i64 x.nu, .int .i64 x.ck, .string x.ro, .int .i64 x.va, .string x.st, .slice x.p x.n x.cap])) (op_at rfl) (by kernel_rfl) (by kernel_rfl) (by kernel_rfl) (fun _ _ _ h => h) (Or.inl ⟨rfl, fun w hSw => ?_⟩) (by assumption) ?_
      · (try dsimp only at hSw); go_simp; try with_reducible rfl
      (try simp only [Act.put, tz0, tz1, tz2])
      refine wpAnyH_take (i := 4) (v := (.slice (some ⟨b2, o2, none⟩) n c2)) (op_at rfl) (by kernel_rfl) (by kernel_rfl) (by kernel_rfl) (fun _ _ _ h => h) (Or.inl ⟨rfl, fun w hSw => ?_⟩) (by assumption) ?_
      · (try dsimp only at hSw); go_simp; try with_reducible rfl
      (try simp only [Act.put, tz0, tz1, tz2])
      refine wpAnyH_take (i := 5) (v := (.int .i64 (i : Int))) (op_at rfl) (by kernel_rfl) (by kernel_rfl) (by kernel_rfl) (fun _ _ _ h => h) (Or.inl ⟨rfl, fun w hSw => ?_⟩) (by assumption) ?_
      · (try dsimp only at hSw); go_simp; try with_reducible rfl
      (try simp only [Act.put, tz0, tz1, tz2])
      refine wpAnyH_take (i := 6) (v := (.pointer (some ⟨b2, o2 + i * 7, none⟩))) (op_at rfl) (by kernel_rfl) (by kernel_rfl) (by kernel_rfl) (fun _ _ _ h => h) (Or.inl ⟨rfl, fun w hSw => ?_⟩) (by assumption) ?_
      · (try dsimp only at hSw); go_simp; try with_reducible rfl
      (try simp only [Act.put, tz0, tz1, tz2])
      refine wpAnyH_take (i := 7) (v := (.agg #[.string y.de, .int .i64 y.nu, .int .i64 y.ck, .string y.ro, .int .i64 y.va, .string y.st, .slice y.p y.n y.cap])) (op_at rfl) (by kernel_rfl) (by kernel_rfl) (by kernel_rfl) (fun _ _ _ h => h) (Or.inl ⟨rfl, fun w hSw => ?_⟩) (by assumption) ?_
      · (try dsimp only at hSw); go_simp; try with_reducible rfl
      (try simp only [Act.put, tz0, tz1, tz2])
      refine wpAnyH_ready (rs := [8]) (by kernel_rfl) (by simp) (AllReadyH.cons (op_at rfl) (fun K hK => ?_) AllReadyH.nil)
      go_simp
      (refine (HSE.out _ g).mono ?_; rintro e W4 ⟨rfl, hg⟩; replace x0 := hg.cell x0; replace x1 := hg.cell x1; replace x2 := hg.cell x2; replace x3 := hg.cell x3; replace x4 := hg.cell x4; replace x5 := hg.cell x5; replace x6 := hg.cell x6; replace y0 := hg.cell y0; replace y1 := hg.cell y1; replace y2 := hg.cell y2; replace y3 := hg.cell y3; replace y4 := hg.cell y4; replace y5 := hg.cell y5; replace y6 := hg.cell y6; replace g := g.trans hg; clear hg)
      go_wp2_with fail
      refine hK.out _ _ ⟨x0, x1, x2, x3, x4, x5, x6, y0, y1, y2, y3, y4, y5, y6⟩ (fun hHeld => ?_)
      clear hK K
      (try simp only [Act.put, tz0, tz1, tz2])
      refine wpAnyH_take (i := 9) (v := (.bool false)) (op_at rfl) (by kernel_rfl) (by kernel_rfl) (by kernel_rfl) (fun _ _ _ h => h) (Or.inl ⟨rfl, fun w hSw => ?_⟩) (by assumption) ?_
      · (try dsimp only at hSw); go_simp; try with_reducible rfl
      (try simp only [Act.put, tz0, tz1, tz2])
      refine wpAnyH_done (by kernel_rfl) ?_ _
      go_wp2_with fail
      go_roundg (gk - 1)
      case measure => omega
      case rel => exact ⟨i + 1, by go_num, by omega, HGD.out.trans g⟩
    · obtain rfl : n = i := by omega
      have hlt2 : ¬ (n : Int) < (n : Int) := by omega
      go_wp2_with fail
      go_ret
      exact ⟨rfl, HG.out⟩
end Go.Proofs.YtnihclhhbegjhaaGreatDoor
namespace Go.Proofs.YtnihclhhbegjhaaGreatDoor
open Go.RowKit Go.Lib
set_option linter.unusedSimpArgs false
set_option linter.unusedVariables false
theorem own_emptyI {w : World} {g base : Nat} (h : w.heap[g]? = some (.cells #[] 3 (0, 0))) (hb : base ≤ g) : w.ownsRow base 3 1 (.slice (some ⟨g, 0, none⟩) 0 0) 0 [] :=
  ⟨by simp, .inr ⟨g, 0, #[], rfl, hb, h, Nat.le_refl _, by unfold maxLen; omega, rfl, by simp⟩⟩
set_option maxHeartbeats 1000000 in
set_option maxRecDepth 100000 in
theorem cloneO_c (q : Option Addr) (m c : Nat) (zs : List Int) (w : World) (hz : IntS w q m zs) (h1 : m ≤ 1000) :
    Calls Tryz.prog 117 #[.slice q m c] w fun e w' => ∃ p cp, e = .returned (.slice p m cp) ∧ w'.ownsRow w.heap.size 3 1 (.slice p m cp) m (ints zs) ∧ Gr w w' := by
  have hq : ∀ (w : World) (a : Option Addr) (n c n' c' : Nat), (binOp .eql 89 (.slice a n c) (.slice none n' c')).run Tryz.prog w = .ok (.bool a.isNone) w := fun w a n c n' c' => Lib.run_eql_slice_nil w _ _ a n c n' c' Tryz.underlying89
  cases q with
  | none =>
    have hm : m = 0 := by
      rcases Nat.eq_zero_or_pos m with h0 | h0
      · exact h0
      · obtain ⟨_, _, e, _⟩ := hz.out h0; cases e
    subst hm
    have hzz : zs = [] := List.eq_nil_of_length_eq_zero hz.len
    subst hzz
    clear hz
    go_enter Tryz.func117, Tryz.ntmps117
    go_wp2_with fail
    go_ret
    exact ⟨none, 0, rfl, World.ownsRow_nil _ _ _ _, Gr.refl _⟩
  | some ad =>
    have HZ := Lib.hid (hz.gr ((Gr.refl w).alloc (.cells #[] 3)))
    have HE := Lib.hid (own_emptyI (base := w.heap.size) (heap_alloc_new w (.cells #[] 3)) (Nat.le_refl _))
    have HS : Hid (w.heap.size ≤ (w.alloc (.cells #[] 3)).heap.size) := ((Gr.refl w).alloc (.cells #[] 3)).size
    clear hz
    go_enter Tryz.func117, Tryz.ntmps117
    go_wp2_with (first
      | (at_builtin; refine wpList_append_ints rfl _ _ rfl w.heap.size _ 0 [] rfl HE.out (some ad) m c zs rfl HZ.out (by omega) HS.out ?_; intro v1 w1 hown1 hgrow1; rw [Nat.zero_add, List.nil_append] at hown1; obtain ⟨p1, cc1, rfl, _, _⟩ := own_shape hown1; have C1 := Lib.hid hown1; have C2 : Hid (Gr w w1) := Below.grown ((Gr.refl w).alloc (.cells #[] 3)) hgrow1 HS.out (fun j hj => (own_in HE.out hj).2); clear hown1 hgrow1))
    go_ret
    exact ⟨p1, cc1, rfl, C1.out, C2.out⟩
theorem own_apartO {w w' : World} {b1 b2 s1 s2 n1 n2 : Nat} {T1 T2 : TypeId} {v1 v2 : Value} {l1 l2 : List Value} (h1 : w.ownsRow b1 T1 s1 v1 n1 l1) (h2 : w.ownsRow b2 T2 s2 v2 n2 l2) (hT : T1 ≠ T2) (hg : w.grownBy w' v2.ownBlock) : w'.ownsRow b1 T1 s1 v1 n1 l1 := by
  refine own_same h1 fun g hgv => ?_
  refine hg.block g (own_in h1 hgv).1 fun e => ?_
  rcases h1.2 with ⟨rfl, _⟩ | ⟨g1, cap1, cur1, rfl, _, hh1, _⟩
  · cases hgv
  rcases h2.2 with ⟨rfl, _⟩ | ⟨g2, cap2, cur2, rfl, _, hh2, _⟩
  · cases e
  cases hgv
  cases e
  rw [hh1] at hh2
  simp only [Option.some.injEq, Obj.cells.injEq] at hh2
  exact hT hh2.2.1
theorem own_set_low {w : World} {b s n : Nat} {T : TypeId} {v x : Value} {l : List Value} {p : Addr} (h : w.ownsRow b T s v n l) (hp : p.block < b) : (w.setCell p x).ownsRow b T s v n l :=
  own_same h fun g hg => Below.heap_setCell _ _ _ _ (by have := (own_in h hg).2; omega)
theorem set3O {w : World} {g T : Nat} {r0 r1 r2 : Value} (h : w.heap[g]? = some (.cells #[r0, r1, r2] T)) (a b c : Value) : (((w.setCell ⟨g, 0, none⟩ a).setCell ⟨g, 1, none⟩ b).setCell ⟨g, 2, none⟩ c).heap[g]? = some (.cells #[a, b, c] T) := by
  simp [World.setCell, Array.getElem?_modify, h]
theorem set4O {w : World} {g T : Nat} {r0 r1 r2 r3 : Value} (h : w.heap[g]? = some (.cells #[r0, r1, r2, r3] T)) (a b c d : Value) : ((((w.setCell ⟨g, 0, none⟩ a).setCell ⟨g, 1, none⟩ b).setCell ⟨g, 2, none⟩ c).setCell ⟨g, 3, none⟩ d).heap[g]? = some (.cells #[a, b, c, d] T) := by
  simp [World.setCell, Array.getElem?_modify, h]
theorem cells4_ofO {w : World} {g : Nat} {a b c d : Value} {T : TypeId} {z : Nat × Nat} (h : w.heap[g]? = some (.cells #[a, b, c, d] T z)) : w.cell? ⟨g, 0, none⟩ = some a ∧ w.cell? ⟨g, 1, none⟩ = some b ∧ w.cell? ⟨g, 2, none⟩ = some c ∧ w.cell? ⟨g, 3, none⟩ = some d := by
  simp [World.cell?, h]
theorem cells3_ofO {w : World} {g : Nat} {a b c : Value} {T : TypeId} {z : Nat × Nat} (h : w.heap[g]? = some (.cells #[a, b, c] T z)) : w.cell? ⟨g, 0, none⟩ = some a ∧ w.cell? ⟨g, 1, none⟩ = some b ∧ w.cell? ⟨g, 2, none⟩ = some c := by
  simp [World.cell?, h]
set_option maxHeartbeats 4000000 in
set_option maxRecDepth 100000 in
theorem copyRes_c {nm st : ByteArray} {u : Value} {xs : List Int} {w : World} (h1 : IntsV w u xs) (hl : xs.length ≤ 1000) :
    Calls Tryz.prog 116 #[.agg #[.string nm, .string st, u]] w fun e w' => ∃ p c, e = .returned (.agg #[.string nm, .string st, .slice p xs.length c]) ∧ w'.ownsRow w.heap.size 3 1 (.slice p xs.length c) xs.length (ints xs) ∧ Gr w w' := by
  obtain ⟨⟨p1, k1, e1, _⟩⟩ := id h1
  rw [e1] at h1
  rw [e1]
  have HS := Lib.hid (fun V (g : Gr w V) => cloneO_c p1 xs.length k1 xs V ((h1.gr g).intS.2) hl)
  obtain ⟨W1, hW1, g1, a0, a1, a2⟩ := box3 w (.string nm) (.string st) (.slice p1 xs.length k1) 91
  have HW := Lib.hid hW1
  have HSZ : Hid (W1.heap.size = w.heap.size + 1) := by rw [Hid, ← hW1]; simp
  have HB1 : Hid (W1.heap[w.heap.size]? = some (.cells #[.string nm, .string st, .slice p1 xs.length k1] 91 (0, 0))) := by rw [Hid, ← hW1]; exact heap_alloc_new w _
  clear hW1 h1 e1
  go_enter Tryz.func116, Tryz.ntmps116
  go_wp2_with fail
  rw [HW.out]
  clear HW
  have hsz : W1.heap.size = w.heap.size + 1 := HSZ.out
  obtain ⟨W2, hW2, g2, z0, z1, z2⟩ := box3 W1 (.string ⟨#[]⟩) (.string ⟨#[]⟩) (.slice none 0 0) 91
  have hb2 : W2.heap[W1.heap.size]? = some (.cells #[.string ⟨#[]⟩, .string ⟨#[]⟩, .slice none 0 0] 91 (0, 0)) := by rw [← hW2]; exact heap_alloc_new W1 _
  have hb1 := Gr.block g2 HB1.out
  rw [hW2]
  refine (HS.out _ (g1.trans g2)).mono ?_
  rintro e W3 ⟨p, cp, rfl, hown, hg⟩
  replace hb1 := Gr.block hg hb1
  replace hb2 := Gr.block hg hb2
  replace a0 := (g2.trans hg).cell a0
  replace a1 := (g2.trans hg).cell a1
  replace a2 := (g2.trans hg).cell a2
  replace z0 := hg.cell z0
  replace z1 := hg.cell z1
  replace z2 := hg.cell z2
  have f1 : ∀ o, W3.frozen? ⟨w.heap.size, o, none⟩ = false := fun o => frozen_of_row _ _ o _ _ hb1
  have f2 : ∀ o, W3.frozen? ⟨W1.heap.size, o, none⟩ = false := fun o => frozen_of_row _ _ o _ _ hb2
  have HO := Lib.hid hown
  have HG := Lib.hid ((g1.trans g2).trans hg)
  have HB1' := Lib.hid hb1
  rw [hsz] at hb2
  have HB2' := Lib.hid hb2
  rw [hsz] at z0 z1 z2 f2
  have HS2 : Hid (W2.heap.size = w.heap.size + 2) := by rw [Hid, ← hW2]; simp [hsz]
  clear hW2 g2 hg hown hb1 hb2 HB1 HS
  obtain ⟨Bx, hBx⟩ : ∃ B, w.heap.size = B := ⟨_, rfl⟩
  have HBW := Lib.hid hBx
  rw [hBx] at a0 a1 a2 z0 z1 z2 f1 f2 HS2 HB2' ⊢
  clear hBx hsz HSZ
  go_wp2_with fail
  have hb := (Below.heap_setCell W3 ⟨Bx, 2, none⟩ (.slice p xs.length cp) (Bx + 1) (by show Bx + 1 ≠ Bx; omega)).trans HB2'.out
  have hb4 := set3O hb (.string nm) (.string st) (.slice p xs.length cp)
  obtain ⟨y0, y1, y2⟩ := cells3_ofO hb4
  have hw : w.heap.size = Bx := HBW.out
  have h2 : W2.heap.size = Bx + 2 := HS2.out
  have ho := HO.out
  rw [h2] at ho
  refine bodyPost_ret (v := .agg #[.string nm, .string st, .slice p xs.length cp]) (by simp [results, Tryz.results116, go_sem, y0, y1, y2]) rfl ⟨p, cp, rfl, ?_, ?_⟩
  · exact own_low (own_set_low (own_set_low (own_set_low (own_set_low ho (by show Bx < Bx + 2; omega)) (by show Bx + 1 < Bx + 2; omega)) (by show Bx + 1 < Bx + 2; omega)) (by show Bx + 1 < Bx + 2; omega)) (by omega)
  · exact Below.setCell (Below.setCell (Below.setCell (Below.setCell HG.out (by show w.heap.size ≤ Bx; omega) _) (by show w.heap.size ≤ Bx + 1; omega) _) (by show w.heap.size ≤ Bx + 1; omega) _) (by show w.heap.size ≤ Bx + 1; omega) _
theorem infoRsP : (Tryz.prog.info? 91).map (fun i => (i.zero, i.size, i.bytes)) = some (some (.agg #[.string ⟨#[]⟩, .string ⟨#[]⟩, .slice none 0 0]), 3, 56) := by kernel_rfl
theorem cell_threeO (w : World) (a b c : Value) (T : TypeId) : ∀ (j : Nat) (u : Value), [a, b, c][j]? = some u → (w.alloc (.cells #[a, b, c] T)).cell? ((⟨w.heap.size, 0, none⟩ : Addr).add j) = some u := by
  intro j u h
  rw [addr_add]
  match j, h with
  | 0, h => simp at h; subst h; exact cell_new w #[a, b, c] T 0 (by simp)
  | 1, h => simp at h; subst h; exact cell_new w #[a, b, c] T 1 (by simp)
  | 2, h => simp at h; subst h; exact cell_new w #[a, b, c] T 2 (by simp)
  | j + 3, h => simp at h
theorem one_threeO (a b : ByteArray) (p : Option Addr) (n c : Nat) : ∀ u ∈ ([.string a, .string b, .slice p n c] : List Value), u.oneCell' = true := by
  intro u hu
  simp at hu
  rcases hu with rfl | rfl | rfl <;> rfl
def rsC (x : RowR) : List Value := [.string x.nm, .string x.st, x.u]
def rsCs (l : List RowR) : List Value := l.flatMap rsC
theorem rsCs_add (l : List RowR) (r : RowR) : rsCs (l ++ [r]) = rsCs l ++ rsC r := by simp [rsCs]
theorem rsCs_at {xs : List RowR} {i : Nat} {x : RowR} (h : xs[i]? = some x) (j : Nat) (hj : j < 3) : (rsCs xs)[i * 3 + j]? = (rsC x)[j]? := by
  induction xs generalizing i with
  | nil => simp at h
  | cons y ys ih =>
    have e : rsCs (y :: ys) = rsC y ++ rsCs ys := rfl
    rw [e]
    cases i with
    | zero =>
      simp only [List.getElem?_cons_zero, Option.some.injEq] at h
      subst h
      rw [show 0 * 3 + j = j by omega, List.getElem?_append_left (by simp [rsC]; omega)]
    | succ i =>
      rw [List.getElem?_append_right (by simp [rsC]; omega)]
      have := ih (i := i) (by simpa using h)
      rw [← this]
      congr 1
      simp [rsC]; omega
structure CpR (w : World) (base : Nat) (y : RowR) : Prop where
  mk' ::
  out : ∃ p c, y.u = .slice p y.xs.length c ∧ w.ownsRow base 3 1 (.slice p y.xs.length c) y.xs.length (ints y.xs)
theorem CpR.gr {w w' : World} {base : Nat} {y : RowR} (h : CpR w base y) (g : Gr w w') : CpR w' base y := by
  obtain ⟨p, c, e, h⟩ := h
  exact ⟨p, c, e, own_kept h g⟩
theorem CpR.low {w : World} {b b' : Nat} {y : RowR} (h : CpR w b y) (hb : b' ≤ b) : CpR w b' y := by
  obtain ⟨p, c, e, h⟩ := h
  exact ⟨p, c, e, own_low h hb⟩
theorem CpR.set_low {w : World} {b : Nat} {y : RowR} (h : CpR w b y) (p : Addr) (x : Value) (hb : p.block < b) : CpR (w.setCell p x) b y := by
  obtain ⟨q, c, e, h⟩ := h
  exact ⟨q, c, e, own_set_low h hb⟩
theorem CpR.apart {w w' : World} {base b2 s2 n2 : Nat} {T2 : TypeId} {y : RowR} {v2 : Value} {l2 : List Value} (h : CpR w base y) (h2 : w.ownsRow b2 T2 s2 v2 n2 l2) (hT : 3 ≠ T2) (hg : w.grownBy w' v2.ownBlock) : CpR w' base y := by
  obtain ⟨p, c, e, h⟩ := h
  exact ⟨p, c, e, own_apartO h h2 hT hg⟩
theorem CpR.val {w : World} {base : Nat} {y : RowR} (h : CpR w base y) : IntsV w y.u y.xs := by
  obtain ⟨p, c, e, h⟩ := h
  have hs := IntS.of_own h
  exact ⟨p, c, e, fun h0 => hs.out h0⟩
structure CpS (w : World) (base : Nat) (p : Option Addr) (n cap : Nat) (ys : List RowR) : Prop where
  len : ys.length = n
  own : w.ownsRow base 91 3 (.slice p n cap) n (rsCs ys)
  rs : ∀ y ∈ ys, CpR w base y
theorem CpS.gr {w w' : World} {base n cap : Nat} {p : Option Addr} {ys : List RowR} (h : CpS w base p n cap ys) (g : Gr w w') : CpS w' base p n cap ys := ⟨h.len, own_kept h.own g, fun y hy => (h.rs y hy).gr g⟩
theorem CpS.low {w : World} {b b' n cap : Nat} {p : Option Addr} {ys : List RowR} (h : CpS w b p n cap ys) (hb : b' ≤ b) : CpS w b' p n cap ys := ⟨h.len, own_low h.own hb, fun y hy => (h.rs y hy).low hb⟩
theorem CpS.set_low {w : World} {b n cap : Nat} {p : Option Addr} {ys : List RowR} (h : CpS w b p n cap ys) (q : Addr) (x : Value) (hb : q.block < b) : CpS (w.setCell q x) b p n cap ys := ⟨h.len, own_set_low h.own hb, fun y hy => (h.rs y hy).set_low q x hb⟩
theorem CpS.apart {w w' : World} {base b2 s2 n2 n cap : Nat} {p : Option Addr} {T2 : TypeId} {ys : List RowR} {v2 : Value} {l2 : List Value} (h : CpS w base p n cap ys) (h2 : w.ownsRow b2 T2 s2 v2 n2 l2) (hT : 3 ≠ T2) (hT2 : 91 ≠ T2) (hg : w.grownBy w' v2.ownBlock) : CpS w' base p n cap ys := ⟨h.len, own_apartO h.own h2 hT2 hg, fun y hy => (h.rs y hy).apart h2 hT hg⟩
theorem CpS.rows {w : World} {base n cap : Nat} {p : Option Addr} {ys : List RowR} (h : CpS w base p n cap ys) : RowsX w p n cap ys := by
  obtain ⟨p', c', e, hc1, hc2⟩ := own_shape h.own
  simp only [Value.slice.injEq] at e
  obtain ⟨rfl, _, rfl⟩ := e
  refine ⟨h.len, ⟨hc1, hc2⟩, fun h0 => ?_⟩
  rcases id h.own.2 with ⟨e, hz⟩ | ⟨g, cap, cur, e, _, _, hle, hmx, _, _⟩
  · omega
  · simp only [Value.slice.injEq] at e
    obtain ⟨rfl, _, rfl⟩ := e
    refine ⟨g, 0, rfl, fun i x hx => ?_⟩
    have hi := (List.getElem?_eq_some_iff.1 hx).1
    have hl := h.len
    have c0 := h.own.cellAt (i * 3 + 0) (by omega)
    have c1 := h.own.cellAt (i * 3 + 1) (by omega)
    have c2 := h.own.cellAt (i * 3 + 2) (by omega)
    rw [rsCs_at hx _ (by omega)] at c0 c1 c2
    rw [Nat.zero_add]
    exact ⟨c0, c1, c2, (h.rs x (List.mem_of_getElem? hx)).val⟩
set_option maxHeartbeats 4000000 in
set_option maxRecDepth 100000 in
theorem copied_c {p : Option Addr} {n cap : Nat} {xs : List RowR} {w : World} (h : RowsX w p n cap xs) (hn : n ≤ 1000) (hl : ∀ x ∈ xs, x.xs.length ≤ 1000) :
    Calls Tryz.prog 115 #[.slice p n cap, .func (.func 116) #[] #[]] w fun e w' => ∃ q k ys, e = .returned (.slice q n k) ∧ CpS w' w.heap.size q n k ys ∧ ys.map rk = xs.map rk ∧ Gr w w' := by
  obtain ⟨i0, hi, hz0, hz1, hz2⟩ := info_parts infoRsP
  have HI0 := Lib.hid (And.intro hi (And.intro hz0 (And.intro hz1 hz2)))
  have HR := Lib.hid h
  have HL := Lib.hid hl
  clear h hl hi hz0 hz1 hz2
  go_enter Tryz.func115, Tryz.ntmps115
  go_wp2_with fail
  go_loopg [5, 10] n (fun gk s5 s10 wr => ∃ (i : Nat) (ys : List RowR), s10 = .int .i64 (i : Int) ∧ gk + i = n ∧ Hid (wr.ownsRow w.heap.size 91 3 s5 i (rsCs ys)) ∧ Hid (ys.map rk = (xs.take i).map rk) ∧ Hid (∀ y ∈ ys, CpR wr w.heap.size y) ∧ Hid (Gr w wr))
  case atStart => exact ⟨0, [], rfl, by omega, World.ownsRow_nil _ _ _ _, rfl, (fun y hy => by cases hy), Gr.refl _⟩
  case round =>
    obtain ⟨i, ys, rfl, hgk, HOWN, HMP, HCP, HG⟩ := hrel
    have hsz := HG.out.size
    by_cases hlt : i < n
    · have hxl := HR.out.len
      obtain ⟨x, hx⟩ : ∃ x, xs[i]? = some x := ⟨xs[i]'(by omega), List.getElem?_eq_getElem _⟩
      obtain ⟨b, off, rfl, hc⟩ := HR.out.at_ (by omega)
      obtain ⟨a0, a1, a2, hv⟩ := (hc i x hx).gr HG.out
      have HX := Lib.hid hx
      have hxx := HL.out x (List.mem_of_getElem? hx)
      have hlt2 : (i : Int) < (n : Int) := by omega
      obtain ⟨⟨pu, cu, hu, _⟩⟩ := id hv
      rw [hu] at a2 hv
      have g1 := (Gr.refl wr).alloc (.cells #[.string x.nm, .string x.st, .slice pu x.xs.length cu] 91)
      have HCR := Lib.hid (copyRes_c (nm := x.nm) (st := x.st) (hv.gr g1) hxx)
      have HG1 := Lib.hid g1
      clear hx hc hv hu g1 hxl
      go_wp2_with fail
      refine HCR.out.mono ?_
      rintro e V ⟨pv, cv, rfl, ho, hg⟩
      have gV := HG1.out.trans hg
      have hownV := own_kept HOWN.out gV
      have HGV : Hid (Gr w V) := HG.out.trans gV
      have hszV := HGV.out.size
      have HOV := Lib.hid (own_low ho (show w.heap.size ≤ _ from Nat.le_trans HG.out.size HG1.out.size))
      have HCV : Hid (∀ y ∈ ys, CpR V w.heap.size y) := fun y hy => (HCP.out y hy).gr gV
      obtain ⟨hi, hz0, hz1, hz2⟩ := HI0.out
      have gA := (Gr.refl V).alloc (.cells #[.string x.nm, .string x.st, .slice pv x.xs.length cv] 91)
      have hownA := own_kept hownV gA
      clear hg gV a0 a1 a2 ho HOWN HCP HCR
      go_wp2_with (at_builtin; refine wpList_append_own _ rfl _ _ 25 rfl w.heap.size 91 i0 (.agg #[.string ⟨#[]⟩, .string ⟨#[]⟩, .slice none 0 0]) 3 56 Tryz.underlying25 hi hz0 hz1 hz2 rfl (by decide) _ _ _ rfl hownA ⟨V.heap.size, 0, none⟩ 1 1 [.string x.nm, .string x.st, .slice pv x.xs.length cv] rfl rfl (cell_threeO _ _ _ _ _) (one_threeO _ _ _ _ _) (by unfold maxLen; omega) (by omega) (by simp; omega) ?_; intro v1 w1 hown1 hgrow1 hnil)
      have HGR : Hid (Gr w w1) := Below.grown (HGV.out.alloc _) hgrow1 (by simp; omega) (fun q hq => (own_in hownV hq).2)
      have HO1 : Hid (w1.ownsRow w.heap.size 91 3 v1 (i + 1) (rsCs (ys ++ [⟨x.nm, x.st, .slice pv x.xs.length cv, x.xs⟩]))) := by rw [Hid, rsCs_add]; exact hown1
      have HM1 : Hid ((ys ++ [(⟨x.nm, x.st, .slice pv x.xs.length cv, x.xs⟩ : RowR)]).map rk = (xs.take (i + 1)).map rk) := by
        rw [Hid, List.take_add_one, HX.out, List.map_append, HMP.out]
        simp [rk]
      have HC1 : Hid (∀ y ∈ ys ++ [(⟨x.nm, x.st, .slice pv x.xs.length cv, x.xs⟩ : RowR)], CpR w1 w.heap.size y) := by
        intro y hy
        rcases List.mem_append.1 hy with hy | hy
        · exact ((HCV.out y hy).gr gA).apart hownA (by decide) hgrow1
        · rw [List.mem_singleton] at hy
          subst hy
          exact CpR.apart ⟨pv, cv, rfl, own_kept HOV.out gA⟩ hownA (by decide) hgrow1
      clear hown1 hgrow1 hownV hownA hnil gA hi hz0 hz1 hz2
      go_wp2_with fail
      go_roundg (gk - 1)
      case measure => omega
      case rel => exact ⟨i + 1, _, by go_num, by omega, HO1.out, HM1.out, HC1.out, HGR.out⟩
    · obtain rfl : n = i := by omega
      have hlt2 : ¬ (n : Int) < (n : Int) := by omega
      obtain ⟨q, c, rfl, hc1, hc2⟩ := own_shape HOWN.out
      have hm : ys.map rk = xs.map rk := by rw [HMP.out, List.take_of_length_le (by have := HR.out.len; omega)]
      have HF : Hid (CpS wr w.heap.size q n c ys) := ⟨by have := congrArg List.length hm; rw [List.length_map, List.length_map, HR.out.len] at this; exact this, HOWN.out, HCP.out⟩
      have HMM := Lib.hid hm
      clear hm
      go_wp2_with fail
      go_ret
      exact ⟨q, c, rfl, ys, HF.out, HMM.out, HG.out⟩
set_option maxHeartbeats 4000000 in
set_option maxRecDepth 100000 in
theorem copySh_c {ro st : ByteArray} {va : Int} {p : Option Addr} {n cap : Nat} {xs : List RowR} {w : World} (h : RowsX w p n cap xs) (hn : n ≤ 1000) (hl : ∀ x ∈ xs, x.xs.length ≤ 1000) :
    Calls Tryz.prog 69 #[.agg #[.string ro, .int .i64 va, .string st, .slice p n cap]] w fun e w' => ∃ q k ys, e = .returned (.agg #[.string ro, .int .i64 va, .string st, .slice q n k]) ∧ CpS w' w.heap.size q n k ys ∧ ys.map rk = xs.map rk ∧ Gr w w' := by
  have HS := Lib.hid (fun V (g : Gr w V) => copied_c (h.gr g) hn hl)
  obtain ⟨W1, hW1, g1, a0, a1, a2, a3⟩ := box4 w (.string ro) (.int .i64 va) (.string st) (.slice p n cap) 27
  have HW := Lib.hid hW1
  have HSZ : Hid (W1.heap.size = w.heap.size + 1) := by rw [Hid, ← hW1]; simp
  have HB1 : Hid (W1.heap[w.heap.size]? = some (.cells #[.string ro, .int .i64 va, .string st, .slice p n cap] 27 (0, 0))) := by rw [Hid, ← hW1]; exact heap_alloc_new w _
  clear hW1 h
  go_enter Tryz.func69, Tryz.ntmps69
  go_wp2_with fail
  rw [HW.out]
  clear HW
  have hsz : W1.heap.size = w.heap.size + 1 := HSZ.out
  obtain ⟨W2, hW2, g2, z0, z1, z2, z3⟩ := box4 W1 (.string ⟨#[]⟩) (.int .i64 0) (.string ⟨#[]⟩) (.slice none 0 0) 27
  have hb2 : W2.heap[W1.heap.size]? = some (.cells #[.string ⟨#[]⟩, .int .i64 0, .string ⟨#[]⟩, .slice none 0 0] 27 (0, 0)) := by rw [← hW2]; exact heap_alloc_new W1 _
  have hb1 := Gr.block g2 HB1.out
  rw [hW2]
  refine (HS.out _ (g1.trans g2)).mono ?_
  rintro e W3 ⟨q, k, ys, rfl, hcp, hmp, hg⟩
  replace hb1 := Gr.block hg hb1
  replace hb2 := Gr.block hg hb2
  replace a0 := (g2.trans hg).cell a0
  replace a1 := (g2.trans hg).cell a1
  replace a2 := (g2.trans hg).cell a2
  replace a3 := (g2.trans hg).cell a3
  replace z0 := hg.cell z0
  replace z1 := hg.cell z1
  replace z2 := hg.cell z2
  replace z3 := hg.cell z3
  have f1 : ∀ o, W3.frozen? ⟨w.heap.size, o, none⟩ = false := fun o => frozen_of_row _ _ o _ _ hb1
  have f2 : ∀ o, W3.frozen? ⟨W1.heap.size, o, none⟩ = false := fun o => frozen_of_row _ _ o _ _ hb2
  have HO := Lib.hid hcp
  have HM := Lib.hid hmp
  have HG := Lib.hid ((g1.trans g2).trans hg)
  rw [hsz] at hb2
  have HB2' := Lib.hid hb2
  rw [hsz] at z0 z1 z2 z3 f2
  have HS2 : Hid (W2.heap.size = w.heap.size + 2) := by rw [Hid, ← hW2]; simp [hsz]
  clear hW2 g2 hg hcp hmp hb1 hb2 HB1 HS
  obtain ⟨Bx, hBx⟩ : ∃ B, w.heap.size = B := ⟨_, rfl⟩
  have HBW := Lib.hid hBx
  rw [hBx] at a0 a1 a2 a3 z0 z1 z2 z3 f1 f2 HS2 HB2' ⊢
  clear hBx hsz HSZ
  go_wp2_with fail
  have hb := (Below.heap_setCell W3 ⟨Bx, 3, none⟩ (.slice q n k) (Bx + 1) (by show Bx + 1 ≠ Bx; omega)).trans HB2'.out
  have hb4 := set4O hb (.string ro) (.int .i64 va) (.string st) (.slice q n k)
  obtain ⟨y0, y1, y2, y3⟩ := cells4_ofO hb4
  have hw : w.heap.size = Bx := HBW.out
  have h2 : W2.heap.size = Bx + 2 := HS2.out
  have ho := HO.out
  rw [h2] at ho
  refine bodyPost_ret (v := .agg #[.string ro, .int .i64 va, .string st, .slice q n k]) (by simp [results, Tryz.results69, go_sem, y0, y1, y2, y3]) rfl ⟨q, k, ys, rfl, ?_, HM.out, ?_⟩
  · exact CpS.low (((((ho.set_low _ _ (by show Bx < Bx + 2; omega)).set_low _ _ (by show Bx + 1 < Bx + 2; omega)).set_low _ _ (by show Bx + 1 < Bx + 2; omega)).set_low _ _ (by show Bx + 1 < Bx + 2; omega)).set_low _ _ (by show Bx + 1 < Bx + 2; omega)) (by omega)
  · exact Below.setCell (Below.setCell (Below.setCell (Below.setCell (Below.setCell HG.out (by show w.heap.size ≤ Bx; omega) _) (by show w.heap.size ≤ Bx + 1; omega) _) (by show w.heap.size ≤ Bx + 1; omega) _) (by show w.heap.size ≤ Bx + 1; omega) _) (by show w.heap.size ≤ Bx + 1; omega) _
end Go.Proofs.YtnihclhhbegjhaaGreatDoor
