/- Archives (chapter 10): the program's contradict, whole. -/
import Derived.Test.YtnihclhhbegjhaaGreatDoorGMgC
import Derived.Deep.CutBlock
namespace Go.Proofs.YtnihclhhbegjhaaGreatDoor
open Go.RowKit Go.Lib
set_option linter.unusedSimpArgs false
set_option linter.unusedVariables false
theorem cell_putM {w : World} {g b o : Nat} {l : List EnR} {ob : Obj} {v : Value} (h : MapM w g l) (hc : w.cell? ⟨b, o, none⟩ = some v) : (putGB w g ob).cell? ⟨b, o, none⟩ = some v := by
  have hne : ¬ g = b := fun e => by
    obtain ⟨⟨es, clock, h9, _⟩⟩ := h
    rw [← e] at hc
    simp [World.cell?, h9] at hc
  have h2 : (putGB w g ob).cell? ⟨b, o, none⟩ = w.cell? ⟨b, o, none⟩ := by simp [World.cell?, putGB, hne]
  rw [h2]; exact hc
theorem asc_new {a : List EnR} {i : Nat} {x : EnR} (h : AscE a) (hx : a[i]? = some x) : lookM (a.take i) x = none := by
  unfold lookM
  rw [List.find?_eq_none]
  intro y hy hs
  obtain ⟨h1, h2⟩ := smk_iff.1 hs
  obtain ⟨j, hj⟩ := List.mem_iff_getElem?.1 hy
  have hjl := (List.getElem?_eq_some_iff.1 hj).1
  rw [List.length_take] at hjl
  have hji : j < i := by omega
  rw [List.getElem?_take_of_lt hji] at hj
  obtain ⟨p1, p2⟩ := List.getElem?_eq_some_iff.1 hj
  obtain ⟨p3, p4⟩ := List.getElem?_eq_some_iff.1 hx
  have hb := List.pairwise_iff_getElem.1 h j i p1 p3 hji
  rw [p2, p4] at hb
  unfold befB at hb
  rw [h1, h2, ltS_irr] at hb
  simp at hb
set_option maxHeartbeats 4000000 in
set_option maxRecDepth 100000 in
theorem idxC_c {w : World} {l c : List EnR} {g Bp n k : Nat} {q : Option Addr} (hn : n = c.length) (h1 : n ≤ 1000) (hM : MapM w g l) (hB : w.cell? ⟨Bp, 0, none⟩ = some (.map (some g))) (hrl : ∀ x ∈ l, RowsX w x.p x.n x.cap x.xs) (fl : Fit l) (hc : EnS w q c) :
    Calls Tryz.prog 165 #[.slice q n k, .func (.func 108) #[] #[.pointer (some ⟨Bp, 0, none⟩)]] w fun e w' => (∃ i : Int, e = .returned (.int .i64 i) ∧ Hid (0 ≤ i ↔ ∃ y ∈ c, conP l y)) ∧ Gr w w' := by
  have HN := Lib.hid hn
  have HC := Lib.hid hc.out
  have HO := Lib.hid (fun W (y : EnR) (G : Gr w W) (hy : RowsX w y.p y.n y.cap y.xs) => con1_c G hM hB hrl fl hy)
  clear hn hM hB hrl fl hc
  generalize hP : conP l = P at *
  clear hP
  go_enter Tryz.func165, Tryz.ntmps165
  go_wp2_with fail
  go_loopg [5, 8] n (fun gk s5 s8 wr => ∃ i : Nat, s8 = .int .i64 (i : Int) ∧ gk + i = n ∧ Hid (∀ j y, j < i → c[j]? = some y → ¬ P y) ∧ Hid (Gr w wr))
  case atStart => exact ⟨0, rfl, by omega, fun j y hj => by omega, Gr.refl _⟩
  case round =>
    obtain ⟨i, rfl, hgk, HJ, HG⟩ := hrel
    by_cases hlt : i < n
    · obtain ⟨x, hx⟩ : ∃ x, c[i]? = some x := ⟨c[i]'(by have := HN.out; omega), List.getElem?_eq_getElem _⟩
      obtain ⟨b, off, rfl, hcc⟩ := HC.out (by have := HN.out; omega)
      have hat := hcc i x hx
      obtain ⟨a0, a1, a2, a3, a4, a5, a6, _⟩ := hat.gr HG.out
      have hi2 : (i : Int) < (n : Int) := by omega
      have HX := Lib.hid hx
      have HCL := Lib.hid (HO.out wr x HG.out hat.rows)
      unfold enV at HCL
      clear hx hcc hat
      go_wp2_with fail
      refine HCL.out.mono ?_
      rintro e V ⟨⟨bb, rfl, hb⟩, hg⟩
      have HB := Lib.hid hb.out
      have HGV := Lib.hid (HG.out.trans hg)
      clear hb hg HCL
      cases bb
      · have HJ2 : Hid (∀ j y, j < i + 1 → c[j]? = some y → ¬ P y) := fun j y hj hy hp => by
          rcases Nat.lt_or_ge j i with h | h
          · exact HJ.out j y h hy hp
          · obtain rfl : j = i := by omega
            rw [HX.out] at hy; cases hy
            have := HB.out.2 hp
            cases this
        go_wp2_with fail
        go_roundg (gk - 1)
        case measure => omega
        case rel => exact ⟨i + 1, by go_num, by omega, HJ2, HGV⟩
      · have HF : Hid (∃ y ∈ c, P y) := ⟨x, List.mem_of_getElem? HX.out, HB.out.1 rfl⟩
        go_wp2_with fail
        go_ret
        exact ⟨⟨i, rfl, ⟨fun _ => HF.out, fun _ => by omega⟩⟩, HGV.out⟩
    · have hi2 : ¬ (i : Int) < (n : Int) := by omega
      have HF : Hid (¬ ∃ y ∈ c, P y) := fun ⟨y, hy, hp⟩ => by
        obtain ⟨j, hj⟩ := List.mem_iff_getElem?.1 hy
        exact HJ.out j y (by have := (List.getElem?_eq_some_iff.1 hj).1; have := HN.out; omega) hj hp
      go_wp2_with fail
      go_ret
      exact ⟨⟨-1, rfl, ⟨fun h => by omega, fun h => absurd h HF.out⟩⟩, HG.out⟩
set_option maxHeartbeats 4000000 in
set_option maxRecDepth 100000 in
theorem hasC_c {w : World} {l c : List EnR} {g Bp n k : Nat} {q : Option Addr} (hn : n = c.length) (h1 : n ≤ 1000) (hM : MapM w g l) (hB : w.cell? ⟨Bp, 0, none⟩ = some (.map (some g))) (hrl : ∀ x ∈ l, RowsX w x.p x.n x.cap x.xs) (fl : Fit l) (hc : EnS w q c) :
    Calls Tryz.prog 107 #[.slice q n k, .func (.func 108) #[] #[.pointer (some ⟨Bp, 0, none⟩)]] w fun e w' => RetB e (∃ y ∈ c, conP l y) ∧ Gr w w' := by
  have HI := Lib.hid (idxC_c (k := k) hn h1 hM hB hrl fl hc)
  generalize (∃ y ∈ c, conP l y) = P at *
  clear hn hM hB hrl fl hc
  go_enter Tryz.func107, Tryz.ntmps107
  go_wp2_with fail
  refine HI.out.mono ?_
  rintro e V ⟨⟨i, rfl, hp⟩, hg⟩
  have HP := Lib.hid hp.out
  clear hp HI
  by_cases h0 : 0 ≤ i
  · have h2 : decide (i < 0) = false := decide_eq_false (by omega)
    have HQ := Lib.hid (HP.out.1 h0)
    clear HP
    go_wp2_with fail
    go_ret
    exact ⟨⟨true, by simp [h0], by rw [Hid]; simp [HQ.out]⟩, hg⟩
  · have h2 : i < 0 := by omega
    have HQ : Hid (¬ P) := fun h => h0 (HP.out.2 h)
    clear HP
    go_wp2_with fail
    go_ret
    exact ⟨⟨false, by simp [h0], by rw [Hid]; simp [HQ.out]⟩, hg⟩
set_option maxHeartbeats 4000000 in
set_option maxRecDepth 100000 in
theorem contra_c {w : World} {pa pc : Option Addr} {a c : List EnR} {ma mc ka kc : Nat} (hma : ma = a.length) (hmc : mc = c.length) (h1 : ma ≤ 1000) (h2 : mc ≤ 1000) (ha : EnS w pa a) (hc : EnS w pc c) (fa : Fit a) (asc : AscE a) :
    Calls Tryz.prog 61 #[.slice pa ma ka, .slice pc mc kc] w fun e w' => RetB e (∃ y ∈ c, conP a y) ∧ Gr w w' := by
  have HMA := Lib.hid hma
  have HR := Lib.hid ha.out
  have HRX := Lib.hid ha.rowsX
  have HASC := Lib.hid (fun i x (h : a[i]? = some x) => asc_new asc h)
  have HHAS := Lib.hid (fun W g Bp (k : Gr w W) (hM : MapM W g a) (hB : W.cell? ⟨Bp, 0, none⟩ = some (.map (some g))) => hasC_c (k := kc) hmc h2 hM hB (fun x hx => (HRX.out x hx).gr k) fa (hc.gr k))
  generalize hPP : (∃ y ∈ c, conP a y) = PP at *
  clear hPP hma hmc ha hc fa asc HRX
  have hmm := @run_makeMap Tryz.prog
  have gb : Gr w ((w.alloc (.map #[] 0)).alloc (.cells #[.map (some w.heap.size)] 198)) := ((Gr.refl w).alloc _).alloc _
  have esz : (w.alloc (.map #[] 0)).heap.size = w.heap.size + 1 := by simp
  have mb := cell_new (w.alloc (.map #[] 0)) #[.map (some w.heap.size)] 198 0 (by simp)
  simp only [List.getElem_toArray, List.getElem_cons_zero] at mb
  rw [esz] at mb
  have hm0 := (mapM_new w).gr ((Gr.refl (w.alloc (.map #[] 0))).alloc (.cells #[.map (some w.heap.size)] 198))
  obtain ⟨W0, hW0⟩ : ∃ W, W = (w.alloc (.map #[] 0)).alloc (.cells #[.map (some w.heap.size)] 198) := ⟨_, rfl⟩
  rw [← hW0] at gb mb hm0
  have HW0 := Lib.hid hW0.symm
  obtain ⟨mg, hmg⟩ : ∃ m, w.heap.size = m := ⟨_, rfl⟩
  obtain ⟨Bp, hBp⟩ : ∃ m, mg + 1 = m := ⟨_, rfl⟩
  have hwm : w.heap.size ≤ mg := by omega
  have HMG := Lib.hid hmg
  have HBP := Lib.hid hBp
  rw [hmg] at mb hm0
  rw [hBp] at mb
  have HM0 := Lib.hid hm0
  have HB0 := Lib.hid mb
  have HG0 := Lib.hid gb
  clear esz hW0 hmg hBp hm0 mb gb
  go_enter Tryz.func61, Tryz.ntmps61
  go_wp2_with fail
  clear hmm
  rw [HW0.out]
  try rw [HMG.out]
  try rw [HBP.out]
  clear HW0
  go_wp2_with fail
  go_loopg [11] ma (fun gk s11 wr => ∃ i : Nat, s11 = .int .i64 (i : Int) ∧ gk + i = ma ∧ Hid (MapM wr mg (a.take i)) ∧ Hid (wr.cell? ⟨Bp, 0, none⟩ = some (.map (some mg))) ∧ Hid (Gr w wr))
  case atStart => exact ⟨0, rfl, by omega, HM0, HB0, HG0⟩
  case round =>
    obtain ⟨i, rfl, hgk, HM, HB, HG⟩ := hrel
    by_cases hlt : i < ma
    · obtain ⟨x, hx⟩ : ∃ x, a[i]? = some x := ⟨a[i]'(by have := HMA.out; omega), List.getElem?_eq_getElem _⟩
      obtain ⟨b, off, rfl, hcc⟩ := HR.out (by have := HMA.out; omega)
      obtain ⟨a0, a1, a2, a3, a4, a5, a6, _⟩ := (hcc i x hx).gr HG.out
      have hi2 : (i : Int) < (ma : Int) := by omega
      have HNW := Lib.hid (HASC.out i x hx)
      have HTK : Hid (a.take i ++ [x] = a.take (i + 1)) := by rw [Hid, List.take_add_one, hx]; rfl
      have HMK := Lib.hid (fun V => mark_c x V)
      unfold enV at HMK
      obtain ⟨WB, hWB, gB, e0, e1, e2, e3, e4, e5, e6⟩ := bx7 wr (.string x.de) (.int .i64 x.nu) (.int .i64 x.ck) (.string x.ro) (.int .i64 x.va) (.string x.st) (.slice x.p x.n x.cap) 77
      have HWB := Lib.hid hWB
      have eb := gB.cell HB.out
      have gd := (Gr.refl WB).drew
      have gD := (HG.out.trans gB).trans gd
      have HM1 := Lib.hid ((HM.out.gr gB).gr gd)
      replace eb := gd.cell eb
      replace e0 := gd.cell e0
      replace e1 := gd.cell e1
      replace e2 := gd.cell e2
      replace e3 := gd.cell e3
      replace e4 := gd.cell e4
      replace e5 := gd.cell e5
      replace e6 := gd.cell e6
      obtain ⟨D, hD⟩ : ∃ D, wr.heap.size = D := ⟨_, rfl⟩
      rw [hD] at e0 e1 e2 e3 e4 e5 e6
      have HDD := Lib.hid hD
      clear hx hcc hWB gB gd hD
      go_wp2_with fail
      rw [HWB.out]
      rw [HDD.out]
      clear HWB HDD
      refine wp_region_held_drew (S := (fun w' => w'.cell? ⟨Bp, 0, none⟩ = some (.map (some mg)) ∧ w'.cell? ⟨D, 0, none⟩ = some (.string x.de) ∧ w'.cell? ⟨D, 1, none⟩ = some (.int .i64 x.nu) ∧ w'.cell? ⟨D, 2, none⟩ = some (.int .i64 x.ck) ∧ w'.cell? ⟨D, 3, none⟩ = some (.string x.ro) ∧ w'.cell? ⟨D, 4, none⟩ = some (.int .i64 x.va) ∧ w'.cell? ⟨D, 5, none⟩ = some (.string x.st) ∧ w'.cell? ⟨D, 6, none⟩ = some (.slice x.p x.n x.cap))) (by kernel_rfl) ⟨eb, e0, e1, e2, e3, e4, e5, e6⟩ (fun hHeld => ?_)
      generalize WB.drew = VD at *
      refine wpAnyH_take (i := 0) (v := (.map (some mg))) (op_at rfl) (by kernel_rfl) (by kernel_rfl) (by kernel_rfl) (fun _ _ _ h => h) (Or.inl ⟨rfl, fun U hSw => ?_⟩) (by assumption) ?_
      · (try dsimp only at hSw); go_simp; try with_reducible rfl
      (try simp only [Act.put, tz0, tz1, tz2])
      refine wpAnyH_take (i := 1) (v := (.agg #[.string x.de, .int .i64 x.nu, .int .i64 x.ck, .string x.ro, .int .i64 x.va, .string x.st, .slice x.p x.n x.cap])) (op_at rfl) (by kernel_rfl) (by kernel_rfl) (by kernel_rfl) (fun _ _ _ h => h) (Or.inl ⟨rfl, fun U hSw => ?_⟩) (by assumption) ?_
      · (try dsimp only at hSw); go_simp; try with_reducible rfl
      (try simp only [Act.put, tz0, tz1, tz2])
      refine wpAnyH_take (i := 3) (v := (.agg #[.string x.de, .int .i64 x.nu, .int .i64 x.ck, .string x.ro, .int .i64 x.va, .string x.st, .slice x.p x.n x.cap])) (op_at rfl) (by kernel_rfl) (by kernel_rfl) (by kernel_rfl) (fun _ _ _ h => h) (Or.inl ⟨rfl, fun U hSw => ?_⟩) (by assumption) ?_
      · (try dsimp only at hSw); go_simp; try with_reducible rfl
      (try simp only [Act.put, tz0, tz1, tz2])
      refine wpAnyH_ready (rs := [2]) (by kernel_rfl) (by simp) ((AllReadyH.cons (op_at rfl) (fun K hK => ?_) AllReadyH.nil))
      go_simp
      refine (HMK.out _).mono ?_
      rintro e V2 ⟨rfl, hg⟩
      go_wp2_with fail
      replace eb := hg.cell eb
      replace e0 := hg.cell e0
      replace e1 := hg.cell e1
      replace e2 := hg.cell e2
      replace e3 := hg.cell e3
      replace e4 := hg.cell e4
      replace e5 := hg.cell e5
      replace e6 := hg.cell e6
      have g2 := gD.trans hg
      have HM2 := Lib.hid (HM1.out.gr hg)
      clear hg
      refine hK.out _ _ ⟨eb, e0, e1, e2, e3, e4, e5, e6⟩ (fun hHeld => ?_)
      clear hK K
      (try simp only [Act.put, tz0, tz1, tz2])
      obtain ⟨ob, hput, hmn⟩ := mapM_put HM2.out x HNW.out
      unfold mkV enV at hput
      have eb2 := cell_putM (ob := ob) HM2.out eb
      have f0 := cell_putM (ob := ob) HM2.out e0
      have f1 := cell_putM (ob := ob) HM2.out e1
      have f2 := cell_putM (ob := ob) HM2.out e2
      have f3 := cell_putM (ob := ob) HM2.out e3
      have f4 := cell_putM (ob := ob) HM2.out e4
      have f5 := cell_putM (ob := ob) HM2.out e5
      have f6 := cell_putM (ob := ob) HM2.out e6
      have HMN := Lib.hid hmn
      have HG2 := Lib.hid (gr_putG (ob := ob) g2 hwm)
      clear hmn g2
      refine wpAnyH_ready (rs := [4]) (by kernel_rfl) (by simp) ((AllReadyH.cons (op_at rfl) (fun K hK => ?_) AllReadyH.nil))
      go_simp
      refine hK.out _ _ ⟨eb2, f0, f1, f2, f3, f4, f5, f6⟩ (fun hHeld => ?_)
      clear hK K hput
      (try simp only [Act.put, tz0, tz1, tz2])
      refine wpAnyH_done (by kernel_rfl) ?_ _
      have hmn2 := HMN.out
      rw [HTK.out] at hmn2
      have HMN2 := Lib.hid hmn2
      clear hmn2
      have HB2 := Lib.hid eb2
      clear HMN f0 f1 f2 f3 f4 f5 f6 eb2 e0 e1 e2 e3 e4 e5 e6 eb a0 a1 a2 a3 a4 a5 a6
      go_wp2_with fail
      go_roundg (gk - 1)
      case measure => omega
      case rel => exact ⟨i + 1, by go_num, by omega, HMN2, HB2, HG2⟩
    · obtain rfl : ma = i := by omega
      have hi2 : ¬ (ma : Int) < (ma : Int) := by omega
      have hm := HM.out
      rw [List.take_of_length_le (by have := HMA.out; omega)] at hm
      have HX := Lib.hid (HHAS.out wr mg Bp HG.out hm HB.out)
      clear hm
      go_wp2_with fail
      refine HX.out.mono ?_
      rintro e V ⟨hret, hg⟩
      obtain ⟨bb, rfl, hb⟩ := hret.out
      have HBB := Lib.hid hb.out
      clear hb hret
      go_wp2_with fail
      go_ret
      exact ⟨⟨bb, rfl, HBB⟩, HG.out.trans hg⟩
end Go.Proofs.YtnihclhhbegjhaaGreatDoor
namespace Go.Proofs.YtnihclhhbegjhaaGreatDoor
open Go.RowKit Go.Lib
set_option linter.unusedSimpArgs false
set_option linter.unusedVariables false
theorem errG_congr {α β : Type} {E : Nat → α → Int} {E' : Nat → β → Int} {xs : List α} {ys : List β} (h : ∀ i x y, xs[i]? = some x → ys[i]? = some y → E i x = E' i y) (hl : xs.length = ys.length) : ∀ k i, errG E xs k i = errG E' ys k i := by
  intro k
  induction k with
  | zero => intro i; rfl
  | succ k ih =>
    intro i
    unfold errG
    cases hx : xs[i]? with
    | none =>
      have : ys[i]? = none := by rw [List.getElem?_eq_none_iff] at hx ⊢; omega
      rw [this]
    | some x =>
      cases hy : ys[i]? with
      | none => rw [List.getElem?_eq_none_iff] at hy; have := (List.getElem?_eq_some_iff.1 hx).1; omega
      | some y => simp only; rw [h i x y hx hy, ih]
theorem map_at {α β : Type} {f : α → β} {xs ys : List α} (h : xs.map f = ys.map f) {i : Nat} {x y : α} (hx : xs[i]? = some x) (hy : ys[i]? = some y) : f x = f y := by
  have h1 := congrArg (fun z => z[i]?) h
  simp only [List.getElem?_map, hx, hy, Option.map_some, Option.some.injEq] at h1
  exact h1
theorem map_len {α β : Type} {f : α → β} {xs ys : List α} (h : xs.map f = ys.map f) : xs.length = ys.length := by have := congrArg List.length h; simpa using this
theorem dup_rk {xs ys : List RowR} (h : xs.map rk = ys.map rk) (i : Nat) (nm : ByteArray) : dupR xs i nm = dupR ys i nm := by
  have e : ∀ zs : List RowR, dupR zs i nm = ((zs.map rk).take i).any (fun y => y.1.toList == nm.toList) := fun zs => by
    unfold dupR
    rw [← List.map_take, List.any_map]
    rfl
  rw [e, e, h]
theorem oneSh_rk {xs ys : List RowR} (h : xs.map rk = ys.map rk) (va : Int) (i : Nat) {x y : RowR} (hk : rk x = rk y) : oneShE va xs i x = oneShE va ys i y := by
  obtain ⟨h1, h2, h3⟩ := rk_eq.1 hk
  unfold oneShE
  rw [dup_rk h i, h1]
  unfold fitO
  rw [h2, h3]
theorem sheetE_rk {xs ys : List RowR} (h : xs.map rk = ys.map rk) (ro : ByteArray) (va : Int) (st : ByteArray) : sheetE ro va st xs = sheetE ro va st ys := by
  unfold sheetE
  rw [map_len h, errG_congr (fun i x y hx hy => oneSh_rk h va i (map_at h hx hy)) (map_len h)]
theorem ek_parts {x y : EnR} : ek x = ek y ↔ x.de = y.de ∧ x.nu = y.nu ∧ x.ck = y.ck ∧ x.ro = y.ro ∧ x.va = y.va ∧ x.st = y.st ∧ x.xs.map rk = y.xs.map rk := by unfold ek; simp
theorem enErr_ek {x y : EnR} (h : ek x = ek y) : enErr x = enErr y := by
  obtain ⟨h1, h2, h3, h4, h5, h6, h7⟩ := ek_parts.1 h
  unfold enErr entryE
  rw [h1, h2, h3, h4, h5, h6, sheetE_rk h7]
theorem ordB_ek {x y x' y' : EnR} (h : ek x = ek x') (h' : ek y = ek y') : ordB x y = ordB x' y' := by
  obtain ⟨h1, h2, h3, _⟩ := ek_parts.1 h
  obtain ⟨g1, g2, g3, _⟩ := ek_parts.1 h'
  unfold ordB befB
  rw [h1, h2, h3, g1, g2, g3]
theorem archE_ek {l m : List EnR} (h : l.map ek = m.map ek) : archE l = archE m := by
  unfold archE
  rw [map_len h]
  refine errG_congr (fun i x y hx hy => ?_) (map_len h) _ _
  unfold enE
  rw [enErr_ek (map_at h hx hy)]
  have ho : ordE l i x = ordE m i y := by
    cases i with
    | zero => rfl
    | succ j =>
      unfold ordE
      obtain ⟨a, ha⟩ : ∃ a, l[j]? = some a := ⟨l[j]'(by have := (List.getElem?_eq_some_iff.1 hx).1; omega), List.getElem?_eq_getElem _⟩
      obtain ⟨b, hb⟩ : ∃ b, m[j]? = some b := ⟨m[j]'(by have := (List.getElem?_eq_some_iff.1 hy).1; omega), List.getElem?_eq_getElem _⟩
      simp only [ha, hb]
      exact ordB_ek (map_at h ha hb) (map_at h hx hy)
  rw [ho]
end Go.Proofs.YtnihclhhbegjhaaGreatDoor
namespace Go.Proofs.YtnihclhhbegjhaaGreatDoor
open Go.RowKit Go.Lib
set_option linter.unusedSimpArgs false
set_option linter.unusedVariables false
open Classical in
noncomputable def mrgX (a c : List EnR) : Int := if firstE [archE a, archE c] = 0 then (if (∃ y ∈ c, conP a y) then 29 else if archE (mrgE a c) = 0 then 0 else if archE (mrgE a c) = 5 then 5 else 29) else firstE [archE a, archE c]
noncomputable def mrgR (a c : List EnR) : List EnR := if mrgX a c = 0 then mrgE a c else []
theorem mrgX_cases {a c : List EnR} (he : firstE [archE a, archE c] = 0) : ((∃ y ∈ c, conP a y) → mrgX a c = 29) ∧ ((¬ ∃ y ∈ c, conP a y) → archE (mrgE a c) = 0 → mrgX a c = 0) ∧ ((¬ ∃ y ∈ c, conP a y) → archE (mrgE a c) = 5 → mrgX a c = 5) ∧ ((¬ ∃ y ∈ c, conP a y) → ¬ archE (mrgE a c) = 0 → ¬ archE (mrgE a c) = 5 → mrgX a c = 29) := by
  unfold mrgX
  rw [if_pos he]
  refine ⟨fun h => by rw [if_pos h], fun h h0 => by rw [if_neg h, if_pos h0], fun h h5 => by rw [if_neg h, if_neg (by omega), if_pos h5], fun h h0 h5 => by rw [if_neg h, if_neg h0, if_neg h5]⟩
theorem mrgR_cases (a c : List EnR) : (mrgX a c = 0 → mrgR a c = mrgE a c) ∧ (¬ mrgX a c = 0 → mrgR a c = []) := by
  unfold mrgR
  exact ⟨fun h => by rw [if_pos h], fun h => by rw [if_neg h]⟩
structure RetMU (e : Ending) (w' : World) (L : List EnR) (A : Int) : Prop where
  mk' ::
  out : ∃ q n c es, e = .returned (.tuple #[.agg #[.slice q n c], .int .i64 A]) ∧ Hid (n = es.length) ∧ Hid (es.map ek = L.map ek) ∧ EnS w' q es ∧ (n ≤ c ∧ c ≤ maxLen)
theorem few_mrg {a c : List EnR} (wa : Few a) (wc : Few c) : Few (mrgE a c) := fun e he => by
  rcases mrgE_sub he with h | h
  · exact wa e h
  · exact wc e h
theorem few_ek {es L : List EnR} (h : es.map ek = L.map ek) (hL : Few L) : Few es := fun e he x hx => by
  have h1 : ek e ∈ L.map ek := by rw [← h]; exact List.mem_map_of_mem he
  obtain ⟨f, hf, hfe⟩ := List.mem_map.1 h1
  obtain ⟨_, _, _, _, _, _, h7⟩ := ek_parts.1 hfe
  have h2 : rk x ∈ f.xs.map rk := by rw [h7]; exact List.mem_map_of_mem hx
  obtain ⟨y, hy, hyx⟩ := List.mem_map.1 h2
  have h3 : y.xs = x.xs := congrArg (fun z => z.2.2) hyx
  rw [← h3]; exact hL f hf y hy
theorem fit_of {w : World} {q : Option Addr} {l : List EnR} (h : archE l = 0) (hr : EnS w q l) (hf : Few l) : Fit l := fun e he => ⟨by have := arch_few h e he; have := hr.lens e he; omega, fun x hx => by have := hf e he x hx; omega⟩
set_option maxHeartbeats 4000000 in
set_option maxRecDepth 100000 in
theorem merge_err {w : World} {pa pc : Option Addr} {a c : List EnR} {ma mc ka kc : Nat} (hma : ma = a.length) (hmc : mc = c.length) (h1 : ma + mc ≤ 1000) (hka : ma ≤ ka ∧ ka ≤ maxLen) (hkc : mc ≤ kc ∧ kc ≤ maxLen) (ha : EnS w pa a) (hc : EnS w pc c) (wa : Few a) (wc : Few c) (he : firstE [archE a, archE c] ≠ 0) :
    Calls Tryz.prog 14 #[.agg #[.slice pa ma ka], .agg #[.slice pc mc kc]] w fun e w' => RetMU e w' (mrgR a c) (mrgX a c) ∧ Gr w w' := by
  have HC1 := Lib.hid (fun V (g : Gr w V) => checkArch_c (cap := ka) hma (by omega) (ha.gr g) wa)
  have HC2 := Lib.hid (fun V (g : Gr w V) => checkArch_c (cap := kc) hmc (by omega) (hc.gr g) wc)
  have HFI := Lib.hid (fun b cap w => first_two (archE a) (archE c) b cap w)
  have HX : Hid (mrgX a c = firstE [archE a, archE c]) := by rw [Hid]; unfold mrgX; rw [if_neg he]
  have HR : Hid (mrgR a c = []) := (mrgR_cases a c).2 (by rw [HX.out]; exact he)
  have hz : (firstE [archE a, archE c] != 0) = true := bne_iff_ne.2 he
  generalize mrgX a c = X at *
  generalize mrgR a c = RR at *
  generalize firstE [archE a, archE c] = z at *
  generalize archE a = z1 at *
  generalize archE c = z2 at *
  clear hma hmc ha hc wa wc he hka hkc h1
  obtain ⟨W1, hW1, g1, a0⟩ := box1 w (.slice pa ma ka) 24
  obtain ⟨W2, hW2, g2, a1⟩ := box1 W1 (.slice pc mc kc) 24
  obtain ⟨W3, hW3, g3, a2⟩ := box1 W2 (.slice none 0 0) 24
  have hs1 : W1.heap.size = w.heap.size + 1 := by rw [← hW1]; simp
  have hs2 : W2.heap.size = w.heap.size + 1 + 1 := by rw [← hW2]; simp [hs1]
  have hb3 : W3.heap[W2.heap.size]? = some (.cells #[.slice none 0 0] 24 (0, 0)) := by rw [← hW3]; exact heap_alloc_new W2 _
  rw [hs1] at a1
  rw [hs2] at hb3
  rw [← hW1] at hW2
  rw [← hW2] at hW3
  obtain ⟨P1, hP1⟩ : ∃ P, w.heap.size = P := ⟨_, rfl⟩
  obtain ⟨P3, hP3⟩ : ∃ P, w.heap.size + 1 + 1 = P := ⟨_, rfl⟩
  have hx3 : w.heap.size ≤ P3 := by omega
  rw [hP3] at hb3
  have HA0 := Lib.hid (g3.cell (g2.cell a0))
  have HA1 := Lib.hid (g3.cell a1)
  have HB3 := Lib.hid hb3
  have HG3 := Lib.hid ((g1.trans g2).trans g3)
  have HW := Lib.hid hW3
  have HP3 := Lib.hid hP3
  clear hW1 hW2 hW3 hs1 hs2 a0 a1 a2 g1 g2 g3 hb3 hP1 hP3
  go_enter Tryz.func14, Tryz.ntmps14
  go_wp2_with fail
  rw [HW.out]
  try rw [HP3.out]
  clear HW
  obtain ⟨WQ, hWQ⟩ : ∃ V, V = W3 := ⟨_, rfl⟩
  have gQ : Gr W3 WQ := by rw [hWQ]; exact Gr.refl _
  rw [← hWQ]
  clear hWQ
  go_upto_region 1 with fail
  refine wp_region_held_drew (S := fun U => Gr W3 U) (by kernel_rfl) (gQ.trans (Gr.refl _).drew) (fun hHeld => ?_)
  have gD := gQ.trans (Gr.refl WQ).drew
  generalize WQ.drew = VD at *
  refine wpAnyH_take (i := 0) (v := (.agg #[.slice pa ma ka])) (op_at rfl) (by kernel_rfl) (by kernel_rfl) (by kernel_rfl) (fun _ _ _ h => h) (Or.inl ⟨rfl, fun U hSw => ?_⟩) (by assumption) ?_
  · have hs9 : Gr W3 U := hSw; have q0 := hs9.cell HA0.out; go_simp; try with_reducible rfl
  (try simp only [Act.put, tz0, tz1, tz2])
  refine wpAnyH_take (i := 2) (v := (.agg #[.slice pc mc kc])) (op_at rfl) (by kernel_rfl) (by kernel_rfl) (by kernel_rfl) (fun _ _ _ h => h) (Or.inl ⟨rfl, fun U hSw => ?_⟩) (by assumption) ?_
  · have hs9 : Gr W3 U := hSw; have q0 := hs9.cell HA1.out; go_simp; try with_reducible rfl
  (try simp only [Act.put, tz0, tz1, tz2])
  refine wpAnyH_ready (rs := [1]) (by kernel_rfl) (by simp) ((AllReadyH.cons (op_at rfl) (fun K hK => ?_) AllReadyH.nil))
  go_simp
  refine (HC1.out _ (HG3.out.trans gD)).mono ?_
  rintro e V1 ⟨rfl, hg⟩
  go_wp2_with fail
  have g1 := gD.trans hg
  clear hg
  refine hK.out _ _ g1 (fun hHeld => ?_)
  clear hK K
  (try simp only [Act.put, tz0, tz1, tz2])
  refine wpAnyH_ready (rs := [3]) (by kernel_rfl) (by simp) ((AllReadyH.cons (op_at rfl) (fun K hK => ?_) AllReadyH.nil))
  go_simp
  refine (HC2.out _ (HG3.out.trans g1)).mono ?_
  rintro e V2 ⟨rfl, hg⟩
  go_wp2_with fail
  have g2 := g1.trans hg
  clear hg
  refine hK.out _ _ g2 (fun hHeld => ?_)
  clear hK K
  (try simp only [Act.put, tz0, tz1, tz2])
  refine wpAnyH_ready (rs := [4]) (by kernel_rfl) (by simp) ((AllReadyH.cons (op_at rfl) (fun K hK => ?_) AllReadyH.nil))
  go_simp
  obtain ⟨V3, hV3, gA, q0, q1⟩ := box2v V2 (.int .i64 z1) (.int .i64 z2) 37
  rw [hV3]
  have g3 := g2.trans gA
  clear gA hV3
  refine hK.out _ _ g3 (fun hHeld => ?_)
  clear hK K
  (try simp only [Act.put, tz0, tz1, tz2])
  refine wpAnyH_ready (rs := [5]) (by kernel_rfl) (by simp) ((AllReadyH.cons (op_at rfl) (fun K hK => ?_) AllReadyH.nil))
  go_simp
  refine (HFI.out _ _ V3 q0 q1).mono ?_
  rintro e V4 ⟨rfl, rfl⟩
  go_wp2_with fail
  refine hK.out _ _ g3 (fun hHeld => ?_)
  clear hK K q0 q1
  (try simp only [Act.put, tz0, tz1, tz2])
  refine wpAnyH_take (i := 6) (v := (.int .i64 z)) (op_at rfl) (by kernel_rfl) (by kernel_rfl) (by kernel_rfl) (fun _ _ _ h => h) (Or.inl ⟨rfl, fun U hSw => ?_⟩) (by assumption) ?_
  · go_simp; try with_reducible rfl
  (try simp only [Act.put, tz0, tz1, tz2])
  refine wpAnyH_done (by kernel_rfl) ?_ _
  have hbz := Gr.block g3 HB3.out
  have z0 := cells1_ofO hbz
  have f2 : ∀ o, V3.frozen? ⟨P3, o, none⟩ = false := fun o => frozen_of_row _ _ o _ _ hbz
  have HBZ := Lib.hid hbz
  have HGE := Lib.hid (HG3.out.trans g3)
  clear hbz
  go_wp2_with fail
  have y0 := cells1_ofO (set1O HBZ.out (.slice none 0 0))
  refine bodyPost_ret (v := .tuple #[.agg #[.slice none 0 0], .int .i64 z]) (by simp [results, Tryz.results14, go_sem, y0]) rfl ⟨⟨none, 0, 0, [], by rw [HX.out], rfl, by rw [Hid, HR.out], en_nil _, Nat.le_refl _, by unfold maxLen; omega⟩, ?_⟩
  exact Below.setCell HGE.out (by show w.heap.size ≤ P3; omega) _
set_option maxHeartbeats 4000000 in
set_option maxRecDepth 100000 in
theorem merge_ok {w : World} {pa pc : Option Addr} {a c : List EnR} {ma mc ka kc : Nat} (hma : ma = a.length) (hmc : mc = c.length) (h1 : ma + mc ≤ 1000) (hka : ma ≤ ka ∧ ka ≤ maxLen) (hkc : mc ≤ kc ∧ kc ≤ maxLen) (ha : EnS w pa a) (hc : EnS w pc c) (fa : Fit a) (fc : Fit c) (wa : Few a) (wc : Few c) (he : firstE [archE a, archE c] = 0) :
    Calls Tryz.prog 14 #[.agg #[.slice pa ma ka], .agg #[.slice pc mc kc]] w fun e w' => RetMU e w' (mrgR a c) (mrgX a c) ∧ Gr w w' := by
  have ha0 : archE a = 0 := by
    rw [firstE_two] at he
    by_cases h2 : archE a = 0
    · exact h2
    · rw [if_neg h2] at he; exact he
  have HC1 := Lib.hid (fun V (g : Gr w V) => checkArch_c (cap := ka) hma (by omega) (ha.gr g) wa)
  have HC2 := Lib.hid (fun V (g : Gr w V) => checkArch_c (cap := kc) hmc (by omega) (hc.gr g) wc)
  have HFI := Lib.hid (fun b cap w => first_two (archE a) (archE c) b cap w)
  rw [he] at HFI
  have HCO := Lib.hid (fun V (g : Gr w V) => contra_c (ka := ka) (kc := kc) hma hmc (by omega) (by omega) (ha.gr g) (hc.gr g) fa (AscE.of_arch ha0))
  have HWI := Lib.hid (fun V (g : Gr w V) => with_c hma hmc h1 hka hkc (ha.gr g) (hc.gr g) fa fc)
  have hlenM := mrgE_len_le a c
  have HLM : Hid ((mrgE a c).length ≤ 1000) := by rw [Hid]; omega
  have HFM := Lib.hid (few_mrg wa wc)
  have HXE := Lib.hid (mrgX_cases he)
  have HRE := Lib.hid (mrgR_cases a c)
  generalize mrgX a c = X at *
  generalize mrgR a c = RR at *
  generalize mrgE a c = M at *
  generalize (∃ y ∈ c, conP a y) = PP at *
  generalize hz1 : archE a = z1 at HC1 HFI
  generalize hz2 : archE c = z2 at HC2 HFI
  clear hz1 hz2 ha0 hlenM
  clear hma hmc ha hc fa fc wa wc he hka hkc h1
  obtain ⟨W1, hW1, g1, a0⟩ := box1 w (.slice pa ma ka) 24
  obtain ⟨W2, hW2, g2, a1⟩ := box1 W1 (.slice pc mc kc) 24
  obtain ⟨W3, hW3, g3, a2⟩ := box1 W2 (.slice none 0 0) 24
  have hs1 : W1.heap.size = w.heap.size + 1 := by rw [← hW1]; simp
  have hs2 : W2.heap.size = w.heap.size + 1 + 1 := by rw [← hW2]; simp [hs1]
  have hb3 : W3.heap[W2.heap.size]? = some (.cells #[.slice none 0 0] 24 (0, 0)) := by rw [← hW3]; exact heap_alloc_new W2 _
  rw [hs1] at a1
  rw [hs2] at hb3
  rw [← hW1] at hW2
  rw [← hW2] at hW3
  obtain ⟨P1, hP1⟩ : ∃ P, w.heap.size = P := ⟨_, rfl⟩
  obtain ⟨P3, hP3⟩ : ∃ P, w.heap.size + 1 + 1 = P := ⟨_, rfl⟩
  have hx3 : w.heap.size ≤ P3 := by omega
  rw [hP3] at hb3
  have HA0 := Lib.hid (g3.cell (g2.cell a0))
  have HA1 := Lib.hid (g3.cell a1)
  have HB3 := Lib.hid hb3
  have HG3 := Lib.hid ((g1.trans g2).trans g3)
  have HW := Lib.hid hW3
  have HP3 := Lib.hid hP3
  clear hW1 hW2 hW3 hs1 hs2 a0 a1 a2 g1 g2 g3 hb3 hP1 hP3
  go_enter Tryz.func14, Tryz.ntmps14
  go_wp2_with fail
  rw [HW.out]
  try rw [HP3.out]
  clear HW
  obtain ⟨WQ, hWQ⟩ : ∃ V, V = W3 := ⟨_, rfl⟩
  have gQ : Gr W3 WQ := by rw [hWQ]; exact Gr.refl _
  rw [← hWQ]
  clear hWQ
  go_upto_region 1 with fail
  refine wp_region_held_drew (S := fun U => Gr W3 U) (by kernel_rfl) (gQ.trans (Gr.refl _).drew) (fun hHeld => ?_)
  have gD := gQ.trans (Gr.refl WQ).drew
  generalize WQ.drew = VD at *
  refine wpAnyH_take (i := 0) (v := (.agg #[.slice pa ma ka])) (op_at rfl) (by kernel_rfl) (by kernel_rfl) (by kernel_rfl) (fun _ _ _ h => h) (Or.inl ⟨rfl, fun U hSw => ?_⟩) (by assumption) ?_
  · have hs9 : Gr W3 U := hSw; have q0 := hs9.cell HA0.out; go_simp; try with_reducible rfl
  (try simp only [Act.put, tz0, tz1, tz2])
  refine wpAnyH_take (i := 2) (v := (.agg #[.slice pc mc kc])) (op_at rfl) (by kernel_rfl) (by kernel_rfl) (by kernel_rfl) (fun _ _ _ h => h) (Or.inl ⟨rfl, fun U hSw => ?_⟩) (by assumption) ?_
  · have hs9 : Gr W3 U := hSw; have q0 := hs9.cell HA1.out; go_simp; try with_reducible rfl
  (try simp only [Act.put, tz0, tz1, tz2])
  refine wpAnyH_ready (rs := [1]) (by kernel_rfl) (by simp) ((AllReadyH.cons (op_at rfl) (fun K hK => ?_) AllReadyH.nil))
  go_simp
  refine (HC1.out _ (HG3.out.trans gD)).mono ?_
  rintro e V1 ⟨rfl, hg⟩
  go_wp2_with fail
  have g1 := gD.trans hg
  clear hg
  refine hK.out _ _ g1 (fun hHeld => ?_)
  clear hK K
  (try simp only [Act.put, tz0, tz1, tz2])
  refine wpAnyH_ready (rs := [3]) (by kernel_rfl) (by simp) ((AllReadyH.cons (op_at rfl) (fun K hK => ?_) AllReadyH.nil))
  go_simp
  refine (HC2.out _ (HG3.out.trans g1)).mono ?_
  rintro e V2 ⟨rfl, hg⟩
  go_wp2_with fail
  have g2 := g1.trans hg
  clear hg
  refine hK.out _ _ g2 (fun hHeld => ?_)
  clear hK K
  (try simp only [Act.put, tz0, tz1, tz2])
  refine wpAnyH_ready (rs := [4]) (by kernel_rfl) (by simp) ((AllReadyH.cons (op_at rfl) (fun K hK => ?_) AllReadyH.nil))
  go_simp
  obtain ⟨V3, hV3, gA, q0, q1⟩ := box2v V2 (.int .i64 z1) (.int .i64 z2) 37
  rw [hV3]
  have g3 := g2.trans gA
  clear gA hV3
  refine hK.out _ _ g3 (fun hHeld => ?_)
  clear hK K
  (try simp only [Act.put, tz0, tz1, tz2])
  refine wpAnyH_ready (rs := [5]) (by kernel_rfl) (by simp) ((AllReadyH.cons (op_at rfl) (fun K hK => ?_) AllReadyH.nil))
  go_simp
  refine (HFI.out _ _ V3 q0 q1).mono ?_
  rintro e V4 ⟨rfl, rfl⟩
  go_wp2_with fail
  refine hK.out _ _ g3 (fun hHeld => ?_)
  clear hK K q0 q1
  (try simp only [Act.put, tz0, tz1, tz2])
  refine wpAnyH_take (i := 6) (v := (.int .i64 0)) (op_at rfl) (by kernel_rfl) (by kernel_rfl) (by kernel_rfl) (fun _ _ _ h => h) (Or.inl ⟨rfl, fun U hSw => ?_⟩) (by assumption) ?_
  · go_simp; try with_reducible rfl
  (try simp only [Act.put, tz0, tz1, tz2])
  refine wpAnyH_done (by kernel_rfl) ?_ _
  have a0 := g3.cell HA0.out
  have a1 := g3.cell HA1.out
  go_wp2_with fail
  refine (HCO.out _ (HG3.out.trans g3)).mono ?_
  rintro e V4 ⟨⟨b, rfl, hb⟩, hg⟩
  have HB := Lib.hid hb.out
  have g4 := g3.trans hg
  clear hb hg a0 a1 g3 HCO
  cases b
  · have HNP : Hid (¬ PP) := fun h => by have := HB.out.2 h; cases this
    have a0 := g4.cell HA0.out
    have a1 := g4.cell HA1.out
    go_wp2_with fail
    refine (HWI.out _ (HG3.out.trans g4)).mono ?_
    rintro e V5 ⟨⟨q, n, k, es, rfl, hn, hek, hown, hcp, hcc⟩, hg⟩
    have HGA := Lib.hid (archE_ek hek.out)
    have HFE := Lib.hid (few_ek hek.out HFM.out)
    have hlen : n ≤ 1000 := by have h1 := map_len hek.out; have h2 := hn.out; have h3 := HLM.out; omega
    have hP3 : P3 < V4.heap.size := (Array.getElem?_eq_some_iff.1 (Gr.block g4 HB3.out)).1
    have HP4 := Lib.hid hP3
    have g5 := g4.trans hg
    obtain ⟨V6, hV6, g6, c0⟩ := box1 V5 (.slice q n k) 24
    have hown6 := own_kept hown g6
    have hcp6 : ∀ f ∈ es, CpS V6 V4.heap.size f.p f.n f.cap f.xs := fun f hf => (hcp f hf).gr g6
    have HOW := Lib.hid hown6
    have HCP := Lib.hid hcp6
    have HCE := Lib.hid (fun U (k9 : Gr V6 U) => checkArch_c (cap := k) hn.out hlen ((en_of_own hown6 hn.out hcp6).gr k9) HFE.out)
    rw [HGA.out] at HCE
    have HV6 := Lib.hid hV6
    have G6 := g5.trans g6
    have HN := Lib.hid hn.out
    have HEK := Lib.hid hek.out
    clear hn hek hown hcp hg g5 g6 hV6 hown6 hcp6 a0 a1 g4 HWI HGA
    obtain ⟨P7, hP7⟩ : ∃ P, V5.heap.size = P := ⟨_, rfl⟩
    rw [hP7] at c0
    have HP7 := Lib.hid hP7
    clear hP7
    generalize archE M = R at *
    go_wp2_with fail
    rw [HV6.out]
    rw [HP7.out]
    clear HV6 HP7
    go_wp2_with fail
    refine (HCE.out _ (Gr.refl _)).mono ?_
    rintro e V7 ⟨rfl, hg⟩
    replace c0 := hg.cell c0
    have g7 := G6.trans hg
    have HOW7 := Lib.hid (own_kept HOW.out hg)
    have HCP7 := Lib.hid (fun f hf => (HCP.out f hf).gr hg)
    clear hg G6 HCE HOW HCP
    by_cases hR0 : R = 0
    · subst hR0
      have HX : Hid (X = 0) := HXE.out.2.1 HNP.out rfl
      have HRR : Hid (RR = M) := HRE.out.1 HX.out
      clear HXE HRE
      have hbz := Gr.block g7 HB3.out
      have z0 := cells1_ofO hbz
      have f2 : ∀ o, V7.frozen? ⟨P3, o, none⟩ = false := fun o => frozen_of_row _ _ o _ _ hbz
      have HBZ := Lib.hid hbz
      have HGE := Lib.hid (HG3.out.trans g7)
      clear hbz
      go_wp2_with fail
      have y0 := cells1_ofO (set1O HBZ.out (.slice q n k))
      refine bodyPost_ret (v := .tuple #[.agg #[.slice q n k], .int .i64 0]) (by simp [results, Tryz.results14, go_sem, y0]) rfl ⟨⟨q, n, k, es, by rw [HX.out], HN, by rw [Hid, HRR.out]; exact HEK.out, en_of_own (own_set_low HOW7.out HP4.out) HN.out (fun f hf => (HCP7.out f hf).set_low _ _ HP4.out), hcc⟩, ?_⟩
      exact Below.setCell HGE.out (by show w.heap.size ≤ P3; omega) _
    · by_cases hR5 : R = 5
      · subst hR5
        have HX : Hid (X = 5) := HXE.out.2.2.1 HNP.out rfl
        have HR : Hid (RR = []) := HRE.out.2 (by rw [HX.out]; omega)
        clear HXE HRE hR0
        have hbz := Gr.block g7 HB3.out
        have z0 := cells1_ofO hbz
        have f2 : ∀ o, V7.frozen? ⟨P3, o, none⟩ = false := fun o => frozen_of_row _ _ o _ _ hbz
        have HBZ := Lib.hid hbz
        have HGE := Lib.hid (HG3.out.trans g7)
        clear hbz
        go_wp2_with fail
        have y0 := cells1_ofO (set1O HBZ.out (.slice none 0 0))
        refine bodyPost_ret (v := .tuple #[.agg #[.slice none 0 0], .int .i64 5]) (by simp [results, Tryz.results14, go_sem, y0]) rfl ⟨⟨none, 0, 0, [], by rw [HX.out], rfl, by rw [Hid, HR.out], en_nil _, Nat.le_refl _, by unfold maxLen; omega⟩, ?_⟩
        exact Below.setCell HGE.out (by show w.heap.size ≤ P3; omega) _
      · have HX : Hid (X = 29) := HXE.out.2.2.2 HNP.out hR0 hR5
        have HR : Hid (RR = []) := HRE.out.2 (by rw [HX.out]; omega)
        have hr0 : (R == 0) = false := beq_eq_false_iff_ne.2 hR0
        have hr5 : (R == 5) = false := beq_eq_false_iff_ne.2 hR5
        clear HXE HRE hR0 hR5
        have hbz := Gr.block g7 HB3.out
        have z0 := cells1_ofO hbz
        have f2 : ∀ o, V7.frozen? ⟨P3, o, none⟩ = false := fun o => frozen_of_row _ _ o _ _ hbz
        have HBZ := Lib.hid hbz
        have HGE := Lib.hid (HG3.out.trans g7)
        clear hbz
        go_wp2_with fail
        have y0 := cells1_ofO (set1O HBZ.out (.slice none 0 0))
        refine bodyPost_ret (v := .tuple #[.agg #[.slice none 0 0], .int .i64 29]) (by simp [results, Tryz.results14, go_sem, y0]) rfl ⟨⟨none, 0, 0, [], by rw [HX.out], rfl, by rw [Hid, HR.out], en_nil _, Nat.le_refl _, by unfold maxLen; omega⟩, ?_⟩
        exact Below.setCell HGE.out (by show w.heap.size ≤ P3; omega) _
  · have HYP : Hid PP := HB.out.1 rfl
    have HX : Hid (X = 29) := HXE.out.1 HYP.out
    have HR : Hid (RR = []) := HRE.out.2 (by rw [HX.out]; omega)
    clear HXE HRE
    have hbz := Gr.block g4 HB3.out
    have z0 := cells1_ofO hbz
    have f2 : ∀ o, V4.frozen? ⟨P3, o, none⟩ = false := fun o => frozen_of_row _ _ o _ _ hbz
    have HBZ := Lib.hid hbz
    have HGE := Lib.hid (HG3.out.trans g4)
    clear hbz
    go_wp2_with fail
    have y0 := cells1_ofO (set1O HBZ.out (.slice none 0 0))
    refine bodyPost_ret (v := .tuple #[.agg #[.slice none 0 0], .int .i64 29]) (by simp [results, Tryz.results14, go_sem, y0]) rfl ⟨⟨none, 0, 0, [], by rw [HX.out], rfl, by rw [Hid, HR.out], en_nil _, Nat.le_refl _, by unfold maxLen; omega⟩, ?_⟩
    exact Below.setCell HGE.out (by show w.heap.size ≤ P3; omega) _
theorem merge_c {w : World} {pa pc : Option Addr} {a c : List EnR} {ma mc ka kc : Nat} (hma : ma = a.length) (hmc : mc = c.length) (h1 : ma + mc ≤ 1000) (hka : ma ≤ ka ∧ ka ≤ maxLen) (hkc : mc ≤ kc ∧ kc ≤ maxLen) (ha : EnS w pa a) (hc : EnS w pc c) (wa : Few a) (wc : Few c) :
    Calls Tryz.prog 14 #[.agg #[.slice pa ma ka], .agg #[.slice pc mc kc]] w fun e w' => RetMU e w' (mrgR a c) (mrgX a c) ∧ Gr w w' := by
  by_cases he : firstE [archE a, archE c] = 0
  · have h2 := he
    rw [firstE_two] at h2
    by_cases h3 : archE a = 0
    · rw [if_pos h3] at h2
      have h4 : archE c = 0 := by split at h2 <;> assumption
      exact merge_ok hma hmc h1 hka hkc ha hc (fit_of h3 ha wa) (fit_of h4 hc wc) wa wc he
    · rw [if_neg h3] at h2; exact absurd h2 h3
  · exact merge_err hma hmc h1 hka hkc ha hc wa wc he
end Go.Proofs.YtnihclhhbegjhaaGreatDoor
namespace Go.Proofs.YtnihclhhbegjhaaGreatDoor
open Go.RowKit Go.Lib
set_option linter.unusedSimpArgs false
set_option linter.unusedVariables false
def nxC (l : List EnR) : Int := l.foldl (fun c x => max c (x.ck + 1)) 1
def nxN (l : List EnR) (de : ByteArray) : Int := l.foldl (fun c x => if (x.de.toList == de.toList) = true then max c (x.nu + 1) else c) 1
theorem nxC_add (l : List EnR) (x : EnR) : nxC (l ++ [x]) = max (nxC l) (x.ck + 1) := by unfold nxC; rw [List.foldl_append]; rfl
theorem nxN_add (l : List EnR) (x : EnR) (de : ByteArray) : nxN (l ++ [x]) de = if (x.de.toList == de.toList) = true then max (nxN l de) (x.nu + 1) else nxN l de := by unfold nxN; rw [List.foldl_append]; rfl
def nxE (l : List EnR) (de ro : ByteArray) (va : Int) (st : ByteArray) (p : Option Addr) (n cap : Nat) (xs : List RowR) : EnR := ⟨de, nxN l de, nxC l, ro, va, st, p, n, cap, xs⟩
theorem set7at2 {w : World} {g T : Nat} {r0 r1 r2 r3 r4 r5 r6 : Value} (h : w.heap[g]? = some (.cells #[r0, r1, r2, r3, r4, r5, r6] T)) (a : Value) : (w.setCell ⟨g, 2, none⟩ a).heap[g]? = some (.cells #[r0, r1, a, r3, r4, r5, r6] T) := by
  simp [World.setCell, Array.getElem?_modify, h]
theorem set7at1 {w : World} {g T : Nat} {r0 r1 r2 r3 r4 r5 r6 : Value} (h : w.heap[g]? = some (.cells #[r0, r1, r2, r3, r4, r5, r6] T)) (a : Value) : (w.setCell ⟨g, 1, none⟩ a).heap[g]? = some (.cells #[r0, a, r2, r3, r4, r5, r6] T) := by
  simp [World.setCell, Array.getElem?_modify, h]
theorem heap_setO {w : World} {g : Nat} {ob : Obj} (p : Addr) (x : Value) (h : w.heap[g]? = some ob) (hne : p.block ≠ g) : (w.setCell p x).heap[g]? = some ob := by
  rw [← h]
  unfold World.setCell
  simp [Array.getElem?_modify, hne]
def Nums (l : List EnR) : Prop := ∀ e ∈ l, 0 ≤ e.nu ∧ e.nu ≤ 1000 ∧ 0 ≤ e.ck ∧ e.ck ≤ 1000000
set_option maxHeartbeats 4000000 in
set_option maxRecDepth 100000 in
theorem next_c {w : World} {pa : Option Addr} {l : List EnR} {ma ka : Nat} (de ro : ByteArray) (va : Int) (st : ByteArray) (p : Option Addr) (n cap : Nat) (xs : List RowR) (hma : ma = l.length) (h1 : ma ≤ 1000) (ha : EnS w pa l) (hnum : Nums l) :
    Calls Tryz.prog 59 #[.agg #[.slice pa ma ka], .string de, .agg #[.string ro, .int .i64 va, .string st, .slice p n cap]] w fun e w' => e = .returned (enV (nxE l de ro va st p n cap xs)) ∧ Gr w w' := by
  unfold nxE enV
  simp only
  have HN := Lib.hid hma
  have HR := Lib.hid ha.out
  have HNU := Lib.hid hnum
  clear ha hma hnum
  obtain ⟨W1, hW1, g1, a0⟩ := box1 w (.slice pa ma ka) 24
  obtain ⟨W2, hW2, g2, b0, b1, b2, b3⟩ := box4 W1 (.string ro) (.int .i64 va) (.string st) (.slice p n cap) 27
  obtain ⟨W3, hW3, g3, c0, _⟩ := bx7 W2 (.string ⟨#[]⟩) (.int .i64 0) (.int .i64 0) (.string ⟨#[]⟩) (.int .i64 0) (.string ⟨#[]⟩) (.slice none 0 0) 77
  have hs1 : W1.heap.size = w.heap.size + 1 := by rw [← hW1]; simp
  have hs2 : W2.heap.size = w.heap.size + 1 + 1 := by rw [← hW2]; simp [hs1]
  have hs3 : W3.heap.size = w.heap.size + 1 + 1 + 1 := by rw [← hW3]; simp [hs2]
  have hb6 : W3.heap[W2.heap.size]? = some (.cells #[.string ⟨#[]⟩, .int .i64 0, .int .i64 0, .string ⟨#[]⟩, .int .i64 0, .string ⟨#[]⟩, .slice none 0 0] 77 (0, 0)) := by rw [← hW3]; exact heap_alloc_new W2 _
  obtain ⟨W4, hW4, g4, d0, _⟩ := bx7 W3 (.string de) (.int .i64 1) (.int .i64 1) (.string ro) (.int .i64 va) (.string st) (.slice p n cap) 77
  have hb7 : W4.heap[W3.heap.size]? = some (.cells #[.string de, .int .i64 1, .int .i64 1, .string ro, .int .i64 va, .string st, .slice p n cap] 77 (0, 0)) := by rw [← hW4]; exact heap_alloc_new W3 _
  replace hb6 := Gr.block g4 hb6
  rw [hs1] at b0 b1 b2 b3
  rw [hs2] at hb6
  rw [hs3] at hb7
  rw [← hW1] at hW2
  rw [← hW2] at hW3
  rw [← hW3] at hW4
  obtain ⟨P6, hP6⟩ : ∃ P, w.heap.size + 1 + 1 = P := ⟨_, rfl⟩
  obtain ⟨P7, hP7⟩ : ∃ P, P6 + 1 = P := ⟨_, rfl⟩
  have hx6 : w.heap.size ≤ P6 := by omega
  have hx7 : w.heap.size ≤ P7 := by omega
  have h67 : ¬ P7 = P6 := by omega
  rw [hP6] at hb6 hb7
  rw [hP7] at hb7
  replace b0 := g3.cell b0
  replace b1 := g3.cell b1
  replace b2 := g3.cell b2
  replace b3 := g3.cell b3
  have A0 := Lib.hid (g4.cell (g3.cell (g2.cell a0)))
  rw [← hW3] at b0 b1 b2 b3
  replace hW4 := hW4
  have HW := Lib.hid hW4
  have HB6 := Lib.hid hb6
  have HB7 := Lib.hid hb7
  have HG4 := Lib.hid (((g1.trans g2).trans g3).trans g4)
  have HP6 := Lib.hid hP6
  have HP7 := Lib.hid hP7
  clear hW1 hW2 hW3 hW4 hs1 hs2 hs3 hb6 hb7 g1 g2 g3 g4 hP6 hP7 a0 c0 d0
  go_enter Tryz.func59, Tryz.ntmps59
  go_wp2_with fail
  rw [HW.out]
  rw [HP6.out]
  try rw [HP7.out]
  clear HW
  have a0 := A0.out
  go_wp2_with fail
  go_loopg [16] ma (fun gk s16 wr => ∃ i : Nat, s16 = .int .i64 (i : Int) ∧ gk + i = ma ∧ Hid (wr.heap[P7]? = some (.cells #[.string de, .int .i64 (nxN (l.take i) de), .int .i64 (nxC (l.take i)), .string ro, .int .i64 va, .string st, .slice p n cap] 77 (0, 0))) ∧ Hid (wr.heap[P6]? = some (.cells #[.string ⟨#[]⟩, .int .i64 0, .int .i64 0, .string ⟨#[]⟩, .int .i64 0, .string ⟨#[]⟩, .slice none 0 0] 77 (0, 0))) ∧ Hid (Gr w wr))
  case atStart => exact ⟨0, rfl, by omega, HB7, HB6, HG4⟩
  case round =>
    obtain ⟨i, rfl, hgk, HBA, HBB, HG⟩ := hrel
    by_cases hlt : i < ma
    · obtain ⟨x, hx⟩ : ∃ x, l[i]? = some x := ⟨l[i]'(by have := HN.out; omega), List.getElem?_eq_getElem _⟩
      obtain ⟨b, off, rfl, hcc⟩ := HR.out (by have := HN.out; omega)
      obtain ⟨a0, a1, a2, a3, a4, a5, a6, _⟩ := (hcc i x hx).gr HG.out
      have hi2 : (i : Int) < (ma : Int) := by omega
      obtain ⟨n1, n2, n3, n4⟩ := HNU.out x (List.mem_of_getElem? hx)
      have HTC : Hid (nxC (l.take (i + 1)) = max (nxC (l.take i)) (x.ck + 1)) := by rw [Hid, List.take_add_one, hx]; exact nxC_add _ _
      have HTN : Hid (nxN (l.take (i + 1)) de = if (x.de.toList == de.toList) = true then max (nxN (l.take i) de) (x.nu + 1) else nxN (l.take i) de) := by rw [Hid, List.take_add_one, hx]; exact nxN_add _ _ _
      have gB := (Gr.refl wr).alloc (.cells #[.string x.de, .int .i64 x.nu, .int .i64 x.ck, .string x.ro, .int .i64 x.va, .string x.st, .slice x.p x.n x.cap] 77)
      have hb8 := Gr.block gB HBA.out
      have hb9 := Gr.block gB HBB.out
      have hg8 := HG.out.trans gB
      have e0 := cell_new wr #[.string x.de, .int .i64 x.nu, .int .i64 x.ck, .string x.ro, .int .i64 x.va, .string x.st, .slice x.p x.n x.cap] 77 0 (by simp)
      have e1 := cell_new wr #[.string x.de, .int .i64 x.nu, .int .i64 x.ck, .string x.ro, .int .i64 x.va, .string x.st, .slice x.p x.n x.cap] 77 1 (by simp)
      simp only [List.getElem_toArray, List.getElem_cons_zero, List.getElem_cons_succ] at e0 e1
      have hP7w : P7 < wr.heap.size := (Array.getElem?_eq_some_iff.1 HBA.out).1
      generalize nxC (l.take i) = c at *
      generalize nxN (l.take i) de = u at *
      obtain ⟨d0, d1, d2, d3, d4, d5, d6⟩ := cells7_ofO hb8
      have f7 : ∀ o, (wr.alloc (.cells #[.string x.de, .int .i64 x.nu, .int .i64 x.ck, .string x.ro, .int .i64 x.va, .string x.st, .slice x.p x.n x.cap] 77)).frozen? ⟨P7, o, none⟩ = false := fun o => frozen_of_row _ _ o _ _ hb8
      have hw : IntKind.i64.wrap (x.ck + 1) = x.ck + 1 := by rw [IntKind.wrap_i64]; omega
      have hw2 : IntKind.i64.wrap (x.nu + 1) = x.nu + 1 := by rw [IntKind.wrap_i64]; omega
      obtain ⟨m, hm⟩ : ∃ m, max c (x.ck + 1) = m := ⟨_, rfl⟩
      obtain ⟨m2, hm2⟩ : ∃ m, max u (x.nu + 1) = m := ⟨_, rfl⟩
      rw [hm] at HTC
      rw [hm2] at HTN
      have HM2 := Lib.hid hm2
      have HW2 := Lib.hid hw2
      have gS := (Gr.refl (wr.setCell ⟨P7, 2, none⟩ (.int .i64 m))).alloc (.cells #[.string x.de, .int .i64 x.nu, .int .i64 x.ck, .string x.ro, .int .i64 x.va, .string x.st, .slice x.p x.n x.cap] 77)
      have hb8' := Gr.block gS (set7at2 HBA.out (.int .i64 m))
      have hb9' := Gr.block gS (heap_setO (⟨P7, 2, none⟩ : Addr) (.int .i64 m) HBB.out h67)
      have hg8' : Gr w ((wr.setCell ⟨P7, 2, none⟩ (.int .i64 m)).alloc (.cells #[.string x.de, .int .i64 x.nu, .int .i64 x.ck, .string x.ro, .int .i64 x.va, .string x.st, .slice x.p x.n x.cap] 77)) := Gr.trans (Below.setCell HG.out hx7 _) gS
      have hzs : (wr.setCell ⟨P7, 2, none⟩ (.int .i64 m)).heap.size = wr.heap.size := by simp [World.setCell]
      have e0' := cell_new (wr.setCell ⟨P7, 2, none⟩ (.int .i64 m)) #[.string x.de, .int .i64 x.nu, .int .i64 x.ck, .string x.ro, .int .i64 x.va, .string x.st, .slice x.p x.n x.cap] 77 0 (by simp)
      have e1' := cell_new (wr.setCell ⟨P7, 2, none⟩ (.int .i64 m)) #[.string x.de, .int .i64 x.nu, .int .i64 x.ck, .string x.ro, .int .i64 x.va, .string x.st, .slice x.p x.n x.cap] 77 1 (by simp)
      simp only [List.getElem_toArray, List.getElem_cons_zero, List.getElem_cons_succ] at e0' e1'
      rw [hzs] at e0' e1'
      have HB8 := Lib.hid hb8'
      have HB9 := Lib.hid hb9'
      have HG8 := Lib.hid hg8'
      have HE0 := Lib.hid e0'
      have HE1 := Lib.hid e1'
      clear hx hcc gB gS hzs hb8 hb9 hg8 hb8' hb9' hg8' e0' e1' hm2 hw2 HBA HBB HG e0 e1 d3 d4 d5 d6
      have e2 := cell_new wr #[.string x.de, .int .i64 x.nu, .int .i64 x.ck, .string x.ro, .int .i64 x.va, .string x.st, .slice x.p x.n x.cap] 77 2 (by simp)
      simp only [List.getElem_toArray, List.getElem_cons_zero, List.getElem_cons_succ] at e2
      go_upto_region 6 with fail
      obtain ⟨VX, hVX⟩ : ∃ V, (wr.setCell ⟨P7, 2, none⟩ (.int .i64 m)).alloc (.cells #[.string x.de, .int .i64 x.nu, .int .i64 x.ck, .string x.ro, .int .i64 x.va, .string x.st, .slice x.p x.n x.cap] 77) = V := ⟨_, rfl⟩
      rw [hVX] at HB8 HB9 HG8 HE0 HE1 ⊢
      obtain ⟨Q9, hQ9⟩ : ∃ Q, wr.heap.size = Q := ⟨_, rfl⟩
      rw [hQ9] at HE0 HE1 hP7w ⊢
      clear hVX hQ9 d0 d1 d2 f7 hm hw e2 a0 a1 a2 a3 a4 a5 a6
      have e0 := HE0.out
      have e1 := HE1.out
      cases hq : (x.de.toList == de.toList)
      · rw [hq] at HTN
        have HTN2 : Hid (nxN (l.take (i + 1)) de = u) := by rw [HTN.out]; simp [Hid]
        clear HTN
        go_wp2_with fail
        go_roundg (gk - 1)
        case measure => omega
        case rel => exact ⟨i + 1, by go_num, by omega, by rw [HTC.out, HTN2.out]; exact HB8.out, HB9.out, HG8.out⟩
      · rw [hq] at HTN
        have HTN2 : Hid (nxN (l.take (i + 1)) de = m2) := by rw [HTN.out]; simp [Hid]
        have hb8 := HB8.out
        obtain ⟨d0, d1, d2, d3, d4, d5, d6⟩ := cells7_ofO hb8
        have f7 : ∀ o, VX.frozen? ⟨P7, o, none⟩ = false := fun o => frozen_of_row _ _ o _ _ hb8
        have hm2 := HM2.out
        have hw2 := HW2.out
        clear hb8 HTN d3 d4 d5 d6 d0 d2
        go_wp2_with fail
        go_roundg (gk - 1)
        case measure => omega
        case rel => exact ⟨i + 1, by go_num, by omega, by rw [HTC.out, HTN2.out]; exact set7at1 HB8.out (.int .i64 m2), heap_setO (⟨P7, 1, none⟩ : Addr) (.int .i64 m2) HB9.out h67, Below.setCell HG8.out hx7 _⟩
    · obtain rfl : ma = i := by omega
      have hi2 : ¬ (ma : Int) < (ma : Int) := by omega
      have hba := HBA.out
      rw [List.take_of_length_le (by have := HN.out; omega)] at hba
      have hbb := HBB.out
      obtain ⟨d0, d1, d2, d3, d4, d5, d6⟩ := cells7_ofO hba
      obtain ⟨z0, z1, z2, z3, z4, z5, z6⟩ := cells7_ofO hbb
      have f6 : ∀ o, wr.frozen? ⟨P6, o, none⟩ = false := fun o => frozen_of_row _ _ o _ _ hbb
      clear hba hbb
      go_wp2_with fail
      have hb9 := set7O HBB.out (.string de) (.int .i64 (nxN l de)) (.int .i64 (nxC l)) (.string ro) (.int .i64 va) (.string st) (.slice p n cap)
      obtain ⟨y0, y1, y2, y3, y4, y5, y6⟩ := cells7_ofO hb9
      refine bodyPost_ret (v := .agg #[.string de, .int .i64 (nxN l de), .int .i64 (nxC l), .string ro, .int .i64 va, .string st, .slice p n cap]) (by simp [results, Tryz.results59, go_sem, y0, y1, y2, y3, y4, y5, y6]) rfl ⟨rfl, ?_⟩
      exact Below.setCell (Below.setCell (Below.setCell (Below.setCell (Below.setCell (Below.setCell (Below.setCell HG.out (by show w.heap.size ≤ P6; omega) _) (by show w.heap.size ≤ P6; omega) _) (by show w.heap.size ≤ P6; omega) _) (by show w.heap.size ≤ P6; omega) _) (by show w.heap.size ≤ P6; omega) _) (by show w.heap.size ≤ P6; omega) _) (by show w.heap.size ≤ P6; omega) _
end Go.Proofs.YtnihclhhbegjhaaGreatDoor
