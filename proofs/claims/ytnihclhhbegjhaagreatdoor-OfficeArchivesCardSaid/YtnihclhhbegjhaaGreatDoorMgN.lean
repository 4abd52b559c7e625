/- Archives (chapter 10): the reference: Post. -/
import Derived.Deep.CutBlock
import Derived.Test.YtnihclhhbegjhaaGreatDoorGMgM
import Derived.Test.YtnihclhhbegjhaaGreatDoorGMgH
namespace Go.Proofs.YtnihclhhbegjhaaGreatDoor
open Go.RowKit Go.Lib
set_option linter.unusedSimpArgs false
set_option linter.unusedVariables false
structure RetPu (e : Ending) (w' : World) (L : List EnR) (A : Int) : Prop where
  mk' ::
  out : ∃ q n c, e = .returned (.tuple #[.slice q n c, .int .i64 A]) ∧ Hid (n = L.length) ∧ EnS w' q L ∧ (n ≤ c ∧ c ≤ maxLen)
def pstB (e : EnR) : Bool := decide (1000 < e.nu) || decide (1000000 < e.ck)
set_option maxHeartbeats 4000000 in
set_option maxRecDepth 100000 in
theorem refPost_c {w : World} {pa : Option Addr} {l : List EnR} {ma ka : Nat} (de ro : ByteArray) (va : Int) (st : ByteArray) (p : Option Addr) (n cap : Nat) (xs : List RowR) (hma : ma = l.length) (h1 : ma < 999) (hka : ma ≤ ka ∧ ka ≤ maxLen) (hq0 : ma = 0 → (pa = none ∧ ka = 0) ∨ ∃ b o, pa = some ⟨b, o, none⟩) (ha : EnS w pa l) (hnum : Nums l) (hx : RowsX w p n cap xs) :
    Calls Tryz.prog 18 #[.slice pa ma ka, .string de, .agg #[.string ro, .int .i64 va, .string st, .slice p n cap]] w fun e w' => RetPu e w' (if pstB (nxE l de ro va st p n cap xs) then [] else putE l (nxE l de ro va st p n cap xs)) (if pstB (nxE l de ro va st p n cap xs) then 3 else 0) ∧ Gr w w' := by
  have HPU := Lib.hid (fun V (g : Gr w V) => put_c (c := ka) (x := nxE l de ro va st p n cap xs) hma (by omega) hka hq0 (ha.gr g) (show RowsX V p n cap xs from hx.gr g))
  have HPB : Hid (pstB (nxE l de ro va st p n cap xs) = (decide (1000 < nxN l de) || decide (1000000 < nxC l))) := rfl
  have HLP : Hid ((putE l (nxE l de ro va st p n cap xs)).length = ma + 1) := by rw [Hid, putE_len, ← hma]
  unfold nxE enV at HPU
  simp only at HPU
  have HN := Lib.hid hma
  have HR := Lib.hid ha.out
  have HNU := Lib.hid hnum
  have h1n : ¬ (1000 : Int) ≤ (ma : Int) := by omega
  have h1k : (ma : Int) < 1000 := by omega
  clear ha hma hnum hx hq0
  generalize pstB (nxE l de ro va st p n cap xs) = PB at *
  unfold nxE at HLP ⊢
  generalize putE l _ = PE at *
  obtain ⟨RL, hRL⟩ : ∃ z, (if PB = true then [] else PE) = z := ⟨_, rfl⟩
  obtain ⟨RA, hRA⟩ : ∃ z : Int, (if PB = true then 3 else 0) = z := ⟨_, rfl⟩
  rw [hRL, hRA]
  have HT : Hid (PB = true → RL = [] ∧ RA = 3) := fun h => by rw [h] at hRL hRA; simp at hRL hRA; exact ⟨hRL, hRA.symm⟩
  have HF : Hid (PB = false → RL = PE ∧ RA = 0) := fun h => by rw [h] at hRL hRA; simp at hRL hRA; exact ⟨hRL.symm, hRA.symm⟩
  clear hRL hRA
  obtain ⟨W1, hW1, g1, b0, b1, b2, b3⟩ := box4 w (.string ro) (.int .i64 va) (.string st) (.slice p n cap) 32
  have hs1 : W1.heap.size = w.heap.size + 1 := by rw [← hW1]; simp
  obtain ⟨W4, hW4, g4, d0, _⟩ := bx7 W1 (.string de) (.int .i64 1) (.int .i64 1) (.string ro) (.int .i64 va) (.string st) (.slice p n cap) 65
  have hb8 : W4.heap[W1.heap.size]? = some (.cells #[.string de, .int .i64 1, .int .i64 1, .string ro, .int .i64 va, .string st, .slice p n cap] 65 (0, 0)) := by rw [← hW4]; exact heap_alloc_new W1 _
  rw [hs1] at hb8
  obtain ⟨P8, hP8⟩ : ∃ P, w.heap.size + 1 = P := ⟨_, rfl⟩
  have hx8 : w.heap.size ≤ P8 := by omega
  rw [hP8] at hb8
  rw [← hW1] at hW4
  rw [← hW1] at b0 b1 b2 b3
  have HW := Lib.hid hW4
  have HB8 := Lib.hid hb8
  have HG4 := Lib.hid (g1.trans g4)
  have HP8 := Lib.hid hP8
  clear hW1 hW4 hs1 hb8 g1 g4 hP8 d0
  go_enter Tryz.func18, Tryz.ntmps18
  go_wp2_with fail
  rw [HW.out]
  try rw [HP8.out]
  clear HW HP8 b0 b1 b2 b3
  go_wp2_with fail
  go_loopg [9] ma (fun gk s9 wr => ∃ i : Nat, s9 = .int .i64 (i : Int) ∧ gk + i = ma ∧ Hid (wr.heap[P8]? = some (.cells #[.string de, .int .i64 (nxN (l.take i) de), .int .i64 (nxC (l.take i)), .string ro, .int .i64 va, .string st, .slice p n cap] 65 (0, 0))) ∧ Hid (Gr w wr))
  case atStart => exact ⟨0, rfl, by omega, HB8, HG4⟩
  case round =>
    obtain ⟨i, rfl, hgk, HBA, HG⟩ := hrel
    by_cases hlt : i < ma
    · obtain ⟨x, hx⟩ : ∃ x, l[i]? = some x := ⟨l[i]'(by have := HN.out; omega), List.getElem?_eq_getElem _⟩
      obtain ⟨b, off, rfl, hcc⟩ := HR.out (by have := HN.out; omega)
      obtain ⟨a0, a1, a2, a3, a4, a5, a6, _⟩ := hcc i x hx
      have HX1 := Lib.hid (fun U (k : Gr w U) => k.cell a1)
      have HX2 := Lib.hid (fun U (k : Gr w U) => k.cell a2)
      have HX0 := Lib.hid (fun U (k : Gr w U) => k.cell a0)
      have hi2 : (i : Int) < (ma : Int) := by omega
      obtain ⟨n1, n2, n3, n4⟩ := HNU.out x (List.mem_of_getElem? hx)
      have HTC : Hid (nxC (l.take (i + 1)) = max (nxC (l.take i)) (x.ck + 1)) := by rw [Hid, List.take_add_one, hx]; exact nxC_add _ _
      have HTN : Hid (nxN (l.take (i + 1)) de = if (x.de.toList == de.toList) = true then max (nxN (l.take i) de) (x.nu + 1) else nxN (l.take i) de) := by rw [Hid, List.take_add_one, hx]; exact nxN_add _ _ _
      generalize nxC (l.take i) = c at *
      generalize nxN (l.take i) de = u at *
      have hw : IntKind.i64.wrap (x.ck + 1) = x.ck + 1 := by rw [IntKind.wrap_i64]; omega
      have hw2 : IntKind.i64.wrap (x.nu + 1) = x.nu + 1 := by rw [IntKind.wrap_i64]; omega
      obtain ⟨m, hm⟩ : ∃ m, max c (x.ck + 1) = m := ⟨_, rfl⟩
      obtain ⟨m2, hm2⟩ : ∃ m, max u (x.nu + 1) = m := ⟨_, rfl⟩
      rw [hm] at HTC
      rw [hm2] at HTN
      obtain ⟨V, hV⟩ : ∃ V, V = wr := ⟨_, rfl⟩
      subst hV
      have hbV := HBA.out
      have gV := HG.out
      clear hx hcc a0 a1 a2 a3 a4 a5 a6 HBA HG
      go_wp2_with fail
      refine wp_region_held_drew (S := fun U => Gr w U) (by kernel_rfl) (gV.trans (Gr.refl _).drew) (fun hHeld => ?_)
      have gd9 := (Gr.refl V).drew
      have hb9 := Gr.block gd9 hbV
      have g9 := gV.trans gd9
      obtain ⟨d0, d1, d2, d3, d4, d5, d6⟩ := cells7_ofO hb9
      have f9 : ∀ o, V.drew.frozen? ⟨P8, o, none⟩ = false := fun o => frozen_of_row _ _ o _ _ hb9
      clear gd9
      generalize V.drew = V9 at *
      refine wpAnyH_take (i := 0) (v := (.pointer (some ⟨P8, 2, none⟩))) (op_at rfl) (by kernel_rfl) (by kernel_rfl) (by kernel_rfl) (fun _ _ _ h => h) (Or.inl ⟨rfl, fun U hSw => ?_⟩) (by assumption) ?_
      · go_simp; try with_reducible rfl
      (try simp only [Act.put, tz0, tz1, tz2])
      refine wpAnyH_take (i := 2) (v := (.slice (some ⟨b, off, none⟩) ma ka)) (op_at rfl) (by kernel_rfl) (by kernel_rfl) (by kernel_rfl) (fun _ _ _ h => h) (Or.inl ⟨rfl, fun U hSw => ?_⟩) (by assumption) ?_
      · go_simp; try with_reducible rfl
      (try simp only [Act.put, tz0, tz1, tz2])
      refine wpAnyH_take (i := 3) (v := (.int .i64 (i : Int))) (op_at rfl) (by kernel_rfl) (by kernel_rfl) (by kernel_rfl) (fun _ _ _ h => h) (Or.inl ⟨rfl, fun U hSw => ?_⟩) (by assumption) ?_
      · go_simp; try with_reducible rfl
      (try simp only [Act.put, tz0, tz1, tz2])
      refine wpAnyH_take (i := 4) (v := (.pointer (some ⟨b, off + i * 7, none⟩))) (op_at rfl) (by kernel_rfl) (by kernel_rfl) (by kernel_rfl) (fun _ _ _ h => h) (Or.inl ⟨rfl, fun U hSw => ?_⟩) (by assumption) ?_
      · go_simp; try with_reducible rfl
      (try simp only [Act.put, tz0, tz1, tz2])
      refine wpAnyH_take (i := 5) (v := (.pointer (some ⟨b, off + i * 7 + 2, none⟩))) (op_at rfl) (by kernel_rfl) (by kernel_rfl) (by kernel_rfl) (fun _ _ _ h => h) (Or.inl ⟨rfl, fun U hSw => ?_⟩) (by assumption) ?_
      · go_simp; try with_reducible rfl
      (try simp only [Act.put, tz0, tz1, tz2])
      refine wpAnyH_take (i := 6) (v := (.int .i64 x.ck)) (op_at rfl) (by kernel_rfl) (by kernel_rfl) (by kernel_rfl) (fun _ _ _ h => h) (Or.inl ⟨rfl, fun U hSw => ?_⟩) (by assumption) ?_
      · have q0 := HX2.out U hSw; go_simp; try with_reducible rfl
      (try simp only [Act.put, tz0, tz1, tz2])
      refine wpAnyH_take (i := 7) (v := (.int .i64 (x.ck + 1))) (op_at rfl) (by kernel_rfl) (by kernel_rfl) (by kernel_rfl) (fun _ _ _ h => h) (Or.inl ⟨rfl, fun U hSw => ?_⟩) (by assumption) ?_
      · go_simp; try with_reducible rfl
      (try simp only [Act.put, tz0, tz1, tz2])
      refine wpAnyH_ready (rs := [1]) (by kernel_rfl) (by simp) ((AllReadyH.cons (op_at rfl) (fun K hK => ?_) AllReadyH.nil))
      go_simp
      refine hK.out _ _ g9 (fun hHeld => ?_)
      clear hK K
      (try simp only [Act.put, tz0, tz1, tz2])
      refine wpAnyH_take (i := 8) (v := (.int .i64 m)) (op_at rfl) (by kernel_rfl) (by kernel_rfl) (by kernel_rfl) (fun _ _ _ h => h) (Or.inl ⟨rfl, fun U hSw => ?_⟩) (by assumption) ?_
      · go_simp; try with_reducible rfl
      (try simp only [Act.put, tz0, tz1, tz2])
      refine wpAnyH_take (i := 9) (v := (.pointer (some ⟨P8, 2, none⟩))) (op_at rfl) (by kernel_rfl) (by kernel_rfl) (by kernel_rfl) (fun _ _ _ h => h) (Or.inl ⟨rfl, fun U hSw => ?_⟩) (by assumption) ?_
      · go_simp; try with_reducible rfl
      (try simp only [Act.put, tz0, tz1, tz2])
      refine wpAnyH_ready (rs := [10]) (by kernel_rfl) (by simp) ((AllReadyH.cons (op_at rfl) (fun K hK => ?_) AllReadyH.nil))
      rw [if_pos (show Region.wanted _ _ = true from rfl)]
      go_simp
      have g10 : Gr w (V9.setCell ⟨P8, 2, none⟩ (.int .i64 m)) := Below.setCell g9 hx8 _
      refine hK.out _ _ g10 (fun hHeld => ?_)
      clear hK K
      (try simp only [Act.put, tz0, tz1, tz2])
      refine wpAnyH_done (by kernel_rfl) ?_ _
      have hbV2 := set7at2 hb9 (.int .i64 m)
      generalize V9.setCell ⟨P8, 2, none⟩ (.int .i64 m) = V2 at *
      clear d0 d1 d2 d3 d4 d5 d6 f9 hb9 hbV g9 gV hHeld
      clear hw hm
      have e0 := HX0.out V2 g10
      cases hq : (x.de.toList == de.toList)
      · rw [hq] at HTN
        have HTN2 : Hid (nxN (l.take (i + 1)) de = u) := by rw [HTN.out]; simp [Hid]
        have HB9 := Lib.hid hbV2
        have HG9 := Lib.hid g10
        clear HTN hbV2 g10 hw2 hm2
        go_wp2_with fail
        go_roundg (gk - 1)
        case measure => omega
        case rel => exact ⟨i + 1, by go_num, by omega, by rw [HTC.out, HTN2.out]; exact HB9.out, HG9.out⟩
      · rw [hq] at HTN
        have HTN2 : Hid (nxN (l.take (i + 1)) de = m2) := by rw [HTN.out]; simp [Hid]
        have gV2 := g10
        clear HTN g10
        go_wp2_with fail
        refine wp_region_held_drew (S := fun U => Gr w U) (by kernel_rfl) (gV2.trans (Gr.refl _).drew) (fun hHeld => ?_)
        have gd9 := (Gr.refl V2).drew
        have hb9 := Gr.block gd9 hbV2
        have g9 := gV2.trans gd9
        obtain ⟨d0, d1, d2, d3, d4, d5, d6⟩ := cells7_ofO hb9
        have f9 : ∀ o, V2.drew.frozen? ⟨P8, o, none⟩ = false := fun o => frozen_of_row _ _ o _ _ hb9
        clear gd9
        generalize V2.drew = V9 at *
        refine wpAnyH_take (i := 0) (v := (.pointer (some ⟨P8, 1, none⟩))) (op_at rfl) (by kernel_rfl) (by kernel_rfl) (by kernel_rfl) (fun _ _ _ h => h) (Or.inl ⟨rfl, fun U hSw => ?_⟩) (by assumption) ?_
        · go_simp; try with_reducible rfl
        (try simp only [Act.put, tz0, tz1, tz2])
        refine wpAnyH_take (i := 2) (v := (.slice (some ⟨b, off, none⟩) ma ka)) (op_at rfl) (by kernel_rfl) (by kernel_rfl) (by kernel_rfl) (fun _ _ _ h => h) (Or.inl ⟨rfl, fun U hSw => ?_⟩) (by assumption) ?_
        · go_simp; try with_reducible rfl
        (try simp only [Act.put, tz0, tz1, tz2])
        refine wpAnyH_take (i := 3) (v := (.int .i64 (i : Int))) (op_at rfl) (by kernel_rfl) (by kernel_rfl) (by kernel_rfl) (fun _ _ _ h => h) (Or.inl ⟨rfl, fun U hSw => ?_⟩) (by assumption) ?_
        · go_simp; try with_reducible rfl
        (try simp only [Act.put, tz0, tz1, tz2])
        refine wpAnyH_take (i := 4) (v := (.pointer (some ⟨b, off + i * 7, none⟩))) (op_at rfl) (by kernel_rfl) (by kernel_rfl) (by kernel_rfl) (fun _ _ _ h => h) (Or.inl ⟨rfl, fun U hSw => ?_⟩) (by assumption) ?_
        · go_simp; try with_reducible rfl
        (try simp only [Act.put, tz0, tz1, tz2])
        refine wpAnyH_take (i := 5) (v := (.pointer (some ⟨b, off + i * 7 + 1, none⟩))) (op_at rfl) (by kernel_rfl) (by kernel_rfl) (by kernel_rfl) (fun _ _ _ h => h) (Or.inl ⟨rfl, fun U hSw => ?_⟩) (by assumption) ?_
        · go_simp; try with_reducible rfl
        (try simp only [Act.put, tz0, tz1, tz2])
        refine wpAnyH_take (i := 6) (v := (.int .i64 x.nu)) (op_at rfl) (by kernel_rfl) (by kernel_rfl) (by kernel_rfl) (fun _ _ _ h => h) (Or.inl ⟨rfl, fun U hSw => ?_⟩) (by assumption) ?_
        · have q0 := HX1.out U hSw; go_simp; try with_reducible rfl
        (try simp only [Act.put, tz0, tz1, tz2])
        refine wpAnyH_take (i := 7) (v := (.int .i64 (x.nu + 1))) (op_at rfl) (by kernel_rfl) (by kernel_rfl) (by kernel_rfl) (fun _ _ _ h => h) (Or.inl ⟨rfl, fun U hSw => ?_⟩) (by assumption) ?_
        · go_simp; try with_reducible rfl
        (try simp only [Act.put, tz0, tz1, tz2])
        refine wpAnyH_ready (rs := [1]) (by kernel_rfl) (by simp) ((AllReadyH.cons (op_at rfl) (fun K hK => ?_) AllReadyH.nil))
        go_simp
        refine hK.out _ _ g9 (fun hHeld => ?_)
        clear hK K
        (try simp only [Act.put, tz0, tz1, tz2])
        refine wpAnyH_take (i := 8) (v := (.int .i64 m2)) (op_at rfl) (by kernel_rfl) (by kernel_rfl) (by kernel_rfl) (fun _ _ _ h => h) (Or.inl ⟨rfl, fun U hSw => ?_⟩) (by assumption) ?_
        · go_simp; try with_reducible rfl
        (try simp only [Act.put, tz0, tz1, tz2])
        refine wpAnyH_take (i := 9) (v := (.pointer (some ⟨P8, 1, none⟩))) (op_at rfl) (by kernel_rfl) (by kernel_rfl) (by kernel_rfl) (fun _ _ _ h => h) (Or.inl ⟨rfl, fun U hSw => ?_⟩) (by assumption) ?_
        · go_simp; try with_reducible rfl
        (try simp only [Act.put, tz0, tz1, tz2])
        refine wpAnyH_ready (rs := [10]) (by kernel_rfl) (by simp) ((AllReadyH.cons (op_at rfl) (fun K hK => ?_) AllReadyH.nil))
        rw [if_pos (show Region.wanted _ _ = true from rfl)]
        go_simp
        have g10 : Gr w (V9.setCell ⟨P8, 1, none⟩ (.int .i64 m2)) := Below.setCell g9 hx8 _
        refine hK.out _ _ g10 (fun hHeld => ?_)
        clear hK K
        (try simp only [Act.put, tz0, tz1, tz2])
        refine wpAnyH_done (by kernel_rfl) ?_ _
        have hbV22 := set7at1 hb9 (.int .i64 m2)
        generalize V9.setCell ⟨P8, 1, none⟩ (.int .i64 m2) = V22 at *
        clear d0 d1 d2 d3 d4 d5 d6 f9 hb9 hbV2 g9 gV2 hHeld
        have HB9 := Lib.hid hbV22
        have HG9 := Lib.hid g10
        clear hbV22 g10 hw2 hm2 e0
        go_wp2_with fail
        go_roundg (gk - 1)
        case measure => omega
        case rel => exact ⟨i + 1, by go_num, by omega, by rw [HTC.out, HTN2.out]; exact HB9.out, HG9.out⟩
    · obtain rfl : ma = i := by omega
      have hi2 : ¬ (ma : Int) < (ma : Int) := by omega
      have hba := HBA.out
      rw [List.take_of_length_le (by have := HN.out; omega)] at hba
      obtain ⟨d0, d1, d2, d3, d4, d5, d6⟩ := cells7_ofO hba
      clear hba
      by_cases hN : 1000 < nxN l de
      · have HB : Hid (PB = true) := by rw [Hid, HPB.out]; simp [hN]
        go_wp2_with fail
        exact bodyPost_ret (v := .tuple #[.slice none 0 0, .int .i64 3]) (by simp [results, Tryz.results18, go_sem]) rfl ⟨⟨none, 0, 0, by rw [(HT.out HB.out).2], by rw [(HT.out HB.out).1]; rfl, by rw [(HT.out HB.out).1]; exact en_nil _, Nat.le_refl _, by unfold maxLen; omega⟩, HG.out⟩
      · by_cases hC : 1000000 < nxC l
        · have HB : Hid (PB = true) := by rw [Hid, HPB.out]; simp [hC]
          go_wp2_with fail
          exact bodyPost_ret (v := .tuple #[.slice none 0 0, .int .i64 3]) (by simp [results, Tryz.results18, go_sem]) rfl ⟨⟨none, 0, 0, by rw [(HT.out HB.out).2], by rw [(HT.out HB.out).1]; rfl, by rw [(HT.out HB.out).1]; exact en_nil _, Nat.le_refl _, by unfold maxLen; omega⟩, HG.out⟩
        · have HB : Hid (PB = false) := by rw [Hid, HPB.out]; simp [hN, hC]
          go_wp2_with fail
          refine (HPU.out _ HG.out).mono ?_
          rintro e V ⟨⟨⟨q3, c3, rfl, hcc, hen⟩⟩, hg⟩
          have HEN := Lib.hid hen
          have HGV := Lib.hid (HG.out.trans hg)
          have hcc2 : PE.length ≤ c3 ∧ c3 ≤ maxLen := hcc
          clear hen hg hcc d0 d1 d2 d3 d4 d5 d6
          obtain ⟨nn, hnn⟩ : ∃ nn, nn = PE.length := ⟨_, rfl⟩
          rw [← hnn] at hcc2 ⊢
          have HNN := Lib.hid hnn
          clear hnn
          go_wp2_with fail
          exact bodyPost_ret (v := .tuple #[.slice q3 nn c3, .int .i64 0]) (by simp [results, Tryz.results18, go_sem]) rfl ⟨⟨q3, nn, c3, by rw [(HF.out HB.out).2], by rw [(HF.out HB.out).1]; exact HNN.out, by rw [(HF.out HB.out).1]; exact HEN.out, hcc2⟩, HGV.out⟩
end Go.Proofs.YtnihclhhbegjhaaGreatDoor
