/- Archives (chapter 10): the reference: History. -/
import Derived.Deep.CutBlock
import Derived.Test.YtnihclhhbegjhaaGreatDoorGOsB
namespace Go.Proofs.YtnihclhhbegjhaaGreatDoor
open Go.RowKit Go.Lib
set_option linter.unusedSimpArgs false
set_option linter.unusedVariables false
theorem en_cells {w : World} {b off : Nat} {l : List EnR} (h : ∀ (i : Nat) (e : EnR), l[i]? = some e → EnAt w b (off + i * 7) e) : ∀ (j : Nat) (u : Value), (enCs l)[j]? = some u → w.cell? ((⟨b, off, none⟩ : Addr).add j) = some u := fun j u hu => by
  rw [addr_add]
  have hj := (List.getElem?_eq_some_iff.1 hu).1
  rw [enCs_len] at hj
  obtain ⟨e, he⟩ : ∃ e, l[j / 7]? = some e := ⟨l[j / 7]'(by omega), List.getElem?_eq_getElem _⟩
  obtain ⟨c0, c1, c2, c3, c4, c5, c6, _⟩ := h _ e he
  have hr : j % 7 < 7 := Nat.mod_lt _ (by omega)
  have hs : j = j / 7 * 7 + j % 7 := by omega
  have hc := enCs_at he (j % 7) hr
  rw [← hs, hu] at hc
  have ho : off + j = off + j / 7 * 7 + j % 7 := by omega
  rw [ho]
  generalize j % 7 = r at *
  unfold enC at hc
  match r, hr with
  | 0, _ => simp at hc; rw [hc]; exact c0
  | 1, _ => simp at hc; rw [hc]; exact c1
  | 2, _ => simp at hc; rw [hc]; exact c2
  | 3, _ => simp at hc; rw [hc]; exact c3
  | 4, _ => simp at hc; rw [hc]; exact c4
  | 5, _ => simp at hc; rw [hc]; exact c5
  | 6, _ => simp at hc; rw [hc]; exact c6
theorem one_enCs (l : List EnR) : ∀ u ∈ enCs l, u.oneCell' = true := fun u hu => by
  unfold enCs at hu
  obtain ⟨e, _, he⟩ := List.mem_flatMap.1 hu
  exact one_seven _ _ _ _ _ _ _ _ _ u he
theorem hisL_len (l : List EnR) (ro : ByteArray) : (hisL l ro).length ≤ l.length := by
  rw [(hisL_sorted l ro).2.length_eq]; exact List.length_filter_le _ _
theorem hisL_mem {l : List EnR} {ro : ByteArray} {e : EnR} (h : e ∈ hisL l ro) : e ∈ l := (List.mem_filter.1 ((hisL_sorted l ro).2.mem_iff.1 h)).1
/-- the rows of entries in memory -/
theorem EnS.rowsX {w : World} {q : Option Addr} {l : List EnR} (h : EnS w q l) : ∀ e ∈ l, RowsX w e.p e.n e.cap e.xs := fun e he => by
  obtain ⟨i, hi⟩ := List.getElem?_of_mem he
  obtain ⟨b, off, _, hc⟩ := h.out (by have := (List.getElem?_eq_some_iff.1 hi).1; omega)
  exact (hc i e hi).rows
set_option maxHeartbeats 8000000 in
set_option maxRecDepth 100000 in
theorem his_c {w : World} {q : Option Addr} {l : List EnR} {n cap : Nat} (ro : ByteArray) (hn : n = l.length) (h1 : n ≤ 1000) (hr : EnS w q l) :
    Calls Tryz.prog 27 #[.slice q n cap, .string ro] w fun e w' => RetEn e w' (hisL l ro) ∧ Gr w w' := by
  obtain ⟨i0, hi, hz0, hz1, hz2⟩ := info_parts infoEnR
  have HI0 := Lib.hid (And.intro hi (And.intro hz0 (And.intro hz1 hz2)))
  have HN := Lib.hid hn
  have HR := Lib.hid hr.out
  have HRX := Lib.hid hr.rowsX
  clear hr hn hi hz0 hz1 hz2
  go_enter Tryz.func27, Tryz.ntmps27
  go_wp2_with fail
  go_loopg [5, 6] n (fun gk s5 s6 wr => ∃ (i m : Nat) (R : List EnR) (q2 : Option Addr) (c2 : Nat), s6 = .int .i64 (i : Int) ∧ gk + i = n ∧ s5 = .slice q2 m c2 ∧ Hid (m = R.length) ∧ m ≤ i ∧ (m ≤ c2 ∧ c2 ≤ maxLen) ∧ Hid (m = 0 → q2 = none ∧ c2 = 0) ∧ Hid (R = hisL (l.take i) ro) ∧ Hid (EnS wr q2 R) ∧ Hid (Gr w wr))
  case atStart => exact ⟨0, 0, [], none, 0, rfl, by omega, rfl, rfl, Nat.le_refl _, ⟨Nat.le_refl _, by unfold maxLen; omega⟩, fun _ => ⟨rfl, rfl⟩, by simp [hisL, Hid], en_nil _, Gr.refl _⟩
  case round =>
    obtain ⟨i, m, R, q2, c2, rfl, hgk, rfl, HMR, hmi, ⟨hmc, hmx⟩, HM0, HHI, HES, HG⟩ := hrel
    by_cases hlt : i < n
    · obtain ⟨x, hx⟩ : ∃ x, l[i]? = some x := ⟨l[i]'(by have := HN.out; omega), List.getElem?_eq_getElem _⟩
      obtain ⟨b, off, rfl, hc⟩ := HR.out (by have := HN.out; omega)
      have hat := (hc i x hx).gr HG.out
      have hlt2 : (i : Int) < (n : Int) := by omega
      have HX := Lib.hid hx
      have HRWX := Lib.hid hat.rows
      obtain ⟨x0, x1, x2, x3, x4, x5, x6, _⟩ := hat
      clear hx hc
      cases hq : (x.ro.toList == ro.toList)
      · have HHI2 : Hid (R = hisL (l.take (i + 1)) ro) := by
          have e : l.take (i + 1) = l.take i ++ [x] := by rw [List.take_add_one, HX.out]; rfl
          rw [Hid, e, hisL_add, if_neg (by unfold isRo; rw [hq]; simp)]
          exact HHI.out
        go_wp2_with fail
        go_roundg (gk - 1)
        case measure => omega
        case rel => exact ⟨i + 1, m, R, q2, c2, by go_num, by omega, rfl, HMR, by omega, ⟨hmc, hmx⟩, HM0, HHI2, HES, HG⟩
      · have HRO : Hid (isRo ro x = true) := hq
        go_upto_block 2 with fail
        clear hq
        obtain ⟨WQ, hWQ⟩ : ∃ W, W = wr := ⟨wr, rfl⟩
        subst hWQ
        go_cut [7] from 25 to 56 (fun s7 wx => ∃ k : Nat, s7 = .int .i64 (k : Int) ∧ k ≤ m ∧ Hid (insAt R x = k) ∧ Hid (Gr WQ wx))
        case first =>
          go_wp2_with fail
          go_loopg [7] m (fun gk2 s7 wr2 => ∃ k : Nat, s7 = .int .i64 (k : Int) ∧ gk2 = k ∧ k ≤ m ∧ Hid (∀ j y, k ≤ j → R[j]? = some y → newB y x = true) ∧ Gr WQ wr2)
          case atStart => exact ⟨m, rfl, rfl, Nat.le_refl _, fun j y hj hy => absurd (List.getElem?_eq_some_iff.1 hy).1 (by have := HMR.out; omega), Gr.refl _⟩
          case round =>
            obtain ⟨k, rfl, hgk2, hkm, HA, g⟩ := hrel
            replace x0 := g.cell x0
            replace x1 := g.cell x1
            replace x2 := g.cell x2
            replace x3 := g.cell x3
            replace x4 := g.cell x4
            replace x5 := g.cell x5
            replace x6 := g.cell x6
            rcases Nat.eq_zero_or_pos k with h0 | h0
            · subst h0
              have gd := (Gr.refl wr).drew
              replace x0 := gd.cell x0
              replace x1 := gd.cell x1
              replace x2 := gd.cell x2
              replace x3 := gd.cell x3
              replace x4 := gd.cell x4
              replace x5 := gd.cell x5
              replace x6 := gd.cell x6
              replace g := g.trans gd
              clear gd
              go_wp2_with fail
              refine wp_region_held_drew (S := (fun _ => True)) (by kernel_rfl) trivial (fun hHeld => ?_)
              generalize wr.drew = V at *
              refine wpAnyH_take (i := 0) (v := (.int .i64 0)) (op_at rfl) (by kernel_rfl) (by kernel_rfl) (by kernel_rfl) (fun _ _ _ h => h) (Or.inl ⟨rfl, fun w hSw => ?_⟩) (by assumption) ?_
              · (try dsimp only at hSw); go_simp; try with_reducible rfl
              (try simp only [Act.put, List.setIfInBounds_toArray, List.set_cons_zero, List.set_cons_succ])
              refine wpAnyH_take (i := 1) (v := (.bool false)) (op_at rfl) (by kernel_rfl) (by kernel_rfl) (by kernel_rfl) (fun _ _ _ h => h) (Or.inl ⟨rfl, fun w hSw => ?_⟩) (by assumption) ?_
              · (try dsimp only at hSw); go_simp; try with_reducible rfl
              (try simp only [Act.put, List.setIfInBounds_toArray, List.set_cons_zero, List.set_cons_succ])
              refine wpAnyH_take (i := 2) (v := (.bool false)) (op_at rfl) (by kernel_rfl) (by kernel_rfl) (by kernel_rfl) (fun _ _ _ h => h) (Or.inl ⟨rfl, fun w hSw => ?_⟩) (by assumption) ?_
              · (try dsimp only at hSw); go_simp; try with_reducible rfl
              (try simp only [Act.put, List.setIfInBounds_toArray, List.set_cons_zero, List.set_cons_succ])
              refine wpAnyH_take (i := 3) (v := undef) (op_at rfl) (by kernel_rfl) (by kernel_rfl) (by kernel_rfl) (fun _ _ _ h => h) (Or.inr ⟨rfl, rfl⟩) (by assumption) ?_
              (try simp only [Act.put, List.setIfInBounds_toArray, List.set_cons_zero, List.set_cons_succ])
              refine wpAnyH_take (i := 4) (v := undef) (op_at rfl) (by kernel_rfl) (by kernel_rfl) (by kernel_rfl) (fun _ _ _ h => h) (Or.inr ⟨rfl, rfl⟩) (by assumption) ?_
              (try simp only [Act.put, List.setIfInBounds_toArray, List.set_cons_zero, List.set_cons_succ])
              refine wpAnyH_take (i := 5) (v := undef) (op_at rfl) (by kernel_rfl) (by kernel_rfl) (by kernel_rfl) (fun _ _ _ h => h) (Or.inr ⟨rfl, rfl⟩) (by assumption) ?_
              (try simp only [Act.put, List.setIfInBounds_toArray, List.set_cons_zero, List.set_cons_succ])
              refine wpAnyH_take (i := 6) (v := undef) (op_at rfl) (by kernel_rfl) (by kernel_rfl) (by kernel_rfl) (fun _ _ _ h => h) (Or.inr ⟨rfl, rfl⟩) (by assumption) ?_
              (try simp only [Act.put, List.setIfInBounds_toArray, List.set_cons_zero, List.set_cons_succ])
              refine wpAnyH_take (i := 7) (v := undef) (op_at rfl) (by kernel_rfl) (by kernel_rfl) (by kernel_rfl) (fun _ _ _ h => h) (Or.inr ⟨rfl, rfl⟩) (by assumption) ?_
              (try simp only [Act.put, List.setIfInBounds_toArray, List.set_cons_zero, List.set_cons_succ])
              refine wpAnyH_take (i := 8) (v := undef) (op_at rfl) (by kernel_rfl) (by kernel_rfl) (by kernel_rfl) (fun _ _ _ h => h) (Or.inr ⟨rfl, rfl⟩) (by assumption) ?_
              (try simp only [Act.put, List.setIfInBounds_toArray, List.set_cons_zero, List.set_cons_succ])
              refine wpAnyH_take (i := 9) (v := undef) (op_at rfl) (by kernel_rfl) (by kernel_rfl) (by kernel_rfl) (fun _ _ _ h => h) (Or.inr ⟨rfl, rfl⟩) (by assumption) ?_
              (try simp only [Act.put, List.setIfInBounds_toArray, List.set_cons_zero, List.set_cons_succ])
              refine wpAnyH_take (i := 10) (v := undef) (op_at rfl) (by kernel_rfl) (by kernel_rfl) (by kernel_rfl) (fun _ _ _ h => h) (Or.inr ⟨rfl, rfl⟩) (by assumption) ?_
              (try simp only [Act.put, List.setIfInBounds_toArray, List.set_cons_zero, List.set_cons_succ])
              refine wpAnyH_take (i := 11) (v := undef) (op_at rfl) (by kernel_rfl) (by kernel_rfl) (by kernel_rfl) (fun _ _ _ h => h) (Or.inr ⟨rfl, rfl⟩) (by assumption) ?_
              (try simp only [Act.put, List.setIfInBounds_toArray, List.set_cons_zero, List.set_cons_succ])
              refine wpAnyH_take (i := 12) (v := undef) (op_at rfl) (by kernel_rfl) (by kernel_rfl) (by kernel_rfl) (fun _ _ _ h => h) (Or.inr ⟨rfl, rfl⟩) (by assumption) ?_
              (try simp only [Act.put, List.setIfInBounds_toArray, List.set_cons_zero, List.set_cons_succ])
              refine wpAnyH_take (i := 13) (v := (.bool false)) (op_at rfl) (by kernel_rfl) (by kernel_rfl) (by kernel_rfl) (fun _ _ _ h => h) (Or.inl ⟨rfl, fun w hSw => ?_⟩) (by assumption) ?_
              · (try dsimp only at hSw); go_simp; try with_reducible rfl
              (try simp only [Act.put, List.setIfInBounds_toArray, List.set_cons_zero, List.set_cons_succ])
              refine wpAnyH_done (by kernel_rfl) ?_ _
              go_wp2_with fail
              go_meet
              case rel => exact ⟨0, rfl, Nat.zero_le _, insAt_of (Nat.zero_le _) HA.out (fun h => absurd h (Nat.lt_irrefl _)), g⟩
            · obtain ⟨a, rfl⟩ : ∃ a, k = a + 1 := ⟨k - 1, by omega⟩
              obtain ⟨b2, o2, rfl, hc2⟩ := HES.out.out (by have := HMR.out; omega)
              obtain ⟨y, hy⟩ : ∃ y, R[a]? = some y := ⟨R[a]'(by have := HMR.out; omega), List.getElem?_eq_getElem _⟩
              obtain ⟨y0, y1, y2, y3, y4, y5, y6, _⟩ := (hc2 a y hy).gr g
              have HNW := Lib.hid (fun U => newer_c y x U)
              have HY := Lib.hid hy
              have ha1 : decide ((0 : Int) < (a : Int) + 1) = true := decide_eq_true (by omega)
              have haw : IntKind.i64.wrap (a : Int) = a := by rw [IntKind.wrap_i64]; omega
              have ham : (a : Int) < (m : Int) := by omega
              have gd := (Gr.refl wr).drew
              replace x0 := gd.cell x0
              replace x1 := gd.cell x1
              replace x2 := gd.cell x2
              replace x3 := gd.cell x3
              replace x4 := gd.cell x4
              replace x5 := gd.cell x5
              replace x6 := gd.cell x6
              replace y0 := gd.cell y0
              replace y1 := gd.cell y1
              replace y2 := gd.cell y2
              replace y3 := gd.cell y3
              replace y4 := gd.cell y4
              replace y5 := gd.cell y5
              replace y6 := gd.cell y6
              replace g := g.trans gd
              clear gd hc2 hy
              unfold enV at HNW
              go_wp2_with fail
              cases hb : newB y x
              · rw [hb] at HNW
                refine wp_region_held_drew (S := (fun w' => w'.cell? ⟨b, off + i * 7, none⟩ = some (.string x.de) ∧ w'.cell? ⟨b, off + i * 7 + 1, none⟩ = some (.int .i64 x.nu) ∧ w'.cell? ⟨b, off + i * 7 + 2, none⟩ = some (.int .i64 x.ck) ∧ w'.cell? ⟨b, off + i * 7 + 3, none⟩ = some (.string x.ro) ∧ w'.cell? ⟨b, off + i * 7 + 4, none⟩ = some (.int .i64 x.va) ∧ w'.cell? ⟨b, off + i * 7 + 5, none⟩ = some (.string x.st) ∧ w'.cell? ⟨b, off + i * 7 + 6, none⟩ = some (.slice x.p x.n x.cap) ∧ w'.cell? ⟨b2, o2 + a * 7, none⟩ = some (.string y.de) ∧ w'.cell? ⟨b2, o2 + a * 7 + 1, none⟩ = some (.int .i64 y.nu) ∧ w'.cell? ⟨b2, o2 + a * 7 + 2, none⟩ = some (.int .i64 y.ck) ∧ w'.cell? ⟨b2, o2 + a * 7 + 3, none⟩ = some (.string y.ro) ∧ w'.cell? ⟨b2, o2 + a * 7 + 4, none⟩ = some (.int .i64 y.va) ∧ w'.cell? ⟨b2, o2 + a * 7 + 5, none⟩ = some (.string y.st) ∧ w'.cell? ⟨b2, o2 + a * 7 + 6, none⟩ = some (.slice y.p y.n y.cap))) (by kernel_rfl) ⟨x0, x1, x2, x3, x4, x5, x6, y0, y1, y2, y3, y4, y5, y6⟩ (fun hHeld => ?_)
                generalize wr.drew = V at *
                refine wpAnyH_take (i := 0) (v := (.int .i64 ((a : Int) + 1))) (op_at rfl) (by kernel_rfl) (by kernel_rfl) (by kernel_rfl) (fun _ _ _ h => h) (Or.inl ⟨rfl, fun w hSw => ?_⟩) (by assumption) ?_
                · (try dsimp only at hSw); go_simp; try with_reducible rfl
                (try simp only [Act.put, List.setIfInBounds_toArray, List.set_cons_zero, List.set_cons_succ])
                refine wpAnyH_take (i := 1) (v := (.bool true)) (op_at rfl) (by kernel_rfl) (by kernel_rfl) (by kernel_rfl) (fun _ _ _ h => h) (Or.inl ⟨rfl, fun w hSw => ?_⟩) (by assumption) ?_
                · (try dsimp only at hSw); go_simp; try with_reducible rfl
                (try simp only [Act.put, List.setIfInBounds_toArray, List.set_cons_zero, List.set_cons_succ])
                refine wpAnyH_take (i := 2) (v := (.bool true)) (op_at rfl) (by kernel_rfl) (by kernel_rfl) (by kernel_rfl) (fun _ _ _ h => h) (Or.inl ⟨rfl, fun w hSw => ?_⟩) (by assumption) ?_
                · (try dsimp only at hSw); go_simp; try with_reducible rfl
                (try simp only [Act.put, List.setIfInBounds_toArray, List.set_cons_zero, List.set_cons_succ])
                refine wpAnyH_take (i := 3) (v := (.slice (some ⟨b2, o2, none⟩) m c2)) (op_at rfl) (by kernel_rfl) (by kernel_rfl) (by kernel_rfl) (fun _ _ _ h => h) (Or.inl ⟨rfl, fun w hSw => ?_⟩) (by assumption) ?_
                · (try dsimp only at hSw); go_simp; try with_reducible rfl
                (try simp only [Act.put, List.setIfInBounds_toArray, List.set_cons_zero, List.set_cons_succ])
                refine wpAnyH_take (i := 4) (v := (.int .i64 ((a : Int) + 1))) (op_at rfl) (by kernel_rfl) (by kernel_rfl) (by kernel_rfl) (fun _ _ _ h => h) (Or.inl ⟨rfl, fun w hSw => ?_⟩) (by assumption) ?_
                · (try dsimp only at hSw); go_simp; try with_reducible rfl
                (try simp only [Act.put, List.setIfInBounds_toArray, List.set_cons_zero, List.set_cons_succ])
                refine wpAnyH_take (i := 5) (v := (.int .i64 (a : Int))) (op_at rfl) (by kernel_rfl) (by kernel_rfl) (by kernel_rfl) (fun _ _ _ h => h) (Or.inl ⟨rfl, fun w hSw => ?_⟩) (by assumption) ?_
                · (try dsimp only at hSw); go_simp; try with_reducible rfl
                (try simp only [Act.put, List.setIfInBounds_toArray, List.set_cons_zero, List.set_cons_succ])
                refine wpAnyH_take (i := 6) (v := (.pointer (some ⟨b2, o2 + a * 7, none⟩))) (op_at rfl) (by kernel_rfl) (by kernel_rfl) (by kernel_rfl) (fun _ _ _ h => h) (Or.inl ⟨rfl, fun w hSw => ?_⟩) (by assumption) ?_
                · (try dsimp only at hSw); go_simp; try with_reducible rfl
                (try simp only [Act.put, List.setIfInBounds_toArray, List.set_cons_zero, List.set_cons_succ])
                refine wpAnyH_take (i := 7) (v := (.agg #[.string y.de, .int .i64 y.nu, .int .i64 y.ck, .string y.ro, .int .i64 y.va, .string y.st, .slice y.p y.n y.cap])) (op_at rfl) (by kernel_rfl) (by kernel_rfl) (by kernel_rfl) (fun _ _ _ h => h) (Or.inl ⟨rfl, fun w hSw => ?_⟩) (by assumption) ?_
                · (try dsimp only at hSw); go_simp; try with_reducible rfl
                (try simp only [Act.put, List.setIfInBounds_toArray, List.set_cons_zero, List.set_cons_succ])
                refine wpAnyH_take (i := 8) (v := (.slice (some ⟨b, off, none⟩) n cap)) (op_at rfl) (by kernel_rfl) (by kernel_rfl) (by kernel_rfl) (fun _ _ _ h => h) (Or.inl ⟨rfl, fun w hSw => ?_⟩) (by assumption) ?_
                · (try dsimp only at hSw); go_simp; try with_reducible rfl
                (try simp only [Act.put, List.setIfInBounds_toArray, List.set_cons_zero, List.set_cons_succ])
                refine wpAnyH_take (i := 9) (v := (.int .i64 (i : Int))) (op_at rfl) (by kernel_rfl) (by kernel_rfl) (by kernel_rfl) (fun _ _ _ h => h) (Or.inl ⟨rfl, fun w hSw => ?_⟩) (by assumption) ?_
                · (try dsimp only at hSw); go_simp; try with_reducible rfl
                (try simp only [Act.put, List.setIfInBounds_toArray, List.set_cons_zero, List.set_cons_succ])
                refine wpAnyH_take (i := 10) (v := (.pointer (some ⟨b, off + i * 7, none⟩))) (op_at rfl) (by kernel_rfl) (by kernel_rfl) (by kernel_rfl) (fun _ _ _ h => h) (Or.inl ⟨rfl, fun w hSw => ?_⟩) (by assumption) ?_
                · (try dsimp only at hSw); go_simp; try with_reducible rfl
                (try simp only [Act.put, List.setIfInBounds_toArray, List.set_cons_zero, List.set_cons_succ])
                refine wpAnyH_take (i := 11) (v := (.agg #[.string x.de, .int .i64 x.nu, .int .i64 x.ck, .string x.ro, .int .i64 x.va, .string x.st, .slice x.p x.n x.cap])) (op_at rfl) (by kernel_rfl) (by kernel_rfl) (by kernel_rfl) (fun _ _ _ h => h) (Or.inl ⟨rfl, fun w hSw => ?_⟩) (by assumption) ?_
                · (try dsimp only at hSw); go_simp; try with_reducible rfl
                (try simp only [Act.put, List.setIfInBounds_toArray, List.set_cons_zero, List.set_cons_succ])
                refine wpAnyH_ready (rs := [12]) (by kernel_rfl) (by simp) (AllReadyH.cons (op_at rfl) (fun K hK => ?_) AllReadyH.nil)
                go_simp
                (refine (HNW.out _).mono ?_; rintro e W4 ⟨rfl, hg⟩; replace x0 := hg.cell x0; replace x1 := hg.cell x1; replace x2 := hg.cell x2; replace x3 := hg.cell x3; replace x4 := hg.cell x4; replace x5 := hg.cell x5; replace x6 := hg.cell x6; replace y0 := hg.cell y0; replace y1 := hg.cell y1; replace y2 := hg.cell y2; replace y3 := hg.cell y3; replace y4 := hg.cell y4; replace y5 := hg.cell y5; replace y6 := hg.cell y6; replace g := g.trans hg; clear hg)
                go_wp2_with fail
                refine hK.out _ _ ⟨x0, x1, x2, x3, x4, x5, x6, y0, y1, y2, y3, y4, y5, y6⟩ (fun hHeld => ?_)
                clear hK K
                (try simp only [Act.put, List.setIfInBounds_toArray, List.set_cons_zero, List.set_cons_succ])
                refine wpAnyH_take (i := 13) (v := (.bool false)) (op_at rfl) (by kernel_rfl) (by kernel_rfl) (by kernel_rfl) (fun _ _ _ h => h) (Or.inl ⟨rfl, fun w hSw => ?_⟩) (by assumption) ?_
                · (try dsimp only at hSw); go_simp; try with_reducible rfl
                (try simp only [Act.put, List.setIfInBounds_toArray, List.set_cons_zero, List.set_cons_succ])
                refine wpAnyH_done (by kernel_rfl) ?_ _
                go_wp2_with fail
                go_meet
                case rel => exact ⟨a + 1, by go_num, hkm, insAt_of (by have := HMR.out; omega) HA.out (fun _ => ⟨y, HY.out, hb⟩), g⟩
              · rw [hb] at HNW
                have HA2 : Hid (∀ j y, a ≤ j → R[j]? = some y → newB y x = true) := fun j z hj hz => by
                  rcases Nat.eq_or_lt_of_le hj with e | e
                  · subst e
                    rw [HY.out] at hz; cases hz; exact hb
                  · exact HA.out j z e hz
                refine wp_region_held_drew (S := (fun w' => w'.cell? ⟨b, off + i * 7, none⟩ = some (.string x.de) ∧ w'.cell? ⟨b, off + i * 7 + 1, none⟩ = some (.int .i64 x.nu) ∧ w'.cell? ⟨b, off + i * 7 + 2, none⟩ = some (.int .i64 x.ck) ∧ w'.cell? ⟨b, off + i * 7 + 3, none⟩ = some (.string x.ro) ∧ w'.cell? ⟨b, off + i * 7 + 4, none⟩ = some (.int .i64 x.va) ∧ w'.cell? ⟨b, off + i * 7 + 5, none⟩ = some (.string x.st) ∧ w'.cell? ⟨b, off + i * 7 + 6, none⟩ = some (.slice x.p x.n x.cap) ∧ w'.cell? ⟨b2, o2 + a * 7, none⟩ = some (.string y.de) ∧ w'.cell? ⟨b2, o2 + a * 7 + 1, none⟩ = some (.int .i64 y.nu) ∧ w'.cell? ⟨b2, o2 + a * 7 + 2, none⟩ = some (.int .i64 y.ck) ∧ w'.cell? ⟨b2, o2 + a * 7 + 3, none⟩ = some (.string y.ro) ∧ w'.cell? ⟨b2, o2 + a * 7 + 4, none⟩ = some (.int .i64 y.va) ∧ w'.cell? ⟨b2, o2 + a * 7 + 5, none⟩ = some (.string y.st) ∧ w'.cell? ⟨b2, o2 + a * 7 + 6, none⟩ = some (.slice y.p y.n y.cap))) (by kernel_rfl) ⟨x0, x1, x2, x3, x4, x5, x6, y0, y1, y2, y3, y4, y5, y6⟩ (fun hHeld => ?_)
                generalize wr.drew = V at *
                refine wpAnyH_take (i := 0) (v := (.int .i64 ((a : Int) + 1))) (op_at rfl) (by kernel_rfl) (by kernel_rfl) (by kernel_rfl) (fun _ _ _ h => h) (Or.inl ⟨rfl, fun w hSw => ?_⟩) (by assumption) ?_
                · (try dsimp only at hSw); go_simp; try with_reducible rfl
                (try simp only [Act.put, List.setIfInBounds_toArray, List.set_cons_zero, List.set_cons_succ])
                refine wpAnyH_take (i := 1) (v := (.bool true)) (op_at rfl) (by kernel_rfl) (by kernel_rfl) (by kernel_rfl) (fun _ _ _ h => h) (Or.inl ⟨rfl, fun w hSw => ?_⟩) (by assumption) ?_
                · (try dsimp only at hSw); go_simp; try with_reducible rfl
                (try simp only [Act.put, List.setIfInBounds_toArray, List.set_cons_zero, List.set_cons_succ])
                refine wpAnyH_take (i := 2) (v := (.bool true)) (op_at rfl) (by kernel_rfl) (by kernel_rfl) (by kernel_rfl) (fun _ _ _ h => h) (Or.inl ⟨rfl, fun w hSw => ?_⟩) (by assumption) ?_
                · (try dsimp only at hSw); go_simp; try with_reducible rfl
                (try simp only [Act.put, List.setIfInBounds_toArray, List.set_cons_zero, List.set_cons_succ])
                refine wpAnyH_take (i := 3) (v := (.slice (some ⟨b2, o2, none⟩) m c2)) (op_at rfl) (by kernel_rfl) (by kernel_rfl) (by kernel_rfl) (fun _ _ _ h => h) (Or.inl ⟨rfl, fun w hSw => ?_⟩) (by assumption) ?_
                · (try dsimp only at hSw); go_simp; try with_reducible rfl
                (try simp only [Act.put, List.setIfInBounds_toArray, List.set_cons_zero, List.set_cons_succ])
                refine wpAnyH_take (i := 4) (v := (.int .i64 ((a : Int) + 1))) (op_at rfl) (by kernel_rfl) (by kernel_rfl) (by kernel_rfl) (fun _ _ _ h => h) (Or.inl ⟨rfl, fun w hSw => ?_⟩) (by assumption) ?_
                · (try dsimp only at hSw); go_simp; try with_reducible rfl
                (try simp only [Act.put, List.setIfInBounds_toArray, List.set_cons_zero, List.set_cons_succ])
                refine wpAnyH_take (i := 5) (v := (.int .i64 (a : Int))) (op_at rfl) (by kernel_rfl) (by kernel_rfl) (by kernel_rfl) (fun _ _ _ h => h) (Or.inl ⟨rfl, fun w hSw => ?_⟩) (by assumption) ?_
                · (try dsimp only at hSw); go_simp; try with_reducible rfl
                (try simp only [Act.put, List.setIfInBounds_toArray, List.set_cons_zero, List.set_cons_succ])
                refine wpAnyH_take (i := 6) (v := (.pointer (some ⟨b2, o2 + a * 7, none⟩))) (op_at rfl) (by kernel_rfl) (by kernel_rfl) (by kernel_rfl) (fun _ _ _ h => h) (Or.inl ⟨rfl, fun w hSw => ?_⟩) (by assumption) ?_
                · (try dsimp only at hSw); go_simp; try with_reducible rfl
                (try simp only [Act.put, List.setIfInBounds_toArray, List.set_cons_zero, List.set_cons_succ])
                refine wpAnyH_take (i := 7) (v := (.agg #[.string y.de, .int .i64 y.nu, .int .i64 y.ck, .string y.ro, .int .i64 y.va, .string y.st, .slice y.p y.n y.cap])) (op_at rfl) (by kernel_rfl) (by kernel_rfl) (by kernel_rfl) (fun _ _ _ h => h) (Or.inl ⟨rfl, fun w hSw => ?_⟩) (by assumption) ?_
                · (try dsimp only at hSw); go_simp; try with_reducible rfl
                (try simp only [Act.put, List.setIfInBounds_toArray, List.set_cons_zero, List.set_cons_succ])
                refine wpAnyH_take (i := 8) (v := (.slice (some ⟨b, off, none⟩) n cap)) (op_at rfl) (by kernel_rfl) (by kernel_rfl) (by kernel_rfl) (fun _ _ _ h => h) (Or.inl ⟨rfl, fun w hSw => ?_⟩) (by assumption) ?_
                · (try dsimp only at hSw); go_simp; try with_reducible rfl
                (try simp only [Act.put, List.setIfInBounds_toArray, List.set_cons_zero, List.set_cons_succ])
                refine wpAnyH_take (i := 9) (v := (.int .i64 (i : Int))) (op_at rfl) (by kernel_rfl) (by kernel_rfl) (by kernel_rfl) (fun _ _ _ h => h) (Or.inl ⟨rfl, fun w hSw => ?_⟩) (by assumption) ?_
                · (try dsimp only at hSw); go_simp; try with_reducible rfl
                (try simp only [Act.put, List.setIfInBounds_toArray, List.set_cons_zero, List.set_cons_succ])
                refine wpAnyH_take (i := 10) (v := (.pointer (some ⟨b, off + i * 7, none⟩))) (op_at rfl) (by kernel_rfl) (by kernel_rfl) (by kernel_rfl) (fun _ _ _ h => h) (Or.inl ⟨rfl, fun w hSw => ?_⟩) (by assumption) ?_
                · (try dsimp only at hSw); go_simp; try with_reducible rfl
                (try simp only [Act.put, List.setIfInBounds_toArray, List.set_cons_zero, List.set_cons_succ])
                refine wpAnyH_take (i := 11) (v := (.agg #[.string x.de, .int .i64 x.nu, .int .i64 x.ck, .string x.ro, .int .i64 x.va, .string x.st, .slice x.p x.n x.cap])) (op_at rfl) (by kernel_rfl) (by kernel_rfl) (by kernel_rfl) (fun _ _ _ h => h) (Or.inl ⟨rfl, fun w hSw => ?_⟩) (by assumption) ?_
                · (try dsimp only at hSw); go_simp; try with_reducible rfl
                (try simp only [Act.put, List.setIfInBounds_toArray, List.set_cons_zero, List.set_cons_succ])
                refine wpAnyH_ready (rs := [12]) (by kernel_rfl) (by simp) (AllReadyH.cons (op_at rfl) (fun K hK => ?_) AllReadyH.nil)
                go_simp
                (refine (HNW.out _).mono ?_; rintro e W4 ⟨rfl, hg⟩; replace x0 := hg.cell x0; replace x1 := hg.cell x1; replace x2 := hg.cell x2; replace x3 := hg.cell x3; replace x4 := hg.cell x4; replace x5 := hg.cell x5; replace x6 := hg.cell x6; replace y0 := hg.cell y0; replace y1 := hg.cell y1; replace y2 := hg.cell y2; replace y3 := hg.cell y3; replace y4 := hg.cell y4; replace y5 := hg.cell y5; replace y6 := hg.cell y6; replace g := g.trans hg; clear hg)
                go_wp2_with fail
                refine hK.out _ _ ⟨x0, x1, x2, x3, x4, x5, x6, y0, y1, y2, y3, y4, y5, y6⟩ (fun hHeld => ?_)
                clear hK K
                (try simp only [Act.put, List.setIfInBounds_toArray, List.set_cons_zero, List.set_cons_succ])
                refine wpAnyH_take (i := 13) (v := (.bool true)) (op_at rfl) (by kernel_rfl) (by kernel_rfl) (by kernel_rfl) (fun _ _ _ h => h) (Or.inl ⟨rfl, fun w hSw => ?_⟩) (by assumption) ?_
                · (try dsimp only at hSw); go_simp; try with_reducible rfl
                (try simp only [Act.put, List.setIfInBounds_toArray, List.set_cons_zero, List.set_cons_succ])
                refine wpAnyH_done (by kernel_rfl) ?_ _
                go_wp2_with fail
                go_roundg a
                case measure => omega
                case rel => exact ⟨a, by go_num, rfl, by omega, HA2, g⟩
        case rest =>
          obtain ⟨k, rfl, hkm, HIA, HGQ⟩ := hcut
          have HX7 : Hid (En7 wc b (off + i * 7) x) := (⟨x0, x1, x2, x3, x4, x5, x6⟩ : En7 WQ b (off + i * 7) x).gr HGQ.out
          have HIN : Hid (insL R x = R.take k ++ x :: R.drop k) := by rw [Hid]; unfold insL; rw [HIA.out]
          have HIL : Hid (hisL (l.take (i + 1)) ro = insL R x) := by
            have e : l.take (i + 1) = l.take i ++ [x] := by rw [List.take_add_one, HX.out]; rfl
            rw [Hid, e, hisL_add, if_pos HRO.out, ← HHI.out]
          have HGW : Hid (Gr w wc) := HG.out.trans HGQ.out
          have HEC : Hid (EnS wc q2 R) := HES.out.gr HGQ.out
          obtain ⟨hi, hz0, hz1, hz2⟩ := HI0.out
          have gE := (Gr.refl wc).alloc (.cells #[] 65)
          have hE : (wc.alloc (.cells #[] 65)).heap[wc.heap.size]? = some (.cells #[] 65 (0, 0)) := heap_alloc_new wc _
          clear x0 x1 x2 x3 x4 x5 x6 HES HG
          rcases Nat.eq_zero_or_pos m with hm0 | hm0
          · obtain ⟨rfl, rfl⟩ := HM0.out hm0
            obtain rfl : k = 0 := by omega
            have HC1 := Lib.hid (show ∀ ad, (none : Option Addr) = some ad → ∀ j u, (enCs (R.take 0))[j]? = some u → (wc.alloc (.cells #[] 65)).cell? (ad.add j) = some u from fun ad e => by cases e)
            have HC2 := Lib.hid (show ∀ U, Gr wc U → ∀ ad, (none : Option Addr) = some ad → ∀ j u, (enCs (R.drop 0))[j]? = some u → U.cell? (ad.add j) = some u from fun U g ad e => by cases e)
            have HL1 := Lib.hid (show (enCs (R.take 0)).length = 0 * 7 by rw [enCs_len, List.length_take]; have := HMR.out; omega)
            have HL2 := Lib.hid (show (enCs (R.drop 0)).length = (0) * 7 by rw [enCs_len, List.length_drop]; have := HMR.out; omega)
            go_wp2_with (at_builtin; refine wpList_append_any rfl _ _ 30 rfl wc.heap.size 65 i0 (.agg #[.string ⟨#[]⟩, .int .i64 0, .int .i64 0, .string ⟨#[]⟩, .int .i64 0, .string ⟨#[]⟩, .slice none 0 0]) 7 96 Tryz.underlying30 hi hz0 hz1 hz2 rfl (by decide) _ 0 [] rfl (own_emptyT hE (Nat.le_refl _)) none 0 0 (by intro h; first | rfl | cases h) (enCs (R.take 0)) rfl HL1.out HC1.out (one_enCs _) (by unfold maxLen; omega) (by omega) (by simp) ?_; intro v1 W1 hown1 hgg1)
            have G1 := Lib.hid (hgg1 wc gE (Nat.le_refl _))
            have gd := (Gr.refl W1).drew
            have G1d := Lib.hid (G1.out.trans gd)
            have hownV2 := own_kept hown1 gd
            clear hgg1 hown1 gd hE gE HC1
            refine wp_region_held_drew (S := fun W => En7 W b (off + i * 7) x) (by kernel_rfl) (HX7.out.gr G1d.out) (fun hHeld => ?_)
            generalize W1.drew = V2 at *
            refine wpAnyH_take (i := 0) (v := v1) (op_at rfl) (by kernel_rfl) (by kernel_rfl) (by kernel_rfl) (fun _ _ _ h => h) (Or.inl ⟨rfl, fun w hSw => ?_⟩) (by assumption) ?_
            · go_simp; try with_reducible rfl
            (try simp only [Act.put, List.setIfInBounds_toArray, List.set_cons_zero, List.set_cons_succ])
            refine wpAnyH_take (i := 1) (v := (.slice (some ⟨b, off, none⟩) n cap)) (op_at rfl) (by kernel_rfl) (by kernel_rfl) (by kernel_rfl) (fun _ _ _ h => h) (Or.inl ⟨rfl, fun w hSw => ?_⟩) (by assumption) ?_
            · go_simp; try with_reducible rfl
            (try simp only [Act.put, List.setIfInBounds_toArray, List.set_cons_zero, List.set_cons_succ])
            refine wpAnyH_take (i := 2) (v := (.int .i64 (i : Int))) (op_at rfl) (by kernel_rfl) (by kernel_rfl) (by kernel_rfl) (fun _ _ _ h => h) (Or.inl ⟨rfl, fun w hSw => ?_⟩) (by assumption) ?_
            · go_simp; try with_reducible rfl
            (try simp only [Act.put, List.setIfInBounds_toArray, List.set_cons_zero, List.set_cons_succ])
            refine wpAnyH_take (i := 3) (v := (.pointer (some ⟨b, off + i * 7, none⟩))) (op_at rfl) (by kernel_rfl) (by kernel_rfl) (by kernel_rfl) (fun _ _ _ h => h) (Or.inl ⟨rfl, fun w hSw => ?_⟩) (by assumption) ?_
            · go_simp; try with_reducible rfl
            (try simp only [Act.put, List.setIfInBounds_toArray, List.set_cons_zero, List.set_cons_succ])
            refine wpAnyH_take (i := 4) (v := (.agg #[.string x.de, .int .i64 x.nu, .int .i64 x.ck, .string x.ro, .int .i64 x.va, .string x.st, .slice x.p x.n x.cap])) (op_at rfl) (by kernel_rfl) (by kernel_rfl) (by kernel_rfl) (fun _ _ _ h => h) (Or.inl ⟨rfl, fun w hSw => ?_⟩) (by assumption) ?_
            · obtain ⟨x0, x1, x2, x3, x4, x5, x6⟩ := hSw; go_simp; try with_reducible rfl
            (try simp only [Act.put, List.setIfInBounds_toArray, List.set_cons_zero, List.set_cons_succ])
            refine wpAnyH_take (i := 7) (v := (.slice none 0 0)) (op_at rfl) (by kernel_rfl) (by kernel_rfl) (by kernel_rfl) (fun _ _ _ h => h) (Or.inl ⟨rfl, fun w hSw => ?_⟩) (by assumption) ?_
            · go_simp; try with_reducible rfl
            (try simp only [Act.put, List.setIfInBounds_toArray, List.set_cons_zero, List.set_cons_succ])
            refine wpAnyH_take (i := 8) (v := (.int .i64 (0 : Int))) (op_at rfl) (by kernel_rfl) (by kernel_rfl) (by kernel_rfl) (fun _ _ _ h => h) (Or.inl ⟨rfl, fun w hSw => ?_⟩) (by assumption) ?_
            · go_simp; try with_reducible rfl
            (try simp only [Act.put, List.setIfInBounds_toArray, List.set_cons_zero, List.set_cons_succ])
            refine wpAnyH_take (i := 9) (v := (.slice none (0) (0))) (op_at rfl) (by kernel_rfl) (by kernel_rfl) (by kernel_rfl) (fun _ _ _ h => h) (Or.inl ⟨rfl, fun w hSw => ?_⟩) (by assumption) ?_
            · go_simp; try with_reducible rfl
            (try simp only [Act.put, List.setIfInBounds_toArray, List.set_cons_zero, List.set_cons_succ])
            refine wpAnyH_ready (rs := [5]) (by kernel_rfl) (by simp) (AllReadyH.cons (op_at rfl) (fun K hK => ?_) AllReadyH.nil)
            go_simp
            have gX := (Gr.refl V2).alloc (.cells #[.string x.de, .int .i64 x.nu, .int .i64 x.ck, .string x.ro, .int .i64 x.va, .string x.st, .slice x.p x.n x.cap] 65)
            have hXc := cell_seven V2 (.string x.de) (.int .i64 x.nu) (.int .i64 x.ck) (.string x.ro) (.int .i64 x.va) (.string x.st) (.slice x.p x.n x.cap) 65
            have hownV3 := own_kept hownV2 gX
            have G3 := Lib.hid (G1d.out.trans gX)
            refine hK.out _ _ (HX7.out.gr G3.out) (fun hHeld => ?_)
            clear hK K gX hownV2
            (try simp only [Act.put, List.setIfInBounds_toArray, List.set_cons_zero, List.set_cons_succ])
            generalize V2.alloc (.cells #[.string x.de, .int .i64 x.nu, .int .i64 x.ck, .string x.ro, .int .i64 x.va, .string x.st, .slice x.p x.n x.cap] 65) = V3 at *
            refine wpAnyH_ready (rs := [6]) (by kernel_rfl) (by simp) (AllReadyH.cons (op_at rfl) (fun K hK => ?_) AllReadyH.nil)
            rw [if_pos (show Region.wanted _ _ = true from rfl)]
            refine step_append_any _ _ 30 rfl wc.heap.size 65 i0 (.agg #[.string ⟨#[]⟩, .int .i64 0, .int .i64 0, .string ⟨#[]⟩, .int .i64 0, .string ⟨#[]⟩, .slice none 0 0]) 7 96 Tryz.underlying30 hi hz0 hz1 hz2 rfl (by decide) v1 (0 + 0) _ rfl hownV3 (some ⟨V2.heap.size, 0, none⟩) 1 1 (by intro h; cases h) [.string x.de, .int .i64 x.nu, .int .i64 x.ck, .string x.ro, .int .i64 x.va, .string x.st, .slice x.p x.n x.cap] rfl rfl (fun ad e j u hu => by cases e; exact hXc j u hu) (one_seven _ _ _ _ _ _ _ _ _) (by unfold maxLen; omega) (by omega) G3.out.size (fun v2 W2 hown2 hgg2 => ?_)
            have G2 := Lib.hid (hgg2 wc G3.out (Nat.le_refl _))
            refine hK.out _ _ (HX7.out.gr G2.out) (fun hHeld => ?_)
            clear hK K hownV3 hgg2 hXc
            (try simp only [Act.put, List.setIfInBounds_toArray, List.set_cons_zero, List.set_cons_succ])
            refine wpAnyH_ready (rs := [10]) (by kernel_rfl) (by simp) (AllReadyH.cons (op_at rfl) (fun K hK => ?_) AllReadyH.nil)
            rw [if_pos (show Region.wanted _ _ = true from rfl)]
            refine step_append_any _ _ 30 rfl wc.heap.size 65 i0 (.agg #[.string ⟨#[]⟩, .int .i64 0, .int .i64 0, .string ⟨#[]⟩, .int .i64 0, .string ⟨#[]⟩, .slice none 0 0]) 7 96 Tryz.underlying30 hi hz0 hz1 hz2 rfl (by decide) v2 (0 + 0 + 1) _ rfl hown2 none (0) (0) (by intro h; first | rfl | cases h) (enCs (R.drop 0)) rfl HL2.out (HC2.out _ G2.out) (one_enCs _) (by unfold maxLen; omega) (by omega) G2.out.size (fun v3 W3 hown3 hgg3 => ?_)
            have G4 := Lib.hid (hgg3 wc G2.out (Nat.le_refl _))
            refine hK.out _ _ (HX7.out.gr G4.out) (fun hHeld => ?_)
            clear hK K hown2 hgg3
            (try simp only [Act.put, List.setIfInBounds_toArray, List.set_cons_zero, List.set_cons_succ])
            refine wpAnyH_take (i := 11) (v := v3) (op_at rfl) (by kernel_rfl) (by kernel_rfl) (by kernel_rfl) (fun _ _ _ h => h) (Or.inl ⟨rfl, fun w hSw => ?_⟩) (by assumption) ?_
            · go_simp; try with_reducible rfl
            (try simp only [Act.put, List.setIfInBounds_toArray, List.set_cons_zero, List.set_cons_succ])
            refine wpAnyH_done (by kernel_rfl) ?_ _
            have HCE : Hid ([] ++ enCs (R.take 0) ++ [.string x.de, .int .i64 x.nu, .int .i64 x.ck, .string x.ro, .int .i64 x.va, .string x.st, .slice x.p x.n x.cap] ++ enCs (R.drop 0) = enCs (insL R x)) := by
              rw [Hid, HIN.out]
              simp [enCs, enC]
            have hnum : 0 + 0 + 1 + (0) = m + 1 := by omega
            rw [HCE.out, hnum] at hown3
            have HRR : Hid (∀ e ∈ insL R x, RowsX W3 e.p e.n e.cap e.xs) := fun e he => by
              refine (HRX.out e ?_).gr (HGW.out.trans G4.out)
              rcases List.mem_cons.1 ((insL_perm R x).mem_iff.1 he) with rfl | he
              · exact List.mem_of_getElem? HX.out
              · rw [HHI.out] at he
                exact List.mem_of_mem_take (hisL_mem he)
            obtain ⟨q3, c3, rfl, hc31, hc32⟩ := own_shape hown3
            have HEN : Hid (EnS W3 q3 (insL R x)) := EnS.of_own hown3 (by rw [insL_len, ← HMR.out]) HRR.out
            clear hown3 HCE HRR HC2 hnum
            go_wp2_with fail
            go_roundg (n - (i + 1))
            case measure => omega
            case rel => exact ⟨i + 1, m + 1, insL R x, q3, c3, by go_num, by omega, rfl, by rw [Hid, insL_len, ← HMR.out], by omega, ⟨hc31, hc32⟩, fun h => absurd h (by omega), by rw [Hid, HIL.out], HEN, HGW.out.trans G4.out⟩
          · obtain ⟨b2, o2, rfl, hc2⟩ := HEC.out.out (by have := HMR.out; omega)
            have hkc : k ≤ c2 := by omega
            have hkc2 : ¬ c2 < k := by omega
            have hz : decide ((k : Int) < 0) = false := decide_eq_false (by omega)
            obtain ⟨qq, hqq, hqe⟩ : ∃ qq, (if c2 = k then some (⟨b2, o2, none⟩ : Addr) else some ⟨b2, o2 + k * 7, none⟩) = some qq ∧ (k < c2 → qq = ⟨b2, o2 + k * 7, none⟩) := by
              by_cases e : c2 = k
              · exact ⟨_, by rw [if_pos e], fun h => by omega⟩
              · exact ⟨_, by rw [if_neg e], fun _ => rfl⟩
            have HQE := Lib.hid hqe
            clear hqe
            have HC1 := Lib.hid (show ∀ ad, ((some ⟨b2, o2, none⟩) : Option Addr) = some ad → ∀ j u, (enCs (R.take k))[j]? = some u → (wc.alloc (.cells #[] 65)).cell? (ad.add j) = some u from fun ad e => by cases e; exact en_cells (fun j e he => (hc2 j e (by rw [List.getElem?_take] at he; split at he <;> first | exact he | cases he)).gr gE))
            have HC2 := Lib.hid (show ∀ U, Gr wc U → ∀ ad, ((some qq) : Option Addr) = some ad → ∀ j u, (enCs (R.drop k))[j]? = some u → U.cell? (ad.add j) = some u from fun U g ad e j u hu => by
                have hjl := (List.getElem?_eq_some_iff.1 hu).1
                rw [enCs_len, List.length_drop] at hjl
                cases e
                rw [HQE.out (by have := HMR.out; omega)]
                exact en_cells (fun j e he => by
                  rw [List.getElem?_drop] at he
                  have := (hc2 (k + j) e he).gr g
                  rwa [show o2 + (k + j) * 7 = o2 + k * 7 + j * 7 by omega] at this) j u hu)
            have HL1 := Lib.hid (show (enCs (R.take k)).length = k * 7 by rw [enCs_len, List.length_take]; have := HMR.out; omega)
            have HL2 := Lib.hid (show (enCs (R.drop k)).length = (m - k) * 7 by rw [enCs_len, List.length_drop]; have := HMR.out; omega)
            go_wp2_with (at_builtin; refine wpList_append_any rfl _ _ 30 rfl wc.heap.size 65 i0 (.agg #[.string ⟨#[]⟩, .int .i64 0, .int .i64 0, .string ⟨#[]⟩, .int .i64 0, .string ⟨#[]⟩, .slice none 0 0]) 7 96 Tryz.underlying30 hi hz0 hz1 hz2 rfl (by decide) _ 0 [] rfl (own_emptyT hE (Nat.le_refl _)) (some ⟨b2, o2, none⟩) k c2 (by intro h; first | rfl | cases h) (enCs (R.take k)) rfl HL1.out HC1.out (one_enCs _) (by unfold maxLen; omega) (by omega) (by simp) ?_; intro v1 W1 hown1 hgg1)
            have G1 := Lib.hid (hgg1 wc gE (Nat.le_refl _))
            have gd := (Gr.refl W1).drew
            have G1d := Lib.hid (G1.out.trans gd)
            have hownV2 := own_kept hown1 gd
            clear hgg1 hown1 gd hE gE HC1
            refine wp_region_held_drew (S := fun W => En7 W b (off + i * 7) x) (by kernel_rfl) (HX7.out.gr G1d.out) (fun hHeld => ?_)
            generalize W1.drew = V2 at *
            refine wpAnyH_take (i := 0) (v := v1) (op_at rfl) (by kernel_rfl) (by kernel_rfl) (by kernel_rfl) (fun _ _ _ h => h) (Or.inl ⟨rfl, fun w hSw => ?_⟩) (by assumption) ?_
            · go_simp; try with_reducible rfl
            (try simp only [Act.put, List.setIfInBounds_toArray, List.set_cons_zero, List.set_cons_succ])
            refine wpAnyH_take (i := 1) (v := (.slice (some ⟨b, off, none⟩) n cap)) (op_at rfl) (by kernel_rfl) (by kernel_rfl) (by kernel_rfl) (fun _ _ _ h => h) (Or.inl ⟨rfl, fun w hSw => ?_⟩) (by assumption) ?_
            · go_simp; try with_reducible rfl
            (try simp only [Act.put, List.setIfInBounds_toArray, List.set_cons_zero, List.set_cons_succ])
            refine wpAnyH_take (i := 2) (v := (.int .i64 (i : Int))) (op_at rfl) (by kernel_rfl) (by kernel_rfl) (by kernel_rfl) (fun _ _ _ h => h) (Or.inl ⟨rfl, fun w hSw => ?_⟩) (by assumption) ?_
            · go_simp; try with_reducible rfl
            (try simp only [Act.put, List.setIfInBounds_toArray, List.set_cons_zero, List.set_cons_succ])
            refine wpAnyH_take (i := 3) (v := (.pointer (some ⟨b, off + i * 7, none⟩))) (op_at rfl) (by kernel_rfl) (by kernel_rfl) (by kernel_rfl) (fun _ _ _ h => h) (Or.inl ⟨rfl, fun w hSw => ?_⟩) (by assumption) ?_
            · go_simp; try with_reducible rfl
            (try simp only [Act.put, List.setIfInBounds_toArray, List.set_cons_zero, List.set_cons_succ])
            refine wpAnyH_take (i := 4) (v := (.agg #[.string x.de, .int .i64 x.nu, .int .i64 x.ck, .string x.ro, .int .i64 x.va, .string x.st, .slice x.p x.n x.cap])) (op_at rfl) (by kernel_rfl) (by kernel_rfl) (by kernel_rfl) (fun _ _ _ h => h) (Or.inl ⟨rfl, fun w hSw => ?_⟩) (by assumption) ?_
            · obtain ⟨x0, x1, x2, x3, x4, x5, x6⟩ := hSw; go_simp; try with_reducible rfl
            (try simp only [Act.put, List.setIfInBounds_toArray, List.set_cons_zero, List.set_cons_succ])
            refine wpAnyH_take (i := 7) (v := (.slice (some ⟨b2, o2, none⟩) m c2)) (op_at rfl) (by kernel_rfl) (by kernel_rfl) (by kernel_rfl) (fun _ _ _ h => h) (Or.inl ⟨rfl, fun w hSw => ?_⟩) (by assumption) ?_
            · go_simp; try with_reducible rfl
            (try simp only [Act.put, List.setIfInBounds_toArray, List.set_cons_zero, List.set_cons_succ])
            refine wpAnyH_take (i := 8) (v := (.int .i64 (k : Int))) (op_at rfl) (by kernel_rfl) (by kernel_rfl) (by kernel_rfl) (fun _ _ _ h => h) (Or.inl ⟨rfl, fun w hSw => ?_⟩) (by assumption) ?_
            · go_simp; try with_reducible rfl
            (try simp only [Act.put, List.setIfInBounds_toArray, List.set_cons_zero, List.set_cons_succ])
            refine wpAnyH_take (i := 9) (v := (.slice (some qq) (m - k) (c2 - k))) (op_at rfl) (by kernel_rfl) (by kernel_rfl) (by kernel_rfl) (fun _ _ _ h => h) (Or.inl ⟨rfl, fun w hSw => ?_⟩) (by assumption) ?_
            · go_simp; try with_reducible rfl
            (try simp only [Act.put, List.setIfInBounds_toArray, List.set_cons_zero, List.set_cons_succ])
            refine wpAnyH_ready (rs := [5]) (by kernel_rfl) (by simp) (AllReadyH.cons (op_at rfl) (fun K hK => ?_) AllReadyH.nil)
            go_simp
            have gX := (Gr.refl V2).alloc (.cells #[.string x.de, .int .i64 x.nu, .int .i64 x.ck, .string x.ro, .int .i64 x.va, .string x.st, .slice x.p x.n x.cap] 65)
            have hXc := cell_seven V2 (.string x.de) (.int .i64 x.nu) (.int .i64 x.ck) (.string x.ro) (.int .i64 x.va) (.string x.st) (.slice x.p x.n x.cap) 65
            have hownV3 := own_kept hownV2 gX
            have G3 := Lib.hid (G1d.out.trans gX)
            refine hK.out _ _ (HX7.out.gr G3.out) (fun hHeld => ?_)
            clear hK K gX hownV2
            (try simp only [Act.put, List.setIfInBounds_toArray, List.set_cons_zero, List.set_cons_succ])
            generalize V2.alloc (.cells #[.string x.de, .int .i64 x.nu, .int .i64 x.ck, .string x.ro, .int .i64 x.va, .string x.st, .slice x.p x.n x.cap] 65) = V3 at *
            refine wpAnyH_ready (rs := [6]) (by kernel_rfl) (by simp) (AllReadyH.cons (op_at rfl) (fun K hK => ?_) AllReadyH.nil)
            rw [if_pos (show Region.wanted _ _ = true from rfl)]
            refine step_append_any _ _ 30 rfl wc.heap.size 65 i0 (.agg #[.string ⟨#[]⟩, .int .i64 0, .int .i64 0, .string ⟨#[]⟩, .int .i64 0, .string ⟨#[]⟩, .slice none 0 0]) 7 96 Tryz.underlying30 hi hz0 hz1 hz2 rfl (by decide) v1 (0 + k) _ rfl hownV3 (some ⟨V2.heap.size, 0, none⟩) 1 1 (by intro h; cases h) [.string x.de, .int .i64 x.nu, .int .i64 x.ck, .string x.ro, .int .i64 x.va, .string x.st, .slice x.p x.n x.cap] rfl rfl (fun ad e j u hu => by cases e; exact hXc j u hu) (one_seven _ _ _ _ _ _ _ _ _) (by unfold maxLen; omega) (by omega) G3.out.size (fun v2 W2 hown2 hgg2 => ?_)
            have G2 := Lib.hid (hgg2 wc G3.out (Nat.le_refl _))
            refine hK.out _ _ (HX7.out.gr G2.out) (fun hHeld => ?_)
            clear hK K hownV3 hgg2 hXc
            (try simp only [Act.put, List.setIfInBounds_toArray, List.set_cons_zero, List.set_cons_succ])
            refine wpAnyH_ready (rs := [10]) (by kernel_rfl) (by simp) (AllReadyH.cons (op_at rfl) (fun K hK => ?_) AllReadyH.nil)
            rw [if_pos (show Region.wanted _ _ = true from rfl)]
            refine step_append_any _ _ 30 rfl wc.heap.size 65 i0 (.agg #[.string ⟨#[]⟩, .int .i64 0, .int .i64 0, .string ⟨#[]⟩, .int .i64 0, .string ⟨#[]⟩, .slice none 0 0]) 7 96 Tryz.underlying30 hi hz0 hz1 hz2 rfl (by decide) v2 (0 + k + 1) _ rfl hown2 (some qq) (m - k) (c2 - k) (by intro h; first | rfl | cases h) (enCs (R.drop k)) rfl HL2.out (HC2.out _ G2.out) (one_enCs _) (by unfold maxLen; omega) (by omega) G2.out.size (fun v3 W3 hown3 hgg3 => ?_)
            have G4 := Lib.hid (hgg3 wc G2.out (Nat.le_refl _))
            refine hK.out _ _ (HX7.out.gr G4.out) (fun hHeld => ?_)
            clear hK K hown2 hgg3
            (try simp only [Act.put, List.setIfInBounds_toArray, List.set_cons_zero, List.set_cons_succ])
            refine wpAnyH_take (i := 11) (v := v3) (op_at rfl) (by kernel_rfl) (by kernel_rfl) (by kernel_rfl) (fun _ _ _ h => h) (Or.inl ⟨rfl, fun w hSw => ?_⟩) (by assumption) ?_
            · go_simp; try with_reducible rfl
            (try simp only [Act.put, List.setIfInBounds_toArray, List.set_cons_zero, List.set_cons_succ])
            refine wpAnyH_done (by kernel_rfl) ?_ _
            have HCE : Hid ([] ++ enCs (R.take k) ++ [.string x.de, .int .i64 x.nu, .int .i64 x.ck, .string x.ro, .int .i64 x.va, .string x.st, .slice x.p x.n x.cap] ++ enCs (R.drop k) = enCs (insL R x)) := by
              rw [Hid, HIN.out]
              simp [enCs, enC]
            have hnum : 0 + k + 1 + (m - k) = m + 1 := by omega
            rw [HCE.out, hnum] at hown3
            have HRR : Hid (∀ e ∈ insL R x, RowsX W3 e.p e.n e.cap e.xs) := fun e he => by
              refine (HRX.out e ?_).gr (HGW.out.trans G4.out)
              rcases List.mem_cons.1 ((insL_perm R x).mem_iff.1 he) with rfl | he
              · exact List.mem_of_getElem? HX.out
              · rw [HHI.out] at he
                exact List.mem_of_mem_take (hisL_mem he)
            obtain ⟨q3, c3, rfl, hc31, hc32⟩ := own_shape hown3
            have HEN : Hid (EnS W3 q3 (insL R x)) := EnS.of_own hown3 (by rw [insL_len, ← HMR.out]) HRR.out
            clear hown3 HCE HRR HC2 hnum
            go_wp2_with fail
            go_roundg (n - (i + 1))
            case measure => omega
            case rel => exact ⟨i + 1, m + 1, insL R x, q3, c3, by go_num, by omega, rfl, by rw [Hid, insL_len, ← HMR.out], by omega, ⟨hc31, hc32⟩, fun h => absurd h (by omega), by rw [Hid, HIL.out], HEN, HGW.out.trans G4.out⟩
    · obtain rfl : n = i := by omega
      have hlt2 : ¬ (n : Int) < (n : Int) := by omega
      have hR : R = hisL l ro := by rw [HHI.out, List.take_of_length_le (by have := HN.out; omega)]
      have HRet : Hid (EnS wr q2 (hisL l ro)) := by rw [← hR]; exact HES
      have HMR2 : Hid (m = (hisL l ro).length) := by rw [← hR]; exact HMR
      clear hR
      go_wp2_with fail
      go_ret
      exact ⟨⟨q2, c2, by rw [HMR2.out]; rfl, ⟨by rw [← HMR2.out]; exact hmc, hmx⟩, HRet.out⟩, HG.out⟩
end Go.Proofs.YtnihclhhbegjhaaGreatDoor
