/- Archives (chapter 10): the reference: put. -/
import Derived.Deep.CutBlock
import Derived.Test.YtnihclhhbegjhaaGreatDoorGMgH
import Derived.Test.YtnihclhhbegjhaaGreatDoorGOvU
import Derived.Test.YtnihclhhbegjhaaGreatDoorGMgL
namespace Go.Proofs.YtnihclhhbegjhaaGreatDoor
open Go.RowKit Go.Lib
set_option linter.unusedSimpArgs false
set_option linter.unusedVariables false
def atE (l : List EnR) (x : EnR) : Nat := (l.takeWhile fun y => befB y x).length
def putE (l : List EnR) (x : EnR) : List EnR := l.take (atE l x) ++ x :: l.drop (atE l x)
theorem atE_le (l : List EnR) (x : EnR) : atE l x ≤ l.length := (List.takeWhile_sublist _).length_le
theorem putE_len (l : List EnR) (x : EnR) : (putE l x).length = l.length + 1 := by
  have := atE_le l x
  unfold putE
  rw [List.length_append, List.length_cons, List.length_take, List.length_drop]
  omega
theorem putE_mem {l : List EnR} {x e : EnR} (h : e ∈ putE l x) : e = x ∨ e ∈ l := by
  unfold putE at h
  rcases List.mem_append.1 h with h | h
  · exact .inr (List.mem_of_mem_take h)
  · rcases List.mem_cons.1 h with h | h
    · exact .inl h
    · exact .inr (List.mem_of_mem_drop h)
theorem atE_of {l : List EnR} {x : EnR} {k : Nat} (hk : k ≤ l.length) (h1 : ∀ j y, j < k → l[j]? = some y → befB y x = true) (h2 : ∀ y, l[k]? = some y → befB y x = false) : atE l x = k := by
  unfold atE
  induction l generalizing k with
  | nil => simp at hk; subst hk; rfl
  | cons z l ih =>
    cases k with
    | zero =>
      have := h2 z rfl
      rw [List.takeWhile_cons, this]; rfl
    | succ k =>
      have := h1 0 z (by omega) rfl
      rw [List.takeWhile_cons, this]
      simp only [if_true, List.length_cons]
      rw [ih (k := k) (by simp at hk; omega) (fun j y hj hy => h1 (j + 1) y (by omega) (by simpa using hy)) (fun y hy => h2 y (by simpa using hy))]
set_option maxHeartbeats 8000000 in
set_option maxRecDepth 100000 in
theorem put_c {w : World} {q : Option Addr} {L : List EnR} {x : EnR} {m c : Nat} (hm : m = L.length) (h1 : m ≤ 1000) (hmc : m ≤ c ∧ c ≤ maxLen) (hq0 : m = 0 → (q = none ∧ c = 0) ∨ ∃ b o, q = some ⟨b, o, none⟩) (hr : EnS w q L) (hx : RowsX w x.p x.n x.cap x.xs) :
    Calls Tryz.prog 66 #[.slice q m c, enV x] w fun e w' => RetEq e w' (putE L x) ∧ Gr w w' := by
  obtain ⟨i0, hi, hz0, hz1, hz2⟩ := info_parts infoEnR
  have HI0 := Lib.hid (And.intro hi (And.intro hz0 (And.intro hz1 hz2)))
  have HRX0 := hr.rowsX
  have HRX : Hid (∀ e ∈ putE L x, RowsX w e.p e.n e.cap e.xs) := fun e he => by
    rcases putE_mem he with rfl | h
    · exact hx
    · exact HRX0 e h
  have HQ : Hid ((q = none ∧ c = 0 ∧ m = 0) ∨ ∃ b o, q = some ⟨b, o, none⟩ ∧ ∀ U, Gr w U → ∀ (i : Nat) (e : EnR), L[i]? = some e → EnAt U b (o + i * 7) e) := by
    rcases Nat.eq_zero_or_pos m with h | h
    · have hL : L = [] := List.eq_nil_of_length_eq_zero (by omega)
      rcases hq0 h with ⟨e1, e2⟩ | ⟨b, o, e1⟩
      · exact .inl ⟨e1, e2, h⟩
      · exact .inr ⟨b, o, e1, fun U _ i e he => by rw [hL] at he; simp at he⟩
    · obtain ⟨b, o, e1, hc⟩ := hr.out (by omega)
      exact .inr ⟨b, o, e1, fun U k i e he => (hc i e he).gr k⟩
  have HMR := Lib.hid hm
  have HR := Lib.hid hr
  obtain ⟨hmc1, hmc2⟩ := hmc
  obtain ⟨W1, hW1, g1, x0, x1, x2, x3, x4, x5, x6⟩ := bx7 w (.string x.de) (.int .i64 x.nu) (.int .i64 x.ck) (.string x.ro) (.int .i64 x.va) (.string x.st) (.slice x.p x.n x.cap) 65
  have HW := Lib.hid hW1
  have HG1 := Lib.hid g1
  obtain ⟨P, hP⟩ : ∃ P, w.heap.size = P := ⟨_, rfl⟩
  rw [hP] at x0 x1 x2 x3 x4 x5 x6
  have HP := Lib.hid hP
  have HXF := Lib.hid (fun U (k : Gr W1 U) => And.intro (k.cell x0) (And.intro (k.cell x1) (And.intro (k.cell x2) (And.intro (k.cell x3) (And.intro (k.cell x4) (And.intro (k.cell x5) (k.cell x6)))))))
  clear hr hm hx hq0 hi hz0 hz1 hz2 hW1 g1 hP x0 x1 x2 x3 x4 x5 x6 HRX0
  unfold enV
  go_enter Tryz.func66, Tryz.ntmps66
  go_upto_region 1 with fail
  rw [HW.out]
  rw [HP.out]
  clear HW HP
  go_upto_block 0 with fail
  obtain ⟨WQ, hWQ⟩ : ∃ V, V = W1 := ⟨_, rfl⟩
  have gQ : Gr W1 WQ := by rw [hWQ]; exact Gr.refl _
  rw [← hWQ]
  clear hWQ
  go_cut [5] from 7 (fun s5 wx => ∃ k : Nat, s5 = .int .i64 (k : Int) ∧ k ≤ m ∧ Hid (atE L x = k) ∧ Hid (Gr W1 wx))
  case first =>
    go_wp2_with fail
    go_loopg [5] m (fun gk s5 wr => ∃ k : Nat, s5 = .int .i64 (k : Int) ∧ gk + k = m ∧ Hid (∀ j y, j < k → L[j]? = some y → befB y x = true) ∧ Hid (Gr W1 wr))
    case atStart => exact ⟨0, rfl, by omega, fun j y hj => by omega, gQ⟩
    case round =>
      obtain ⟨k, rfl, hgk, HA, HG⟩ := hrel
      have g := HG.out
      by_cases hkl : k < m
      · obtain ⟨b2, o2, rfl, hc2⟩ := HR.out.out (by have := HMR.out; omega)
        obtain ⟨y, hy⟩ : ∃ y, L[k]? = some y := ⟨L[k]'(by have := HMR.out; omega), List.getElem?_eq_getElem _⟩
        obtain ⟨y0, y1, y2, y3, y4, y5, y6, _⟩ := (hc2 k y hy).gr HG1.out
        have HYF := Lib.hid (fun U (k : Gr W1 U) => And.intro (k.cell y0) (And.intro (k.cell y1) (And.intro (k.cell y2) (And.intro (k.cell y3) (And.intro (k.cell y4) (And.intro (k.cell y5) (k.cell y6)))))))
        have HBF := Lib.hid (fun U => before_c y x U)
        unfold enV at HBF
        have HY := Lib.hid hy
        have hkl2 : (k : Int) < (m : Int) := by omega
        clear hy hc2 y0 y1 y2 y3 y4 y5 y6
        cases hb : befB y x
        · rw [hb] at HBF
          have HAT : Hid (atE L x = k) := atE_of (by have := HMR.out; omega) HA.out (fun z hz => by rw [HY.out] at hz; cases hz; exact hb)
          go_wp2_with fail
          refine wp_region_held_drew (S := fun U => Gr W1 U) (by kernel_rfl) (g.trans (Gr.refl _).drew) (fun hHeld => ?_)
          have gD := g.trans (Gr.refl wr).drew
          generalize wr.drew = VD at *
          refine wpAnyH_take (i := 0) (v := (.int .i64 (k : Int))) (op_at rfl) (by kernel_rfl) (by kernel_rfl) (by kernel_rfl) (fun _ _ _ h => h) (Or.inl ⟨rfl, fun U hSw => ?_⟩) (by assumption) ?_
          · go_simp; try with_reducible rfl
          (try simp only [Act.put, tz0, tz1, tz2])
          refine wpAnyH_take (i := 1) (v := (.slice (some ⟨b2, o2, none⟩) m c)) (op_at rfl) (by kernel_rfl) (by kernel_rfl) (by kernel_rfl) (fun _ _ _ h => h) (Or.inl ⟨rfl, fun U hSw => ?_⟩) (by assumption) ?_
          · go_simp; try with_reducible rfl
          (try simp only [Act.put, tz0, tz1, tz2])
          refine wpAnyH_take (i := 2) (v := (.int .i64 (m : Int))) (op_at rfl) (by kernel_rfl) (by kernel_rfl) (by kernel_rfl) (fun _ _ _ h => h) (Or.inl ⟨rfl, fun U hSw => ?_⟩) (by assumption) ?_
          · go_simp; try with_reducible rfl
          (try simp only [Act.put, tz0, tz1, tz2])
          refine wpAnyH_take (i := 3) (v := (.bool true)) (op_at rfl) (by kernel_rfl) (by kernel_rfl) (by kernel_rfl) (fun _ _ _ h => h) (Or.inl ⟨rfl, fun U hSw => ?_⟩) (by assumption) ?_
          · go_simp; try with_reducible rfl
          (try simp only [Act.put, tz0, tz1, tz2])
          refine wpAnyH_take (i := 4) (v := (.bool true)) (op_at rfl) (by kernel_rfl) (by kernel_rfl) (by kernel_rfl) (fun _ _ _ h => h) (Or.inl ⟨rfl, fun U hSw => ?_⟩) (by assumption) ?_
          · go_simp; try with_reducible rfl
          (try simp only [Act.put, tz0, tz1, tz2])
          refine wpAnyH_take (i := 5) (v := (.slice (some ⟨b2, o2, none⟩) m c)) (op_at rfl) (by kernel_rfl) (by kernel_rfl) (by kernel_rfl) (fun _ _ _ h => h) (Or.inl ⟨rfl, fun U hSw => ?_⟩) (by assumption) ?_
          · go_simp; try with_reducible rfl
          (try simp only [Act.put, tz0, tz1, tz2])
          refine wpAnyH_take (i := 6) (v := (.int .i64 (k : Int))) (op_at rfl) (by kernel_rfl) (by kernel_rfl) (by kernel_rfl) (fun _ _ _ h => h) (Or.inl ⟨rfl, fun U hSw => ?_⟩) (by assumption) ?_
          · go_simp; try with_reducible rfl
          (try simp only [Act.put, tz0, tz1, tz2])
          refine wpAnyH_take (i := 7) (v := (.pointer (some ⟨b2, o2 + k * 7, none⟩))) (op_at rfl) (by kernel_rfl) (by kernel_rfl) (by kernel_rfl) (fun _ _ _ h => h) (Or.inl ⟨rfl, fun U hSw => ?_⟩) (by assumption) ?_
          · go_simp; try with_reducible rfl
          (try simp only [Act.put, tz0, tz1, tz2])
          refine wpAnyH_take (i := 8) (v := (.agg #[.string y.de, .int .i64 y.nu, .int .i64 y.ck, .string y.ro, .int .i64 y.va, .string y.st, .slice y.p y.n y.cap])) (op_at rfl) (by kernel_rfl) (by kernel_rfl) (by kernel_rfl) (fun _ _ _ h => h) (Or.inl ⟨rfl, fun U hSw => ?_⟩) (by assumption) ?_
          · obtain ⟨q0, q1, q2, q3, q4, q5, q6⟩ := HYF.out U hSw; go_simp; try with_reducible rfl
          (try simp only [Act.put, tz0, tz1, tz2])
          refine wpAnyH_take (i := 9) (v := (.agg #[.string x.de, .int .i64 x.nu, .int .i64 x.ck, .string x.ro, .int .i64 x.va, .string x.st, .slice x.p x.n x.cap])) (op_at rfl) (by kernel_rfl) (by kernel_rfl) (by kernel_rfl) (fun _ _ _ h => h) (Or.inl ⟨rfl, fun U hSw => ?_⟩) (by assumption) ?_
          · obtain ⟨q0, q1, q2, q3, q4, q5, q6⟩ := HXF.out U hSw; go_simp; try with_reducible rfl
          (try simp only [Act.put, tz0, tz1, tz2])
          refine wpAnyH_ready (rs := [10]) (by kernel_rfl) (by simp) ((AllReadyH.cons (op_at rfl) (fun K hK => ?_) AllReadyH.nil))
          go_simp
          refine (HBF.out _).mono ?_
          rintro e V2 ⟨rfl, hg⟩
          go_wp2_with fail
          have g2 := gD.trans hg
          clear hg
          refine hK.out _ _ g2 (fun hHeld => ?_)
          clear hK K
          (try simp only [Act.put, tz0, tz1, tz2])
          refine wpAnyH_take (i := 11) (v := (.bool false)) (op_at rfl) (by kernel_rfl) (by kernel_rfl) (by kernel_rfl) (fun _ _ _ h => h) (Or.inl ⟨rfl, fun U hSw => ?_⟩) (by assumption) ?_
          · go_simp; try with_reducible rfl
          (try simp only [Act.put, tz0, tz1, tz2])
          refine wpAnyH_done (by kernel_rfl) ?_ _
          go_wp2_with fail
          go_meet
          case rel => exact ⟨k, rfl, by omega, HAT, g2⟩
        · rw [hb] at HBF
          have HA2 : Hid (∀ j z, j < k + 1 → L[j]? = some z → befB z x = true) := fun j z hj hz => by
            rcases Nat.lt_or_ge j k with h | h
            · exact HA.out j z h hz
            · obtain rfl : j = k := by omega
              rw [HY.out] at hz; cases hz; exact hb
          have hw : IntKind.i64.wrap ((k : Int) + 1) = (k : Int) + 1 := by rw [IntKind.wrap_i64]; omega
          go_wp2_with fail
          refine wp_region_held_drew (S := fun U => Gr W1 U) (by kernel_rfl) (g.trans (Gr.refl _).drew) (fun hHeld => ?_)
          have gD := g.trans (Gr.refl wr).drew
          generalize wr.drew = VD at *
          refine wpAnyH_take (i := 0) (v := (.int .i64 (k : Int))) (op_at rfl) (by kernel_rfl) (by kernel_rfl) (by kernel_rfl) (fun _ _ _ h => h) (Or.inl ⟨rfl, fun U hSw => ?_⟩) (by assumption) ?_
          · go_simp; try with_reducible rfl
          (try simp only [Act.put, tz0, tz1, tz2])
          refine wpAnyH_take (i := 1) (v := (.slice (some ⟨b2, o2, none⟩) m c)) (op_at rfl) (by kernel_rfl) (by kernel_rfl) (by kernel_rfl) (fun _ _ _ h => h) (Or.inl ⟨rfl, fun U hSw => ?_⟩) (by assumption) ?_
          · go_simp; try with_reducible rfl
          (try simp only [Act.put, tz0, tz1, tz2])
          refine wpAnyH_take (i := 2) (v := (.int .i64 (m : Int))) (op_at rfl) (by kernel_rfl) (by kernel_rfl) (by kernel_rfl) (fun _ _ _ h => h) (Or.inl ⟨rfl, fun U hSw => ?_⟩) (by assumption) ?_
          · go_simp; try with_reducible rfl
          (try simp only [Act.put, tz0, tz1, tz2])
          refine wpAnyH_take (i := 3) (v := (.bool true)) (op_at rfl) (by kernel_rfl) (by kernel_rfl) (by kernel_rfl) (fun _ _ _ h => h) (Or.inl ⟨rfl, fun U hSw => ?_⟩) (by assumption) ?_
          · go_simp; try with_reducible rfl
          (try simp only [Act.put, tz0, tz1, tz2])
          refine wpAnyH_take (i := 4) (v := (.bool true)) (op_at rfl) (by kernel_rfl) (by kernel_rfl) (by kernel_rfl) (fun _ _ _ h => h) (Or.inl ⟨rfl, fun U hSw => ?_⟩) (by assumption) ?_
          · go_simp; try with_reducible rfl
          (try simp only [Act.put, tz0, tz1, tz2])
          refine wpAnyH_take (i := 5) (v := (.slice (some ⟨b2, o2, none⟩) m c)) (op_at rfl) (by kernel_rfl) (by kernel_rfl) (by kernel_rfl) (fun _ _ _ h => h) (Or.inl ⟨rfl, fun U hSw => ?_⟩) (by assumption) ?_
          · go_simp; try with_reducible rfl
          (try simp only [Act.put, tz0, tz1, tz2])
          refine wpAnyH_take (i := 6) (v := (.int .i64 (k : Int))) (op_at rfl) (by kernel_rfl) (by kernel_rfl) (by kernel_rfl) (fun _ _ _ h => h) (Or.inl ⟨rfl, fun U hSw => ?_⟩) (by assumption) ?_
          · go_simp; try with_reducible rfl
          (try simp only [Act.put, tz0, tz1, tz2])
          refine wpAnyH_take (i := 7) (v := (.pointer (some ⟨b2, o2 + k * 7, none⟩))) (op_at rfl) (by kernel_rfl) (by kernel_rfl) (by kernel_rfl) (fun _ _ _ h => h) (Or.inl ⟨rfl, fun U hSw => ?_⟩) (by assumption) ?_
          · go_simp; try with_reducible rfl
          (try simp only [Act.put, tz0, tz1, tz2])
          refine wpAnyH_take (i := 8) (v := (.agg #[.string y.de, .int .i64 y.nu, .int .i64 y.ck, .string y.ro, .int .i64 y.va, .string y.st, .slice y.p y.n y.cap])) (op_at rfl) (by kernel_rfl) (by kernel_rfl) (by kernel_rfl) (fun _ _ _ h => h) (Or.inl ⟨rfl, fun U hSw => ?_⟩) (by assumption) ?_
          · obtain ⟨q0, q1, q2, q3, q4, q5, q6⟩ := HYF.out U hSw; go_simp; try with_reducible rfl
          (try simp only [Act.put, tz0, tz1, tz2])
          refine wpAnyH_take (i := 9) (v := (.agg #[.string x.de, .int .i64 x.nu, .int .i64 x.ck, .string x.ro, .int .i64 x.va, .string x.st, .slice x.p x.n x.cap])) (op_at rfl) (by kernel_rfl) (by kernel_rfl) (by kernel_rfl) (fun _ _ _ h => h) (Or.inl ⟨rfl, fun U hSw => ?_⟩) (by assumption) ?_
          · obtain ⟨q0, q1, q2, q3, q4, q5, q6⟩ := HXF.out U hSw; go_simp; try with_reducible rfl
          (try simp only [Act.put, tz0, tz1, tz2])
          refine wpAnyH_ready (rs := [10]) (by kernel_rfl) (by simp) ((AllReadyH.cons (op_at rfl) (fun K hK => ?_) AllReadyH.nil))
          go_simp
          refine (HBF.out _).mono ?_
          rintro e V2 ⟨rfl, hg⟩
          go_wp2_with fail
          have g2 := gD.trans hg
          clear hg
          refine hK.out _ _ g2 (fun hHeld => ?_)
          clear hK K
          (try simp only [Act.put, tz0, tz1, tz2])
          refine wpAnyH_take (i := 11) (v := (.bool true)) (op_at rfl) (by kernel_rfl) (by kernel_rfl) (by kernel_rfl) (fun _ _ _ h => h) (Or.inl ⟨rfl, fun U hSw => ?_⟩) (by assumption) ?_
          · go_simp; try with_reducible rfl
          (try simp only [Act.put, tz0, tz1, tz2])
          refine wpAnyH_done (by kernel_rfl) ?_ _
          go_wp2_with fail
          go_roundg (gk - 1)
          case measure => omega
          case rel => exact ⟨k + 1, by go_num, by omega, HA2, g2⟩
      · obtain rfl : m = k := by omega
        have hkl2 : ¬ (m : Int) < (m : Int) := by omega
        have HAT : Hid (atE L x = m) := atE_of (by have := HMR.out; omega) HA.out (fun z hz => by have := (List.getElem?_eq_some_iff.1 hz).1; have := HMR.out; omega)
        go_wp2_with fail
        refine wp_region_held_drew (S := fun U => Gr W1 U) (by kernel_rfl) (g.trans (Gr.refl _).drew) (fun hHeld => ?_)
        have gD := g.trans (Gr.refl wr).drew
        generalize wr.drew = VD at *
        refine wpAnyH_take (i := 0) (v := (.int .i64 (m : Int))) (op_at rfl) (by kernel_rfl) (by kernel_rfl) (by kernel_rfl) (fun _ _ _ h => h) (Or.inl ⟨rfl, fun U hSw => ?_⟩) (by assumption) ?_
        · go_simp; try with_reducible rfl
        (try simp only [Act.put, tz0, tz1, tz2])
        refine wpAnyH_take (i := 1) (v := (.slice q m c)) (op_at rfl) (by kernel_rfl) (by kernel_rfl) (by kernel_rfl) (fun _ _ _ h => h) (Or.inl ⟨rfl, fun U hSw => ?_⟩) (by assumption) ?_
        · go_simp; try with_reducible rfl
        (try simp only [Act.put, tz0, tz1, tz2])
        refine wpAnyH_take (i := 2) (v := (.int .i64 (m : Int))) (op_at rfl) (by kernel_rfl) (by kernel_rfl) (by kernel_rfl) (fun _ _ _ h => h) (Or.inl ⟨rfl, fun U hSw => ?_⟩) (by assumption) ?_
        · go_simp; try with_reducible rfl
        (try simp only [Act.put, tz0, tz1, tz2])
        refine wpAnyH_take (i := 3) (v := (.bool false)) (op_at rfl) (by kernel_rfl) (by kernel_rfl) (by kernel_rfl) (fun _ _ _ h => h) (Or.inl ⟨rfl, fun U hSw => ?_⟩) (by assumption) ?_
        · go_simp; try with_reducible rfl
        (try simp only [Act.put, tz0, tz1, tz2])
        refine wpAnyH_take (i := 4) (v := (.bool false)) (op_at rfl) (by kernel_rfl) (by kernel_rfl) (by kernel_rfl) (fun _ _ _ h => h) (Or.inl ⟨rfl, fun U hSw => ?_⟩) (by assumption) ?_
        · go_simp; try with_reducible rfl
        (try simp only [Act.put, tz0, tz1, tz2])
        refine wpAnyH_take (i := 5) (v := undef) (op_at rfl) (by kernel_rfl) (by kernel_rfl) (by kernel_rfl) (fun _ _ _ h => h) (Or.inr ⟨rfl, rfl⟩) (by assumption) ?_
        (try simp only [Act.put, tz0, tz1, tz2])
        refine wpAnyH_take (i := 6) (v := undef) (op_at rfl) (by kernel_rfl) (by kernel_rfl) (by kernel_rfl) (fun _ _ _ h => h) (Or.inr ⟨rfl, rfl⟩) (by assumption) ?_
        (try simp only [Act.put, tz0, tz1, tz2])
        refine wpAnyH_take (i := 7) (v := undef) (op_at rfl) (by kernel_rfl) (by kernel_rfl) (by kernel_rfl) (fun _ _ _ h => h) (Or.inr ⟨rfl, rfl⟩) (by assumption) ?_
        (try simp only [Act.put, tz0, tz1, tz2])
        refine wpAnyH_take (i := 8) (v := undef) (op_at rfl) (by kernel_rfl) (by kernel_rfl) (by kernel_rfl) (fun _ _ _ h => h) (Or.inr ⟨rfl, rfl⟩) (by assumption) ?_
        (try simp only [Act.put, tz0, tz1, tz2])
        refine wpAnyH_take (i := 9) (v := undef) (op_at rfl) (by kernel_rfl) (by kernel_rfl) (by kernel_rfl) (fun _ _ _ h => h) (Or.inr ⟨rfl, rfl⟩) (by assumption) ?_
        (try simp only [Act.put, tz0, tz1, tz2])
        refine wpAnyH_take (i := 10) (v := undef) (op_at rfl) (by kernel_rfl) (by kernel_rfl) (by kernel_rfl) (fun _ _ _ h => h) (Or.inr ⟨rfl, rfl⟩) (by assumption) ?_
        (try simp only [Act.put, tz0, tz1, tz2])
        refine wpAnyH_take (i := 11) (v := (.bool false)) (op_at rfl) (by kernel_rfl) (by kernel_rfl) (by kernel_rfl) (fun _ _ _ h => h) (Or.inl ⟨rfl, fun U hSw => ?_⟩) (by assumption) ?_
        · go_simp; try with_reducible rfl
        (try simp only [Act.put, tz0, tz1, tz2])
        refine wpAnyH_done (by kernel_rfl) ?_ _
        go_wp2_with fail
        go_meet
        case rel => exact ⟨m, rfl, by omega, HAT, gD⟩
  case rest =>
    obtain ⟨k, rfl, hkm, HAT, HGC⟩ := hcut
    have HIN : Hid (putE L x = L.take k ++ x :: L.drop k) := by rw [Hid]; unfold putE; rw [HAT.out]
    obtain ⟨hi, hz0, hz1, hz2⟩ := HI0.out
    have gE := (Gr.refl wc).alloc (.cells #[] 65)
    have hE : (wc.alloc (.cells #[] 65)).heap[wc.heap.size]? = some (.cells #[] 65 (0, 0)) := heap_alloc_new wc _
    rcases HQ.out with ⟨rfl, rfl, rfl⟩ | ⟨b2, o2, rfl, hc20⟩
    · obtain rfl : k = 0 := by omega
      clear HQ
      have HC1 := Lib.hid (show ∀ ad, (none : Option Addr) = some ad → ∀ j u, (enCs (L.take 0))[j]? = some u → (wc.alloc (.cells #[] 65)).cell? (ad.add j) = some u from fun ad e => by cases e)
      have HC2 := Lib.hid (show ∀ U, Gr wc U → ∀ ad, (none : Option Addr) = some ad → ∀ j u, (enCs (L.drop 0))[j]? = some u → U.cell? (ad.add j) = some u from fun U g ad e => by cases e)
      have HL1 := Lib.hid (show (enCs (L.take 0)).length = 0 * 7 by rw [enCs_len, List.length_take]; have := HMR.out; omega)
      have HL2 := Lib.hid (show (enCs (L.drop 0)).length = (0) * 7 by rw [enCs_len, List.length_drop]; have := HMR.out; omega)
      go_wp2_with (at_builtin; refine wpList_append_any rfl _ _ 30 rfl wc.heap.size 65 i0 (.agg #[.string ⟨#[]⟩, .int .i64 0, .int .i64 0, .string ⟨#[]⟩, .int .i64 0, .string ⟨#[]⟩, .slice none 0 0]) 7 96 Tryz.underlying30 hi hz0 hz1 hz2 rfl (by decide) _ 0 [] rfl (own_emptyT hE (Nat.le_refl _)) none 0 0 (by intro h; first | rfl | cases h) (enCs (L.take 0)) rfl HL1.out HC1.out (one_enCs _) (by unfold maxLen; omega) (by omega) (by simp) ?_; intro v1 V1 hown1 hgg1)
      have G1 := Lib.hid (hgg1 wc gE (Nat.le_refl _))
      have gd := (Gr.refl V1).drew
      have G1d := Lib.hid (G1.out.trans gd)
      have hownV2 := own_kept hown1 gd
      clear hgg1 hown1 gd hE gE HC1
      refine wp_region_held_drew (S := fun U => Gr W1 U) (by kernel_rfl) (HGC.out.trans G1d.out) (fun hHeld => ?_)
      generalize V1.drew = V2 at *
      refine wpAnyH_take (i := 0) (v := v1) (op_at rfl) (by kernel_rfl) (by kernel_rfl) (by kernel_rfl) (fun _ _ _ h => h) (Or.inl ⟨rfl, fun U hSw => ?_⟩) (by assumption) ?_
      · go_simp; try with_reducible rfl
      (try simp only [Act.put, tz0, tz1, tz2])
      refine wpAnyH_take (i := 1) (v := (.agg #[.string x.de, .int .i64 x.nu, .int .i64 x.ck, .string x.ro, .int .i64 x.va, .string x.st, .slice x.p x.n x.cap])) (op_at rfl) (by kernel_rfl) (by kernel_rfl) (by kernel_rfl) (fun _ _ _ h => h) (Or.inl ⟨rfl, fun U hSw => ?_⟩) (by assumption) ?_
      · obtain ⟨q0, q1, q2, q3, q4, q5, q6⟩ := HXF.out U hSw; go_simp; try with_reducible rfl
      (try simp only [Act.put, tz0, tz1, tz2])
      refine wpAnyH_take (i := 4) (v := (.slice none 0 0)) (op_at rfl) (by kernel_rfl) (by kernel_rfl) (by kernel_rfl) (fun _ _ _ h => h) (Or.inl ⟨rfl, fun U hSw => ?_⟩) (by assumption) ?_
      · go_simp; try with_reducible rfl
      (try simp only [Act.put, tz0, tz1, tz2])
      refine wpAnyH_take (i := 5) (v := (.int .i64 (0 : Int))) (op_at rfl) (by kernel_rfl) (by kernel_rfl) (by kernel_rfl) (fun _ _ _ h => h) (Or.inl ⟨rfl, fun U hSw => ?_⟩) (by assumption) ?_
      · go_simp; try with_reducible rfl
      (try simp only [Act.put, tz0, tz1, tz2])
      refine wpAnyH_take (i := 6) (v := (.slice none (0) (0))) (op_at rfl) (by kernel_rfl) (by kernel_rfl) (by kernel_rfl) (fun _ _ _ h => h) (Or.inl ⟨rfl, fun U hSw => ?_⟩) (by assumption) ?_
      · go_simp; try with_reducible rfl
      (try simp only [Act.put, tz0, tz1, tz2])
      refine wpAnyH_ready (rs := [2]) (by kernel_rfl) (by simp) ((AllReadyH.cons (op_at rfl) (fun K hK => ?_) AllReadyH.nil))
      go_simp
      have gX := (Gr.refl V2).alloc (.cells #[.string x.de, .int .i64 x.nu, .int .i64 x.ck, .string x.ro, .int .i64 x.va, .string x.st, .slice x.p x.n x.cap] 65)
      have hXc := cell_seven V2 (.string x.de) (.int .i64 x.nu) (.int .i64 x.ck) (.string x.ro) (.int .i64 x.va) (.string x.st) (.slice x.p x.n x.cap) 65
      have hownV3 := own_kept hownV2 gX
      have G3 := Lib.hid (G1d.out.trans gX)
      refine hK.out _ _ (HGC.out.trans G3.out) (fun hHeld => ?_)
      clear hK K gX hownV2
      (try simp only [Act.put, tz0, tz1, tz2])
      generalize V2.alloc (.cells #[.string x.de, .int .i64 x.nu, .int .i64 x.ck, .string x.ro, .int .i64 x.va, .string x.st, .slice x.p x.n x.cap] 65) = V3 at *
      refine wpAnyH_ready (rs := [3]) (by kernel_rfl) (by simp) ((AllReadyH.cons (op_at rfl) (fun K hK => ?_) AllReadyH.nil))
      rw [if_pos (show Region.wanted _ _ = true from rfl)]
      refine step_append_any _ _ 30 rfl wc.heap.size 65 i0 (.agg #[.string ⟨#[]⟩, .int .i64 0, .int .i64 0, .string ⟨#[]⟩, .int .i64 0, .string ⟨#[]⟩, .slice none 0 0]) 7 96 Tryz.underlying30 hi hz0 hz1 hz2 rfl (by decide) v1 (0 + 0) _ rfl hownV3 (some ⟨V2.heap.size, 0, none⟩) 1 1 (by intro h; cases h) [.string x.de, .int .i64 x.nu, .int .i64 x.ck, .string x.ro, .int .i64 x.va, .string x.st, .slice x.p x.n x.cap] rfl rfl (fun ad e j u hu => by cases e; exact hXc j u hu) (one_seven _ _ _ _ _ _ _ _ _) (by unfold maxLen; omega) (by omega) G3.out.size (fun v2 V4 hown2 hgg2 => ?_)
      have G2 := Lib.hid (hgg2 wc G3.out (Nat.le_refl _))
      refine hK.out _ _ (HGC.out.trans G2.out) (fun hHeld => ?_)
      clear hK K hownV3 hgg2 hXc
      (try simp only [Act.put, tz0, tz1, tz2])
      refine wpAnyH_ready (rs := [7]) (by kernel_rfl) (by simp) ((AllReadyH.cons (op_at rfl) (fun K hK => ?_) AllReadyH.nil))
      rw [if_pos (show Region.wanted _ _ = true from rfl)]
      refine step_append_any _ _ 30 rfl wc.heap.size 65 i0 (.agg #[.string ⟨#[]⟩, .int .i64 0, .int .i64 0, .string ⟨#[]⟩, .int .i64 0, .string ⟨#[]⟩, .slice none 0 0]) 7 96 Tryz.underlying30 hi hz0 hz1 hz2 rfl (by decide) v2 (0 + 0 + 1) _ rfl hown2 none (0) (0) (by intro h; first | rfl | cases h) (enCs (L.drop 0)) rfl HL2.out (HC2.out _ G2.out) (one_enCs _) (by unfold maxLen; omega) (by omega) G2.out.size (fun v3 V5 hown3 hgg3 => ?_)
      have G4 := Lib.hid (hgg3 wc G2.out (Nat.le_refl _))
      refine hK.out _ _ (HGC.out.trans G4.out) (fun hHeld => ?_)
      clear hK K hown2 hgg3
      (try simp only [Act.put, tz0, tz1, tz2])
      refine wpAnyH_take (i := 8) (v := v3) (op_at rfl) (by kernel_rfl) (by kernel_rfl) (by kernel_rfl) (fun _ _ _ h => h) (Or.inl ⟨rfl, fun U hSw => ?_⟩) (by assumption) ?_
      · go_simp; try with_reducible rfl
      (try simp only [Act.put, tz0, tz1, tz2])
      refine wpAnyH_done (by kernel_rfl) ?_ _
      have HCE : Hid ([] ++ enCs (L.take 0) ++ [.string x.de, .int .i64 x.nu, .int .i64 x.ck, .string x.ro, .int .i64 x.va, .string x.st, .slice x.p x.n x.cap] ++ enCs (L.drop 0) = enCs (putE L x)) := by
        rw [Hid, HIN.out]
        simp [enCs, enC]
      have hnum : 0 + 0 + 1 + (0) = 0 + 1 := by omega
      rw [HCE.out, hnum] at hown3
      have HRR : Hid (∀ e ∈ putE L x, RowsX V5 e.p e.n e.cap e.xs) := fun e he => (HRX.out e he).gr (HG1.out.trans (HGC.out.trans G4.out))
      obtain ⟨q3, c3, rfl, hc31, hc32⟩ := own_shape hown3
      have HPL : Hid ((putE L x).length = 0 + 1) := by rw [Hid, putE_len, ← HMR.out]
      have HEN : Hid (EnS V5 q3 (putE L x)) := EnS.of_own hown3 HPL.out HRR.out
      clear hown3 HCE HRR HC2 hnum
      go_wp2_with fail
      go_ret
      exact ⟨⟨q3, c3, by rw [HPL.out]; rfl, by rw [HPL.out]; exact ⟨hc31, hc32⟩, HEN.out⟩, HG1.out.trans (HGC.out.trans G4.out)⟩
    · have hc2 := hc20 wc (HG1.out.trans HGC.out)
      clear HQ hc20
      have hkc : k ≤ c := by omega
      have hkc2 : ¬ c < k := by omega
      have hz : decide ((k : Int) < 0) = false := decide_eq_false (by omega)
      obtain ⟨qq, hqq, hqe⟩ : ∃ qq, (if c = k then some (⟨b2, o2, none⟩ : Addr) else some ⟨b2, o2 + k * 7, none⟩) = some qq ∧ (k < c → qq = ⟨b2, o2 + k * 7, none⟩) := by
        by_cases e : c = k
        · exact ⟨_, by rw [if_pos e], fun h => by omega⟩
        · exact ⟨_, by rw [if_neg e], fun _ => rfl⟩
      have HQE := Lib.hid hqe
      clear hqe
      have HC1 := Lib.hid (show ∀ ad, ((some ⟨b2, o2, none⟩) : Option Addr) = some ad → ∀ j u, (enCs (L.take k))[j]? = some u → (wc.alloc (.cells #[] 65)).cell? (ad.add j) = some u from fun ad e => by cases e; exact en_cells (fun j e he => (hc2 j e (by rw [List.getElem?_take] at he; split at he <;> first | exact he | cases he)).gr gE))
      have HC2 := Lib.hid (show ∀ U, Gr wc U → ∀ ad, ((some qq) : Option Addr) = some ad → ∀ j u, (enCs (L.drop k))[j]? = some u → U.cell? (ad.add j) = some u from fun U g ad e j u hu => by
          have hjl := (List.getElem?_eq_some_iff.1 hu).1
          rw [enCs_len, List.length_drop] at hjl
          cases e
          rw [HQE.out (by have := HMR.out; omega)]
          exact en_cells (fun j e he => by
            rw [List.getElem?_drop] at he
            have := (hc2 (k + j) e he).gr g
            rwa [show o2 + (k + j) * 7 = o2 + k * 7 + j * 7 by omega] at this) j u hu)
      have HL1 := Lib.hid (show (enCs (L.take k)).length = k * 7 by rw [enCs_len, List.length_take]; have := HMR.out; omega)
      have HL2 := Lib.hid (show (enCs (L.drop k)).length = (m - k) * 7 by rw [enCs_len, List.length_drop]; have := HMR.out; omega)
      go_wp2_with (at_builtin; refine wpList_append_any rfl _ _ 30 rfl wc.heap.size 65 i0 (.agg #[.string ⟨#[]⟩, .int .i64 0, .int .i64 0, .string ⟨#[]⟩, .int .i64 0, .string ⟨#[]⟩, .slice none 0 0]) 7 96 Tryz.underlying30 hi hz0 hz1 hz2 rfl (by decide) _ 0 [] rfl (own_emptyT hE (Nat.le_refl _)) (some ⟨b2, o2, none⟩) k c (by intro h; first | rfl | cases h) (enCs (L.take k)) rfl HL1.out HC1.out (one_enCs _) (by unfold maxLen; omega) (by omega) (by simp) ?_; intro v1 V1 hown1 hgg1)
      have G1 := Lib.hid (hgg1 wc gE (Nat.le_refl _))
      have gd := (Gr.refl V1).drew
      have G1d := Lib.hid (G1.out.trans gd)
      have hownV2 := own_kept hown1 gd
      clear hgg1 hown1 gd hE gE HC1
      refine wp_region_held_drew (S := fun U => Gr W1 U) (by kernel_rfl) (HGC.out.trans G1d.out) (fun hHeld => ?_)
      generalize V1.drew = V2 at *
      refine wpAnyH_take (i := 0) (v := v1) (op_at rfl) (by kernel_rfl) (by kernel_rfl) (by kernel_rfl) (fun _ _ _ h => h) (Or.inl ⟨rfl, fun U hSw => ?_⟩) (by assumption) ?_
      · go_simp; try with_reducible rfl
      (try simp only [Act.put, tz0, tz1, tz2])
      refine wpAnyH_take (i := 1) (v := (.agg #[.string x.de, .int .i64 x.nu, .int .i64 x.ck, .string x.ro, .int .i64 x.va, .string x.st, .slice x.p x.n x.cap])) (op_at rfl) (by kernel_rfl) (by kernel_rfl) (by kernel_rfl) (fun _ _ _ h => h) (Or.inl ⟨rfl, fun U hSw => ?_⟩) (by assumption) ?_
      · obtain ⟨q0, q1, q2, q3, q4, q5, q6⟩ := HXF.out U hSw; go_simp; try with_reducible rfl
      (try simp only [Act.put, tz0, tz1, tz2])
      refine wpAnyH_take (i := 4) (v := (.slice (some ⟨b2, o2, none⟩) m c)) (op_at rfl) (by kernel_rfl) (by kernel_rfl) (by kernel_rfl) (fun _ _ _ h => h) (Or.inl ⟨rfl, fun U hSw => ?_⟩) (by assumption) ?_
      · go_simp; try with_reducible rfl
      (try simp only [Act.put, tz0, tz1, tz2])
      refine wpAnyH_take (i := 5) (v := (.int .i64 (k : Int))) (op_at rfl) (by kernel_rfl) (by kernel_rfl) (by kernel_rfl) (fun _ _ _ h => h) (Or.inl ⟨rfl, fun U hSw => ?_⟩) (by assumption) ?_
      · go_simp; try with_reducible rfl
      (try simp only [Act.put, tz0, tz1, tz2])
      refine wpAnyH_take (i := 6) (v := (.slice (some qq) (m - k) (c - k))) (op_at rfl) (by kernel_rfl) (by kernel_rfl) (by kernel_rfl) (fun _ _ _ h => h) (Or.inl ⟨rfl, fun U hSw => ?_⟩) (by assumption) ?_
      · go_simp; try with_reducible rfl
      (try simp only [Act.put, tz0, tz1, tz2])
      refine wpAnyH_ready (rs := [2]) (by kernel_rfl) (by simp) ((AllReadyH.cons (op_at rfl) (fun K hK => ?_) AllReadyH.nil))
      go_simp
      have gX := (Gr.refl V2).alloc (.cells #[.string x.de, .int .i64 x.nu, .int .i64 x.ck, .string x.ro, .int .i64 x.va, .string x.st, .slice x.p x.n x.cap] 65)
      have hXc := cell_seven V2 (.string x.de) (.int .i64 x.nu) (.int .i64 x.ck) (.string x.ro) (.int .i64 x.va) (.string x.st) (.slice x.p x.n x.cap) 65
      have hownV3 := own_kept hownV2 gX
      have G3 := Lib.hid (G1d.out.trans gX)
      refine hK.out _ _ (HGC.out.trans G3.out) (fun hHeld => ?_)
      clear hK K gX hownV2
      (try simp only [Act.put, tz0, tz1, tz2])
      generalize V2.alloc (.cells #[.string x.de, .int .i64 x.nu, .int .i64 x.ck, .string x.ro, .int .i64 x.va, .string x.st, .slice x.p x.n x.cap] 65) = V3 at *
      refine wpAnyH_ready (rs := [3]) (by kernel_rfl) (by simp) ((AllReadyH.cons (op_at rfl) (fun K hK => ?_) AllReadyH.nil))
      rw [if_pos (show Region.wanted _ _ = true from rfl)]
      refine step_append_any _ _ 30 rfl wc.heap.size 65 i0 (.agg #[.string ⟨#[]⟩, .int .i64 0, .int .i64 0, .string ⟨#[]⟩, .int .i64 0, .string ⟨#[]⟩, .slice none 0 0]) 7 96 Tryz.underlying30 hi hz0 hz1 hz2 rfl (by decide) v1 (0 + k) _ rfl hownV3 (some ⟨V2.heap.size, 0, none⟩) 1 1 (by intro h; cases h) [.string x.de, .int .i64 x.nu, .int .i64 x.ck, .string x.ro, .int .i64 x.va, .string x.st, .slice x.p x.n x.cap] rfl rfl (fun ad e j u hu => by cases e; exact hXc j u hu) (one_seven _ _ _ _ _ _ _ _ _) (by unfold maxLen; omega) (by omega) G3.out.size (fun v2 V4 hown2 hgg2 => ?_)
      have G2 := Lib.hid (hgg2 wc G3.out (Nat.le_refl _))
      refine hK.out _ _ (HGC.out.trans G2.out) (fun hHeld => ?_)
      clear hK K hownV3 hgg2 hXc
      (try simp only [Act.put, tz0, tz1, tz2])
      refine wpAnyH_ready (rs := [7]) (by kernel_rfl) (by simp) ((AllReadyH.cons (op_at rfl) (fun K hK => ?_) AllReadyH.nil))
      rw [if_pos (show Region.wanted _ _ = true from rfl)]
      refine step_append_any _ _ 30 rfl wc.heap.size 65 i0 (.agg #[.string ⟨#[]⟩, .int .i64 0, .int .i64 0, .string ⟨#[]⟩, .int .i64 0, .string ⟨#[]⟩, .slice none 0 0]) 7 96 Tryz.underlying30 hi hz0 hz1 hz2 rfl (by decide) v2 (0 + k + 1) _ rfl hown2 (some qq) (m - k) (c - k) (by intro h; first | rfl | cases h) (enCs (L.drop k)) rfl HL2.out (HC2.out _ G2.out) (one_enCs _) (by unfold maxLen; omega) (by omega) G2.out.size (fun v3 V5 hown3 hgg3 => ?_)
      have G4 := Lib.hid (hgg3 wc G2.out (Nat.le_refl _))
      refine hK.out _ _ (HGC.out.trans G4.out) (fun hHeld => ?_)
      clear hK K hown2 hgg3
      (try simp only [Act.put, tz0, tz1, tz2])
      refine wpAnyH_take (i := 8) (v := v3) (op_at rfl) (by kernel_rfl) (by kernel_rfl) (by kernel_rfl) (fun _ _ _ h => h) (Or.inl ⟨rfl, fun U hSw => ?_⟩) (by assumption) ?_
      · go_simp; try with_reducible rfl
      (try simp only [Act.put, tz0, tz1, tz2])
      refine wpAnyH_done (by kernel_rfl) ?_ _
      have HCE : Hid ([] ++ enCs (L.take k) ++ [.string x.de, .int .i64 x.nu, .int .i64 x.ck, .string x.ro, .int .i64 x.va, .string x.st, .slice x.p x.n x.cap] ++ enCs (L.drop k) = enCs (putE L x)) := by
        rw [Hid, HIN.out]
        simp [enCs, enC]
      have hnum : 0 + k + 1 + (m - k) = m + 1 := by omega
      rw [HCE.out, hnum] at hown3
      have HRR : Hid (∀ e ∈ putE L x, RowsX V5 e.p e.n e.cap e.xs) := fun e he => (HRX.out e he).gr (HG1.out.trans (HGC.out.trans G4.out))
      obtain ⟨q3, c3, rfl, hc31, hc32⟩ := own_shape hown3
      have HPL : Hid ((putE L x).length = m + 1) := by rw [Hid, putE_len, ← HMR.out]
      have HEN : Hid (EnS V5 q3 (putE L x)) := EnS.of_own hown3 HPL.out HRR.out
      clear hown3 HCE HRR HC2 hnum
      go_wp2_with fail
      go_ret
      exact ⟨⟨q3, c3, by rw [HPL.out]; rfl, by rw [HPL.out]; exact ⟨hc31, hc32⟩, HEN.out⟩, HG1.out.trans (HGC.out.trans G4.out)⟩
end Go.Proofs.YtnihclhhbegjhaaGreatDoor
namespace Go.Proofs.YtnihclhhbegjhaaGreatDoor
open Go.RowKit Go.Lib
set_option linter.unusedSimpArgs false
set_option linter.unusedVariables false
structure RetFi (e : Ending) (l : List EnR) (y : EnR) : Prop where
  mk' ::
  out : (lookM l y = none ∧ e = .returned (.int .i64 (-1))) ∨ ∃ (k : Nat) (x : EnR), e = .returned (.int .i64 (k : Int)) ∧ l[k]? = some x ∧ lookM l y = some x
theorem look_at {l : List EnR} {y x : EnR} {k : Nat} (hx : l[k]? = some x) (h1 : ∀ (j : Nat) (z : EnR), j < k → l[j]? = some z → smk y z = false) (h2 : smk y x = true) : lookM l y = some x := by
  unfold lookM
  rw [List.find?_eq_some_iff_getElem]
  obtain ⟨p, e⟩ := List.getElem?_eq_some_iff.1 hx
  refine ⟨h2, k, p, e, fun j hj => ?_⟩
  rw [h1 j _ hj (List.getElem?_eq_getElem (by omega))]; rfl
theorem look_none {l : List EnR} {y : EnR} (h : ∀ (j : Nat) (z : EnR), l[j]? = some z → smk y z = false) : lookM l y = none := by
  unfold lookM
  rw [List.find?_eq_none]
  intro x hx
  obtain ⟨j, hj⟩ := List.mem_iff_getElem?.1 hx
  rw [h j x hj]; simp
theorem own_q0 {w : World} {b s n c : Nat} {T : TypeId} {q : Option Addr} {xs : List Value} (h : w.ownsRow b T s (.slice q n c) n xs) : (q = none ∧ c = 0) ∨ ∃ b o, q = some ⟨b, o, none⟩ := by
  rcases h.2 with ⟨e, _⟩ | ⟨g, cap, cur, e, _⟩
  · simp only [Value.slice.injEq] at e
    exact .inl ⟨e.1, e.2.2⟩
  · simp only [Value.slice.injEq] at e
    exact .inr ⟨g, 0, e.1⟩
set_option maxHeartbeats 4000000 in
set_option maxRecDepth 100000 in
theorem find_c {w : World} {q : Option Addr} {l : List EnR} {n c : Nat} (y : EnR) (hn : n = l.length) (h1 : n ≤ 1000) (hr : EnS w q l) :
    Calls Tryz.prog 36 #[.slice q n c, .string y.de, .int .i64 y.nu] w fun e w' => RetFi e l y ∧ Gr w w' := by
  have HN := Lib.hid hn
  have HR := Lib.hid hr.out
  clear hn hr
  go_enter Tryz.func36, Tryz.ntmps36
  go_wp2_with fail
  go_loopg [7] n (fun gk s7 wr => ∃ i : Nat, s7 = .int .i64 (i : Int) ∧ gk + i = n ∧ Hid (∀ j z, j < i → l[j]? = some z → smk y z = false) ∧ Hid (Gr w wr))
  case atStart => exact ⟨0, rfl, by omega, fun j z hj => by omega, Gr.refl _⟩
  case round =>
    obtain ⟨i, rfl, hgk, HJ, HG⟩ := hrel
    by_cases hlt : i < n
    · obtain ⟨x, hx⟩ : ∃ x, l[i]? = some x := ⟨l[i]'(by have := HN.out; omega), List.getElem?_eq_getElem _⟩
      obtain ⟨b, off, rfl, hc⟩ := HR.out (by have := HN.out; omega)
      obtain ⟨a0, a1, a2, a3, a4, a5, a6, _⟩ := (hc i x hx).gr HG.out
      have hlt2 : (i : Int) < (n : Int) := by omega
      have HX := Lib.hid hx
      have HQ : Hid ((x.de.toList == y.de.toList) = true ↔ x.de = y.de) := baEq
      clear hx hc
      have HJS : Hid (smk y x = false → ∀ j z, j < i + 1 → l[j]? = some z → smk y z = false) := fun h0 j z hj hz => by
        rcases Nat.lt_or_ge j i with h | h
        · exact HJ.out j z h hz
        · obtain rfl : j = i := by omega
          rw [HX.out] at hz; cases hz; exact h0
      have hfalse : ∀ P : Prop, (smk y x = true → False) → smk y x = false := fun _ h => by cases hh : smk y x with | false => rfl | true => exact (h hh).elim
      cases hq : (x.de.toList == y.de.toList)
      · rw [hq] at HQ
        have HJ2 := Lib.hid (HJS.out (hfalse True (fun h => by have := HQ.out.2 (smk_iff.1 h).1.symm; cases this)))
        clear hfalse HJS HQ
        go_wp2_with fail
        go_roundg (gk - 1)
        case measure => omega
        case rel => exact ⟨i + 1, by go_num, by omega, HJ2.out, HG⟩
      · rw [hq] at HQ
        have HDE : Hid (x.de = y.de) := HQ.out.1 rfl
        by_cases hu : x.nu = y.nu
        · have hu1 : (x.nu == y.nu) = true := beq_iff_eq.2 hu
          have HLK : Hid (lookM l y = some x) := look_at HX.out HJ.out (smk_iff.2 ⟨HDE.out.symm, hu.symm⟩)
          clear hfalse HJS HQ hu
          go_wp2_with fail
          go_ret
          exact ⟨⟨.inr ⟨i, x, rfl, HX.out, HLK.out⟩⟩, HG.out⟩
        · have hu1 : (x.nu == y.nu) = false := beq_eq_false_iff_ne.2 hu
          have HJ2 := Lib.hid (HJS.out (hfalse True (fun h => hu (smk_iff.1 h).2.symm)))
          clear hfalse HJS HQ hu
          go_wp2_with fail
          go_roundg (gk - 1)
          case measure => omega
          case rel => exact ⟨i + 1, by go_num, by omega, HJ2.out, HG⟩
    · obtain rfl : n = i := by omega
      have hlt2 : ¬ (n : Int) < (n : Int) := by omega
      have HLK : Hid (lookM l y = none) := look_none (fun j z hz => HJ.out j z (by have := (List.getElem?_eq_some_iff.1 hz).1; have := HN.out; omega) hz)
      go_wp2_with fail
      go_ret
      exact ⟨⟨.inl ⟨HLK.out, rfl⟩⟩, HG.out⟩
theorem noM {a : List EnR} {z : EnR} : lookM a z = none ↔ ∀ x ∈ a, ¬ (z.de = x.de ∧ z.nu = x.nu) := by
  unfold lookM
  rw [List.find?_eq_none]
  exact ⟨fun h x hx e => h x hx (smk_iff.2 e), fun h x hx e => h x hx (smk_iff.1 e)⟩
theorem mkO_anti (a b : EnR) : mkO a b = - mkO b a := by
  unfold mkO
  rw [firstE_two, firstE_two, cmpS_neg a.de b.de]
  have hz : cmpZ a.nu b.nu = - cmpZ b.nu a.nu := by
    unfold cmpZ
    by_cases h3 : a.nu < b.nu <;> by_cases h4 : b.nu < a.nu <;> simp [h3, h4] <;> omega
  rw [hz]
  by_cases h5 : cmpS b.de a.de = 0
  · rw [h5]; simp
    split <;> omega
  · rw [if_neg h5, if_neg (by omega)]
theorem mkO_zero {a b : EnR} (h : mkO a b = 0) : a.de = b.de ∧ a.nu = b.nu := by
  unfold mkO at h
  rw [firstE_two] at h
  by_cases h5 : cmpS a.de b.de = 0
  · rw [if_pos h5] at h
    have hd : a.de = b.de := by
      unfold cmpS at h5
      by_cases h1 : ltS a.de b.de = true
      · rw [if_pos h1] at h5; omega
      · rw [if_neg h1] at h5
        have h1' : ltS a.de b.de = false := by simpa using h1
        rw [h1'] at h5
        by_cases h2 : (a.de.toList == b.de.toList) = true
        · exact baI (beq_iff_eq.1 h2)
        · have h2' : (a.de.toList == b.de.toList) = false := by simpa using h2
          rw [h2'] at h5; simp at h5
    refine ⟨hd, cmpZ_zero ?_⟩
    split at h <;> assumption
  · rw [if_neg h5] at h; exact absurd h h5
theorem befB_mk {a b : EnR} : befB a b = true ↔ mkO a b < 0 := by
  rw [← mkO_neg]; simp
theorem befB_tri {a b : EnR} (h : befB a b = false) (hn : ¬ (b.de = a.de ∧ b.nu = a.nu)) : befB b a = true := by
  rw [befB_mk]
  have h1 : ¬ mkO a b < 0 := fun h2 => by rw [← befB_mk, h] at h2; cases h2
  have h2 : ¬ mkO a b = 0 := fun h3 => hn ⟨(mkO_zero h3).1.symm, (mkO_zero h3).2.symm⟩
  have := mkO_anti a b
  omega
theorem befB_cong {x y z : EnR} (h : befB y z = true) (e : x.de = y.de ∧ x.nu = y.nu) : befB x z = true := by
  unfold befB at h ⊢
  rw [e.1, e.2]; exact h
theorem befB_ne {x z : EnR} (h : befB x z = true) : ¬ (z.de = x.de ∧ z.nu = x.nu) := fun ⟨h1, h2⟩ => by
  unfold befB at h
  rw [h1, h2, ltS_irr] at h
  simp at h
theorem asc_uniqE : ∀ (A B : List EnR), AscE A → AscE B → (∀ z, z ∈ A ↔ z ∈ B) → A = B
  | [], [], _, _, _ => rfl
  | [], b :: B, _, _, h => by have := (h b).2 (by simp); cases this
  | a :: A, [], _, _, h => by have := (h a).1 (by simp); cases this
  | a :: A, b :: B, hA, hB, h => by
    have pA := List.pairwise_cons.1 hA
    have pB := List.pairwise_cons.1 hB
    have irr : ∀ z : EnR, befB z z = true → False := fun z hz => befB_ne hz ⟨rfl, rfl⟩
    have e : a = b := by
      rcases List.mem_cons.1 ((h a).1 (by simp)) with e | e
      · exact e
      · rcases List.mem_cons.1 ((h b).2 (by simp)) with e2 | e2
        · exact e2.symm
        · exact (irr _ (befB_trans (pA.1 b e2) (pB.1 a e))).elim
    subst e
    congr 1
    refine asc_uniqE A B pA.2 pB.2 fun z => ⟨fun hz => ?_, fun hz => ?_⟩
    · rcases List.mem_cons.1 ((h z).1 (by simp [hz])) with e | e
      · subst e
        exact (irr _ (pA.1 z hz)).elim
      · exact e
    · rcases List.mem_cons.1 ((h z).2 (by simp [hz])) with e | e
      · subst e
        exact (irr _ (pB.1 z hz)).elim
      · exact e
theorem mrgE_facts : ∀ (n : Nat) (a c : List EnR), a.length + c.length ≤ n → AscE a → AscE c → AscE (mrgE a c) ∧ ∀ z, z ∈ mrgE a c ↔ z ∈ a ∨ (z ∈ c ∧ lookM a z = none) := by
  intro n
  induction n with
  | zero =>
    intro a c h ha hc
    have h1 : a = [] := List.eq_nil_of_length_eq_zero (by omega)
    subst h1
    rw [mrgE_nil]
    exact ⟨hc, fun z => by simp [lookM]⟩
  | succ n ih =>
    intro a c h ha hc
    cases a with
    | nil => rw [mrgE_nil]; exact ⟨hc, fun z => by simp [lookM]⟩
    | cons x a =>
      cases c with
      | nil => rw [mrgE_nil2]; exact ⟨ha, fun z => by simp⟩
      | cons y c =>
        simp only [List.length_cons] at h
        obtain ⟨pa, pa2⟩ := List.pairwise_cons.1 ha
        obtain ⟨pc, pc2⟩ := List.pairwise_cons.1 hc
        rcases Int.lt_trichotomy (mkO x y) 0 with h1 | h1 | h1
        · have hb := befB_mk.2 h1
          rw [mrgE_lt h1]
          obtain ⟨i1, i2⟩ := ih a (y :: c) (by simp only [List.length_cons]; omega) pa2 hc
          have hgt : ∀ z ∈ y :: c, befB x z = true := fun z hz => by
            rcases List.mem_cons.1 hz with rfl | hz
            · exact hb
            · exact befB_trans hb (pc z hz)
          refine ⟨List.pairwise_cons.2 ⟨fun z hz => ?_, i1⟩, fun z => ?_⟩
          · rcases (i2 z).1 hz with h | h
            · exact pa z h
            · exact hgt z h.1
          · rw [List.mem_cons, i2 z, List.mem_cons (a := z) (b := x) (l := a)]
            constructor
            · rintro (h | h | h)
              · exact .inl (.inl h)
              · exact .inl (.inr h)
              · refine .inr ⟨h.1, noM.2 fun w hw => ?_⟩
                rcases List.mem_cons.1 hw with rfl | hw
                · exact befB_ne (hgt z h.1)
                · exact noM.1 h.2 w hw
            · rintro ((h | h) | h)
              · exact .inl h
              · exact .inr (.inl h)
              · exact .inr (.inr ⟨h.1, noM.2 fun w hw => noM.1 h.2 w (List.mem_cons_of_mem _ hw)⟩)
        · have he := mkO_zero h1
          rw [mrgE_eq h1]
          obtain ⟨i1, i2⟩ := ih a c (by omega) pa2 pc2
          have hgt : ∀ z ∈ c, befB x z = true := fun z hz => befB_cong (pc z hz) he
          refine ⟨List.pairwise_cons.2 ⟨fun z hz => ?_, i1⟩, fun z => ?_⟩
          · rcases (i2 z).1 hz with h | h
            · exact pa z h
            · exact hgt z h.1
          · rw [List.mem_cons, i2 z, List.mem_cons (a := z) (b := x) (l := a)]
            constructor
            · rintro (h | h | h)
              · exact .inl (.inl h)
              · exact .inl (.inr h)
              · refine .inr ⟨List.mem_cons_of_mem _ h.1, noM.2 fun w hw => ?_⟩
                rcases List.mem_cons.1 hw with rfl | hw
                · exact befB_ne (hgt z h.1)
                · exact noM.1 h.2 w hw
            · rintro ((h | h) | h)
              · exact .inl h
              · exact .inr (.inl h)
              · rcases List.mem_cons.1 h.1 with rfl | h2
                · exact absurd ⟨he.1.symm, he.2.symm⟩ (noM.1 h.2 x (List.mem_cons_self ..))
                · exact .inr (.inr ⟨h2, noM.2 fun w hw => noM.1 h.2 w (List.mem_cons_of_mem _ hw)⟩)
        · have hb : befB y x = true := befB_mk.2 (by have := mkO_anti x y; omega)
          rw [mrgE_gt h1]
          obtain ⟨i1, i2⟩ := ih (x :: a) c (by simp only [List.length_cons]; omega) ha pc2
          have hgt : ∀ z ∈ x :: a, befB y z = true := fun z hz => by
            rcases List.mem_cons.1 hz with rfl | hz
            · exact hb
            · exact befB_trans hb (pa z hz)
          refine ⟨List.pairwise_cons.2 ⟨fun z hz => ?_, i1⟩, fun z => ?_⟩
          · rcases (i2 z).1 hz with h | h
            · exact hgt z h
            · exact pc z h.1
          · rw [List.mem_cons, i2 z, List.mem_cons (a := z) (l := c)]
            constructor
            · rintro (h | h | h)
              · subst h
                exact .inr ⟨.inl rfl, noM.2 fun w hw e => befB_ne (hgt w hw) ⟨e.1.symm, e.2.symm⟩⟩
              · exact .inl h
              · exact .inr ⟨.inr h.1, h.2⟩
            · rintro (h | ⟨h | h, h2⟩)
              · exact .inr (.inl h)
              · exact .inl h
              · exact .inr (.inr ⟨h, h2⟩)
theorem putE_mem_iff {l : List EnR} {x z : EnR} : z ∈ putE l x ↔ z = x ∨ z ∈ l := by
  unfold putE
  have h : z ∈ l ↔ z ∈ l.take (atE l x) ∨ z ∈ l.drop (atE l x) := by
    rw [← List.mem_append, List.take_append_drop]
  rw [List.mem_append, List.mem_cons, h]
  constructor
  · rintro (h | h | h)
    · exact .inr (.inl h)
    · exact .inl h
    · exact .inr (.inr h)
  · rintro (h | h | h)
    · exact .inr (.inl h)
    · exact .inl h
    · exact .inr (.inr h)
theorem putE_asc {l : List EnR} {x : EnR} (h : AscE l) (hn : ∀ y ∈ l, ¬ (x.de = y.de ∧ x.nu = y.nu)) : AscE (putE l x) := by
  have e1 : l.take (atE l x) = l.takeWhile fun y => befB y x := by
    unfold atE
    have := List.takeWhile_append_dropWhile (p := fun y => befB y x) (l := l)
    conv => lhs; rw [← this]
    rw [List.take_left' (by rw [this])]
  have e2 : l.drop (atE l x) = l.dropWhile fun y => befB y x := by
    unfold atE
    have := List.takeWhile_append_dropWhile (p := fun y => befB y x) (l := l)
    conv => lhs; rw [← this]
    rw [List.drop_left' (by rw [this])]
  have hd : ∀ z ∈ l.dropWhile (fun y => befB y x), befB x z = true := by
    intro z hz
    cases hl : l.dropWhile (fun y => befB y x) with
    | nil => rw [hl] at hz; cases hz
    | cons b t =>
      have hb : befB b x = false := by
        have := List.head?_dropWhile_not (fun y => befB y x) l
        rw [hl] at this
        simpa using this
      have hsub : (b :: t).Sublist l := by rw [← hl]; exact List.dropWhile_sublist _
      have hxb : befB x b = true := befB_tri hb (fun e => hn b (hsub.subset (List.mem_cons_self ..)) e)
      rw [hl] at hz
      rcases List.mem_cons.1 hz with rfl | hz
      · exact hxb
      · exact befB_trans hxb ((List.pairwise_cons.1 (h.sublist hsub)).1 z hz)
  have ht : ∀ z ∈ l.takeWhile (fun y => befB y x), befB z x = true := fun z hz => by
    have := List.all_eq_true.1 (List.all_takeWhile (p := fun y => befB y x) (l := l)) z hz
    exact this
  unfold putE
  rw [e1, e2]
  refine List.pairwise_append.2 ⟨h.sublist (List.takeWhile_sublist _), List.pairwise_cons.2 ⟨hd, h.sublist (List.dropWhile_sublist _)⟩, fun z hz w hw => ?_⟩
  rcases List.mem_cons.1 hw with rfl | hw
  · exact ht z hz
  · exact befB_trans (ht z hz) (hd w hw)
def rmgF (a : List EnR) (r : List EnR) (c : List EnR) : List EnR := c.foldl (fun r y => if (lookM a y).isNone = true then putE r y else r) r
theorem rmgF_step (a r c : List EnR) (y : EnR) : rmgF a r (c ++ [y]) = if (lookM a y).isNone = true then putE (rmgF a r c) y else rmgF a r c := by unfold rmgF; rw [List.foldl_append]; rfl
theorem rmgF_len (a : List EnR) : ∀ (c r : List EnR), (rmgF a r c).length ≤ r.length + c.length
  | [], r => by simp [rmgF]
  | y :: c, r => by
    have := rmgF_len a c (if (lookM a y).isNone = true then putE r y else r)
    unfold rmgF at this ⊢
    rw [List.foldl_cons]
    split at this
    · rename_i h; rw [if_pos h]; rw [putE_len] at this; simp only [List.length_cons]; omega
    · rename_i h; rw [if_neg h]; simp only [List.length_cons]; omega
theorem rmgF_mem (a : List EnR) : ∀ (c r : List EnR) (z : EnR), z ∈ rmgF a r c ↔ z ∈ r ∨ (z ∈ c ∧ lookM a z = none)
  | [], r, z => by simp [rmgF]
  | y :: c, r, z => by
    have := rmgF_mem a c (if (lookM a y).isNone = true then putE r y else r) z
    unfold rmgF at this ⊢
    rw [List.foldl_cons, this]
    by_cases h : (lookM a y).isNone = true
    · rw [if_pos h, putE_mem_iff, List.mem_cons]
      constructor
      · rintro ((h1 | h1) | h1)
        · subst h1; exact .inr ⟨.inl rfl, by simpa using h⟩
        · exact .inl h1
        · exact .inr ⟨.inr h1.1, h1.2⟩
      · rintro (h1 | ⟨h1 | h1, h2⟩)
        · exact .inl (.inr h1)
        · exact .inl (.inl h1)
        · exact .inr ⟨h1, h2⟩
    · rw [if_neg h, List.mem_cons]
      constructor
      · rintro (h1 | h1)
        · exact .inl h1
        · exact .inr ⟨.inr h1.1, h1.2⟩
      · rintro (h1 | ⟨h1 | h1, h2⟩)
        · exact .inl h1
        · subst h1; rw [h2] at h; simp at h
        · exact .inr ⟨h1, h2⟩
theorem rmgF_asc (a : List EnR) : ∀ (c r : List EnR), AscE c → AscE r → (∀ y ∈ c, lookM a y = none → ∀ x ∈ r, ¬ (y.de = x.de ∧ y.nu = x.nu)) → AscE (rmgF a r c)
  | [], r, _, hr, _ => hr
  | y :: c, r, hc, hr, hn => by
    obtain ⟨pc, pc2⟩ := List.pairwise_cons.1 hc
    have := rmgF_asc a c (if (lookM a y).isNone = true then putE r y else r) pc2
    unfold rmgF at this ⊢
    rw [List.foldl_cons]
    by_cases h : (lookM a y).isNone = true
    · rw [if_pos h] at this ⊢
      have hy : lookM a y = none := by simpa using h
      refine this (putE_asc hr (hn y (List.mem_cons_self ..) hy)) fun z hz hz2 x hx => ?_
      rcases putE_mem_iff.1 hx with rfl | hx
      · exact befB_ne (pc z hz)
      · exact hn z (List.mem_cons_of_mem _ hz) hz2 x hx
    · rw [if_neg h] at this ⊢
      exact this hr fun z hz hz2 x hx => hn z (List.mem_cons_of_mem _ hz) hz2 x hx
theorem rmg_mrg {a c : List EnR} (ha : AscE a) (hc : AscE c) : rmgF a a c = mrgE a c := by
  obtain ⟨h1, h2⟩ := mrgE_facts _ a c (Nat.le_refl _) ha hc
  refine asc_uniqE _ _ (rmgF_asc a c a hc ha fun y _ hy => noM.1 hy) h1 fun z => ?_
  rw [rmgF_mem, h2]
def conR (a : List EnR) (y : EnR) : Prop := ∃ x, lookM a y = some x ∧ ¬ ek x = ek y
theorem con_same (a : List EnR) (y : EnR) : conR a y ↔ conP a y := by
  constructor
  · rintro ⟨x, h1, h2⟩
    obtain ⟨_, m1, m2⟩ := lookM_mem h1
    exact ⟨x, h1, fun h => h2 (ek_shk.2 ⟨m1.symm, m2.symm, h.1, h.2⟩)⟩
  · rintro ⟨x, h1, h2⟩
    exact ⟨x, h1, fun h => h2 ⟨(ek_shk.1 h).2.2.1, (ek_shk.1 h).2.2.2⟩⟩
end Go.Proofs.YtnihclhhbegjhaaGreatDoor
