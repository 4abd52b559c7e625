/- Sheets (chapter 10): the law OfficeSheets. -/
import Derived.Test.YtjkiidkacpffnaaGreatDoorOfL
namespace Go.Proofs.YtjkiidkacpffnaaGreatDoor
open Go.RowKit Go.Lib
set_option linter.unusedSimpArgs false
set_option linter.unusedVariables false
theorem own_sliceO {w : World} {b n : Nat} {v : Value} {zs : List Int} (h : w.ownsRow b 3 1 v n (ints zs)) : ∃ q c, v = .slice q n c ∧ IntS w q n zs := by
  rcases id h.2 with ⟨rfl, h0⟩ | ⟨g, cap, cur, rfl, _⟩
  · subst h0
    exact ⟨none, 0, rfl, IntS.of_own h⟩
  · exact ⟨_, _, rfl, IntS.of_own h⟩
theorem lens_of_zero {ro st : ByteArray} {va : Int} {xs : List RowR} (h : sheetE ro va st xs = 0) (i j : Nat) (x y : RowR) (hx : xs[i]? = some x) (hy : xs[j]? = some y) (hs : (x.st.toList == y.st.toList) = true) : x.xs.length = y.xs.length := by
  have h0 : errG (oneShE va xs) xs xs.length 0 = 0 := by
    unfold sheetE at h
    split at h
    · exact h
    · rename_i h1; exact absurd h h1
  have hfit : ∀ (j : Nat) (x : RowR), xs[j]? = some x → fitO va x = true := by
    intro j x hx
    have := errG_zero xs.length 0 h0 (by omega) j x (by omega) (by have := (List.getElem?_eq_some_iff.1 hx).1; omega) hx
    rw [oneShE_eq] at this
    cases hf : fitO va x
    · rw [hf] at this
      split at this
      · cases this
      split at this
      · cases this
      split at this
      · cases this
      · simp at this
    · rfl
  have f1 := hfit i x hx
  have f2 := hfit j y hy
  have he : x.st.toList = y.st.toList := eq_of_beq hs
  unfold fitO at f1 f2
  rw [he] at f1
  cases hz : y.st.toList.isEmpty
  · rw [hz] at f1 f2
    simp at f1 f2
    rw [f1, f2]
  · rw [hz] at f1 f2
    simp at f1 f2
    omega
/-- results, read, however many values they have -/
structure RowsX (w : World) (p : Option Addr) (n cap : Nat) (xs : List RowR) : Prop where
  len : xs.length = n
  cap : n ≤ cap ∧ cap ≤ maxLen
  at_ : 0 < n → ∃ b off, p = some ⟨b, off, none⟩ ∧ ∀ i x, xs[i]? = some x → Row0 w b (off + i * 3) x
theorem RowsX.gr {w w' : World} {p : Option Addr} {n cap : Nat} {xs : List RowR} (h : RowsX w p n cap xs) (k : Gr w w') : RowsX w' p n cap xs := ⟨h.len, h.cap, fun h0 => by
  obtain ⟨b, off, e, hc⟩ := h.at_ h0
  exact ⟨b, off, e, fun i x hx => (hc i x hx).gr k⟩⟩
theorem RowsX.rows {w : World} {p : Option Addr} {n cap : Nat} {xs : List RowR} (h : RowsX w p n cap xs) (hl : ∀ x ∈ xs, x.xs.length ≤ 19) : RowsV w (.slice p n cap) xs := by
  refine ⟨p, cap, by rw [h.len], by rw [h.len]; exact h.cap, fun h0 => ?_⟩
  rw [h.len] at h0
  obtain ⟨b, off, e, hc⟩ := h.at_ h0
  exact ⟨b, off, e, fun i x hx => (hc i x hx).at (by have := hl x (List.mem_of_getElem? hx); omega)⟩
set_option maxHeartbeats 4000000 in
set_option maxRecDepth 100000 in
theorem lawSheets_c {w : World} {xs : List RowR} {p : Option Addr} {n cap : Nat} (de : ByteArray) (nu ck : Int) (ro st : ByteArray) (va : Int) (hx : RowsX w p n cap xs)
    (hA : ∀ W1, Gr w W1 → Calls Tryz.prog 7 #[] W1 fun e w' => e = .returned (.bool true) ∧ Gr W1 w') :
    Calls Tryz.prog 3 #[.agg #[.string de, .int .i64 nu, .int .i64 ck, .string ro, .int .i64 va, .string st, .slice p n cap]] w fun e w' => e = .returned (.bool true) ∧ Gr w w' := by
  obtain ⟨W, hW, g, a0, a1, a2, a3, a4, a5, a6⟩ := bx7 w (.string de) (.int .i64 nu) (.int .i64 ck) (.string ro) (.int .i64 va) (.string st) (.slice p n cap) 26
  have HW := Lib.hid hW
  have HA := Lib.hid hA
  have HOwn := Lib.hid (fun W => own10_c de nu ck ro st va p n cap W)
  have HX := Lib.hid hx
  clear hW hA hx
  rcases Nat.lt_or_ge 60 de.size with q1 | q1
  · clear HX
    go_enter Tryz.func3, Tryz.ntmps3
    go_wp2_with fail
    rw [HW.out]
    clear HW
    generalize w.heap.size = L at *
    go_wp2_with fail
    refine (HOwn.out _).mono ?_
    rintro e W1 ⟨rfl, g1⟩
    have gB : Gr W1 (W1.alloc (.cells #[.string de, .int .i64 nu, .int .i64 ck, .string ro, .int .i64 va, .string st, .slice p n cap] 29)) := (Gr.refl W1).alloc _
    replace a0 := (g1.trans gB).cell a0
    replace a1 := (g1.trans gB).cell a1
    replace a2 := (g1.trans gB).cell a2
    replace a3 := (g1.trans gB).cell a3
    replace a4 := (g1.trans gB).cell a4
    replace a5 := (g1.trans gB).cell a5
    replace a6 := (g1.trans gB).cell a6
    have b0 := cell_new W1 #[.string de, .int .i64 nu, .int .i64 ck, .string ro, .int .i64 va, .string st, .slice p n cap] 29 0 (by simp)
    have b1 := cell_new W1 #[.string de, .int .i64 nu, .int .i64 ck, .string ro, .int .i64 va, .string st, .slice p n cap] 29 1 (by simp)
    have b2 := cell_new W1 #[.string de, .int .i64 nu, .int .i64 ck, .string ro, .int .i64 va, .string st, .slice p n cap] 29 2 (by simp)
    have b3 := cell_new W1 #[.string de, .int .i64 nu, .int .i64 ck, .string ro, .int .i64 va, .string st, .slice p n cap] 29 3 (by simp)
    have b4 := cell_new W1 #[.string de, .int .i64 nu, .int .i64 ck, .string ro, .int .i64 va, .string st, .slice p n cap] 29 4 (by simp)
    have b5 := cell_new W1 #[.string de, .int .i64 nu, .int .i64 ck, .string ro, .int .i64 va, .string st, .slice p n cap] 29 5 (by simp)
    have b6 := cell_new W1 #[.string de, .int .i64 nu, .int .i64 ck, .string ro, .int .i64 va, .string st, .slice p n cap] 29 6 (by simp)
    simp only [List.getElem_toArray, List.getElem_cons_zero, List.getElem_cons_succ] at b0 b1 b2 b3 b4 b5 b6
    replace g := (g.trans g1).trans gB
    clear g1 gB
    go_wp2_with fail
    refine (HA.out _ g).mono ?_
    rintro e w9 ⟨rfl, hg⟩
    go_wp2_with fail
    go_ret
    exact ⟨rfl, g.trans hg⟩
  have HSh := Lib.hid (fun W (k : Gr w W) => shortSh_c (w := W) (cap := cap) ro st va (HX.out.gr k).len (Nat.le_trans HX.out.cap.1 HX.out.cap.2) (HX.out.gr k).at_)
  go_enter Tryz.func3, Tryz.ntmps3
  go_wp2_with fail
  rw [HW.out]
  clear HW
  generalize w.heap.size = L at *
  go_wp2_with fail
  refine (HOwn.out _).mono ?_
  rintro e W1 ⟨rfl, g1⟩
  have gB : Gr W1 (W1.alloc (.cells #[.string de, .int .i64 nu, .int .i64 ck, .string ro, .int .i64 va, .string st, .slice p n cap] 29)) := (Gr.refl W1).alloc _
  replace a0 := (g1.trans gB).cell a0
  replace a1 := (g1.trans gB).cell a1
  replace a2 := (g1.trans gB).cell a2
  replace a3 := (g1.trans gB).cell a3
  replace a4 := (g1.trans gB).cell a4
  replace a5 := (g1.trans gB).cell a5
  replace a6 := (g1.trans gB).cell a6
  have b0 := cell_new W1 #[.string de, .int .i64 nu, .int .i64 ck, .string ro, .int .i64 va, .string st, .slice p n cap] 29 0 (by simp)
  have b1 := cell_new W1 #[.string de, .int .i64 nu, .int .i64 ck, .string ro, .int .i64 va, .string st, .slice p n cap] 29 1 (by simp)
  have b2 := cell_new W1 #[.string de, .int .i64 nu, .int .i64 ck, .string ro, .int .i64 va, .string st, .slice p n cap] 29 2 (by simp)
  have b3 := cell_new W1 #[.string de, .int .i64 nu, .int .i64 ck, .string ro, .int .i64 va, .string st, .slice p n cap] 29 3 (by simp)
  have b4 := cell_new W1 #[.string de, .int .i64 nu, .int .i64 ck, .string ro, .int .i64 va, .string st, .slice p n cap] 29 4 (by simp)
  have b5 := cell_new W1 #[.string de, .int .i64 nu, .int .i64 ck, .string ro, .int .i64 va, .string st, .slice p n cap] 29 5 (by simp)
  have b6 := cell_new W1 #[.string de, .int .i64 nu, .int .i64 ck, .string ro, .int .i64 va, .string st, .slice p n cap] 29 6 (by simp)
  simp only [List.getElem_toArray, List.getElem_cons_zero, List.getElem_cons_succ] at b0 b1 b2 b3 b4 b5 b6
  replace g := (g.trans g1).trans gB
  clear g1 gB
  go_wp2_with fail
  refine (HSh.out _ g).mono ?_
  rintro e W3 ⟨⟨r, rfl, hr⟩, hg⟩
  replace a0 := hg.cell a0
  replace a1 := hg.cell a1
  replace a2 := hg.cell a2
  replace a3 := hg.cell a3
  replace a4 := hg.cell a4
  replace a5 := hg.cell a5
  replace a6 := hg.cell a6
  replace b0 := hg.cell b0
  replace b1 := hg.cell b1
  replace b2 := hg.cell b2
  replace b3 := hg.cell b3
  replace b4 := hg.cell b4
  replace b5 := hg.cell b5
  replace b6 := hg.cell b6
  replace g := g.trans hg
  generalize W1.heap.size = M at *
  clear hg HSh HOwn
  cases r
  · clear hr HX
    go_wp2_with fail
    refine (HA.out _ g).mono ?_
    rintro e w9 ⟨rfl, hg⟩
    go_wp2_with fail
    go_ret
    exact ⟨rfl, g.trans hg⟩
  have hv := HX.out.rows (hr rfl)
  have hn := HX.out.len
  clear hr HX
  have HRef := Lib.hid (fun W (k : Gr w W) => refSheet_all ro st va (hv.gr k))
  have HP := Lib.hid (fun W (k : Gr w W) => checkSheet_cO ro st va (hv.gr k))
  have HPE := Lib.hid (fun W (k : Gr w W) => checkEntry_c de nu ck ro st va (hv.gr k))
  have HRE := Lib.hid (fun W (k : Gr w W) => refEntry_c de nu ck ro st va (hv.gr k))
  generalize entryE de nu ck ro va st xs = EE at *
  by_cases hE : sheetE ro va st xs = 0
  · have HRk := Lib.hid (fun W (k : Gr w W) => officeRanks_ok ro st va (hv.gr k) hE)
    have HRr := Lib.hid (fun W (k : Gr w W) => refRanks10_c ro st va (hv.gr k) (by have := sheetE_few hE; omega) (lens_of_zero hE))
    have hn160 : n ≤ 160 := by have := sheetE_few hE; omega
    rw [hE] at HRef HP
    obtain ⟨E, hEE⟩ : ∃ E : Int, E = 0 := ⟨_, rfl⟩
    clear hE hv hn
    go_wp2_with fail
    refine (HRef.out _ g).mono ?_
    rintro e W4 ⟨rfl, hg⟩
    replace a0 := hg.cell a0
    replace a1 := hg.cell a1
    replace a2 := hg.cell a2
    replace a3 := hg.cell a3
    replace a4 := hg.cell a4
    replace a5 := hg.cell a5
    replace a6 := hg.cell a6
    replace b0 := hg.cell b0
    replace b1 := hg.cell b1
    replace b2 := hg.cell b2
    replace b3 := hg.cell b3
    replace b4 := hg.cell b4
    replace b5 := hg.cell b5
    replace b6 := hg.cell b6
    replace g := g.trans hg
    clear hg
    go_wp2_with fail
    refine (HRk.out _ g).mono ?_
    rintro e W5 ⟨vr, rfl, hown1, hg⟩
    replace a0 := hg.cell a0
    replace a1 := hg.cell a1
    replace a2 := hg.cell a2
    replace a3 := hg.cell a3
    replace a4 := hg.cell a4
    replace a5 := hg.cell a5
    replace a6 := hg.cell a6
    replace b0 := hg.cell b0
    replace b1 := hg.cell b1
    replace b2 := hg.cell b2
    replace b3 := hg.cell b3
    replace b4 := hg.cell b4
    replace b5 := hg.cell b5
    replace b6 := hg.cell b6
    replace g := g.trans hg
    have HO1 := Lib.hid (fun W (k : Gr W5 W) => own_gr hown1 k)
    clear hg hown1 HRk HRef
    go_wp2_with fail
    refine (HRr.out _ g).mono ?_
    rintro e WD ⟨vw, rfl, hown2, hg⟩
    replace a0 := hg.cell a0
    replace a1 := hg.cell a1
    replace a2 := hg.cell a2
    replace a3 := hg.cell a3
    replace a4 := hg.cell a4
    replace a5 := hg.cell a5
    replace a6 := hg.cell a6
    replace b0 := hg.cell b0
    replace b1 := hg.cell b1
    replace b2 := hg.cell b2
    replace b3 := hg.cell b3
    replace b4 := hg.cell b4
    replace b5 := hg.cell b5
    replace b6 := hg.cell b6
    replace g := g.trans hg
    obtain ⟨q1', c1', rfl, hI1⟩ := own_sliceO (HO1.out _ hg)
    obtain ⟨q2', c2', rfl, hI2⟩ := own_sliceO hown2
    have gWD := g
    have HSI := Lib.hid (fun W (k : Gr WD W) => sameIO_c (c := c1') (c2 := c2') (hI1.gr k) (hI2.gr k) (by omega))
    clear hg hown2 HO1 hI1 hI2 HRr
    go_wp2_with fail
    have gS := Gr.refl WD
    have gd := (Gr.refl WD).drew
    replace a0 := gd.cell a0
    replace a1 := gd.cell a1
    replace a2 := gd.cell a2
    replace a3 := gd.cell a3
    replace a4 := gd.cell a4
    replace a5 := gd.cell a5
    replace a6 := gd.cell a6
    replace b0 := gd.cell b0
    replace b1 := gd.cell b1
    replace b2 := gd.cell b2
    replace b3 := gd.cell b3
    replace b4 := gd.cell b4
    replace b5 := gd.cell b5
    replace b6 := gd.cell b6
    replace g := g.trans gd
    replace gS := gS.trans gd
    clear gd gWD
    refine wp_region_held_drew (S := (fun w' => w'.cell? ⟨L, 0, none⟩ = some (.string de) ∧ w'.cell? ⟨L, 1, none⟩ = some (.int .i64 nu) ∧ w'.cell? ⟨L, 2, none⟩ = some (.int .i64 ck) ∧ w'.cell? ⟨L, 3, none⟩ = some (.string ro) ∧ w'.cell? ⟨L, 4, none⟩ = some (.int .i64 va) ∧ w'.cell? ⟨L, 5, none⟩ = some (.string st) ∧ w'.cell? ⟨L, 6, none⟩ = some (.slice p n cap) ∧ w'.cell? ⟨M, 0, none⟩ = some (.string de) ∧ w'.cell? ⟨M, 1, none⟩ = some (.int .i64 nu) ∧ w'.cell? ⟨M, 2, none⟩ = some (.int .i64 ck) ∧ w'.cell? ⟨M, 3, none⟩ = some (.string ro) ∧ w'.cell? ⟨M, 4, none⟩ = some (.int .i64 va) ∧ w'.cell? ⟨M, 5, none⟩ = some (.string st) ∧ w'.cell? ⟨M, 6, none⟩ = some (.slice p n cap))) (by kernel_rfl) ⟨a0, a1, a2, a3, a4, a5, a6, b0, b1, b2, b3, b4, b5, b6⟩ (fun hHeld => ?_)
    generalize WD.drew = V2 at *
    refine wpAnyH_take (i := 0) (v := (.pointer (some ⟨L, 3, none⟩))) (op_at rfl) (by kernel_rfl) (by kernel_rfl) (by kernel_rfl) (fun _ _ _ h => h) (Or.inl ⟨rfl, fun w hSw => ?_⟩) (by assumption) ?_
    · (try dsimp only at hSw); go_simp; try with_reducible rfl
    (try simp only [Act.put, List.setIfInBounds_toArray, List.set_cons_zero, List.set_cons_succ])
    refine wpAnyH_take (i := 1) (v := (.agg #[.string ro, .int .i64 va, .string st, .slice p n cap])) (op_at rfl) (by kernel_rfl) (by kernel_rfl) (by kernel_rfl) (fun _ _ _ h => h) (Or.inl ⟨rfl, fun w hSw => ?_⟩) (by assumption) ?_
    · (try dsimp only at hSw); go_simp; try with_reducible rfl
    (try simp only [Act.put, List.setIfInBounds_toArray, List.set_cons_zero, List.set_cons_succ])
    refine wpAnyH_take (i := 3) (v := (.int .i64 0)) (op_at rfl) (by kernel_rfl) (by kernel_rfl) (by kernel_rfl) (fun _ _ _ h => h) (Or.inl ⟨rfl, fun w hSw => ?_⟩) (by assumption) ?_
    · (try dsimp only at hSw); go_simp; try with_reducible rfl
    (try simp only [Act.put, List.setIfInBounds_toArray, List.set_cons_zero, List.set_cons_succ])
    refine wpAnyH_ready (rs := [2]) (by kernel_rfl) (by simp) (AllReadyH.cons (op_at rfl) (fun K hK => ?_) AllReadyH.nil)
    go_simp
    (refine (HP.out _ g).mono ?_; rintro e w6 ⟨rfl, hg⟩; replace a0 := hg.cell a0; replace a1 := hg.cell a1; replace a2 := hg.cell a2; replace a3 := hg.cell a3; replace a4 := hg.cell a4; replace a5 := hg.cell a5; replace a6 := hg.cell a6; replace b0 := hg.cell b0; replace b1 := hg.cell b1; replace b2 := hg.cell b2; replace b3 := hg.cell b3; replace b4 := hg.cell b4; replace b5 := hg.cell b5; replace b6 := hg.cell b6; replace g := g.trans hg; replace gS := gS.trans hg; clear hg)
    go_wp2_with fail
    refine hK.out _ _ ⟨a0, a1, a2, a3, a4, a5, a6, b0, b1, b2, b3, b4, b5, b6⟩ (fun hHeld => ?_)
    clear hK K
    (try simp only [Act.put, List.setIfInBounds_toArray, List.set_cons_zero, List.set_cons_succ])
    refine wpAnyH_take (i := 4) (v := (.bool true)) (op_at rfl) (by kernel_rfl) (by kernel_rfl) (by kernel_rfl) (fun _ _ _ h => h) (Or.inl ⟨rfl, fun w hSw => ?_⟩) (by assumption) ?_
    · (try dsimp only at hSw); go_simp; try with_reducible rfl
    (try simp only [Act.put, List.setIfInBounds_toArray, List.set_cons_zero, List.set_cons_succ])
    refine wpAnyH_take (i := 5) (v := (.bool true)) (op_at rfl) (by kernel_rfl) (by kernel_rfl) (by kernel_rfl) (fun _ _ _ h => h) (Or.inl ⟨rfl, fun w hSw => ?_⟩) (by assumption) ?_
    · (try dsimp only at hSw); go_simp; try with_reducible rfl
    (try simp only [Act.put, List.setIfInBounds_toArray, List.set_cons_zero, List.set_cons_succ])
    refine wpAnyH_take (i := 6) (v := (.int .i64 0)) (op_at rfl) (by kernel_rfl) (by kernel_rfl) (by kernel_rfl) (fun _ _ _ h => h) (Or.inl ⟨rfl, fun w hSw => ?_⟩) (by assumption) ?_
    · (try dsimp only at hSw); go_simp; try with_reducible rfl
    (try simp only [Act.put, List.setIfInBounds_toArray, List.set_cons_zero, List.set_cons_succ])
    refine wpAnyH_take (i := 7) (v := (.int .i64 0)) (op_at rfl) (by kernel_rfl) (by kernel_rfl) (by kernel_rfl) (fun _ _ _ h => h) (Or.inl ⟨rfl, fun w hSw => ?_⟩) (by assumption) ?_
    · (try dsimp only at hSw); go_simp; try with_reducible rfl
    (try simp only [Act.put, List.setIfInBounds_toArray, List.set_cons_zero, List.set_cons_succ])
    refine wpAnyH_take (i := 8) (v := (.bool true)) (op_at rfl) (by kernel_rfl) (by kernel_rfl) (by kernel_rfl) (fun _ _ _ h => h) (Or.inl ⟨rfl, fun w hSw => ?_⟩) (by assumption) ?_
    · (try dsimp only at hSw); go_simp; try with_reducible rfl
    (try simp only [Act.put, List.setIfInBounds_toArray, List.set_cons_zero, List.set_cons_succ])
    refine wpAnyH_take (i := 9) (v := (.bool true)) (op_at rfl) (by kernel_rfl) (by kernel_rfl) (by kernel_rfl) (fun _ _ _ h => h) (Or.inl ⟨rfl, fun w hSw => ?_⟩) (by assumption) ?_
    · (try dsimp only at hSw); go_simp; try with_reducible rfl
    (try simp only [Act.put, List.setIfInBounds_toArray, List.set_cons_zero, List.set_cons_succ])
    refine wpAnyH_take (i := 10) (v := (.bool true)) (op_at rfl) (by kernel_rfl) (by kernel_rfl) (by kernel_rfl) (fun _ _ _ h => h) (Or.inl ⟨rfl, fun w hSw => ?_⟩) (by assumption) ?_
    · (try dsimp only at hSw); go_simp; try with_reducible rfl
    (try simp only [Act.put, List.setIfInBounds_toArray, List.set_cons_zero, List.set_cons_succ])
    refine wpAnyH_take (i := 11) (v := (.slice q1' n c1')) (op_at rfl) (by kernel_rfl) (by kernel_rfl) (by kernel_rfl) (fun _ _ _ h => h) (Or.inl ⟨rfl, fun w hSw => ?_⟩) (by assumption) ?_
    · (try dsimp only at hSw); go_simp; try with_reducible rfl
    (try simp only [Act.put, List.setIfInBounds_toArray, List.set_cons_zero, List.set_cons_succ])
    refine wpAnyH_take (i := 12) (v := (.slice q2' n c2')) (op_at rfl) (by kernel_rfl) (by kernel_rfl) (by kernel_rfl) (fun _ _ _ h => h) (Or.inl ⟨rfl, fun w hSw => ?_⟩) (by assumption) ?_
    · (try dsimp only at hSw); go_simp; try with_reducible rfl
    (try simp only [Act.put, List.setIfInBounds_toArray, List.set_cons_zero, List.set_cons_succ])
    refine wpAnyH_ready (rs := [13]) (by kernel_rfl) (by simp) (AllReadyH.cons (op_at rfl) (fun K hK => ?_) AllReadyH.nil)
    go_simp
    (refine (HSI.out _ gS).mono ?_; rintro e w7 ⟨rfl, hg⟩; replace a0 := hg.cell a0; replace a1 := hg.cell a1; replace a2 := hg.cell a2; replace a3 := hg.cell a3; replace a4 := hg.cell a4; replace a5 := hg.cell a5; replace a6 := hg.cell a6; replace b0 := hg.cell b0; replace b1 := hg.cell b1; replace b2 := hg.cell b2; replace b3 := hg.cell b3; replace b4 := hg.cell b4; replace b5 := hg.cell b5; replace b6 := hg.cell b6; replace g := g.trans hg; replace gS := gS.trans hg; clear hg)
    go_wp2_with fail
    refine hK.out _ _ ⟨a0, a1, a2, a3, a4, a5, a6, b0, b1, b2, b3, b4, b5, b6⟩ (fun hHeld => ?_)
    clear hK K
    (try simp only [Act.put, List.setIfInBounds_toArray, List.set_cons_zero, List.set_cons_succ])
    refine wpAnyH_take (i := 14) (v := (.bool true)) (op_at rfl) (by kernel_rfl) (by kernel_rfl) (by kernel_rfl) (fun _ _ _ h => h) (Or.inl ⟨rfl, fun w hSw => ?_⟩) (by assumption) ?_
    · (try dsimp only at hSw); go_simp; try with_reducible rfl
    (try simp only [Act.put, List.setIfInBounds_toArray, List.set_cons_zero, List.set_cons_succ])
    refine wpAnyH_take (i := 15) (v := (.bool true)) (op_at rfl) (by kernel_rfl) (by kernel_rfl) (by kernel_rfl) (fun _ _ _ h => h) (Or.inl ⟨rfl, fun w hSw => ?_⟩) (by assumption) ?_
    · (try dsimp only at hSw); go_simp; try with_reducible rfl
    (try simp only [Act.put, List.setIfInBounds_toArray, List.set_cons_zero, List.set_cons_succ])
    refine wpAnyH_take (i := 16) (v := (.agg #[.string de, .int .i64 nu, .int .i64 ck, .string ro, .int .i64 va, .string st, .slice p n cap])) (op_at rfl) (by kernel_rfl) (by kernel_rfl) (by kernel_rfl) (fun _ _ _ h => h) (Or.inl ⟨rfl, fun w hSw => ?_⟩) (by assumption) ?_
    · (try dsimp only at hSw); go_simp; try with_reducible rfl
    (try simp only [Act.put, List.setIfInBounds_toArray, List.set_cons_zero, List.set_cons_succ])
    refine wpAnyH_take (i := 18) (v := (.agg #[.string de, .int .i64 nu, .int .i64 ck, .string ro, .int .i64 va, .string st, .slice p n cap])) (op_at rfl) (by kernel_rfl) (by kernel_rfl) (by kernel_rfl) (fun _ _ _ h => h) (Or.inl ⟨rfl, fun w hSw => ?_⟩) (by assumption) ?_
    · (try dsimp only at hSw); go_simp; try with_reducible rfl
    (try simp only [Act.put, List.setIfInBounds_toArray, List.set_cons_zero, List.set_cons_succ])
    refine wpAnyH_ready (rs := [17]) (by kernel_rfl) (by simp) (AllReadyH.cons (op_at rfl) (fun K hK => ?_) AllReadyH.nil)
    go_simp
    (refine (HPE.out _ g).mono ?_; rintro e w8 ⟨rfl, hg⟩; replace a0 := hg.cell a0; replace a1 := hg.cell a1; replace a2 := hg.cell a2; replace a3 := hg.cell a3; replace a4 := hg.cell a4; replace a5 := hg.cell a5; replace a6 := hg.cell a6; replace b0 := hg.cell b0; replace b1 := hg.cell b1; replace b2 := hg.cell b2; replace b3 := hg.cell b3; replace b4 := hg.cell b4; replace b5 := hg.cell b5; replace b6 := hg.cell b6; replace g := g.trans hg; replace gS := gS.trans hg; clear hg)
    go_wp2_with fail
    refine hK.out _ _ ⟨a0, a1, a2, a3, a4, a5, a6, b0, b1, b2, b3, b4, b5, b6⟩ (fun hHeld => ?_)
    clear hK K
    (try simp only [Act.put, List.setIfInBounds_toArray, List.set_cons_zero, List.set_cons_succ])
    refine wpAnyH_ready (rs := [19]) (by kernel_rfl) (by simp) (AllReadyH.cons (op_at rfl) (fun K hK => ?_) AllReadyH.nil)
    go_simp
    (refine (HRE.out _ g).mono ?_; rintro e w9 ⟨rfl, hg⟩; replace a0 := hg.cell a0; replace a1 := hg.cell a1; replace a2 := hg.cell a2; replace a3 := hg.cell a3; replace a4 := hg.cell a4; replace a5 := hg.cell a5; replace a6 := hg.cell a6; replace b0 := hg.cell b0; replace b1 := hg.cell b1; replace b2 := hg.cell b2; replace b3 := hg.cell b3; replace b4 := hg.cell b4; replace b5 := hg.cell b5; replace b6 := hg.cell b6; replace g := g.trans hg; replace gS := gS.trans hg; clear hg)
    go_wp2_with fail
    refine hK.out _ _ ⟨a0, a1, a2, a3, a4, a5, a6, b0, b1, b2, b3, b4, b5, b6⟩ (fun hHeld => ?_)
    clear hK K
    (try simp only [Act.put, List.setIfInBounds_toArray, List.set_cons_zero, List.set_cons_succ])
    refine wpAnyH_take (i := 20) (v := (.bool true)) (op_at rfl) (by kernel_rfl) (by kernel_rfl) (by kernel_rfl) (fun _ _ _ h => h) (Or.inl ⟨rfl, fun w hSw => ?_⟩) (by assumption) ?_
    · (try dsimp only at hSw); go_simp; try with_reducible rfl
    (try simp only [Act.put, List.setIfInBounds_toArray, List.set_cons_zero, List.set_cons_succ])
    refine wpAnyH_take (i := 21) (v := (.bool true)) (op_at rfl) (by kernel_rfl) (by kernel_rfl) (by kernel_rfl) (fun _ _ _ h => h) (Or.inl ⟨rfl, fun w hSw => ?_⟩) (by assumption) ?_
    · (try dsimp only at hSw); go_simp; try with_reducible rfl
    (try simp only [Act.put, List.setIfInBounds_toArray, List.set_cons_zero, List.set_cons_succ])
    refine wpAnyH_take (i := 22) (v := (.bool true)) (op_at rfl) (by kernel_rfl) (by kernel_rfl) (by kernel_rfl) (fun _ _ _ h => h) (Or.inl ⟨rfl, fun w hSw => ?_⟩) (by assumption) ?_
    · (try dsimp only at hSw); go_simp; try with_reducible rfl
    (try simp only [Act.put, List.setIfInBounds_toArray, List.set_cons_zero, List.set_cons_succ])
    refine wpAnyH_ready (rs := [23]) (by kernel_rfl) (by simp) (AllReadyH.cons (op_at rfl) (fun K hK => ?_) AllReadyH.nil)
    go_simp
    (refine (HA.out _ g).mono ?_; rintro e w10 ⟨rfl, hg⟩; replace a0 := hg.cell a0; replace a1 := hg.cell a1; replace a2 := hg.cell a2; replace a3 := hg.cell a3; replace a4 := hg.cell a4; replace a5 := hg.cell a5; replace a6 := hg.cell a6; replace b0 := hg.cell b0; replace b1 := hg.cell b1; replace b2 := hg.cell b2; replace b3 := hg.cell b3; replace b4 := hg.cell b4; replace b5 := hg.cell b5; replace b6 := hg.cell b6; replace g := g.trans hg; replace gS := gS.trans hg; clear hg)
    go_wp2_with fail
    refine hK.out _ _ ⟨a0, a1, a2, a3, a4, a5, a6, b0, b1, b2, b3, b4, b5, b6⟩ (fun hHeld => ?_)
    clear hK K
    (try simp only [Act.put, List.setIfInBounds_toArray, List.set_cons_zero, List.set_cons_succ])
    refine wpAnyH_take (i := 24) (v := (.bool true)) (op_at rfl) (by kernel_rfl) (by kernel_rfl) (by kernel_rfl) (fun _ _ _ h => h) (Or.inl ⟨rfl, fun w hSw => ?_⟩) (by assumption) ?_
    · (try dsimp only at hSw); go_simp; try with_reducible rfl
    (try simp only [Act.put, List.setIfInBounds_toArray, List.set_cons_zero, List.set_cons_succ])
    refine wpAnyH_take (i := 25) (v := (.bool true)) (op_at rfl) (by kernel_rfl) (by kernel_rfl) (by kernel_rfl) (fun _ _ _ h => h) (Or.inl ⟨rfl, fun w hSw => ?_⟩) (by assumption) ?_
    · (try dsimp only at hSw); go_simp; try with_reducible rfl
    (try simp only [Act.put, List.setIfInBounds_toArray, List.set_cons_zero, List.set_cons_succ])
    refine wpAnyH_done (by kernel_rfl) ?_ _
    go_wp2_with fail
    go_ret
    exact ⟨by rfl, g⟩
  · have HRk := Lib.hid (fun W (k : Gr w W) => officeRanks_err ro st va (hv.gr k) hE)
    have hz : (sheetE ro va st xs == 0) = false := beq_eq_false_iff_ne.2 hE
    generalize sheetE ro va st xs = E at *
    clear hE hv hn
    go_wp2_with fail
    refine (HRef.out _ g).mono ?_
    rintro e W4 ⟨rfl, hg⟩
    replace a0 := hg.cell a0
    replace a1 := hg.cell a1
    replace a2 := hg.cell a2
    replace a3 := hg.cell a3
    replace a4 := hg.cell a4
    replace a5 := hg.cell a5
    replace a6 := hg.cell a6
    replace b0 := hg.cell b0
    replace b1 := hg.cell b1
    replace b2 := hg.cell b2
    replace b3 := hg.cell b3
    replace b4 := hg.cell b4
    replace b5 := hg.cell b5
    replace b6 := hg.cell b6
    replace g := g.trans hg
    clear hg
    go_wp2_with fail
    refine (HRk.out _ g).mono ?_
    rintro e WD ⟨rfl, hg⟩
    replace a0 := hg.cell a0
    replace a1 := hg.cell a1
    replace a2 := hg.cell a2
    replace a3 := hg.cell a3
    replace a4 := hg.cell a4
    replace a5 := hg.cell a5
    replace a6 := hg.cell a6
    replace b0 := hg.cell b0
    replace b1 := hg.cell b1
    replace b2 := hg.cell b2
    replace b3 := hg.cell b3
    replace b4 := hg.cell b4
    replace b5 := hg.cell b5
    replace b6 := hg.cell b6
    replace g := g.trans hg
    clear hg
    go_wp2_with fail
    have HSI := Lib.hid (fun W (k : Gr w W) => sameIO_c (w := W) (zs := []) (n := 0) (q1 := none) (q2 := none) (c := 0) (c2 := 0) ⟨rfl, fun h => absurd h (by omega)⟩ ⟨rfl, fun h => absurd h (by omega)⟩ (by omega))
    clear HRk HRef
    have gd := (Gr.refl WD).drew
    replace a0 := gd.cell a0
    replace a1 := gd.cell a1
    replace a2 := gd.cell a2
    replace a3 := gd.cell a3
    replace a4 := gd.cell a4
    replace a5 := gd.cell a5
    replace a6 := gd.cell a6
    replace b0 := gd.cell b0
    replace b1 := gd.cell b1
    replace b2 := gd.cell b2
    replace b3 := gd.cell b3
    replace b4 := gd.cell b4
    replace b5 := gd.cell b5
    replace b6 := gd.cell b6
    replace g := g.trans gd
    clear gd
    refine wp_region_held_drew (S := (fun w' => w'.cell? ⟨L, 0, none⟩ = some (.string de) ∧ w'.cell? ⟨L, 1, none⟩ = some (.int .i64 nu) ∧ w'.cell? ⟨L, 2, none⟩ = some (.int .i64 ck) ∧ w'.cell? ⟨L, 3, none⟩ = some (.string ro) ∧ w'.cell? ⟨L, 4, none⟩ = some (.int .i64 va) ∧ w'.cell? ⟨L, 5, none⟩ = some (.string st) ∧ w'.cell? ⟨L, 6, none⟩ = some (.slice p n cap) ∧ w'.cell? ⟨M, 0, none⟩ = some (.string de) ∧ w'.cell? ⟨M, 1, none⟩ = some (.int .i64 nu) ∧ w'.cell? ⟨M, 2, none⟩ = some (.int .i64 ck) ∧ w'.cell? ⟨M, 3, none⟩ = some (.string ro) ∧ w'.cell? ⟨M, 4, none⟩ = some (.int .i64 va) ∧ w'.cell? ⟨M, 5, none⟩ = some (.string st) ∧ w'.cell? ⟨M, 6, none⟩ = some (.slice p n cap))) (by kernel_rfl) ⟨a0, a1, a2, a3, a4, a5, a6, b0, b1, b2, b3, b4, b5, b6⟩ (fun hHeld => ?_)
    generalize WD.drew = V2 at *
    refine wpAnyH_take (i := 0) (v := (.pointer (some ⟨L, 3, none⟩))) (op_at rfl) (by kernel_rfl) (by kernel_rfl) (by kernel_rfl) (fun _ _ _ h => h) (Or.inl ⟨rfl, fun w hSw => ?_⟩) (by assumption) ?_
    · (try dsimp only at hSw); go_simp; try with_reducible rfl
    (try simp only [Act.put, List.setIfInBounds_toArray, List.set_cons_zero, List.set_cons_succ])
    refine wpAnyH_take (i := 1) (v := (.agg #[.string ro, .int .i64 va, .string st, .slice p n cap])) (op_at rfl) (by kernel_rfl) (by kernel_rfl) (by kernel_rfl) (fun _ _ _ h => h) (Or.inl ⟨rfl, fun w hSw => ?_⟩) (by assumption) ?_
    · (try dsimp only at hSw); go_simp; try with_reducible rfl
    (try simp only [Act.put, List.setIfInBounds_toArray, List.set_cons_zero, List.set_cons_succ])
    refine wpAnyH_take (i := 3) (v := (.int .i64 E)) (op_at rfl) (by kernel_rfl) (by kernel_rfl) (by kernel_rfl) (fun _ _ _ h => h) (Or.inl ⟨rfl, fun w hSw => ?_⟩) (by assumption) ?_
    · (try dsimp only at hSw); go_simp; try with_reducible rfl
    (try simp only [Act.put, List.setIfInBounds_toArray, List.set_cons_zero, List.set_cons_succ])
    refine wpAnyH_ready (rs := [2]) (by kernel_rfl) (by simp) (AllReadyH.cons (op_at rfl) (fun K hK => ?_) AllReadyH.nil)
    go_simp
    (refine (HP.out _ g).mono ?_; rintro e w6 ⟨rfl, hg⟩; replace a0 := hg.cell a0; replace a1 := hg.cell a1; replace a2 := hg.cell a2; replace a3 := hg.cell a3; replace a4 := hg.cell a4; replace a5 := hg.cell a5; replace a6 := hg.cell a6; replace b0 := hg.cell b0; replace b1 := hg.cell b1; replace b2 := hg.cell b2; replace b3 := hg.cell b3; replace b4 := hg.cell b4; replace b5 := hg.cell b5; replace b6 := hg.cell b6; replace g := g.trans hg; clear hg)
    go_wp2_with fail
    refine hK.out _ _ ⟨a0, a1, a2, a3, a4, a5, a6, b0, b1, b2, b3, b4, b5, b6⟩ (fun hHeld => ?_)
    clear hK K
    (try simp only [Act.put, List.setIfInBounds_toArray, List.set_cons_zero, List.set_cons_succ])
    refine wpAnyH_take (i := 4) (v := (.bool true)) (op_at rfl) (by kernel_rfl) (by kernel_rfl) (by kernel_rfl) (fun _ _ _ h => h) (Or.inl ⟨rfl, fun w hSw => ?_⟩) (by assumption) ?_
    · (try dsimp only at hSw); go_simp; try with_reducible rfl
    (try simp only [Act.put, List.setIfInBounds_toArray, List.set_cons_zero, List.set_cons_succ])
    refine wpAnyH_take (i := 5) (v := (.bool true)) (op_at rfl) (by kernel_rfl) (by kernel_rfl) (by kernel_rfl) (fun _ _ _ h => h) (Or.inl ⟨rfl, fun w hSw => ?_⟩) (by assumption) ?_
    · (try dsimp only at hSw); go_simp; try with_reducible rfl
    (try simp only [Act.put, List.setIfInBounds_toArray, List.set_cons_zero, List.set_cons_succ])
    refine wpAnyH_take (i := 6) (v := (.int .i64 E)) (op_at rfl) (by kernel_rfl) (by kernel_rfl) (by kernel_rfl) (fun _ _ _ h => h) (Or.inl ⟨rfl, fun w hSw => ?_⟩) (by assumption) ?_
    · (try dsimp only at hSw); go_simp; try with_reducible rfl
    (try simp only [Act.put, List.setIfInBounds_toArray, List.set_cons_zero, List.set_cons_succ])
    refine wpAnyH_take (i := 7) (v := (.int .i64 E)) (op_at rfl) (by kernel_rfl) (by kernel_rfl) (by kernel_rfl) (fun _ _ _ h => h) (Or.inl ⟨rfl, fun w hSw => ?_⟩) (by assumption) ?_
    · (try dsimp only at hSw); go_simp; try with_reducible rfl
    (try simp only [Act.put, List.setIfInBounds_toArray, List.set_cons_zero, List.set_cons_succ])
    refine wpAnyH_take (i := 8) (v := (.bool true)) (op_at rfl) (by kernel_rfl) (by kernel_rfl) (by kernel_rfl) (fun _ _ _ h => h) (Or.inl ⟨rfl, fun w hSw => ?_⟩) (by assumption) ?_
    · (try dsimp only at hSw); go_simp; try with_reducible rfl
    (try simp only [Act.put, List.setIfInBounds_toArray, List.set_cons_zero, List.set_cons_succ])
    refine wpAnyH_take (i := 9) (v := (.bool true)) (op_at rfl) (by kernel_rfl) (by kernel_rfl) (by kernel_rfl) (fun _ _ _ h => h) (Or.inl ⟨rfl, fun w hSw => ?_⟩) (by assumption) ?_
    · (try dsimp only at hSw); go_simp; try with_reducible rfl
    (try simp only [Act.put, List.setIfInBounds_toArray, List.set_cons_zero, List.set_cons_succ])
    refine wpAnyH_take (i := 10) (v := (.bool true)) (op_at rfl) (by kernel_rfl) (by kernel_rfl) (by kernel_rfl) (fun _ _ _ h => h) (Or.inl ⟨rfl, fun w hSw => ?_⟩) (by assumption) ?_
    · (try dsimp only at hSw); go_simp; try with_reducible rfl
    (try simp only [Act.put, List.setIfInBounds_toArray, List.set_cons_zero, List.set_cons_succ])
    refine wpAnyH_take (i := 11) (v := (.slice none 0 0)) (op_at rfl) (by kernel_rfl) (by kernel_rfl) (by kernel_rfl) (fun _ _ _ h => h) (Or.inl ⟨rfl, fun w hSw => ?_⟩) (by assumption) ?_
    · (try dsimp only at hSw); go_simp; try with_reducible rfl
    (try simp only [Act.put, List.setIfInBounds_toArray, List.set_cons_zero, List.set_cons_succ])
    refine wpAnyH_take (i := 12) (v := (.slice none 0 0)) (op_at rfl) (by kernel_rfl) (by kernel_rfl) (by kernel_rfl) (fun _ _ _ h => h) (Or.inl ⟨rfl, fun w hSw => ?_⟩) (by assumption) ?_
    · (try dsimp only at hSw); go_simp; try with_reducible rfl
    (try simp only [Act.put, List.setIfInBounds_toArray, List.set_cons_zero, List.set_cons_succ])
    refine wpAnyH_ready (rs := [13]) (by kernel_rfl) (by simp) (AllReadyH.cons (op_at rfl) (fun K hK => ?_) AllReadyH.nil)
    go_simp
    (refine (HSI.out _ g).mono ?_; rintro e w7 ⟨rfl, hg⟩; replace a0 := hg.cell a0; replace a1 := hg.cell a1; replace a2 := hg.cell a2; replace a3 := hg.cell a3; replace a4 := hg.cell a4; replace a5 := hg.cell a5; replace a6 := hg.cell a6; replace b0 := hg.cell b0; replace b1 := hg.cell b1; replace b2 := hg.cell b2; replace b3 := hg.cell b3; replace b4 := hg.cell b4; replace b5 := hg.cell b5; replace b6 := hg.cell b6; replace g := g.trans hg; clear hg)
    go_wp2_with fail
    refine hK.out _ _ ⟨a0, a1, a2, a3, a4, a5, a6, b0, b1, b2, b3, b4, b5, b6⟩ (fun hHeld => ?_)
    clear hK K
    (try simp only [Act.put, List.setIfInBounds_toArray, List.set_cons_zero, List.set_cons_succ])
    refine wpAnyH_take (i := 14) (v := (.bool true)) (op_at rfl) (by kernel_rfl) (by kernel_rfl) (by kernel_rfl) (fun _ _ _ h => h) (Or.inl ⟨rfl, fun w hSw => ?_⟩) (by assumption) ?_
    · (try dsimp only at hSw); go_simp; try with_reducible rfl
    (try simp only [Act.put, List.setIfInBounds_toArray, List.set_cons_zero, List.set_cons_succ])
    refine wpAnyH_take (i := 15) (v := (.bool true)) (op_at rfl) (by kernel_rfl) (by kernel_rfl) (by kernel_rfl) (fun _ _ _ h => h) (Or.inl ⟨rfl, fun w hSw => ?_⟩) (by assumption) ?_
    · (try dsimp only at hSw); go_simp; try with_reducible rfl
    (try simp only [Act.put, List.setIfInBounds_toArray, List.set_cons_zero, List.set_cons_succ])
    refine wpAnyH_take (i := 16) (v := (.agg #[.string de, .int .i64 nu, .int .i64 ck, .string ro, .int .i64 va, .string st, .slice p n cap])) (op_at rfl) (by kernel_rfl) (by kernel_rfl) (by kernel_rfl) (fun _ _ _ h => h) (Or.inl ⟨rfl, fun w hSw => ?_⟩) (by assumption) ?_
    · (try dsimp only at hSw); go_simp; try with_reducible rfl
    (try simp only [Act.put, List.setIfInBounds_toArray, List.set_cons_zero, List.set_cons_succ])
    refine wpAnyH_take (i := 18) (v := (.agg #[.string de, .int .i64 nu, .int .i64 ck, .string ro, .int .i64 va, .string st, .slice p n cap])) (op_at rfl) (by kernel_rfl) (by kernel_rfl) (by kernel_rfl) (fun _ _ _ h => h) (Or.inl ⟨rfl, fun w hSw => ?_⟩) (by assumption) ?_
    · (try dsimp only at hSw); go_simp; try with_reducible rfl
    (try simp only [Act.put, List.setIfInBounds_toArray, List.set_cons_zero, List.set_cons_succ])
    refine wpAnyH_ready (rs := [17]) (by kernel_rfl) (by simp) (AllReadyH.cons (op_at rfl) (fun K hK => ?_) AllReadyH.nil)
    go_simp
    (refine (HPE.out _ g).mono ?_; rintro e w8 ⟨rfl, hg⟩; replace a0 := hg.cell a0; replace a1 := hg.cell a1; replace a2 := hg.cell a2; replace a3 := hg.cell a3; replace a4 := hg.cell a4; replace a5 := hg.cell a5; replace a6 := hg.cell a6; replace b0 := hg.cell b0; replace b1 := hg.cell b1; replace b2 := hg.cell b2; replace b3 := hg.cell b3; replace b4 := hg.cell b4; replace b5 := hg.cell b5; replace b6 := hg.cell b6; replace g := g.trans hg; clear hg)
    go_wp2_with fail
    refine hK.out _ _ ⟨a0, a1, a2, a3, a4, a5, a6, b0, b1, b2, b3, b4, b5, b6⟩ (fun hHeld => ?_)
    clear hK K
    (try simp only [Act.put, List.setIfInBounds_toArray, List.set_cons_zero, List.set_cons_succ])
    refine wpAnyH_ready (rs := [19]) (by kernel_rfl) (by simp) (AllReadyH.cons (op_at rfl) (fun K hK => ?_) AllReadyH.nil)
    go_simp
    (refine (HRE.out _ g).mono ?_; rintro e w9 ⟨rfl, hg⟩; replace a0 := hg.cell a0; replace a1 := hg.cell a1; replace a2 := hg.cell a2; replace a3 := hg.cell a3; replace a4 := hg.cell a4; replace a5 := hg.cell a5; replace a6 := hg.cell a6; replace b0 := hg.cell b0; replace b1 := hg.cell b1; replace b2 := hg.cell b2; replace b3 := hg.cell b3; replace b4 := hg.cell b4; replace b5 := hg.cell b5; replace b6 := hg.cell b6; replace g := g.trans hg; clear hg)
    go_wp2_with fail
    refine hK.out _ _ ⟨a0, a1, a2, a3, a4, a5, a6, b0, b1, b2, b3, b4, b5, b6⟩ (fun hHeld => ?_)
    clear hK K
    (try simp only [Act.put, List.setIfInBounds_toArray, List.set_cons_zero, List.set_cons_succ])
    refine wpAnyH_take (i := 20) (v := (.bool true)) (op_at rfl) (by kernel_rfl) (by kernel_rfl) (by kernel_rfl) (fun _ _ _ h => h) (Or.inl ⟨rfl, fun w hSw => ?_⟩) (by assumption) ?_
    · (try dsimp only at hSw); go_simp; try with_reducible rfl
    (try simp only [Act.put, List.setIfInBounds_toArray, List.set_cons_zero, List.set_cons_succ])
    refine wpAnyH_take (i := 21) (v := (.bool true)) (op_at rfl) (by kernel_rfl) (by kernel_rfl) (by kernel_rfl) (fun _ _ _ h => h) (Or.inl ⟨rfl, fun w hSw => ?_⟩) (by assumption) ?_
    · (try dsimp only at hSw); go_simp; try with_reducible rfl
    (try simp only [Act.put, List.setIfInBounds_toArray, List.set_cons_zero, List.set_cons_succ])
    refine wpAnyH_take (i := 22) (v := (.bool true)) (op_at rfl) (by kernel_rfl) (by kernel_rfl) (by kernel_rfl) (fun _ _ _ h => h) (Or.inl ⟨rfl, fun w hSw => ?_⟩) (by assumption) ?_
    · (try dsimp only at hSw); go_simp; try with_reducible rfl
    (try simp only [Act.put, List.setIfInBounds_toArray, List.set_cons_zero, List.set_cons_succ])
    refine wpAnyH_ready (rs := [23]) (by kernel_rfl) (by simp) (AllReadyH.cons (op_at rfl) (fun K hK => ?_) AllReadyH.nil)
    go_simp
    (refine (HA.out _ g).mono ?_; rintro e w10 ⟨rfl, hg⟩; replace a0 := hg.cell a0; replace a1 := hg.cell a1; replace a2 := hg.cell a2; replace a3 := hg.cell a3; replace a4 := hg.cell a4; replace a5 := hg.cell a5; replace a6 := hg.cell a6; replace b0 := hg.cell b0; replace b1 := hg.cell b1; replace b2 := hg.cell b2; replace b3 := hg.cell b3; replace b4 := hg.cell b4; replace b5 := hg.cell b5; replace b6 := hg.cell b6; replace g := g.trans hg; clear hg)
    go_wp2_with fail
    refine hK.out _ _ ⟨a0, a1, a2, a3, a4, a5, a6, b0, b1, b2, b3, b4, b5, b6⟩ (fun hHeld => ?_)
    clear hK K
    (try simp only [Act.put, List.setIfInBounds_toArray, List.set_cons_zero, List.set_cons_succ])
    refine wpAnyH_take (i := 24) (v := (.bool true)) (op_at rfl) (by kernel_rfl) (by kernel_rfl) (by kernel_rfl) (fun _ _ _ h => h) (Or.inl ⟨rfl, fun w hSw => ?_⟩) (by assumption) ?_
    · (try dsimp only at hSw); go_simp; try with_reducible rfl
    (try simp only [Act.put, List.setIfInBounds_toArray, List.set_cons_zero, List.set_cons_succ])
    refine wpAnyH_take (i := 25) (v := (.bool true)) (op_at rfl) (by kernel_rfl) (by kernel_rfl) (by kernel_rfl) (fun _ _ _ h => h) (Or.inl ⟨rfl, fun w hSw => ?_⟩) (by assumption) ?_
    · (try dsimp only at hSw); go_simp; try with_reducible rfl
    (try simp only [Act.put, List.setIfInBounds_toArray, List.set_cons_zero, List.set_cons_succ])
    refine wpAnyH_done (by kernel_rfl) ?_ _
    go_wp2_with fail
    go_ret
    exact ⟨by rfl, g⟩
end Go.Proofs.YtjkiidkacpffnaaGreatDoor
