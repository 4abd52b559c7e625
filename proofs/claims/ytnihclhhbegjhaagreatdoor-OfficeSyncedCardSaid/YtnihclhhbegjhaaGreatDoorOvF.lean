/- Archives (chapter 10): the reference: CheckArchive. -/
import Derived.Test.YtnihclhhbegjhaaGreatDoorGOvA
namespace Go.Proofs.YtnihclhhbegjhaaGreatDoor
open Go.RowKit Go.Lib
set_option linter.unusedSimpArgs false
set_option linter.unusedVariables false
set_option maxHeartbeats 4000000 in
set_option maxRecDepth 100000 in
theorem refArch_c {w : World} {q : Option Addr} {l : List EnR} {n cap : Nat} (hn : n = l.length) (h1 : n ≤ 1000) (hr : EnS w q l) (hf : Few l) :
    Calls Tryz.prog 11 #[.slice q n cap] w fun e w' => e = .returned (.int .i64 (archE l)) ∧ Gr w w' := by
  have HX := Lib.hid (fun k (h : k < n) => (show ∃ x, l[k]? = some x from ⟨l[k]'(by omega), List.getElem?_eq_getElem _⟩))
  have HR := Lib.hid hr.out
  have HN := Lib.hid hn
  have HFW := Lib.hid hf
  have HS := Lib.hid (fun i x (hi : i < n) (h : l[i]? = some x) => errG_step (E := enE l) hi h)
  have HE : Hid (errG (enE l) l 0 n = 0) := rfl
  have HEN : Hid (∀ i x, enE l i x = if enErr x = 0 then (if ordE l i x = true then 11 else 0) else enErr x) := fun i x => by
    have hh : ∀ a b : Int, firstE [a, b] = if a = 0 then (if b = 0 then 0 else b) else a := fun _ _ => rfl
    unfold enE
    rw [hh]
    cases ordE l i x <;> simp
  have HOR : Hid (∀ i j x a, i = j + 1 → l[j]? = some a → ordE l i x = ordB a x) := fun i j x a e h => by
    subst e
    simp only [ordE, h]
  have HO0 : Hid (∀ x, ordE l 0 x = false) := fun x => rfl
  have hA : archE l = errG (enE l) l n 0 := by rw [hn]; rfl
  rw [hA]
  generalize errG (enE l) l = R at *
  have h2 : ¬ (1000 : Int) < (n : Int) := by omega
  clear hr hf hn hA
  go_enter Tryz.func11, Tryz.ntmps11
  go_wp2_with fail
  go_loopg [3, 4] n (fun gk s3 s4 wr => ∃ (i : Nat) (v4 : Value), s3 = .int .i64 (i : Int) ∧ s4 = v4 ∧ gk + i = n ∧ Hid (Gr w wr) ∧ Hid (R (n - i) i = R n 0))
  case atStart => exact ⟨0, undef, rfl, rfl, by omega, Gr.refl _, by simp [Hid]⟩
  case round =>
    obtain ⟨i, v4, rfl, rfl, hgk, HG, HF⟩ := hrel
    by_cases hlt : i < n
    · obtain ⟨x, hx⟩ := HX.out i hlt
      obtain ⟨b, off, rfl, hc⟩ := HR.out (by have := HN.out; omega)
      have hat := (hc i x hx).gr HG.out
      have hlt2 : (i : Int) < (n : Int) := by omega
      have HCE0 := Lib.hid (refEn_c x (hat.rowsV (HFW.out x (List.mem_of_getElem? hx))))
      obtain ⟨x0, x1, x2, x3, x4, x5, x6, _⟩ := hat
      have hst := HS.out i x hlt hx
      have HEQ := HEN.out i x
      unfold enV at HCE0
      by_cases hz : enErr x = 0
      · rw [hz] at HCE0
        rw [if_pos hz] at HEQ
        clear hz
        go_wp2_with fail
        refine HCE0.out.mono ?_
        rintro e V0 ⟨rfl, hg⟩
        have HG0 := Lib.hid (HG.out.trans hg)
        replace x0 := hg.cell x0
        replace x1 := hg.cell x1
        replace x2 := hg.cell x2
        replace x3 := hg.cell x3
        replace x4 := hg.cell x4
        replace x5 := hg.cell x5
        replace x6 := hg.cell x6
        clear hg HCE0
        rcases Nat.eq_zero_or_pos i with hi0 | hi0
        · subst hi0
          rw [HO0.out x] at HEQ
          have hE : enE l 0 x = 0 := HEQ
          rw [if_pos hE] at hst
          have HF2 := Lib.hid hst
          clear hst HEQ hx hc hE
          go_wp2_with fail
          go_big_quiet (fail)
          go_wp2_with fail
          go_roundg (gk - 1)
          case measure => omega
          case rel => exact ⟨0 + 1, _, by go_num, rfl, by omega, HG0.out.drewN _, by unfold Hid; rw [← HF2.out, HF.out]⟩
        · obtain ⟨j, hij⟩ : ∃ j, i = j + 1 := ⟨i - 1, by omega⟩
          obtain ⟨a, ha⟩ := HX.out j (by omega)
          rw [HOR.out i j x a hij ha] at HEQ
          obtain ⟨y0, y1, y2, y3, y4, y5, y6, _⟩ := (hc j a ha).gr HG0.out
          have HBF0 := Lib.hid (fun V => before_c a x V)
          unfold enV at HBF0
          have hw1 : IntKind.i64.wrap ((i : Int) - 1) = (j : Int) := by rw [IntKind.wrap_i64]; omega
          have d1 : decide ((0 : Int) < (i : Int)) = true := decide_eq_true (by omega)
          have hjn : j < n := by omega
          have hi1 : 0 < i := hi0
          clear hij hi0 hx hc ha hlt
          go_wp2_with fail
          have gd := (Gr.refl V0).drew
          replace x0 := gd.cell x0
          replace x1 := gd.cell x1
          replace x2 := gd.cell x2
          replace x3 := gd.cell x3
          replace x4 := gd.cell x4
          replace x5 := gd.cell x5
          replace x6 := gd.cell x6
          replace y0 := gd.cell y0
          replace y1 := gd.cell y1
          replace y2 := gd.cell y2
          replace y3 := gd.cell y3
          replace y4 := gd.cell y4
          replace y5 := gd.cell y5
          replace y6 := gd.cell y6
          have g := gd
          clear gd
          cases hbe : befB a x
          · have ho : ordB a x = true := by unfold ordB; rw [hbe]; rfl
            rw [ho, if_pos rfl] at HEQ
            rw [HEQ] at hst
            have HQ : Hid (R n 0 = 11) := by unfold Hid; rw [← HF.out, hst]; rfl
            rw [hbe] at HBF0
            have HBF := HBF0
            clear hst HEQ ho hbe HBF0
            refine wp_region_held_drew (S := (fun w' => w'.cell? ⟨b, off + i * 7, none⟩ = some (.string x.de) ∧ w'.cell? ⟨b, off + i * 7 + 1, none⟩ = some (.int .i64 x.nu) ∧ w'.cell? ⟨b, off + i * 7 + 2, none⟩ = some (.int .i64 x.ck) ∧ w'.cell? ⟨b, off + i * 7 + 3, none⟩ = some (.string x.ro) ∧ w'.cell? ⟨b, off + i * 7 + 4, none⟩ = some (.int .i64 x.va) ∧ w'.cell? ⟨b, off + i * 7 + 5, none⟩ = some (.string x.st) ∧ w'.cell? ⟨b, off + i * 7 + 6, none⟩ = some (.slice x.p x.n x.cap) ∧ w'.cell? ⟨b, off + j * 7, none⟩ = some (.string a.de) ∧ w'.cell? ⟨b, off + j * 7 + 1, none⟩ = some (.int .i64 a.nu) ∧ w'.cell? ⟨b, off + j * 7 + 2, none⟩ = some (.int .i64 a.ck) ∧ w'.cell? ⟨b, off + j * 7 + 3, none⟩ = some (.string a.ro) ∧ w'.cell? ⟨b, off + j * 7 + 4, none⟩ = some (.int .i64 a.va) ∧ w'.cell? ⟨b, off + j * 7 + 5, none⟩ = some (.string a.st) ∧ w'.cell? ⟨b, off + j * 7 + 6, none⟩ = some (.slice a.p a.n a.cap))) (by kernel_rfl) ⟨x0, x1, x2, x3, x4, x5, x6, y0, y1, y2, y3, y4, y5, y6⟩ (fun hHeld => ?_)
            generalize V0.drew = V at *
            refine wpAnyH_take (i := 0) (v := (.int .i64 0)) (op_at rfl) (by kernel_rfl) (by kernel_rfl) (by kernel_rfl) (fun _ _ _ h => h) (Or.inl ⟨rfl, fun w hSw => ?_⟩) (by assumption) ?_
            · (try dsimp only at hSw); go_simp; try with_reducible rfl
            (try simp only [Act.put, tz0, tz1, tz2])
            refine wpAnyH_take (i := 1) (v := (.bool true)) (op_at rfl) (by kernel_rfl) (by kernel_rfl) (by kernel_rfl) (fun _ _ _ h => h) (Or.inl ⟨rfl, fun w hSw => ?_⟩) (by assumption) ?_
            · (try dsimp only at hSw); go_simp; try with_reducible rfl
            (try simp only [Act.put, tz0, tz1, tz2])
            refine wpAnyH_take (i := 2) (v := (.bool true)) (op_at rfl) (by kernel_rfl) (by kernel_rfl) (by kernel_rfl) (fun _ _ _ h => h) (Or.inl ⟨rfl, fun w hSw => ?_⟩) (by assumption) ?_
            · (try dsimp only at hSw); go_simp; try with_reducible rfl
            (try simp only [Act.put, tz0, tz1, tz2])
            refine wpAnyH_take (i := 3) (v := (.int .i64 (i : Int))) (op_at rfl) (by kernel_rfl) (by kernel_rfl) (by kernel_rfl) (fun _ _ _ h => h) (Or.inl ⟨rfl, fun w hSw => ?_⟩) (by assumption) ?_
            · (try dsimp only at hSw); go_simp; try with_reducible rfl
            (try simp only [Act.put, tz0, tz1, tz2])
            refine wpAnyH_take (i := 4) (v := (.bool true)) (op_at rfl) (by kernel_rfl) (by kernel_rfl) (by kernel_rfl) (fun _ _ _ h => h) (Or.inl ⟨rfl, fun w hSw => ?_⟩) (by assumption) ?_
            · (try dsimp only at hSw); go_simp; try with_reducible rfl
            (try simp only [Act.put, tz0, tz1, tz2])
            refine wpAnyH_take (i := 5) (v := (.bool true)) (op_at rfl) (by kernel_rfl) (by kernel_rfl) (by kernel_rfl) (fun _ _ _ h => h) (Or.inl ⟨rfl, fun w hSw => ?_⟩) (by assumption) ?_
            · (try dsimp only at hSw); go_simp; try with_reducible rfl
            (try simp only [Act.put, tz0, tz1, tz2])
            refine wpAnyH_take (i := 6) (v := (.bool true)) (op_at rfl) (by kernel_rfl) (by kernel_rfl) (by kernel_rfl) (fun _ _ _ h => h) (Or.inl ⟨rfl, fun w hSw => ?_⟩) (by assumption) ?_
            · (try dsimp only at hSw); go_simp; try with_reducible rfl
            (try simp only [Act.put, tz0, tz1, tz2])
            refine wpAnyH_take (i := 7) (v := (.slice (some ⟨b, off, none⟩) n cap)) (op_at rfl) (by kernel_rfl) (by kernel_rfl) (by kernel_rfl) (fun _ _ _ h => h) (Or.inl ⟨rfl, fun w hSw => ?_⟩) (by assumption) ?_
            · (try dsimp only at hSw); go_simp; try with_reducible rfl
            (try simp only [Act.put, tz0, tz1, tz2])
            refine wpAnyH_take (i := 8) (v := (.int .i64 (i : Int))) (op_at rfl) (by kernel_rfl) (by kernel_rfl) (by kernel_rfl) (fun _ _ _ h => h) (Or.inl ⟨rfl, fun w hSw => ?_⟩) (by assumption) ?_
            · (try dsimp only at hSw); go_simp; try with_reducible rfl
            (try simp only [Act.put, tz0, tz1, tz2])
            refine wpAnyH_take (i := 9) (v := (.int .i64 (j : Int))) (op_at rfl) (by kernel_rfl) (by kernel_rfl) (by kernel_rfl) (fun _ _ _ h => h) (Or.inl ⟨rfl, fun w hSw => ?_⟩) (by assumption) ?_
            · (try dsimp only at hSw); go_simp; try with_reducible rfl
            (try simp only [Act.put, tz0, tz1, tz2])
            refine wpAnyH_take (i := 10) (v := (.pointer (some ⟨b, off + j * 7, none⟩))) (op_at rfl) (by kernel_rfl) (by kernel_rfl) (by kernel_rfl) (fun _ _ _ h => h) (Or.inl ⟨rfl, fun w hSw => ?_⟩) (by assumption) ?_
            · (try dsimp only at hSw); go_simp; try with_reducible rfl
            (try simp only [Act.put, tz0, tz1, tz2])
            refine wpAnyH_take (i := 11) (v := (.agg #[.string a.de, .int .i64 a.nu, .int .i64 a.ck, .string a.ro, .int .i64 a.va, .string a.st, .slice a.p a.n a.cap])) (op_at rfl) (by kernel_rfl) (by kernel_rfl) (by kernel_rfl) (fun _ _ _ h => h) (Or.inl ⟨rfl, fun w hSw => ?_⟩) (by assumption) ?_
            · (try dsimp only at hSw); go_simp; try with_reducible rfl
            (try simp only [Act.put, tz0, tz1, tz2])
            refine wpAnyH_take (i := 12) (v := (.slice (some ⟨b, off, none⟩) n cap)) (op_at rfl) (by kernel_rfl) (by kernel_rfl) (by kernel_rfl) (fun _ _ _ h => h) (Or.inl ⟨rfl, fun w hSw => ?_⟩) (by assumption) ?_
            · (try dsimp only at hSw); go_simp; try with_reducible rfl
            (try simp only [Act.put, tz0, tz1, tz2])
            refine wpAnyH_take (i := 13) (v := (.int .i64 (i : Int))) (op_at rfl) (by kernel_rfl) (by kernel_rfl) (by kernel_rfl) (fun _ _ _ h => h) (Or.inl ⟨rfl, fun w hSw => ?_⟩) (by assumption) ?_
            · (try dsimp only at hSw); go_simp; try with_reducible rfl
            (try simp only [Act.put, tz0, tz1, tz2])
            refine wpAnyH_take (i := 14) (v := (.pointer (some ⟨b, off + i * 7, none⟩))) (op_at rfl) (by kernel_rfl) (by kernel_rfl) (by kernel_rfl) (fun _ _ _ h => h) (Or.inl ⟨rfl, fun w hSw => ?_⟩) (by assumption) ?_
            · (try dsimp only at hSw); go_simp; try with_reducible rfl
            (try simp only [Act.put, tz0, tz1, tz2])
            refine wpAnyH_take (i := 15) (v := (.agg #[.string x.de, .int .i64 x.nu, .int .i64 x.ck, .string x.ro, .int .i64 x.va, .string x.st, .slice x.p x.n x.cap])) (op_at rfl) (by kernel_rfl) (by kernel_rfl) (by kernel_rfl) (fun _ _ _ h => h) (Or.inl ⟨rfl, fun w hSw => ?_⟩) (by assumption) ?_
            · (try dsimp only at hSw); go_simp; try with_reducible rfl
            (try simp only [Act.put, tz0, tz1, tz2])
            refine wpAnyH_ready (rs := [16]) (by kernel_rfl) (by simp) (AllReadyH.cons (op_at rfl) (fun K hK => ?_) AllReadyH.nil)
            go_simp
            (refine (HBF.out _).mono ?_; rintro e W4 ⟨rfl, hg⟩; replace x0 := hg.cell x0; replace x1 := hg.cell x1; replace x2 := hg.cell x2; replace x3 := hg.cell x3; replace x4 := hg.cell x4; replace x5 := hg.cell x5; replace x6 := hg.cell x6; replace y0 := hg.cell y0; replace y1 := hg.cell y1; replace y2 := hg.cell y2; replace y3 := hg.cell y3; replace y4 := hg.cell y4; replace y5 := hg.cell y5; replace y6 := hg.cell y6; replace g := g.trans hg; clear hg)
            go_wp2_with fail
            refine hK.out _ _ ⟨x0, x1, x2, x3, x4, x5, x6, y0, y1, y2, y3, y4, y5, y6⟩ (fun hHeld => ?_)
            clear hK K
            (try simp only [Act.put, tz0, tz1, tz2])
            refine wpAnyH_take (i := 17) (v := (.bool true)) (op_at rfl) (by kernel_rfl) (by kernel_rfl) (by kernel_rfl) (fun _ _ _ h => h) (Or.inl ⟨rfl, fun w hSw => ?_⟩) (by assumption) ?_
            · (try dsimp only at hSw); go_simp; try with_reducible rfl
            (try simp only [Act.put, tz0, tz1, tz2])
            refine wpAnyH_take (i := 18) (v := (.bool true)) (op_at rfl) (by kernel_rfl) (by kernel_rfl) (by kernel_rfl) (fun _ _ _ h => h) (Or.inl ⟨rfl, fun w hSw => ?_⟩) (by assumption) ?_
            · (try dsimp only at hSw); go_simp; try with_reducible rfl
            (try simp only [Act.put, tz0, tz1, tz2])
            refine wpAnyH_take (i := 19) (v := undef) (op_at rfl) (by kernel_rfl) (by kernel_rfl) (by kernel_rfl) (fun _ _ _ h => h) (Or.inr ⟨rfl, rfl⟩) (by assumption) ?_
            (try simp only [Act.put, tz0, tz1, tz2])
            refine wpAnyH_take (i := 20) (v := undef) (op_at rfl) (by kernel_rfl) (by kernel_rfl) (by kernel_rfl) (fun _ _ _ h => h) (Or.inr ⟨rfl, rfl⟩) (by assumption) ?_
            (try simp only [Act.put, tz0, tz1, tz2])
            refine wpAnyH_take (i := 21) (v := undef) (op_at rfl) (by kernel_rfl) (by kernel_rfl) (by kernel_rfl) (fun _ _ _ h => h) (Or.inr ⟨rfl, rfl⟩) (by assumption) ?_
            (try simp only [Act.put, tz0, tz1, tz2])
            refine wpAnyH_take (i := 22) (v := undef) (op_at rfl) (by kernel_rfl) (by kernel_rfl) (by kernel_rfl) (fun _ _ _ h => h) (Or.inr ⟨rfl, rfl⟩) (by assumption) ?_
            (try simp only [Act.put, tz0, tz1, tz2])
            refine wpAnyH_take (i := 23) (v := undef) (op_at rfl) (by kernel_rfl) (by kernel_rfl) (by kernel_rfl) (fun _ _ _ h => h) (Or.inr ⟨rfl, rfl⟩) (by assumption) ?_
            (try simp only [Act.put, tz0, tz1, tz2])
            refine wpAnyH_take (i := 24) (v := undef) (op_at rfl) (by kernel_rfl) (by kernel_rfl) (by kernel_rfl) (fun _ _ _ h => h) (Or.inr ⟨rfl, rfl⟩) (by assumption) ?_
            (try simp only [Act.put, tz0, tz1, tz2])
            refine wpAnyH_take (i := 25) (v := undef) (op_at rfl) (by kernel_rfl) (by kernel_rfl) (by kernel_rfl) (fun _ _ _ h => h) (Or.inr ⟨rfl, rfl⟩) (by assumption) ?_
            (try simp only [Act.put, tz0, tz1, tz2])
            refine wpAnyH_take (i := 26) (v := undef) (op_at rfl) (by kernel_rfl) (by kernel_rfl) (by kernel_rfl) (fun _ _ _ h => h) (Or.inr ⟨rfl, rfl⟩) (by assumption) ?_
            (try simp only [Act.put, tz0, tz1, tz2])
            refine wpAnyH_take (i := 27) (v := undef) (op_at rfl) (by kernel_rfl) (by kernel_rfl) (by kernel_rfl) (fun _ _ _ h => h) (Or.inr ⟨rfl, rfl⟩) (by assumption) ?_
            (try simp only [Act.put, tz0, tz1, tz2])
            refine wpAnyH_take (i := 28) (v := undef) (op_at rfl) (by kernel_rfl) (by kernel_rfl) (by kernel_rfl) (fun _ _ _ h => h) (Or.inr ⟨rfl, rfl⟩) (by assumption) ?_
            (try simp only [Act.put, tz0, tz1, tz2])
            refine wpAnyH_take (i := 29) (v := undef) (op_at rfl) (by kernel_rfl) (by kernel_rfl) (by kernel_rfl) (fun _ _ _ h => h) (Or.inr ⟨rfl, rfl⟩) (by assumption) ?_
            (try simp only [Act.put, tz0, tz1, tz2])
            refine wpAnyH_take (i := 30) (v := undef) (op_at rfl) (by kernel_rfl) (by kernel_rfl) (by kernel_rfl) (fun _ _ _ h => h) (Or.inr ⟨rfl, rfl⟩) (by assumption) ?_
            (try simp only [Act.put, tz0, tz1, tz2])
            refine wpAnyH_take (i := 31) (v := undef) (op_at rfl) (by kernel_rfl) (by kernel_rfl) (by kernel_rfl) (fun _ _ _ h => h) (Or.inr ⟨rfl, rfl⟩) (by assumption) ?_
            (try simp only [Act.put, tz0, tz1, tz2])
            refine wpAnyH_take (i := 32) (v := undef) (op_at rfl) (by kernel_rfl) (by kernel_rfl) (by kernel_rfl) (fun _ _ _ h => h) (Or.inr ⟨rfl, rfl⟩) (by assumption) ?_
            (try simp only [Act.put, tz0, tz1, tz2])
            refine wpAnyH_take (i := 33) (v := undef) (op_at rfl) (by kernel_rfl) (by kernel_rfl) (by kernel_rfl) (fun _ _ _ h => h) (Or.inr ⟨rfl, rfl⟩) (by assumption) ?_
            (try simp only [Act.put, tz0, tz1, tz2])
            refine wpAnyH_take (i := 34) (v := undef) (op_at rfl) (by kernel_rfl) (by kernel_rfl) (by kernel_rfl) (fun _ _ _ h => h) (Or.inr ⟨rfl, rfl⟩) (by assumption) ?_
            (try simp only [Act.put, tz0, tz1, tz2])
            refine wpAnyH_take (i := 35) (v := undef) (op_at rfl) (by kernel_rfl) (by kernel_rfl) (by kernel_rfl) (fun _ _ _ h => h) (Or.inr ⟨rfl, rfl⟩) (by assumption) ?_
            (try simp only [Act.put, tz0, tz1, tz2])
            refine wpAnyH_take (i := 36) (v := undef) (op_at rfl) (by kernel_rfl) (by kernel_rfl) (by kernel_rfl) (fun _ _ _ h => h) (Or.inr ⟨rfl, rfl⟩) (by assumption) ?_
            (try simp only [Act.put, tz0, tz1, tz2])
            refine wpAnyH_take (i := 37) (v := undef) (op_at rfl) (by kernel_rfl) (by kernel_rfl) (by kernel_rfl) (fun _ _ _ h => h) (Or.inr ⟨rfl, rfl⟩) (by assumption) ?_
            (try simp only [Act.put, tz0, tz1, tz2])
            refine wpAnyH_take (i := 38) (v := undef) (op_at rfl) (by kernel_rfl) (by kernel_rfl) (by kernel_rfl) (fun _ _ _ h => h) (Or.inr ⟨rfl, rfl⟩) (by assumption) ?_
            (try simp only [Act.put, tz0, tz1, tz2])
            refine wpAnyH_take (i := 39) (v := undef) (op_at rfl) (by kernel_rfl) (by kernel_rfl) (by kernel_rfl) (fun _ _ _ h => h) (Or.inr ⟨rfl, rfl⟩) (by assumption) ?_
            (try simp only [Act.put, tz0, tz1, tz2])
            refine wpAnyH_take (i := 40) (v := undef) (op_at rfl) (by kernel_rfl) (by kernel_rfl) (by kernel_rfl) (fun _ _ _ h => h) (Or.inr ⟨rfl, rfl⟩) (by assumption) ?_
            (try simp only [Act.put, tz0, tz1, tz2])
            refine wpAnyH_take (i := 41) (v := undef) (op_at rfl) (by kernel_rfl) (by kernel_rfl) (by kernel_rfl) (fun _ _ _ h => h) (Or.inr ⟨rfl, rfl⟩) (by assumption) ?_
            (try simp only [Act.put, tz0, tz1, tz2])
            refine wpAnyH_take (i := 42) (v := undef) (op_at rfl) (by kernel_rfl) (by kernel_rfl) (by kernel_rfl) (fun _ _ _ h => h) (Or.inr ⟨rfl, rfl⟩) (by assumption) ?_
            (try simp only [Act.put, tz0, tz1, tz2])
            refine wpAnyH_take (i := 43) (v := undef) (op_at rfl) (by kernel_rfl) (by kernel_rfl) (by kernel_rfl) (fun _ _ _ h => h) (Or.inr ⟨rfl, rfl⟩) (by assumption) ?_
            (try simp only [Act.put, tz0, tz1, tz2])
            refine wpAnyH_take (i := 44) (v := undef) (op_at rfl) (by kernel_rfl) (by kernel_rfl) (by kernel_rfl) (fun _ _ _ h => h) (Or.inr ⟨rfl, rfl⟩) (by assumption) ?_
            (try simp only [Act.put, tz0, tz1, tz2])
            refine wpAnyH_take (i := 45) (v := (.bool true)) (op_at rfl) (by kernel_rfl) (by kernel_rfl) (by kernel_rfl) (fun _ _ _ h => h) (Or.inl ⟨rfl, fun w hSw => ?_⟩) (by assumption) ?_
            · (try dsimp only at hSw); go_simp; try with_reducible rfl
            (try simp only [Act.put, tz0, tz1, tz2])
            refine wpAnyH_take (i := 46) (v := (.bool true)) (op_at rfl) (by kernel_rfl) (by kernel_rfl) (by kernel_rfl) (fun _ _ _ h => h) (Or.inl ⟨rfl, fun w hSw => ?_⟩) (by assumption) ?_
            · (try dsimp only at hSw); go_simp; try with_reducible rfl
            (try simp only [Act.put, tz0, tz1, tz2])
            refine wpAnyH_done (by kernel_rfl) ?_ _
            go_wp2_with fail
            go_ret
            exact ⟨by rw [HQ.out]; rfl, HG0.out.trans g⟩
          · rw [hbe] at HBF0
            have HBF := HBF0
            clear HBF0
            cases heq : (a.de.toList == x.de.toList)
            · have ho : ordB a x = false := by unfold ordB; rw [hbe, heq]; rfl
              rw [ho] at HEQ
              have hE : enE l i x = 0 := HEQ
              rw [if_pos hE] at hst
              have HF2 := Lib.hid hst
              clear hst HEQ ho hbe hE
              refine wp_region_held_drew (S := (fun w' => w'.cell? ⟨b, off + i * 7, none⟩ = some (.string x.de) ∧ w'.cell? ⟨b, off + i * 7 + 1, none⟩ = some (.int .i64 x.nu) ∧ w'.cell? ⟨b, off + i * 7 + 2, none⟩ = some (.int .i64 x.ck) ∧ w'.cell? ⟨b, off + i * 7 + 3, none⟩ = some (.string x.ro) ∧ w'.cell? ⟨b, off + i * 7 + 4, none⟩ = some (.int .i64 x.va) ∧ w'.cell? ⟨b, off + i * 7 + 5, none⟩ = some (.string x.st) ∧ w'.cell? ⟨b, off + i * 7 + 6, none⟩ = some (.slice x.p x.n x.cap) ∧ w'.cell? ⟨b, off + j * 7, none⟩ = some (.string a.de) ∧ w'.cell? ⟨b, off + j * 7 + 1, none⟩ = some (.int .i64 a.nu) ∧ w'.cell? ⟨b, off + j * 7 + 2, none⟩ = some (.int .i64 a.ck) ∧ w'.cell? ⟨b, off + j * 7 + 3, none⟩ = some (.string a.ro) ∧ w'.cell? ⟨b, off + j * 7 + 4, none⟩ = some (.int .i64 a.va) ∧ w'.cell? ⟨b, off + j * 7 + 5, none⟩ = some (.string a.st) ∧ w'.cell? ⟨b, off + j * 7 + 6, none⟩ = some (.slice a.p a.n a.cap))) (by kernel_rfl) ⟨x0, x1, x2, x3, x4, x5, x6, y0, y1, y2, y3, y4, y5, y6⟩ (fun hHeld => ?_)
              generalize V0.drew = V at *
              refine wpAnyH_take (i := 0) (v := (.int .i64 0)) (op_at rfl) (by kernel_rfl) (by kernel_rfl) (by kernel_rfl) (fun _ _ _ h => h) (Or.inl ⟨rfl, fun w hSw => ?_⟩) (by assumption) ?_
              · (try dsimp only at hSw); go_simp; try with_reducible rfl
              (try simp only [Act.put, tz0, tz1, tz2])
              refine wpAnyH_take (i := 1) (v := (.bool true)) (op_at rfl) (by kernel_rfl) (by kernel_rfl) (by kernel_rfl) (fun _ _ _ h => h) (Or.inl ⟨rfl, fun w hSw => ?_⟩) (by assumption) ?_
              · (try dsimp only at hSw); go_simp; try with_reducible rfl
              (try simp only [Act.put, tz0, tz1, tz2])
              refine wpAnyH_take (i := 2) (v := (.bool true)) (op_at rfl) (by kernel_rfl) (by kernel_rfl) (by kernel_rfl) (fun _ _ _ h => h) (Or.inl ⟨rfl, fun w hSw => ?_⟩) (by assumption) ?_
              · (try dsimp only at hSw); go_simp; try with_reducible rfl
              (try simp only [Act.put, tz0, tz1, tz2])
              refine wpAnyH_take (i := 3) (v := (.int .i64 (i : Int))) (op_at rfl) (by kernel_rfl) (by kernel_rfl) (by kernel_rfl) (fun _ _ _ h => h) (Or.inl ⟨rfl, fun w hSw => ?_⟩) (by assumption) ?_
              · (try dsimp only at hSw); go_simp; try with_reducible rfl
              (try simp only [Act.put, tz0, tz1, tz2])
              refine wpAnyH_take (i := 4) (v := (.bool true)) (op_at rfl) (by kernel_rfl) (by kernel_rfl) (by kernel_rfl) (fun _ _ _ h => h) (Or.inl ⟨rfl, fun w hSw => ?_⟩) (by assumption) ?_
              · (try dsimp only at hSw); go_simp; try with_reducible rfl
              (try simp only [Act.put, tz0, tz1, tz2])
              refine wpAnyH_take (i := 5) (v := (.bool true)) (op_at rfl) (by kernel_rfl) (by kernel_rfl) (by kernel_rfl) (fun _ _ _ h => h) (Or.inl ⟨rfl, fun w hSw => ?_⟩) (by assumption) ?_
              · (try dsimp only at hSw); go_simp; try with_reducible rfl
              (try simp only [Act.put, tz0, tz1, tz2])
              refine wpAnyH_take (i := 6) (v := (.bool true)) (op_at rfl) (by kernel_rfl) (by kernel_rfl) (by kernel_rfl) (fun _ _ _ h => h) (Or.inl ⟨rfl, fun w hSw => ?_⟩) (by assumption) ?_
              · (try dsimp only at hSw); go_simp; try with_reducible rfl
              (try simp only [Act.put, tz0, tz1, tz2])
              refine wpAnyH_take (i := 7) (v := (.slice (some ⟨b, off, none⟩) n cap)) (op_at rfl) (by kernel_rfl) (by kernel_rfl) (by kernel_rfl) (fun _ _ _ h => h) (Or.inl ⟨rfl, fun w hSw => ?_⟩) (by assumption) ?_
              · (try dsimp only at hSw); go_simp; try with_reducible rfl
              (try simp only [Act.put, tz0, tz1, tz2])
              refine wpAnyH_take (i := 8) (v := (.int .i64 (i : Int))) (op_at rfl) (by kernel_rfl) (by kernel_rfl) (by kernel_rfl) (fun _ _ _ h => h) (Or.inl ⟨rfl, fun w hSw => ?_⟩) (by assumption) ?_
              · (try dsimp only at hSw); go_simp; try with_reducible rfl
              (try simp only [Act.put, tz0, tz1, tz2])
              refine wpAnyH_take (i := 9) (v := (.int .i64 (j : Int))) (op_at rfl) (by kernel_rfl) (by kernel_rfl) (by kernel_rfl) (fun _ _ _ h => h) (Or.inl ⟨rfl, fun w hSw => ?_⟩) (by assumption) ?_
              · (try dsimp only at hSw); go_simp; try with_reducible rfl
              (try simp only [Act.put, tz0, tz1, tz2])
              refine wpAnyH_take (i := 10) (v := (.pointer (some ⟨b, off + j * 7, none⟩))) (op_at rfl) (by kernel_rfl) (by kernel_rfl) (by kernel_rfl) (fun _ _ _ h => h) (Or.inl ⟨rfl, fun w hSw => ?_⟩) (by assumption) ?_
              · (try dsimp only at hSw); go_simp; try with_reducible rfl
              (try simp only [Act.put, tz0, tz1, tz2])
              refine wpAnyH_take (i := 11) (v := (.agg #[.string a.de, .int .i64 a.nu, .int .i64 a.ck, .string a.ro, .int .i64 a.va, .string a.st, .slice a.p a.n a.cap])) (op_at rfl) (by kernel_rfl) (by kernel_rfl) (by kernel_rfl) (fun _ _ _ h => h) (Or.inl ⟨rfl, fun w hSw => ?_⟩) (by assumption) ?_
              · (try dsimp only at hSw); go_simp; try with_reducible rfl
              (try simp only [Act.put, tz0, tz1, tz2])
              refine wpAnyH_take (i := 12) (v := (.slice (some ⟨b, off, none⟩) n cap)) (op_at rfl) (by kernel_rfl) (by kernel_rfl) (by kernel_rfl) (fun _ _ _ h => h) (Or.inl ⟨rfl, fun w hSw => ?_⟩) (by assumption) ?_
              · (try dsimp only at hSw); go_simp; try with_reducible rfl
              (try simp only [Act.put, tz0, tz1, tz2])
              refine wpAnyH_take (i := 13) (v := (.int .i64 (i : Int))) (op_at rfl) (by kernel_rfl) (by kernel_rfl) (by kernel_rfl) (fun _ _ _ h => h) (Or.inl ⟨rfl, fun w hSw => ?_⟩) (by assumption) ?_
              · (try dsimp only at hSw); go_simp; try with_reducible rfl
              (try simp only [Act.put, tz0, tz1, tz2])
              refine wpAnyH_take (i := 14) (v := (.pointer (some ⟨b, off + i * 7, none⟩))) (op_at rfl) (by kernel_rfl) (by kernel_rfl) (by kernel_rfl) (fun _ _ _ h => h) (Or.inl ⟨rfl, fun w hSw => ?_⟩) (by assumption) ?_
              · (try dsimp only at hSw); go_simp; try with_reducible rfl
              (try simp only [Act.put, tz0, tz1, tz2])
              refine wpAnyH_take (i := 15) (v := (.agg #[.string x.de, .int .i64 x.nu, .int .i64 x.ck, .string x.ro, .int .i64 x.va, .string x.st, .slice x.p x.n x.cap])) (op_at rfl) (by kernel_rfl) (by kernel_rfl) (by kernel_rfl) (fun _ _ _ h => h) (Or.inl ⟨rfl, fun w hSw => ?_⟩) (by assumption) ?_
              · (try dsimp only at hSw); go_simp; try with_reducible rfl
              (try simp only [Act.put, tz0, tz1, tz2])
              refine wpAnyH_ready (rs := [16]) (by kernel_rfl) (by simp) (AllReadyH.cons (op_at rfl) (fun K hK => ?_) AllReadyH.nil)
              go_simp
              (refine (HBF.out _).mono ?_; rintro e W4 ⟨rfl, hg⟩; replace x0 := hg.cell x0; replace x1 := hg.cell x1; replace x2 := hg.cell x2; replace x3 := hg.cell x3; replace x4 := hg.cell x4; replace x5 := hg.cell x5; replace x6 := hg.cell x6; replace y0 := hg.cell y0; replace y1 := hg.cell y1; replace y2 := hg.cell y2; replace y3 := hg.cell y3; replace y4 := hg.cell y4; replace y5 := hg.cell y5; replace y6 := hg.cell y6; replace g := g.trans hg; clear hg)
              go_wp2_with fail
              refine hK.out _ _ ⟨x0, x1, x2, x3, x4, x5, x6, y0, y1, y2, y3, y4, y5, y6⟩ (fun hHeld => ?_)
              clear hK K
              (try simp only [Act.put, tz0, tz1, tz2])
              refine wpAnyH_take (i := 17) (v := (.bool false)) (op_at rfl) (by kernel_rfl) (by kernel_rfl) (by kernel_rfl) (fun _ _ _ h => h) (Or.inl ⟨rfl, fun w hSw => ?_⟩) (by assumption) ?_
              · (try dsimp only at hSw); go_simp; try with_reducible rfl
              (try simp only [Act.put, tz0, tz1, tz2])
              refine wpAnyH_take (i := 18) (v := (.bool false)) (op_at rfl) (by kernel_rfl) (by kernel_rfl) (by kernel_rfl) (fun _ _ _ h => h) (Or.inl ⟨rfl, fun w hSw => ?_⟩) (by assumption) ?_
              · (try dsimp only at hSw); go_simp; try with_reducible rfl
              (try simp only [Act.put, tz0, tz1, tz2])
              refine wpAnyH_take (i := 19) (v := (.slice (some ⟨b, off, none⟩) n cap)) (op_at rfl) (by kernel_rfl) (by kernel_rfl) (by kernel_rfl) (fun _ _ _ h => h) (Or.inl ⟨rfl, fun w hSw => ?_⟩) (by assumption) ?_
              · (try dsimp only at hSw); go_simp; try with_reducible rfl
              (try simp only [Act.put, tz0, tz1, tz2])
              refine wpAnyH_take (i := 20) (v := (.int .i64 (i : Int))) (op_at rfl) (by kernel_rfl) (by kernel_rfl) (by kernel_rfl) (fun _ _ _ h => h) (Or.inl ⟨rfl, fun w hSw => ?_⟩) (by assumption) ?_
              · (try dsimp only at hSw); go_simp; try with_reducible rfl
              (try simp only [Act.put, tz0, tz1, tz2])
              refine wpAnyH_take (i := 21) (v := (.int .i64 (j : Int))) (op_at rfl) (by kernel_rfl) (by kernel_rfl) (by kernel_rfl) (fun _ _ _ h => h) (Or.inl ⟨rfl, fun w hSw => ?_⟩) (by assumption) ?_
              · (try dsimp only at hSw); go_simp; try with_reducible rfl
              (try simp only [Act.put, tz0, tz1, tz2])
              refine wpAnyH_take (i := 22) (v := (.pointer (some ⟨b, off + j * 7, none⟩))) (op_at rfl) (by kernel_rfl) (by kernel_rfl) (by kernel_rfl) (fun _ _ _ h => h) (Or.inl ⟨rfl, fun w hSw => ?_⟩) (by assumption) ?_
              · (try dsimp only at hSw); go_simp; try with_reducible rfl
              (try simp only [Act.put, tz0, tz1, tz2])
              refine wpAnyH_take (i := 23) (v := (.pointer (some ⟨b, off + j * 7, none⟩))) (op_at rfl) (by kernel_rfl) (by kernel_rfl) (by kernel_rfl) (fun _ _ _ h => h) (Or.inl ⟨rfl, fun w hSw => ?_⟩) (by assumption) ?_
              · (try dsimp only at hSw); go_simp; try with_reducible rfl
              (try simp only [Act.put, tz0, tz1, tz2])
              refine wpAnyH_take (i := 24) (v := (.string a.de)) (op_at rfl) (by kernel_rfl) (by kernel_rfl) (by kernel_rfl) (fun _ _ _ h => h) (Or.inl ⟨rfl, fun w hSw => ?_⟩) (by assumption) ?_
              · (try dsimp only at hSw); go_simp; try with_reducible rfl
              (try simp only [Act.put, tz0, tz1, tz2])
              refine wpAnyH_take (i := 25) (v := (.slice (some ⟨b, off, none⟩) n cap)) (op_at rfl) (by kernel_rfl) (by kernel_rfl) (by kernel_rfl) (fun _ _ _ h => h) (Or.inl ⟨rfl, fun w hSw => ?_⟩) (by assumption) ?_
              · (try dsimp only at hSw); go_simp; try with_reducible rfl
              (try simp only [Act.put, tz0, tz1, tz2])
              refine wpAnyH_take (i := 26) (v := (.int .i64 (i : Int))) (op_at rfl) (by kernel_rfl) (by kernel_rfl) (by kernel_rfl) (fun _ _ _ h => h) (Or.inl ⟨rfl, fun w hSw => ?_⟩) (by assumption) ?_
              · (try dsimp only at hSw); go_simp; try with_reducible rfl
              (try simp only [Act.put, tz0, tz1, tz2])
              refine wpAnyH_take (i := 27) (v := (.pointer (some ⟨b, off + i * 7, none⟩))) (op_at rfl) (by kernel_rfl) (by kernel_rfl) (by kernel_rfl) (fun _ _ _ h => h) (Or.inl ⟨rfl, fun w hSw => ?_⟩) (by assumption) ?_
              · (try dsimp only at hSw); go_simp; try with_reducible rfl
              (try simp only [Act.put, tz0, tz1, tz2])
              refine wpAnyH_take (i := 28) (v := (.pointer (some ⟨b, off + i * 7, none⟩))) (op_at rfl) (by kernel_rfl) (by kernel_rfl) (by kernel_rfl) (fun _ _ _ h => h) (Or.inl ⟨rfl, fun w hSw => ?_⟩) (by assumption) ?_
              · (try dsimp only at hSw); go_simp; try with_reducible rfl
              (try simp only [Act.put, tz0, tz1, tz2])
              refine wpAnyH_take (i := 29) (v := (.string x.de)) (op_at rfl) (by kernel_rfl) (by kernel_rfl) (by kernel_rfl) (fun _ _ _ h => h) (Or.inl ⟨rfl, fun w hSw => ?_⟩) (by assumption) ?_
              · (try dsimp only at hSw); go_simp; try with_reducible rfl
              (try simp only [Act.put, tz0, tz1, tz2])
              refine wpAnyH_take (i := 30) (v := (.bool false)) (op_at rfl) (by kernel_rfl) (by kernel_rfl) (by kernel_rfl) (fun _ _ _ h => h) (Or.inl ⟨rfl, fun w hSw => ?_⟩) (by assumption) ?_
              · (try dsimp only at hSw); go_simp; try with_reducible rfl
              (try simp only [Act.put, tz0, tz1, tz2])
              refine wpAnyH_take (i := 31) (v := (.bool false)) (op_at rfl) (by kernel_rfl) (by kernel_rfl) (by kernel_rfl) (fun _ _ _ h => h) (Or.inl ⟨rfl, fun w hSw => ?_⟩) (by assumption) ?_
              · (try dsimp only at hSw); go_simp; try with_reducible rfl
              (try simp only [Act.put, tz0, tz1, tz2])
              refine wpAnyH_take (i := 32) (v := undef) (op_at rfl) (by kernel_rfl) (by kernel_rfl) (by kernel_rfl) (fun _ _ _ h => h) (Or.inr ⟨rfl, rfl⟩) (by assumption) ?_
              (try simp only [Act.put, tz0, tz1, tz2])
              refine wpAnyH_take (i := 33) (v := undef) (op_at rfl) (by kernel_rfl) (by kernel_rfl) (by kernel_rfl) (fun _ _ _ h => h) (Or.inr ⟨rfl, rfl⟩) (by assumption) ?_
              (try simp only [Act.put, tz0, tz1, tz2])
              refine wpAnyH_take (i := 34) (v := undef) (op_at rfl) (by kernel_rfl) (by kernel_rfl) (by kernel_rfl) (fun _ _ _ h => h) (Or.inr ⟨rfl, rfl⟩) (by assumption) ?_
              (try simp only [Act.put, tz0, tz1, tz2])
              refine wpAnyH_take (i := 35) (v := undef) (op_at rfl) (by kernel_rfl) (by kernel_rfl) (by kernel_rfl) (fun _ _ _ h => h) (Or.inr ⟨rfl, rfl⟩) (by assumption) ?_
              (try simp only [Act.put, tz0, tz1, tz2])
              refine wpAnyH_take (i := 36) (v := undef) (op_at rfl) (by kernel_rfl) (by kernel_rfl) (by kernel_rfl) (fun _ _ _ h => h) (Or.inr ⟨rfl, rfl⟩) (by assumption) ?_
              (try simp only [Act.put, tz0, tz1, tz2])
              refine wpAnyH_take (i := 37) (v := undef) (op_at rfl) (by kernel_rfl) (by kernel_rfl) (by kernel_rfl) (fun _ _ _ h => h) (Or.inr ⟨rfl, rfl⟩) (by assumption) ?_
              (try simp only [Act.put, tz0, tz1, tz2])
              refine wpAnyH_take (i := 38) (v := undef) (op_at rfl) (by kernel_rfl) (by kernel_rfl) (by kernel_rfl) (fun _ _ _ h => h) (Or.inr ⟨rfl, rfl⟩) (by assumption) ?_
              (try simp only [Act.put, tz0, tz1, tz2])
              refine wpAnyH_take (i := 39) (v := undef) (op_at rfl) (by kernel_rfl) (by kernel_rfl) (by kernel_rfl) (fun _ _ _ h => h) (Or.inr ⟨rfl, rfl⟩) (by assumption) ?_
              (try simp only [Act.put, tz0, tz1, tz2])
              refine wpAnyH_take (i := 40) (v := undef) (op_at rfl) (by kernel_rfl) (by kernel_rfl) (by kernel_rfl) (fun _ _ _ h => h) (Or.inr ⟨rfl, rfl⟩) (by assumption) ?_
              (try simp only [Act.put, tz0, tz1, tz2])
              refine wpAnyH_take (i := 41) (v := undef) (op_at rfl) (by kernel_rfl) (by kernel_rfl) (by kernel_rfl) (fun _ _ _ h => h) (Or.inr ⟨rfl, rfl⟩) (by assumption) ?_
              (try simp only [Act.put, tz0, tz1, tz2])
              refine wpAnyH_take (i := 42) (v := undef) (op_at rfl) (by kernel_rfl) (by kernel_rfl) (by kernel_rfl) (fun _ _ _ h => h) (Or.inr ⟨rfl, rfl⟩) (by assumption) ?_
              (try simp only [Act.put, tz0, tz1, tz2])
              refine wpAnyH_take (i := 43) (v := undef) (op_at rfl) (by kernel_rfl) (by kernel_rfl) (by kernel_rfl) (fun _ _ _ h => h) (Or.inr ⟨rfl, rfl⟩) (by assumption) ?_
              (try simp only [Act.put, tz0, tz1, tz2])
              refine wpAnyH_take (i := 44) (v := (.bool false)) (op_at rfl) (by kernel_rfl) (by kernel_rfl) (by kernel_rfl) (fun _ _ _ h => h) (Or.inl ⟨rfl, fun w hSw => ?_⟩) (by assumption) ?_
              · (try dsimp only at hSw); go_simp; try with_reducible rfl
              (try simp only [Act.put, tz0, tz1, tz2])
              refine wpAnyH_take (i := 45) (v := (.bool false)) (op_at rfl) (by kernel_rfl) (by kernel_rfl) (by kernel_rfl) (fun _ _ _ h => h) (Or.inl ⟨rfl, fun w hSw => ?_⟩) (by assumption) ?_
              · (try dsimp only at hSw); go_simp; try with_reducible rfl
              (try simp only [Act.put, tz0, tz1, tz2])
              refine wpAnyH_take (i := 46) (v := (.bool false)) (op_at rfl) (by kernel_rfl) (by kernel_rfl) (by kernel_rfl) (fun _ _ _ h => h) (Or.inl ⟨rfl, fun w hSw => ?_⟩) (by assumption) ?_
              · (try dsimp only at hSw); go_simp; try with_reducible rfl
              (try simp only [Act.put, tz0, tz1, tz2])
              refine wpAnyH_done (by kernel_rfl) ?_ _
              go_wp2_with fail
              go_roundg (gk - 1)
              case measure => omega
              case rel => exact ⟨i + 1, _, by go_num, rfl, by omega, HG0.out.trans g, by unfold Hid; rw [← HF2.out, HF.out]⟩
            · cases hck : decide (x.ck ≤ a.ck)
              · have ho : ordB a x = false := by unfold ordB; rw [hbe, heq, hck]; rfl
                rw [ho] at HEQ
                have hE : enE l i x = 0 := HEQ
                rw [if_pos hE] at hst
                have HF2 := Lib.hid hst
                clear hst HEQ ho hbe hE
                refine wp_region_held_drew (S := (fun w' => w'.cell? ⟨b, off + i * 7, none⟩ = some (.string x.de) ∧ w'.cell? ⟨b, off + i * 7 + 1, none⟩ = some (.int .i64 x.nu) ∧ w'.cell? ⟨b, off + i * 7 + 2, none⟩ = some (.int .i64 x.ck) ∧ w'.cell? ⟨b, off + i * 7 + 3, none⟩ = some (.string x.ro) ∧ w'.cell? ⟨b, off + i * 7 + 4, none⟩ = some (.int .i64 x.va) ∧ w'.cell? ⟨b, off + i * 7 + 5, none⟩ = some (.string x.st) ∧ w'.cell? ⟨b, off + i * 7 + 6, none⟩ = some (.slice x.p x.n x.cap) ∧ w'.cell? ⟨b, off + j * 7, none⟩ = some (.string a.de) ∧ w'.cell? ⟨b, off + j * 7 + 1, none⟩ = some (.int .i64 a.nu) ∧ w'.cell? ⟨b, off + j * 7 + 2, none⟩ = some (.int .i64 a.ck) ∧ w'.cell? ⟨b, off + j * 7 + 3, none⟩ = some (.string a.ro) ∧ w'.cell? ⟨b, off + j * 7 + 4, none⟩ = some (.int .i64 a.va) ∧ w'.cell? ⟨b, off + j * 7 + 5, none⟩ = some (.string a.st) ∧ w'.cell? ⟨b, off + j * 7 + 6, none⟩ = some (.slice a.p a.n a.cap))) (by kernel_rfl) ⟨x0, x1, x2, x3, x4, x5, x6, y0, y1, y2, y3, y4, y5, y6⟩ (fun hHeld => ?_)
                generalize V0.drew = V at *
                refine wpAnyH_take (i := 0) (v := (.int .i64 0)) (op_at rfl) (by kernel_rfl) (by kernel_rfl) (by kernel_rfl) (fun _ _ _ h => h) (Or.inl ⟨rfl, fun w hSw => ?_⟩) (by assumption) ?_
                · (try dsimp only at hSw); go_simp; try with_reducible rfl
                (try simp only [Act.put, tz0, tz1, tz2])
                refine wpAnyH_take (i := 1) (v := (.bool true)) (op_at rfl) (by kernel_rfl) (by kernel_rfl) (by kernel_rfl) (fun _ _ _ h => h) (Or.inl ⟨rfl, fun w hSw => ?_⟩) (by assumption) ?_
                · (try dsimp only at hSw); go_simp; try with_reducible rfl
                (try simp only [Act.put, tz0, tz1, tz2])
                refine wpAnyH_take (i := 2) (v := (.bool true)) (op_at rfl) (by kernel_rfl) (by kernel_rfl) (by kernel_rfl) (fun _ _ _ h => h) (Or.inl ⟨rfl, fun w hSw => ?_⟩) (by assumption) ?_
                · (try dsimp only at hSw); go_simp; try with_reducible rfl
                (try simp only [Act.put, tz0, tz1, tz2])
                refine wpAnyH_take (i := 3) (v := (.int .i64 (i : Int))) (op_at rfl) (by kernel_rfl) (by kernel_rfl) (by kernel_rfl) (fun _ _ _ h => h) (Or.inl ⟨rfl, fun w hSw => ?_⟩) (by assumption) ?_
                · (try dsimp only at hSw); go_simp; try with_reducible rfl
                (try simp only [Act.put, tz0, tz1, tz2])
                refine wpAnyH_take (i := 4) (v := (.bool true)) (op_at rfl) (by kernel_rfl) (by kernel_rfl) (by kernel_rfl) (fun _ _ _ h => h) (Or.inl ⟨rfl, fun w hSw => ?_⟩) (by assumption) ?_
                · (try dsimp only at hSw); go_simp; try with_reducible rfl
                (try simp only [Act.put, tz0, tz1, tz2])
                refine wpAnyH_take (i := 5) (v := (.bool true)) (op_at rfl) (by kernel_rfl) (by kernel_rfl) (by kernel_rfl) (fun _ _ _ h => h) (Or.inl ⟨rfl, fun w hSw => ?_⟩) (by assumption) ?_
                · (try dsimp only at hSw); go_simp; try with_reducible rfl
                (try simp only [Act.put, tz0, tz1, tz2])
                refine wpAnyH_take (i := 6) (v := (.bool true)) (op_at rfl) (by kernel_rfl) (by kernel_rfl) (by kernel_rfl) (fun _ _ _ h => h) (Or.inl ⟨rfl, fun w hSw => ?_⟩) (by assumption) ?_
                · (try dsimp only at hSw); go_simp; try with_reducible rfl
                (try simp only [Act.put, tz0, tz1, tz2])
                refine wpAnyH_take (i := 7) (v := (.slice (some ⟨b, off, none⟩) n cap)) (op_at rfl) (by kernel_rfl) (by kernel_rfl) (by kernel_rfl) (fun _ _ _ h => h) (Or.inl ⟨rfl, fun w hSw => ?_⟩) (by assumption) ?_
                · (try dsimp only at hSw); go_simp; try with_reducible rfl
                (try simp only [Act.put, tz0, tz1, tz2])
                refine wpAnyH_take (i := 8) (v := (.int .i64 (i : Int))) (op_at rfl) (by kernel_rfl) (by kernel_rfl) (by kernel_rfl) (fun _ _ _ h => h) (Or.inl ⟨rfl, fun w hSw => ?_⟩) (by assumption) ?_
                · (try dsimp only at hSw); go_simp; try with_reducible rfl
                (try simp only [Act.put, tz0, tz1, tz2])
                refine wpAnyH_take (i := 9) (v := (.int .i64 (j : Int))) (op_at rfl) (by kernel_rfl) (by kernel_rfl) (by kernel_rfl) (fun _ _ _ h => h) (Or.inl ⟨rfl, fun w hSw => ?_⟩) (by assumption) ?_
                · (try dsimp only at hSw); go_simp; try with_reducible rfl
                (try simp only [Act.put, tz0, tz1, tz2])
                refine wpAnyH_take (i := 10) (v := (.pointer (some ⟨b, off + j * 7, none⟩))) (op_at rfl) (by kernel_rfl) (by kernel_rfl) (by kernel_rfl) (fun _ _ _ h => h) (Or.inl ⟨rfl, fun w hSw => ?_⟩) (by assumption) ?_
                · (try dsimp only at hSw); go_simp; try with_reducible rfl
                (try simp only [Act.put, tz0, tz1, tz2])
                refine wpAnyH_take (i := 11) (v := (.agg #[.string a.de, .int .i64 a.nu, .int .i64 a.ck, .string a.ro, .int .i64 a.va, .string a.st, .slice a.p a.n a.cap])) (op_at rfl) (by kernel_rfl) (by kernel_rfl) (by kernel_rfl) (fun _ _ _ h => h) (Or.inl ⟨rfl, fun w hSw => ?_⟩) (by assumption) ?_
                · (try dsimp only at hSw); go_simp; try with_reducible rfl
                (try simp only [Act.put, tz0, tz1, tz2])
                refine wpAnyH_take (i := 12) (v := (.slice (some ⟨b, off, none⟩) n cap)) (op_at rfl) (by kernel_rfl) (by kernel_rfl) (by kernel_rfl) (fun _ _ _ h => h) (Or.inl ⟨rfl, fun w hSw => ?_⟩) (by assumption) ?_
                · (try dsimp only at hSw); go_simp; try with_reducible rfl
                (try simp only [Act.put, tz0, tz1, tz2])
                refine wpAnyH_take (i := 13) (v := (.int .i64 (i : Int))) (op_at rfl) (by kernel_rfl) (by kernel_rfl) (by kernel_rfl) (fun _ _ _ h => h) (Or.inl ⟨rfl, fun w hSw => ?_⟩) (by assumption) ?_
                · (try dsimp only at hSw); go_simp; try with_reducible rfl
                (try simp only [Act.put, tz0, tz1, tz2])
                refine wpAnyH_take (i := 14) (v := (.pointer (some ⟨b, off + i * 7, none⟩))) (op_at rfl) (by kernel_rfl) (by kernel_rfl) (by kernel_rfl) (fun _ _ _ h => h) (Or.inl ⟨rfl, fun w hSw => ?_⟩) (by assumption) ?_
                · (try dsimp only at hSw); go_simp; try with_reducible rfl
                (try simp only [Act.put, tz0, tz1, tz2])
                refine wpAnyH_take (i := 15) (v := (.agg #[.string x.de, .int .i64 x.nu, .int .i64 x.ck, .string x.ro, .int .i64 x.va, .string x.st, .slice x.p x.n x.cap])) (op_at rfl) (by kernel_rfl) (by kernel_rfl) (by kernel_rfl) (fun _ _ _ h => h) (Or.inl ⟨rfl, fun w hSw => ?_⟩) (by assumption) ?_
                · (try dsimp only at hSw); go_simp; try with_reducible rfl
                (try simp only [Act.put, tz0, tz1, tz2])
                refine wpAnyH_ready (rs := [16]) (by kernel_rfl) (by simp) (AllReadyH.cons (op_at rfl) (fun K hK => ?_) AllReadyH.nil)
                go_simp
                (refine (HBF.out _).mono ?_; rintro e W4 ⟨rfl, hg⟩; replace x0 := hg.cell x0; replace x1 := hg.cell x1; replace x2 := hg.cell x2; replace x3 := hg.cell x3; replace x4 := hg.cell x4; replace x5 := hg.cell x5; replace x6 := hg.cell x6; replace y0 := hg.cell y0; replace y1 := hg.cell y1; replace y2 := hg.cell y2; replace y3 := hg.cell y3; replace y4 := hg.cell y4; replace y5 := hg.cell y5; replace y6 := hg.cell y6; replace g := g.trans hg; clear hg)
                go_wp2_with fail
                refine hK.out _ _ ⟨x0, x1, x2, x3, x4, x5, x6, y0, y1, y2, y3, y4, y5, y6⟩ (fun hHeld => ?_)
                clear hK K
                (try simp only [Act.put, tz0, tz1, tz2])
                refine wpAnyH_take (i := 17) (v := (.bool false)) (op_at rfl) (by kernel_rfl) (by kernel_rfl) (by kernel_rfl) (fun _ _ _ h => h) (Or.inl ⟨rfl, fun w hSw => ?_⟩) (by assumption) ?_
                · (try dsimp only at hSw); go_simp; try with_reducible rfl
                (try simp only [Act.put, tz0, tz1, tz2])
                refine wpAnyH_take (i := 18) (v := (.bool false)) (op_at rfl) (by kernel_rfl) (by kernel_rfl) (by kernel_rfl) (fun _ _ _ h => h) (Or.inl ⟨rfl, fun w hSw => ?_⟩) (by assumption) ?_
                · (try dsimp only at hSw); go_simp; try with_reducible rfl
                (try simp only [Act.put, tz0, tz1, tz2])
                refine wpAnyH_take (i := 19) (v := (.slice (some ⟨b, off, none⟩) n cap)) (op_at rfl) (by kernel_rfl) (by kernel_rfl) (by kernel_rfl) (fun _ _ _ h => h) (Or.inl ⟨rfl, fun w hSw => ?_⟩) (by assumption) ?_
                · (try dsimp only at hSw); go_simp; try with_reducible rfl
                (try simp only [Act.put, tz0, tz1, tz2])
                refine wpAnyH_take (i := 20) (v := (.int .i64 (i : Int))) (op_at rfl) (by kernel_rfl) (by kernel_rfl) (by kernel_rfl) (fun _ _ _ h => h) (Or.inl ⟨rfl, fun w hSw => ?_⟩) (by assumption) ?_
                · (try dsimp only at hSw); go_simp; try with_reducible rfl
                (try simp only [Act.put, tz0, tz1, tz2])
                refine wpAnyH_take (i := 21) (v := (.int .i64 (j : Int))) (op_at rfl) (by kernel_rfl) (by kernel_rfl) (by kernel_rfl) (fun _ _ _ h => h) (Or.inl ⟨rfl, fun w hSw => ?_⟩) (by assumption) ?_
                · (try dsimp only at hSw); go_simp; try with_reducible rfl
                (try simp only [Act.put, tz0, tz1, tz2])
                refine wpAnyH_take (i := 22) (v := (.pointer (some ⟨b, off + j * 7, none⟩))) (op_at rfl) (by kernel_rfl) (by kernel_rfl) (by kernel_rfl) (fun _ _ _ h => h) (Or.inl ⟨rfl, fun w hSw => ?_⟩) (by assumption) ?_
                · (try dsimp only at hSw); go_simp; try with_reducible rfl
                (try simp only [Act.put, tz0, tz1, tz2])
                refine wpAnyH_take (i := 23) (v := (.pointer (some ⟨b, off + j * 7, none⟩))) (op_at rfl) (by kernel_rfl) (by kernel_rfl) (by kernel_rfl) (fun _ _ _ h => h) (Or.inl ⟨rfl, fun w hSw => ?_⟩) (by assumption) ?_
                · (try dsimp only at hSw); go_simp; try with_reducible rfl
                (try simp only [Act.put, tz0, tz1, tz2])
                refine wpAnyH_take (i := 24) (v := (.string a.de)) (op_at rfl) (by kernel_rfl) (by kernel_rfl) (by kernel_rfl) (fun _ _ _ h => h) (Or.inl ⟨rfl, fun w hSw => ?_⟩) (by assumption) ?_
                · (try dsimp only at hSw); go_simp; try with_reducible rfl
                (try simp only [Act.put, tz0, tz1, tz2])
                refine wpAnyH_take (i := 25) (v := (.slice (some ⟨b, off, none⟩) n cap)) (op_at rfl) (by kernel_rfl) (by kernel_rfl) (by kernel_rfl) (fun _ _ _ h => h) (Or.inl ⟨rfl, fun w hSw => ?_⟩) (by assumption) ?_
                · (try dsimp only at hSw); go_simp; try with_reducible rfl
                (try simp only [Act.put, tz0, tz1, tz2])
                refine wpAnyH_take (i := 26) (v := (.int .i64 (i : Int))) (op_at rfl) (by kernel_rfl) (by kernel_rfl) (by kernel_rfl) (fun _ _ _ h => h) (Or.inl ⟨rfl, fun w hSw => ?_⟩) (by assumption) ?_
                · (try dsimp only at hSw); go_simp; try with_reducible rfl
                (try simp only [Act.put, tz0, tz1, tz2])
                refine wpAnyH_take (i := 27) (v := (.pointer (some ⟨b, off + i * 7, none⟩))) (op_at rfl) (by kernel_rfl) (by kernel_rfl) (by kernel_rfl) (fun _ _ _ h => h) (Or.inl ⟨rfl, fun w hSw => ?_⟩) (by assumption) ?_
                · (try dsimp only at hSw); go_simp; try with_reducible rfl
                (try simp only [Act.put, tz0, tz1, tz2])
                refine wpAnyH_take (i := 28) (v := (.pointer (some ⟨b, off + i * 7, none⟩))) (op_at rfl) (by kernel_rfl) (by kernel_rfl) (by kernel_rfl) (fun _ _ _ h => h) (Or.inl ⟨rfl, fun w hSw => ?_⟩) (by assumption) ?_
                · (try dsimp only at hSw); go_simp; try with_reducible rfl
                (try simp only [Act.put, tz0, tz1, tz2])
                refine wpAnyH_take (i := 29) (v := (.string x.de)) (op_at rfl) (by kernel_rfl) (by kernel_rfl) (by kernel_rfl) (fun _ _ _ h => h) (Or.inl ⟨rfl, fun w hSw => ?_⟩) (by assumption) ?_
                · (try dsimp only at hSw); go_simp; try with_reducible rfl
                (try simp only [Act.put, tz0, tz1, tz2])
                refine wpAnyH_take (i := 30) (v := (.bool true)) (op_at rfl) (by kernel_rfl) (by kernel_rfl) (by kernel_rfl) (fun _ _ _ h => h) (Or.inl ⟨rfl, fun w hSw => ?_⟩) (by assumption) ?_
                · (try dsimp only at hSw); go_simp; try with_reducible rfl
                (try simp only [Act.put, tz0, tz1, tz2])
                refine wpAnyH_take (i := 31) (v := (.bool true)) (op_at rfl) (by kernel_rfl) (by kernel_rfl) (by kernel_rfl) (fun _ _ _ h => h) (Or.inl ⟨rfl, fun w hSw => ?_⟩) (by assumption) ?_
                · (try dsimp only at hSw); go_simp; try with_reducible rfl
                (try simp only [Act.put, tz0, tz1, tz2])
                refine wpAnyH_take (i := 32) (v := (.slice (some ⟨b, off, none⟩) n cap)) (op_at rfl) (by kernel_rfl) (by kernel_rfl) (by kernel_rfl) (fun _ _ _ h => h) (Or.inl ⟨rfl, fun w hSw => ?_⟩) (by assumption) ?_
                · (try dsimp only at hSw); go_simp; try with_reducible rfl
                (try simp only [Act.put, tz0, tz1, tz2])
                refine wpAnyH_take (i := 33) (v := (.int .i64 (i : Int))) (op_at rfl) (by kernel_rfl) (by kernel_rfl) (by kernel_rfl) (fun _ _ _ h => h) (Or.inl ⟨rfl, fun w hSw => ?_⟩) (by assumption) ?_
                · (try dsimp only at hSw); go_simp; try with_reducible rfl
                (try simp only [Act.put, tz0, tz1, tz2])
                refine wpAnyH_take (i := 34) (v := (.pointer (some ⟨b, off + i * 7, none⟩))) (op_at rfl) (by kernel_rfl) (by kernel_rfl) (by kernel_rfl) (fun _ _ _ h => h) (Or.inl ⟨rfl, fun w hSw => ?_⟩) (by assumption) ?_
                · (try dsimp only at hSw); go_simp; try with_reducible rfl
                (try simp only [Act.put, tz0, tz1, tz2])
                refine wpAnyH_take (i := 35) (v := (.pointer (some ⟨b, off + i * 7 + 2, none⟩))) (op_at rfl) (by kernel_rfl) (by kernel_rfl) (by kernel_rfl) (fun _ _ _ h => h) (Or.inl ⟨rfl, fun w hSw => ?_⟩) (by assumption) ?_
                · (try dsimp only at hSw); go_simp; try with_reducible rfl
                (try simp only [Act.put, tz0, tz1, tz2])
                refine wpAnyH_take (i := 36) (v := (.int .i64 x.ck)) (op_at rfl) (by kernel_rfl) (by kernel_rfl) (by kernel_rfl) (fun _ _ _ h => h) (Or.inl ⟨rfl, fun w hSw => ?_⟩) (by assumption) ?_
                · (try dsimp only at hSw); go_simp; try with_reducible rfl
                (try simp only [Act.put, tz0, tz1, tz2])
                refine wpAnyH_take (i := 37) (v := (.slice (some ⟨b, off, none⟩) n cap)) (op_at rfl) (by kernel_rfl) (by kernel_rfl) (by kernel_rfl) (fun _ _ _ h => h) (Or.inl ⟨rfl, fun w hSw => ?_⟩) (by assumption) ?_
                · (try dsimp only at hSw); go_simp; try with_reducible rfl
                (try simp only [Act.put, tz0, tz1, tz2])
                refine wpAnyH_take (i := 38) (v := (.int .i64 (i : Int))) (op_at rfl) (by kernel_rfl) (by kernel_rfl) (by kernel_rfl) (fun _ _ _ h => h) (Or.inl ⟨rfl, fun w hSw => ?_⟩) (by assumption) ?_
                · (try dsimp only at hSw); go_simp; try with_reducible rfl
                (try simp only [Act.put, tz0, tz1, tz2])
                refine wpAnyH_take (i := 39) (v := (.int .i64 (j : Int))) (op_at rfl) (by kernel_rfl) (by kernel_rfl) (by kernel_rfl) (fun _ _ _ h => h) (Or.inl ⟨rfl, fun w hSw => ?_⟩) (by assumption) ?_
                · (try dsimp only at hSw); go_simp; try with_reducible rfl
                (try simp only [Act.put, tz0, tz1, tz2])
                refine wpAnyH_take (i := 40) (v := (.pointer (some ⟨b, off + j * 7, none⟩))) (op_at rfl) (by kernel_rfl) (by kernel_rfl) (by kernel_rfl) (fun _ _ _ h => h) (Or.inl ⟨rfl, fun w hSw => ?_⟩) (by assumption) ?_
                · (try dsimp only at hSw); go_simp; try with_reducible rfl
                (try simp only [Act.put, tz0, tz1, tz2])
                refine wpAnyH_take (i := 41) (v := (.pointer (some ⟨b, off + j * 7 + 2, none⟩))) (op_at rfl) (by kernel_rfl) (by kernel_rfl) (by kernel_rfl) (fun _ _ _ h => h) (Or.inl ⟨rfl, fun w hSw => ?_⟩) (by assumption) ?_
                · (try dsimp only at hSw); go_simp; try with_reducible rfl
                (try simp only [Act.put, tz0, tz1, tz2])
                refine wpAnyH_take (i := 42) (v := (.int .i64 a.ck)) (op_at rfl) (by kernel_rfl) (by kernel_rfl) (by kernel_rfl) (fun _ _ _ h => h) (Or.inl ⟨rfl, fun w hSw => ?_⟩) (by assumption) ?_
                · (try dsimp only at hSw); go_simp; try with_reducible rfl
                (try simp only [Act.put, tz0, tz1, tz2])
                refine wpAnyH_take (i := 43) (v := (.bool false)) (op_at rfl) (by kernel_rfl) (by kernel_rfl) (by kernel_rfl) (fun _ _ _ h => h) (Or.inl ⟨rfl, fun w hSw => ?_⟩) (by assumption) ?_
                · (try dsimp only at hSw); go_simp; try with_reducible rfl
                (try simp only [Act.put, tz0, tz1, tz2])
                refine wpAnyH_take (i := 44) (v := (.bool false)) (op_at rfl) (by kernel_rfl) (by kernel_rfl) (by kernel_rfl) (fun _ _ _ h => h) (Or.inl ⟨rfl, fun w hSw => ?_⟩) (by assumption) ?_
                · (try dsimp only at hSw); go_simp; try with_reducible rfl
                (try simp only [Act.put, tz0, tz1, tz2])
                refine wpAnyH_take (i := 45) (v := (.bool false)) (op_at rfl) (by kernel_rfl) (by kernel_rfl) (by kernel_rfl) (fun _ _ _ h => h) (Or.inl ⟨rfl, fun w hSw => ?_⟩) (by assumption) ?_
                · (try dsimp only at hSw); go_simp; try with_reducible rfl
                (try simp only [Act.put, tz0, tz1, tz2])
                refine wpAnyH_take (i := 46) (v := (.bool false)) (op_at rfl) (by kernel_rfl) (by kernel_rfl) (by kernel_rfl) (fun _ _ _ h => h) (Or.inl ⟨rfl, fun w hSw => ?_⟩) (by assumption) ?_
                · (try dsimp only at hSw); go_simp; try with_reducible rfl
                (try simp only [Act.put, tz0, tz1, tz2])
                refine wpAnyH_done (by kernel_rfl) ?_ _
                go_wp2_with fail
                go_roundg (gk - 1)
                case measure => omega
                case rel => exact ⟨i + 1, _, by go_num, rfl, by omega, HG0.out.trans g, by unfold Hid; rw [← HF2.out, HF.out]⟩
              · have ho : ordB a x = true := by unfold ordB; rw [hbe, heq, hck]; rfl
                rw [ho, if_pos rfl] at HEQ
                rw [HEQ] at hst
                have HQ : Hid (R n 0 = 11) := by unfold Hid; rw [← HF.out, hst]; rfl
                clear hst HEQ ho hbe
                refine wp_region_held_drew (S := (fun w' => w'.cell? ⟨b, off + i * 7, none⟩ = some (.string x.de) ∧ w'.cell? ⟨b, off + i * 7 + 1, none⟩ = some (.int .i64 x.nu) ∧ w'.cell? ⟨b, off + i * 7 + 2, none⟩ = some (.int .i64 x.ck) ∧ w'.cell? ⟨b, off + i * 7 + 3, none⟩ = some (.string x.ro) ∧ w'.cell? ⟨b, off + i * 7 + 4, none⟩ = some (.int .i64 x.va) ∧ w'.cell? ⟨b, off + i * 7 + 5, none⟩ = some (.string x.st) ∧ w'.cell? ⟨b, off + i * 7 + 6, none⟩ = some (.slice x.p x.n x.cap) ∧ w'.cell? ⟨b, off + j * 7, none⟩ = some (.string a.de) ∧ w'.cell? ⟨b, off + j * 7 + 1, none⟩ = some (.int .i64 a.nu) ∧ w'.cell? ⟨b, off + j * 7 + 2, none⟩ = some (.int .i64 a.ck) ∧ w'.cell? ⟨b, off + j * 7 + 3, none⟩ = some (.string a.ro) ∧ w'.cell? ⟨b, off + j * 7 + 4, none⟩ = some (.int .i64 a.va) ∧ w'.cell? ⟨b, off + j * 7 + 5, none⟩ = some (.string a.st) ∧ w'.cell? ⟨b, off + j * 7 + 6, none⟩ = some (.slice a.p a.n a.cap))) (by kernel_rfl) ⟨x0, x1, x2, x3, x4, x5, x6, y0, y1, y2, y3, y4, y5, y6⟩ (fun hHeld => ?_)
                generalize V0.drew = V at *
                refine wpAnyH_take (i := 0) (v := (.int .i64 0)) (op_at rfl) (by kernel_rfl) (by kernel_rfl) (by kernel_rfl) (fun _ _ _ h => h) (Or.inl ⟨rfl, fun w hSw => ?_⟩) (by assumption) ?_
                · (try dsimp only at hSw); go_simp; try with_reducible rfl
                (try simp only [Act.put, tz0, tz1, tz2])
                refine wpAnyH_take (i := 1) (v := (.bool true)) (op_at rfl) (by kernel_rfl) (by kernel_rfl) (by kernel_rfl) (fun _ _ _ h => h) (Or.inl ⟨rfl, fun w hSw => ?_⟩) (by assumption) ?_
                · (try dsimp only at hSw); go_simp; try with_reducible rfl
                (try simp only [Act.put, tz0, tz1, tz2])
                refine wpAnyH_take (i := 2) (v := (.bool true)) (op_at rfl) (by kernel_rfl) (by kernel_rfl) (by kernel_rfl) (fun _ _ _ h => h) (Or.inl ⟨rfl, fun w hSw => ?_⟩) (by assumption) ?_
                · (try dsimp only at hSw); go_simp; try with_reducible rfl
                (try simp only [Act.put, tz0, tz1, tz2])
                refine wpAnyH_take (i := 3) (v := (.int .i64 (i : Int))) (op_at rfl) (by kernel_rfl) (by kernel_rfl) (by kernel_rfl) (fun _ _ _ h => h) (Or.inl ⟨rfl, fun w hSw => ?_⟩) (by assumption) ?_
                · (try dsimp only at hSw); go_simp; try with_reducible rfl
                (try simp only [Act.put, tz0, tz1, tz2])
                refine wpAnyH_take (i := 4) (v := (.bool true)) (op_at rfl) (by kernel_rfl) (by kernel_rfl) (by kernel_rfl) (fun _ _ _ h => h) (Or.inl ⟨rfl, fun w hSw => ?_⟩) (by assumption) ?_
                · (try dsimp only at hSw); go_simp; try with_reducible rfl
                (try simp only [Act.put, tz0, tz1, tz2])
                refine wpAnyH_take (i := 5) (v := (.bool true)) (op_at rfl) (by kernel_rfl) (by kernel_rfl) (by kernel_rfl) (fun _ _ _ h => h) (Or.inl ⟨rfl, fun w hSw => ?_⟩) (by assumption) ?_
                · (try dsimp only at hSw); go_simp; try with_reducible rfl
                (try simp only [Act.put, tz0, tz1, tz2])
                refine wpAnyH_take (i := 6) (v := (.bool true)) (op_at rfl) (by kernel_rfl) (by kernel_rfl) (by kernel_rfl) (fun _ _ _ h => h) (Or.inl ⟨rfl, fun w hSw => ?_⟩) (by assumption) ?_
                · (try dsimp only at hSw); go_simp; try with_reducible rfl
                (try simp only [Act.put, tz0, tz1, tz2])
                refine wpAnyH_take (i := 7) (v := (.slice (some ⟨b, off, none⟩) n cap)) (op_at rfl) (by kernel_rfl) (by kernel_rfl) (by kernel_rfl) (fun _ _ _ h => h) (Or.inl ⟨rfl, fun w hSw => ?_⟩) (by assumption) ?_
                · (try dsimp only at hSw); go_simp; try with_reducible rfl
                (try simp only [Act.put, tz0, tz1, tz2])
                refine wpAnyH_take (i := 8) (v := (.int .i64 (i : Int))) (op_at rfl) (by kernel_rfl) (by kernel_rfl) (by kernel_rfl) (fun _ _ _ h => h) (Or.inl ⟨rfl, fun w hSw => ?_⟩) (by assumption) ?_
                · (try dsimp only at hSw); go_simp; try with_reducible rfl
                (try simp only [Act.put, tz0, tz1, tz2])
                refine wpAnyH_take (i := 9) (v := (.int .i64 (j : Int))) (op_at rfl) (by kernel_rfl) (by kernel_rfl) (by kernel_rfl) (fun _ _ _ h => h) (Or.inl ⟨rfl, fun w hSw => ?_⟩) (by assumption) ?_
                · (try dsimp only at hSw); go_simp; try with_reducible rfl
                (try simp only [Act.put, tz0, tz1, tz2])
                refine wpAnyH_take (i := 10) (v := (.pointer (some ⟨b, off + j * 7, none⟩))) (op_at rfl) (by kernel_rfl) (by kernel_rfl) (by kernel_rfl) (fun _ _ _ h => h) (Or.inl ⟨rfl, fun w hSw => ?_⟩) (by assumption) ?_
                · (try dsimp only at hSw); go_simp; try with_reducible rfl
                (try simp only [Act.put, tz0, tz1, tz2])
                refine wpAnyH_take (i := 11) (v := (.agg #[.string a.de, .int .i64 a.nu, .int .i64 a.ck, .string a.ro, .int .i64 a.va, .string a.st, .slice a.p a.n a.cap])) (op_at rfl) (by kernel_rfl) (by kernel_rfl) (by kernel_rfl) (fun _ _ _ h => h) (Or.inl ⟨rfl, fun w hSw => ?_⟩) (by assumption) ?_
                · (try dsimp only at hSw); go_simp; try with_reducible rfl
                (try simp only [Act.put, tz0, tz1, tz2])
                refine wpAnyH_take (i := 12) (v := (.slice (some ⟨b, off, none⟩) n cap)) (op_at rfl) (by kernel_rfl) (by kernel_rfl) (by kernel_rfl) (fun _ _ _ h => h) (Or.inl ⟨rfl, fun w hSw => ?_⟩) (by assumption) ?_
                · (try dsimp only at hSw); go_simp; try with_reducible rfl
                (try simp only [Act.put, tz0, tz1, tz2])
                refine wpAnyH_take (i := 13) (v := (.int .i64 (i : Int))) (op_at rfl) (by kernel_rfl) (by kernel_rfl) (by kernel_rfl) (fun _ _ _ h => h) (Or.inl ⟨rfl, fun w hSw => ?_⟩) (by assumption) ?_
                · (try dsimp only at hSw); go_simp; try with_reducible rfl
                (try simp only [Act.put, tz0, tz1, tz2])
                refine wpAnyH_take (i := 14) (v := (.pointer (some ⟨b, off + i * 7, none⟩))) (op_at rfl) (by kernel_rfl) (by kernel_rfl) (by kernel_rfl) (fun _ _ _ h => h) (Or.inl ⟨rfl, fun w hSw => ?_⟩) (by assumption) ?_
                · (try dsimp only at hSw); go_simp; try with_reducible rfl
                (try simp only [Act.put, tz0, tz1, tz2])
                refine wpAnyH_take (i := 15) (v := (.agg #[.string x.de, .int .i64 x.nu, .int .i64 x.ck, .string x.ro, .int .i64 x.va, .string x.st, .slice x.p x.n x.cap])) (op_at rfl) (by kernel_rfl) (by kernel_rfl) (by kernel_rfl) (fun _ _ _ h => h) (Or.inl ⟨rfl, fun w hSw => ?_⟩) (by assumption) ?_
                · (try dsimp only at hSw); go_simp; try with_reducible rfl
                (try simp only [Act.put, tz0, tz1, tz2])
                refine wpAnyH_ready (rs := [16]) (by kernel_rfl) (by simp) (AllReadyH.cons (op_at rfl) (fun K hK => ?_) AllReadyH.nil)
                go_simp
                (refine (HBF.out _).mono ?_; rintro e W4 ⟨rfl, hg⟩; replace x0 := hg.cell x0; replace x1 := hg.cell x1; replace x2 := hg.cell x2; replace x3 := hg.cell x3; replace x4 := hg.cell x4; replace x5 := hg.cell x5; replace x6 := hg.cell x6; replace y0 := hg.cell y0; replace y1 := hg.cell y1; replace y2 := hg.cell y2; replace y3 := hg.cell y3; replace y4 := hg.cell y4; replace y5 := hg.cell y5; replace y6 := hg.cell y6; replace g := g.trans hg; clear hg)
                go_wp2_with fail
                refine hK.out _ _ ⟨x0, x1, x2, x3, x4, x5, x6, y0, y1, y2, y3, y4, y5, y6⟩ (fun hHeld => ?_)
                clear hK K
                (try simp only [Act.put, tz0, tz1, tz2])
                refine wpAnyH_take (i := 17) (v := (.bool false)) (op_at rfl) (by kernel_rfl) (by kernel_rfl) (by kernel_rfl) (fun _ _ _ h => h) (Or.inl ⟨rfl, fun w hSw => ?_⟩) (by assumption) ?_
                · (try dsimp only at hSw); go_simp; try with_reducible rfl
                (try simp only [Act.put, tz0, tz1, tz2])
                refine wpAnyH_take (i := 18) (v := (.bool false)) (op_at rfl) (by kernel_rfl) (by kernel_rfl) (by kernel_rfl) (fun _ _ _ h => h) (Or.inl ⟨rfl, fun w hSw => ?_⟩) (by assumption) ?_
                · (try dsimp only at hSw); go_simp; try with_reducible rfl
                (try simp only [Act.put, tz0, tz1, tz2])
                refine wpAnyH_take (i := 19) (v := (.slice (some ⟨b, off, none⟩) n cap)) (op_at rfl) (by kernel_rfl) (by kernel_rfl) (by kernel_rfl) (fun _ _ _ h => h) (Or.inl ⟨rfl, fun w hSw => ?_⟩) (by assumption) ?_
                · (try dsimp only at hSw); go_simp; try with_reducible rfl
                (try simp only [Act.put, tz0, tz1, tz2])
                refine wpAnyH_take (i := 20) (v := (.int .i64 (i : Int))) (op_at rfl) (by kernel_rfl) (by kernel_rfl) (by kernel_rfl) (fun _ _ _ h => h) (Or.inl ⟨rfl, fun w hSw => ?_⟩) (by assumption) ?_
                · (try dsimp only at hSw); go_simp; try with_reducible rfl
                (try simp only [Act.put, tz0, tz1, tz2])
                refine wpAnyH_take (i := 21) (v := (.int .i64 (j : Int))) (op_at rfl) (by kernel_rfl) (by kernel_rfl) (by kernel_rfl) (fun _ _ _ h => h) (Or.inl ⟨rfl, fun w hSw => ?_⟩) (by assumption) ?_
                · (try dsimp only at hSw); go_simp; try with_reducible rfl
                (try simp only [Act.put, tz0, tz1, tz2])
                refine wpAnyH_take (i := 22) (v := (.pointer (some ⟨b, off + j * 7, none⟩))) (op_at rfl) (by kernel_rfl) (by kernel_rfl) (by kernel_rfl) (fun _ _ _ h => h) (Or.inl ⟨rfl, fun w hSw => ?_⟩) (by assumption) ?_
                · (try dsimp only at hSw); go_simp; try with_reducible rfl
                (try simp only [Act.put, tz0, tz1, tz2])
                refine wpAnyH_take (i := 23) (v := (.pointer (some ⟨b, off + j * 7, none⟩))) (op_at rfl) (by kernel_rfl) (by kernel_rfl) (by kernel_rfl) (fun _ _ _ h => h) (Or.inl ⟨rfl, fun w hSw => ?_⟩) (by assumption) ?_
                · (try dsimp only at hSw); go_simp; try with_reducible rfl
                (try simp only [Act.put, tz0, tz1, tz2])
                refine wpAnyH_take (i := 24) (v := (.string a.de)) (op_at rfl) (by kernel_rfl) (by kernel_rfl) (by kernel_rfl) (fun _ _ _ h => h) (Or.inl ⟨rfl, fun w hSw => ?_⟩) (by assumption) ?_
                · (try dsimp only at hSw); go_simp; try with_reducible rfl
                (try simp only [Act.put, tz0, tz1, tz2])
                refine wpAnyH_take (i := 25) (v := (.slice (some ⟨b, off, none⟩) n cap)) (op_at rfl) (by kernel_rfl) (by kernel_rfl) (by kernel_rfl) (fun _ _ _ h => h) (Or.inl ⟨rfl, fun w hSw => ?_⟩) (by assumption) ?_
                · (try dsimp only at hSw); go_simp; try with_reducible rfl
                (try simp only [Act.put, tz0, tz1, tz2])
                refine wpAnyH_take (i := 26) (v := (.int .i64 (i : Int))) (op_at rfl) (by kernel_rfl) (by kernel_rfl) (by kernel_rfl) (fun _ _ _ h => h) (Or.inl ⟨rfl, fun w hSw => ?_⟩) (by assumption) ?_
                · (try dsimp only at hSw); go_simp; try with_reducible rfl
                (try simp only [Act.put, tz0, tz1, tz2])
                refine wpAnyH_take (i := 27) (v := (.pointer (some ⟨b, off + i * 7, none⟩))) (op_at rfl) (by kernel_rfl) (by kernel_rfl) (by kernel_rfl) (fun _ _ _ h => h) (Or.inl ⟨rfl, fun w hSw => ?_⟩) (by assumption) ?_
                · (try dsimp only at hSw); go_simp; try with_reducible rfl
                (try simp only [Act.put, tz0, tz1, tz2])
                refine wpAnyH_take (i := 28) (v := (.pointer (some ⟨b, off + i * 7, none⟩))) (op_at rfl) (by kernel_rfl) (by kernel_rfl) (by kernel_rfl) (fun _ _ _ h => h) (Or.inl ⟨rfl, fun w hSw => ?_⟩) (by assumption) ?_
                · (try dsimp only at hSw); go_simp; try with_reducible rfl
                (try simp only [Act.put, tz0, tz1, tz2])
                refine wpAnyH_take (i := 29) (v := (.string x.de)) (op_at rfl) (by kernel_rfl) (by kernel_rfl) (by kernel_rfl) (fun _ _ _ h => h) (Or.inl ⟨rfl, fun w hSw => ?_⟩) (by assumption) ?_
                · (try dsimp only at hSw); go_simp; try with_reducible rfl
                (try simp only [Act.put, tz0, tz1, tz2])
                refine wpAnyH_take (i := 30) (v := (.bool true)) (op_at rfl) (by kernel_rfl) (by kernel_rfl) (by kernel_rfl) (fun _ _ _ h => h) (Or.inl ⟨rfl, fun w hSw => ?_⟩) (by assumption) ?_
                · (try dsimp only at hSw); go_simp; try with_reducible rfl
                (try simp only [Act.put, tz0, tz1, tz2])
                refine wpAnyH_take (i := 31) (v := (.bool true)) (op_at rfl) (by kernel_rfl) (by kernel_rfl) (by kernel_rfl) (fun _ _ _ h => h) (Or.inl ⟨rfl, fun w hSw => ?_⟩) (by assumption) ?_
                · (try dsimp only at hSw); go_simp; try with_reducible rfl
                (try simp only [Act.put, tz0, tz1, tz2])
                refine wpAnyH_take (i := 32) (v := (.slice (some ⟨b, off, none⟩) n cap)) (op_at rfl) (by kernel_rfl) (by kernel_rfl) (by kernel_rfl) (fun _ _ _ h => h) (Or.inl ⟨rfl, fun w hSw => ?_⟩) (by assumption) ?_
                · (try dsimp only at hSw); go_simp; try with_reducible rfl
                (try simp only [Act.put, tz0, tz1, tz2])
                refine wpAnyH_take (i := 33) (v := (.int .i64 (i : Int))) (op_at rfl) (by kernel_rfl) (by kernel_rfl) (by kernel_rfl) (fun _ _ _ h => h) (Or.inl ⟨rfl, fun w hSw => ?_⟩) (by assumption) ?_
                · (try dsimp only at hSw); go_simp; try with_reducible rfl
                (try simp only [Act.put, tz0, tz1, tz2])
                refine wpAnyH_take (i := 34) (v := (.pointer (some ⟨b, off + i * 7, none⟩))) (op_at rfl) (by kernel_rfl) (by kernel_rfl) (by kernel_rfl) (fun _ _ _ h => h) (Or.inl ⟨rfl, fun w hSw => ?_⟩) (by assumption) ?_
                · (try dsimp only at hSw); go_simp; try with_reducible rfl
                (try simp only [Act.put, tz0, tz1, tz2])
                refine wpAnyH_take (i := 35) (v := (.pointer (some ⟨b, off + i * 7 + 2, none⟩))) (op_at rfl) (by kernel_rfl) (by kernel_rfl) (by kernel_rfl) (fun _ _ _ h => h) (Or.inl ⟨rfl, fun w hSw => ?_⟩) (by assumption) ?_
                · (try dsimp only at hSw); go_simp; try with_reducible rfl
                (try simp only [Act.put, tz0, tz1, tz2])
                refine wpAnyH_take (i := 36) (v := (.int .i64 x.ck)) (op_at rfl) (by kernel_rfl) (by kernel_rfl) (by kernel_rfl) (fun _ _ _ h => h) (Or.inl ⟨rfl, fun w hSw => ?_⟩) (by assumption) ?_
                · (try dsimp only at hSw); go_simp; try with_reducible rfl
                (try simp only [Act.put, tz0, tz1, tz2])
                refine wpAnyH_take (i := 37) (v := (.slice (some ⟨b, off, none⟩) n cap)) (op_at rfl) (by kernel_rfl) (by kernel_rfl) (by kernel_rfl) (fun _ _ _ h => h) (Or.inl ⟨rfl, fun w hSw => ?_⟩) (by assumption) ?_
                · (try dsimp only at hSw); go_simp; try with_reducible rfl
                (try simp only [Act.put, tz0, tz1, tz2])
                refine wpAnyH_take (i := 38) (v := (.int .i64 (i : Int))) (op_at rfl) (by kernel_rfl) (by kernel_rfl) (by kernel_rfl) (fun _ _ _ h => h) (Or.inl ⟨rfl, fun w hSw => ?_⟩) (by assumption) ?_
                · (try dsimp only at hSw); go_simp; try with_reducible rfl
                (try simp only [Act.put, tz0, tz1, tz2])
                refine wpAnyH_take (i := 39) (v := (.int .i64 (j : Int))) (op_at rfl) (by kernel_rfl) (by kernel_rfl) (by kernel_rfl) (fun _ _ _ h => h) (Or.inl ⟨rfl, fun w hSw => ?_⟩) (by assumption) ?_
                · (try dsimp only at hSw); go_simp; try with_reducible rfl
                (try simp only [Act.put, tz0, tz1, tz2])
                refine wpAnyH_take (i := 40) (v := (.pointer (some ⟨b, off + j * 7, none⟩))) (op_at rfl) (by kernel_rfl) (by kernel_rfl) (by kernel_rfl) (fun _ _ _ h => h) (Or.inl ⟨rfl, fun w hSw => ?_⟩) (by assumption) ?_
                · (try dsimp only at hSw); go_simp; try with_reducible rfl
                (try simp only [Act.put, tz0, tz1, tz2])
                refine wpAnyH_take (i := 41) (v := (.pointer (some ⟨b, off + j * 7 + 2, none⟩))) (op_at rfl) (by kernel_rfl) (by kernel_rfl) (by kernel_rfl) (fun _ _ _ h => h) (Or.inl ⟨rfl, fun w hSw => ?_⟩) (by assumption) ?_
                · (try dsimp only at hSw); go_simp; try with_reducible rfl
                (try simp only [Act.put, tz0, tz1, tz2])
                refine wpAnyH_take (i := 42) (v := (.int .i64 a.ck)) (op_at rfl) (by kernel_rfl) (by kernel_rfl) (by kernel_rfl) (fun _ _ _ h => h) (Or.inl ⟨rfl, fun w hSw => ?_⟩) (by assumption) ?_
                · (try dsimp only at hSw); go_simp; try with_reducible rfl
                (try simp only [Act.put, tz0, tz1, tz2])
                refine wpAnyH_take (i := 43) (v := (.bool true)) (op_at rfl) (by kernel_rfl) (by kernel_rfl) (by kernel_rfl) (fun _ _ _ h => h) (Or.inl ⟨rfl, fun w hSw => ?_⟩) (by assumption) ?_
                · (try dsimp only at hSw); go_simp; try with_reducible rfl
                (try simp only [Act.put, tz0, tz1, tz2])
                refine wpAnyH_take (i := 44) (v := (.bool true)) (op_at rfl) (by kernel_rfl) (by kernel_rfl) (by kernel_rfl) (fun _ _ _ h => h) (Or.inl ⟨rfl, fun w hSw => ?_⟩) (by assumption) ?_
                · (try dsimp only at hSw); go_simp; try with_reducible rfl
                (try simp only [Act.put, tz0, tz1, tz2])
                refine wpAnyH_take (i := 45) (v := (.bool true)) (op_at rfl) (by kernel_rfl) (by kernel_rfl) (by kernel_rfl) (fun _ _ _ h => h) (Or.inl ⟨rfl, fun w hSw => ?_⟩) (by assumption) ?_
                · (try dsimp only at hSw); go_simp; try with_reducible rfl
                (try simp only [Act.put, tz0, tz1, tz2])
                refine wpAnyH_take (i := 46) (v := (.bool true)) (op_at rfl) (by kernel_rfl) (by kernel_rfl) (by kernel_rfl) (fun _ _ _ h => h) (Or.inl ⟨rfl, fun w hSw => ?_⟩) (by assumption) ?_
                · (try dsimp only at hSw); go_simp; try with_reducible rfl
                (try simp only [Act.put, tz0, tz1, tz2])
                refine wpAnyH_done (by kernel_rfl) ?_ _
                go_wp2_with fail
                go_ret
                exact ⟨by rw [HQ.out]; rfl, HG0.out.trans g⟩
      · rw [if_neg hz] at HEQ
        rw [HEQ, if_neg hz] at hst
        have q2 : (enErr x != 0) = true := bne_iff_ne.2 hz
        have q3 : (enErr x == 0) = false := beq_eq_false_iff_ne.2 hz
        generalize enErr x = z at *
        have HQ : Hid (R n 0 = z) := by unfold Hid; rw [← HF.out, hst]
        clear hst hz HEQ hx hc
        go_wp2_with fail
        refine HCE0.out.mono ?_
        rintro e V0 ⟨rfl, hg⟩
        have HG0 := Lib.hid (HG.out.trans hg)
        replace x0 := hg.cell x0
        replace x1 := hg.cell x1
        replace x2 := hg.cell x2
        replace x3 := hg.cell x3
        replace x4 := hg.cell x4
        replace x5 := hg.cell x5
        replace x6 := hg.cell x6
        clear hg HCE0
        go_wp2_with fail
        go_big_quiet (fail)
        go_wp2_with fail
        go_ret
        exact ⟨by rw [HQ.out]; rfl, HG0.out.drewN _⟩
    · have hin : i = n := by omega
      have hi2 : ¬ (i : Int) < n := by omega
      have HQ : Hid (R n 0 = 0) := by unfold Hid; rw [← HF.out, hin, Nat.sub_self]; exact HE.out
      go_wp2_with fail
      go_ret
      exact ⟨by rw [HQ.out]; try rfl, HG.out⟩
end Go.Proofs.YtnihclhhbegjhaaGreatDoor
