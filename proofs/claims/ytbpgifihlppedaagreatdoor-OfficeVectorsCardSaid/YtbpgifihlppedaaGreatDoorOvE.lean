/- Archives (chapter 10): CheckArchive, as the program has it. -/
import Derived.Test.YtbpgifihlppedaaGreatDoorGOvA
namespace Go.Proofs.YtbpgifihlppedaaGreatDoor
open Go.RowKit Go.Lib
set_option linter.unusedSimpArgs false
set_option linter.unusedVariables false
/-- the error of an entry by itself -/
def enErr (e : EnR) : Int := entryE e.de e.nu e.ck e.ro e.va e.st e.xs
/-- an entry is out of order behind the one before -/
def ordE (l : List EnR) (i : Nat) (e : EnR) : Bool := match i with
  | 0 => false
  | j + 1 => match l[j]? with
    | some a => ordB a e
    | none => false
def enE (l : List EnR) (i : Nat) (e : EnR) : Int := firstE [enErr e, if ordE l i e then 11 else 0]
/-- the error of an archive that is not too long -/
def archE (l : List EnR) : Int := errG (enE l) l l.length 0
theorem checkEn_c {w : World} (e : EnR) (hv : RowsV w (.slice e.p e.n e.cap) e.xs) : Calls Tryz.prog 56 #[enV e] w fun r w' => r = .returned (.int .i64 (enErr e)) ∧ Gr w w' := checkEntry_c e.de e.nu e.ck e.ro e.st e.va hv
theorem refEn_c {w : World} (e : EnR) (hv : RowsV w (.slice e.p e.n e.cap) e.xs) : Calls Tryz.prog 51 #[enV e] w fun r w' => r = .returned (.int .i64 (enErr e)) ∧ Gr w w' := refEntry_c e.de e.nu e.ck e.ro e.st e.va hv
theorem first_two (x y : Int) (b cap : Nat) (w : World) (hx : w.cell? ⟨b, 0, none⟩ = some (.int .i64 x)) (hy : w.cell? ⟨b, 1, none⟩ = some (.int .i64 y)) :
    Calls Tryz.prog 55 #[.slice (some ⟨b, 0, none⟩) 2 cap] w fun e w' => e = .returned (.int .i64 (firstE [x, y])) ∧ w = w' :=
  first_c0 b 2 cap [x, y] w rfl (fun i v h => by
    rcases i with _ | _ | i <;> simp at h <;> subst h <;> assumption) (by omega)
set_option maxHeartbeats 4000000 in
set_option maxRecDepth 100000 in
theorem oneEn0_c {w0 W : World} {l : List EnR} {x : EnR} {L : Nat} (G : Gr w0 W) (hv : RowsV w0 (.slice x.p x.n x.cap) x.xs) :
    Calls Tryz.prog 54 #[.int .i64 0, enV x, .pointer (some ⟨L, 0, none⟩)] W fun e w' => e = .returned (.int .i64 (enE l 0 x)) ∧ Gr W w' := by
  have HCE := Lib.hid (fun V (g : Gr W V) => checkEn_c x (hv.gr (G.trans g)))
  obtain ⟨z2, hz2, HIF0⟩ := if_e false 11
  have HIF := Lib.hid HIF0
  have HFI := Lib.hid (fun b cap w => first_two (enErr x) z2 b cap w)
  obtain ⟨zo, hzo⟩ : ∃ z, z = enE l 0 x := ⟨_, rfl⟩
  have hf : firstE [enErr x, z2] = zo := by rw [hzo, hz2]; rfl
  rw [hf] at HFI
  rw [← hzo]
  clear HIF0 hf hzo hz2 hv G
  generalize enErr x = z1 at *
  unfold enV at *
  obtain ⟨W1, hW1, gW1, x0, x1, x2, x3, x4, x5, x6⟩ := bx7 W (.string x.de) (.int .i64 x.nu) (.int .i64 x.ck) (.string x.ro) (.int .i64 x.va) (.string x.st) (.slice x.p x.n x.cap) 82
  have HW := Lib.hid hW1
  have g := gW1
  clear hW1 gW1
  go_enter Tryz.func54, Tryz.ntmps54
  go_wp2_with fail
  rw [HW.out]
  clear HW
  generalize W.heap.size = Bx at *
  have gd := (Gr.refl W1).drew
  replace x0 := gd.cell x0
  replace x1 := gd.cell x1
  replace x2 := gd.cell x2
  replace x3 := gd.cell x3
  replace x4 := gd.cell x4
  replace x5 := gd.cell x5
  replace x6 := gd.cell x6
  replace g := g.trans gd
  clear gd
  refine wp_region_held_drew (S := (fun w' => w'.cell? ⟨Bx, 0, none⟩ = some (.string x.de) ∧ w'.cell? ⟨Bx, 1, none⟩ = some (.int .i64 x.nu) ∧ w'.cell? ⟨Bx, 2, none⟩ = some (.int .i64 x.ck) ∧ w'.cell? ⟨Bx, 3, none⟩ = some (.string x.ro) ∧ w'.cell? ⟨Bx, 4, none⟩ = some (.int .i64 x.va) ∧ w'.cell? ⟨Bx, 5, none⟩ = some (.string x.st) ∧ w'.cell? ⟨Bx, 6, none⟩ = some (.slice x.p x.n x.cap))) (by kernel_rfl) ⟨x0, x1, x2, x3, x4, x5, x6⟩ (fun hHeld => ?_)
  generalize W1.drew = V at *
  refine wpAnyH_take (i := 0) (v := (.agg #[.string x.de, .int .i64 x.nu, .int .i64 x.ck, .string x.ro, .int .i64 x.va, .string x.st, .slice x.p x.n x.cap])) (op_at rfl) (by kernel_rfl) (by kernel_rfl) (by kernel_rfl) (fun _ _ _ h => h) (Or.inl ⟨rfl, fun w hSw => ?_⟩) (by assumption) ?_
  · (try dsimp only at hSw); go_simp; try with_reducible rfl
  (try simp only [Act.put, List.setIfInBounds_toArray, List.set_cons_zero, List.set_cons_succ])
  refine wpAnyH_take (i := 2) (v := (.int .i64 0)) (op_at rfl) (by kernel_rfl) (by kernel_rfl) (by kernel_rfl) (fun _ _ _ h => h) (Or.inl ⟨rfl, fun w hSw => ?_⟩) (by assumption) ?_
  · (try dsimp only at hSw); go_simp; try with_reducible rfl
  (try simp only [Act.put, List.setIfInBounds_toArray, List.set_cons_zero, List.set_cons_succ])
  refine wpAnyH_take (i := 3) (v := (.bool false)) (op_at rfl) (by kernel_rfl) (by kernel_rfl) (by kernel_rfl) (fun _ _ _ h => h) (Or.inl ⟨rfl, fun w hSw => ?_⟩) (by assumption) ?_
  · (try dsimp only at hSw); go_simp; try with_reducible rfl
  (try simp only [Act.put, List.setIfInBounds_toArray, List.set_cons_zero, List.set_cons_succ])
  refine wpAnyH_ready (rs := [1]) (by kernel_rfl) (by simp) (AllReadyH.cons (op_at rfl) (fun K hK => ?_) AllReadyH.nil)
  go_simp
  (refine (HCE.out _ g).mono ?_; rintro e W3 ⟨rfl, hg⟩; replace x0 := hg.cell x0; replace x1 := hg.cell x1; replace x2 := hg.cell x2; replace x3 := hg.cell x3; replace x4 := hg.cell x4; replace x5 := hg.cell x5; replace x6 := hg.cell x6; replace g := g.trans hg; clear hg)
  go_wp2_with fail
  refine hK.out _ _ ⟨x0, x1, x2, x3, x4, x5, x6⟩ (fun hHeld => ?_)
  clear hK K
  (try simp only [Act.put, List.setIfInBounds_toArray, List.set_cons_zero, List.set_cons_succ])
  refine wpAnyH_take (i := 4) (v := (.bool false)) (op_at rfl) (by kernel_rfl) (by kernel_rfl) (by kernel_rfl) (fun _ _ _ h => h) (Or.inl ⟨rfl, fun w hSw => ?_⟩) (by assumption) ?_
  · (try dsimp only at hSw); go_simp; try with_reducible rfl
  (try simp only [Act.put, List.setIfInBounds_toArray, List.set_cons_zero, List.set_cons_succ])
  refine wpAnyH_take (i := 5) (v := undef) (op_at rfl) (by kernel_rfl) (by kernel_rfl) (by kernel_rfl) (fun _ _ _ h => h) (Or.inr ⟨rfl, rfl⟩) (by assumption) ?_
  (try simp only [Act.put, List.setIfInBounds_toArray, List.set_cons_zero, List.set_cons_succ])
  refine wpAnyH_take (i := 6) (v := undef) (op_at rfl) (by kernel_rfl) (by kernel_rfl) (by kernel_rfl) (fun _ _ _ h => h) (Or.inr ⟨rfl, rfl⟩) (by assumption) ?_
  (try simp only [Act.put, List.setIfInBounds_toArray, List.set_cons_zero, List.set_cons_succ])
  refine wpAnyH_take (i := 7) (v := undef) (op_at rfl) (by kernel_rfl) (by kernel_rfl) (by kernel_rfl) (fun _ _ _ h => h) (Or.inr ⟨rfl, rfl⟩) (by assumption) ?_
  (try simp only [Act.put, List.setIfInBounds_toArray, List.set_cons_zero, List.set_cons_succ])
  refine wpAnyH_take (i := 8) (v := undef) (op_at rfl) (by kernel_rfl) (by kernel_rfl) (by kernel_rfl) (fun _ _ _ h => h) (Or.inr ⟨rfl, rfl⟩) (by assumption) ?_
  (try simp only [Act.put, List.setIfInBounds_toArray, List.set_cons_zero, List.set_cons_succ])
  refine wpAnyH_take (i := 9) (v := undef) (op_at rfl) (by kernel_rfl) (by kernel_rfl) (by kernel_rfl) (fun _ _ _ h => h) (Or.inr ⟨rfl, rfl⟩) (by assumption) ?_
  (try simp only [Act.put, List.setIfInBounds_toArray, List.set_cons_zero, List.set_cons_succ])
  refine wpAnyH_take (i := 10) (v := undef) (op_at rfl) (by kernel_rfl) (by kernel_rfl) (by kernel_rfl) (fun _ _ _ h => h) (Or.inr ⟨rfl, rfl⟩) (by assumption) ?_
  (try simp only [Act.put, List.setIfInBounds_toArray, List.set_cons_zero, List.set_cons_succ])
  refine wpAnyH_take (i := 11) (v := undef) (op_at rfl) (by kernel_rfl) (by kernel_rfl) (by kernel_rfl) (fun _ _ _ h => h) (Or.inr ⟨rfl, rfl⟩) (by assumption) ?_
  (try simp only [Act.put, List.setIfInBounds_toArray, List.set_cons_zero, List.set_cons_succ])
  refine wpAnyH_take (i := 12) (v := undef) (op_at rfl) (by kernel_rfl) (by kernel_rfl) (by kernel_rfl) (fun _ _ _ h => h) (Or.inr ⟨rfl, rfl⟩) (by assumption) ?_
  (try simp only [Act.put, List.setIfInBounds_toArray, List.set_cons_zero, List.set_cons_succ])
  refine wpAnyH_take (i := 13) (v := undef) (op_at rfl) (by kernel_rfl) (by kernel_rfl) (by kernel_rfl) (fun _ _ _ h => h) (Or.inr ⟨rfl, rfl⟩) (by assumption) ?_
  (try simp only [Act.put, List.setIfInBounds_toArray, List.set_cons_zero, List.set_cons_succ])
  refine wpAnyH_take (i := 14) (v := (.bool false)) (op_at rfl) (by kernel_rfl) (by kernel_rfl) (by kernel_rfl) (fun _ _ _ h => h) (Or.inl ⟨rfl, fun w hSw => ?_⟩) (by assumption) ?_
  · (try dsimp only at hSw); go_simp; try with_reducible rfl
  (try simp only [Act.put, List.setIfInBounds_toArray, List.set_cons_zero, List.set_cons_succ])
  refine wpAnyH_ready (rs := [15]) (by kernel_rfl) (by simp) (AllReadyH.cons (op_at rfl) (fun K hK => ?_) AllReadyH.nil)
  go_simp
  (refine (HIF.out _).mono ?_; rintro e w' ⟨rfl, rfl⟩)
  go_wp2_with fail
  refine hK.out _ _ ⟨x0, x1, x2, x3, x4, x5, x6⟩ (fun hHeld => ?_)
  clear hK K
  (try simp only [Act.put, List.setIfInBounds_toArray, List.set_cons_zero, List.set_cons_succ])
  refine wpAnyH_ready (rs := [16]) (by kernel_rfl) (by simp) (AllReadyH.cons (op_at rfl) (fun K hK => ?_) AllReadyH.nil)
  go_simp
  obtain ⟨WW, hWW, gWW, q0, q1⟩ := box2v W3 (.int .i64 z1) (.int .i64 z2) 37
  rw [hWW]
  clear hWW
  replace x0 := gWW.cell x0
  replace x1 := gWW.cell x1
  replace x2 := gWW.cell x2
  replace x3 := gWW.cell x3
  replace x4 := gWW.cell x4
  replace x5 := gWW.cell x5
  replace x6 := gWW.cell x6
  replace g := g.trans gWW
  refine hK.out _ _ ⟨x0, x1, x2, x3, x4, x5, x6⟩ (fun hHeld => ?_)
  clear hK K
  (try simp only [Act.put, List.setIfInBounds_toArray, List.set_cons_zero, List.set_cons_succ])
  refine wpAnyH_ready (rs := [17]) (by kernel_rfl) (by simp) (AllReadyH.cons (op_at rfl) (fun K hK => ?_) AllReadyH.nil)
  go_simp
  (refine (HFI.out _ _ WW q0 q1).mono ?_; rintro e w8 ⟨rfl, rfl⟩)
  go_wp2_with fail
  refine hK.out _ _ ⟨x0, x1, x2, x3, x4, x5, x6⟩ (fun hHeld => ?_)
  clear hK K
  (try simp only [Act.put, List.setIfInBounds_toArray, List.set_cons_zero, List.set_cons_succ])
  refine wpAnyH_take (i := 18) (v := (.int .i64 zo)) (op_at rfl) (by kernel_rfl) (by kernel_rfl) (by kernel_rfl) (fun _ _ _ h => h) (Or.inl ⟨rfl, fun w hSw => ?_⟩) (by assumption) ?_
  · (try dsimp only at hSw); go_simp; try with_reducible rfl
  (try simp only [Act.put, List.setIfInBounds_toArray, List.set_cons_zero, List.set_cons_succ])
  refine wpAnyH_done (by kernel_rfl) ?_ _
  go_wp2_with fail
  go_ret
  exact ⟨rfl, g⟩
set_option maxHeartbeats 4000000 in
set_option maxRecDepth 100000 in
theorem oneEnS_c {w0 W : World} {l : List EnR} {x a : EnR} {i j n b off cap L : Nat} (G : Gr w0 W) (hi : i = j + 1) (hin : i < n) (h1 : n ≤ 1000) (ha : l[j]? = some a) (hv : RowsV w0 (.slice x.p x.n x.cap) x.xs) (hat : EnAt w0 b (off + j * 7) a) (hL : W.cell? ⟨L, 0, none⟩ = some (.slice (some ⟨b, off, none⟩) n cap)) :
    Calls Tryz.prog 54 #[.int .i64 (i : Int), enV x, .pointer (some ⟨L, 0, none⟩)] W fun e w' => e = .returned (.int .i64 (enE l i x)) ∧ Gr W w' := by
  have HCE := Lib.hid (fun V (g : Gr W V) => checkEn_c x (hv.gr (G.trans g)))
  have HMF := Lib.hid (fun V => mayFollow_c a x V)
  obtain ⟨fo, hfo⟩ : ∃ f, f = folB a x := ⟨_, rfl⟩
  have hor : (!fo) = ordB a x := by rw [hfo]; exact fol_ord a x
  rw [← hfo] at HMF
  obtain ⟨z2, hz2, HIF0⟩ := if_e (!fo) 11
  have HIF := Lib.hid HIF0
  have HFI := Lib.hid (fun b cap w => first_two (enErr x) z2 b cap w)
  obtain ⟨zo, hzo⟩ : ∃ z, z = enE l i x := ⟨_, rfl⟩
  have hf : firstE [enErr x, z2] = zo := by
    rw [hzo, hz2, hor, hi]
    simp only [enE, ordE, ha]
  rw [hf] at HFI
  rw [← hzo]
  have hw1 : IntKind.i64.wrap ((i : Int) - 1) = (j : Int) := by rw [IntKind.wrap_i64]; omega
  have d1 : decide ((0 : Int) < (i : Int)) = true := decide_eq_true (by omega)
  have hjn : j < n := by omega
  have hi0 : 0 < i := by omega
  have hat2 := hat.gr G
  obtain ⟨y0, y1, y2, y3, y4, y5, y6, _⟩ := hat2
  have l0 := hL
  clear HIF0 hf hzo hz2 hv G hat hL hor hfo hi ha
  generalize enErr x = z1 at *
  unfold enV at *
  obtain ⟨W1, hW1, gW1, x0, x1, x2, x3, x4, x5, x6⟩ := bx7 W (.string x.de) (.int .i64 x.nu) (.int .i64 x.ck) (.string x.ro) (.int .i64 x.va) (.string x.st) (.slice x.p x.n x.cap) 82
  have HW := Lib.hid hW1
  have g := gW1
  clear hW1 gW1
  replace l0 := g.cell l0
  replace y0 := g.cell y0
  replace y1 := g.cell y1
  replace y2 := g.cell y2
  replace y3 := g.cell y3
  replace y4 := g.cell y4
  replace y5 := g.cell y5
  replace y6 := g.cell y6
  go_enter Tryz.func54, Tryz.ntmps54
  go_wp2_with fail
  rw [HW.out]
  clear HW
  generalize W.heap.size = Bx at *
  have gd := (Gr.refl W1).drew
  replace x0 := gd.cell x0
  replace x1 := gd.cell x1
  replace x2 := gd.cell x2
  replace x3 := gd.cell x3
  replace x4 := gd.cell x4
  replace x5 := gd.cell x5
  replace x6 := gd.cell x6
  replace l0 := gd.cell l0
  replace y0 := gd.cell y0
  replace y1 := gd.cell y1
  replace y2 := gd.cell y2
  replace y3 := gd.cell y3
  replace y4 := gd.cell y4
  replace y5 := gd.cell y5
  replace y6 := gd.cell y6
  replace g := g.trans gd
  clear gd
  refine wp_region_held_drew (S := (fun w' => w'.cell? ⟨Bx, 0, none⟩ = some (.string x.de) ∧ w'.cell? ⟨Bx, 1, none⟩ = some (.int .i64 x.nu) ∧ w'.cell? ⟨Bx, 2, none⟩ = some (.int .i64 x.ck) ∧ w'.cell? ⟨Bx, 3, none⟩ = some (.string x.ro) ∧ w'.cell? ⟨Bx, 4, none⟩ = some (.int .i64 x.va) ∧ w'.cell? ⟨Bx, 5, none⟩ = some (.string x.st) ∧ w'.cell? ⟨Bx, 6, none⟩ = some (.slice x.p x.n x.cap) ∧ w'.cell? ⟨L, 0, none⟩ = some (.slice (some ⟨b, off, none⟩) n cap) ∧ w'.cell? ⟨b, off + j * 7, none⟩ = some (.string a.de) ∧ w'.cell? ⟨b, off + j * 7 + 1, none⟩ = some (.int .i64 a.nu) ∧ w'.cell? ⟨b, off + j * 7 + 2, none⟩ = some (.int .i64 a.ck) ∧ w'.cell? ⟨b, off + j * 7 + 3, none⟩ = some (.string a.ro) ∧ w'.cell? ⟨b, off + j * 7 + 4, none⟩ = some (.int .i64 a.va) ∧ w'.cell? ⟨b, off + j * 7 + 5, none⟩ = some (.string a.st) ∧ w'.cell? ⟨b, off + j * 7 + 6, none⟩ = some (.slice a.p a.n a.cap))) (by kernel_rfl) ⟨x0, x1, x2, x3, x4, x5, x6, l0, y0, y1, y2, y3, y4, y5, y6⟩ (fun hHeld => ?_)
  generalize W1.drew = V at *
  refine wpAnyH_take (i := 0) (v := (.agg #[.string x.de, .int .i64 x.nu, .int .i64 x.ck, .string x.ro, .int .i64 x.va, .string x.st, .slice x.p x.n x.cap])) (op_at rfl) (by kernel_rfl) (by kernel_rfl) (by kernel_rfl) (fun _ _ _ h => h) (Or.inl ⟨rfl, fun w hSw => ?_⟩) (by assumption) ?_
  · (try dsimp only at hSw); go_simp; try with_reducible rfl
  (try simp only [Act.put, List.setIfInBounds_toArray, List.set_cons_zero, List.set_cons_succ])
  refine wpAnyH_take (i := 2) (v := (.int .i64 (i : Int))) (op_at rfl) (by kernel_rfl) (by kernel_rfl) (by kernel_rfl) (fun _ _ _ h => h) (Or.inl ⟨rfl, fun w hSw => ?_⟩) (by assumption) ?_
  · (try dsimp only at hSw); go_simp; try with_reducible rfl
  (try simp only [Act.put, List.setIfInBounds_toArray, List.set_cons_zero, List.set_cons_succ])
  refine wpAnyH_take (i := 3) (v := (.bool true)) (op_at rfl) (by kernel_rfl) (by kernel_rfl) (by kernel_rfl) (fun _ _ _ h => h) (Or.inl ⟨rfl, fun w hSw => ?_⟩) (by assumption) ?_
  · (try dsimp only at hSw); go_simp; try with_reducible rfl
  (try simp only [Act.put, List.setIfInBounds_toArray, List.set_cons_zero, List.set_cons_succ])
  refine wpAnyH_ready (rs := [1]) (by kernel_rfl) (by simp) (AllReadyH.cons (op_at rfl) (fun K hK => ?_) AllReadyH.nil)
  go_simp
  (refine (HCE.out _ g).mono ?_; rintro e W3 ⟨rfl, hg⟩; replace x0 := hg.cell x0; replace x1 := hg.cell x1; replace x2 := hg.cell x2; replace x3 := hg.cell x3; replace x4 := hg.cell x4; replace x5 := hg.cell x5; replace x6 := hg.cell x6; replace l0 := hg.cell l0; replace y0 := hg.cell y0; replace y1 := hg.cell y1; replace y2 := hg.cell y2; replace y3 := hg.cell y3; replace y4 := hg.cell y4; replace y5 := hg.cell y5; replace y6 := hg.cell y6; replace g := g.trans hg; clear hg)
  go_wp2_with fail
  refine hK.out _ _ ⟨x0, x1, x2, x3, x4, x5, x6, l0, y0, y1, y2, y3, y4, y5, y6⟩ (fun hHeld => ?_)
  clear hK K
  (try simp only [Act.put, List.setIfInBounds_toArray, List.set_cons_zero, List.set_cons_succ])
  refine wpAnyH_take (i := 4) (v := (.bool true)) (op_at rfl) (by kernel_rfl) (by kernel_rfl) (by kernel_rfl) (fun _ _ _ h => h) (Or.inl ⟨rfl, fun w hSw => ?_⟩) (by assumption) ?_
  · (try dsimp only at hSw); go_simp; try with_reducible rfl
  (try simp only [Act.put, List.setIfInBounds_toArray, List.set_cons_zero, List.set_cons_succ])
  refine wpAnyH_take (i := 5) (v := (.pointer (some ⟨L, 0, none⟩))) (op_at rfl) (by kernel_rfl) (by kernel_rfl) (by kernel_rfl) (fun _ _ _ h => h) (Or.inl ⟨rfl, fun w hSw => ?_⟩) (by assumption) ?_
  · (try dsimp only at hSw); go_simp; try with_reducible rfl
  (try simp only [Act.put, List.setIfInBounds_toArray, List.set_cons_zero, List.set_cons_succ])
  refine wpAnyH_take (i := 6) (v := (.slice (some ⟨b, off, none⟩) n cap)) (op_at rfl) (by kernel_rfl) (by kernel_rfl) (by kernel_rfl) (fun _ _ _ h => h) (Or.inl ⟨rfl, fun w hSw => ?_⟩) (by assumption) ?_
  · (try dsimp only at hSw); go_simp; try with_reducible rfl
  (try simp only [Act.put, List.setIfInBounds_toArray, List.set_cons_zero, List.set_cons_succ])
  refine wpAnyH_take (i := 7) (v := (.int .i64 (i : Int))) (op_at rfl) (by kernel_rfl) (by kernel_rfl) (by kernel_rfl) (fun _ _ _ h => h) (Or.inl ⟨rfl, fun w hSw => ?_⟩) (by assumption) ?_
  · (try dsimp only at hSw); go_simp; try with_reducible rfl
  (try simp only [Act.put, List.setIfInBounds_toArray, List.set_cons_zero, List.set_cons_succ])
  refine wpAnyH_take (i := 8) (v := (.int .i64 (j : Int))) (op_at rfl) (by kernel_rfl) (by kernel_rfl) (by kernel_rfl) (fun _ _ _ h => h) (Or.inl ⟨rfl, fun w hSw => ?_⟩) (by assumption) ?_
  · (try dsimp only at hSw); go_simp; try with_reducible rfl
  (try simp only [Act.put, List.setIfInBounds_toArray, List.set_cons_zero, List.set_cons_succ])
  refine wpAnyH_take (i := 9) (v := (.pointer (some ⟨b, off + j * 7, none⟩))) (op_at rfl) (by kernel_rfl) (by kernel_rfl) (by kernel_rfl) (fun _ _ _ h => h) (Or.inl ⟨rfl, fun w hSw => ?_⟩) (by assumption) ?_
  · (try dsimp only at hSw); go_simp; try with_reducible rfl
  (try simp only [Act.put, List.setIfInBounds_toArray, List.set_cons_zero, List.set_cons_succ])
  refine wpAnyH_take (i := 10) (v := (.agg #[.string a.de, .int .i64 a.nu, .int .i64 a.ck, .string a.ro, .int .i64 a.va, .string a.st, .slice a.p a.n a.cap])) (op_at rfl) (by kernel_rfl) (by kernel_rfl) (by kernel_rfl) (fun _ _ _ h => h) (Or.inl ⟨rfl, fun w hSw => ?_⟩) (by assumption) ?_
  · (try dsimp only at hSw); go_simp; try with_reducible rfl
  (try simp only [Act.put, List.setIfInBounds_toArray, List.set_cons_zero, List.set_cons_succ])
  refine wpAnyH_take (i := 11) (v := (.agg #[.string x.de, .int .i64 x.nu, .int .i64 x.ck, .string x.ro, .int .i64 x.va, .string x.st, .slice x.p x.n x.cap])) (op_at rfl) (by kernel_rfl) (by kernel_rfl) (by kernel_rfl) (fun _ _ _ h => h) (Or.inl ⟨rfl, fun w hSw => ?_⟩) (by assumption) ?_
  · (try dsimp only at hSw); go_simp; try with_reducible rfl
  (try simp only [Act.put, List.setIfInBounds_toArray, List.set_cons_zero, List.set_cons_succ])
  refine wpAnyH_ready (rs := [12]) (by kernel_rfl) (by simp) (AllReadyH.cons (op_at rfl) (fun K hK => ?_) AllReadyH.nil)
  go_simp
  (refine (HMF.out _).mono ?_; rintro e W4 ⟨rfl, hg⟩; replace x0 := hg.cell x0; replace x1 := hg.cell x1; replace x2 := hg.cell x2; replace x3 := hg.cell x3; replace x4 := hg.cell x4; replace x5 := hg.cell x5; replace x6 := hg.cell x6; replace l0 := hg.cell l0; replace y0 := hg.cell y0; replace y1 := hg.cell y1; replace y2 := hg.cell y2; replace y3 := hg.cell y3; replace y4 := hg.cell y4; replace y5 := hg.cell y5; replace y6 := hg.cell y6; replace g := g.trans hg; clear hg)
  go_wp2_with fail
  refine hK.out _ _ ⟨x0, x1, x2, x3, x4, x5, x6, l0, y0, y1, y2, y3, y4, y5, y6⟩ (fun hHeld => ?_)
  clear hK K
  (try simp only [Act.put, List.setIfInBounds_toArray, List.set_cons_zero, List.set_cons_succ])
  refine wpAnyH_take (i := 13) (v := (.bool !fo)) (op_at rfl) (by kernel_rfl) (by kernel_rfl) (by kernel_rfl) (fun _ _ _ h => h) (Or.inl ⟨rfl, fun w hSw => ?_⟩) (by assumption) ?_
  · (try dsimp only at hSw); go_simp; try with_reducible rfl
  (try simp only [Act.put, List.setIfInBounds_toArray, List.set_cons_zero, List.set_cons_succ])
  refine wpAnyH_take (i := 14) (v := (.bool !fo)) (op_at rfl) (by kernel_rfl) (by kernel_rfl) (by kernel_rfl) (fun _ _ _ h => h) (Or.inl ⟨rfl, fun w hSw => ?_⟩) (by assumption) ?_
  · (try dsimp only at hSw); go_simp; try with_reducible rfl
  (try simp only [Act.put, List.setIfInBounds_toArray, List.set_cons_zero, List.set_cons_succ])
  refine wpAnyH_ready (rs := [15]) (by kernel_rfl) (by simp) (AllReadyH.cons (op_at rfl) (fun K hK => ?_) AllReadyH.nil)
  go_simp
  (refine (HIF.out _).mono ?_; rintro e w' ⟨rfl, rfl⟩)
  go_wp2_with fail
  refine hK.out _ _ ⟨x0, x1, x2, x3, x4, x5, x6, l0, y0, y1, y2, y3, y4, y5, y6⟩ (fun hHeld => ?_)
  clear hK K
  (try simp only [Act.put, List.setIfInBounds_toArray, List.set_cons_zero, List.set_cons_succ])
  refine wpAnyH_ready (rs := [16]) (by kernel_rfl) (by simp) (AllReadyH.cons (op_at rfl) (fun K hK => ?_) AllReadyH.nil)
  go_simp
  obtain ⟨WW, hWW, gWW, q0, q1⟩ := box2v W4 (.int .i64 z1) (.int .i64 z2) 37
  rw [hWW]
  clear hWW
  replace x0 := gWW.cell x0
  replace x1 := gWW.cell x1
  replace x2 := gWW.cell x2
  replace x3 := gWW.cell x3
  replace x4 := gWW.cell x4
  replace x5 := gWW.cell x5
  replace x6 := gWW.cell x6
  replace l0 := gWW.cell l0
  replace y0 := gWW.cell y0
  replace y1 := gWW.cell y1
  replace y2 := gWW.cell y2
  replace y3 := gWW.cell y3
  replace y4 := gWW.cell y4
  replace y5 := gWW.cell y5
  replace y6 := gWW.cell y6
  replace g := g.trans gWW
  refine hK.out _ _ ⟨x0, x1, x2, x3, x4, x5, x6, l0, y0, y1, y2, y3, y4, y5, y6⟩ (fun hHeld => ?_)
  clear hK K
  (try simp only [Act.put, List.setIfInBounds_toArray, List.set_cons_zero, List.set_cons_succ])
  refine wpAnyH_ready (rs := [17]) (by kernel_rfl) (by simp) (AllReadyH.cons (op_at rfl) (fun K hK => ?_) AllReadyH.nil)
  go_simp
  (refine (HFI.out _ _ WW q0 q1).mono ?_; rintro e w8 ⟨rfl, rfl⟩)
  go_wp2_with fail
  refine hK.out _ _ ⟨x0, x1, x2, x3, x4, x5, x6, l0, y0, y1, y2, y3, y4, y5, y6⟩ (fun hHeld => ?_)
  clear hK K
  (try simp only [Act.put, List.setIfInBounds_toArray, List.set_cons_zero, List.set_cons_succ])
  refine wpAnyH_take (i := 18) (v := (.int .i64 zo)) (op_at rfl) (by kernel_rfl) (by kernel_rfl) (by kernel_rfl) (fun _ _ _ h => h) (Or.inl ⟨rfl, fun w hSw => ?_⟩) (by assumption) ?_
  · (try dsimp only at hSw); go_simp; try with_reducible rfl
  (try simp only [Act.put, List.setIfInBounds_toArray, List.set_cons_zero, List.set_cons_succ])
  refine wpAnyH_done (by kernel_rfl) ?_ _
  go_wp2_with fail
  go_ret
  exact ⟨rfl, g⟩
set_option maxHeartbeats 4000000 in
set_option maxRecDepth 100000 in
theorem findEn_c {w : World} {l : List EnR} {n b off cap L : Nat} (hn : l.length = n) (h1 : n ≤ 1000) (hc : ∀ i e, l[i]? = some e → EnAt w b (off + i * 7) e) (hf : Few l) (hL : w.cell? ⟨L, 0, none⟩ = some (.slice (some ⟨b, off, none⟩) n cap)) :
    Calls Tryz.prog 98 #[.slice (some ⟨b, off, none⟩) n cap, .func (.func 54) #[] #[.pointer (some ⟨L, 0, none⟩)]] w fun e w' => (∃ i : Int, e = .returned (.tuple #[.int .i64 i, .int .i64 (errG (enE l) l n 0)])) ∧ Gr w w' := by
  have HX := Lib.hid (fun k (h : k < n) => (show ∃ x, l[k]? = some x from ⟨l[k]'(by omega), List.getElem?_eq_getElem _⟩))
  have HC := Lib.hid hc
  have HS := Lib.hid (fun i x (hi : i < n) (h : l[i]? = some x) => errG_step (E := enE l) hi h)
  have HE : Hid (errG (enE l) l 0 n = 0) := rfl
  have HO : Hid (∀ (i : Nat) (x : EnR), l[i]? = some x → ∀ W, Gr w W → Calls Tryz.prog 54 #[.int .i64 (i : Int), enV x, .pointer (some ⟨L, 0, none⟩)] W fun e w' => e = .returned (.int .i64 (enE l i x)) ∧ Gr W w') := fun i x hx W G => by
    have hv := (hc i x hx).rowsV (hf x (List.mem_of_getElem? hx))
    rcases i with _ | j
    · exact oneEn0_c G hv
    · obtain ⟨a, ha⟩ : ∃ a, l[j]? = some a := ⟨l[j]'(by have := (List.getElem?_eq_some_iff.1 hx).1; omega), List.getElem?_eq_getElem _⟩
      exact oneEnS_c G rfl (by have := (List.getElem?_eq_some_iff.1 hx).1; omega) h1 ha hv (hc j a ha) (G.cell hL)
  generalize errG (enE l) l = R at *
  clear hc hn hf hL
  go_enter Tryz.func98, Tryz.ntmps98
  go_wp2_with fail
  go_loopg [11] n (fun gk s11 wr => ∃ i : Nat, s11 = .int .i64 i ∧ gk + i = n ∧ Hid (Gr w wr) ∧ Hid (R (n - i) i = R n 0))
  case atStart => exact ⟨0, rfl, by omega, Gr.refl _, by simp [Hid]⟩
  case round =>
    obtain ⟨i, rfl, hi, HG, HF⟩ := hrel
    by_cases hlt : i < n
    · obtain ⟨x, hx⟩ := HX.out i hlt
      obtain ⟨c0, c1, c2, c3, c4, c5, c6, _⟩ := (HC.out i x hx).gr HG.out
      have hi2 : (i : Int) < n := by omega
      have hst := HS.out i x hlt hx
      have g1 := (Gr.refl wr).alloc (.cells #[.string x.de, .int .i64 x.nu, .int .i64 x.ck, .string x.ro, .int .i64 x.va, .string x.st, .slice x.p x.n x.cap] 82)
      have HT0 := HO.out i x hx _ (HG.out.trans g1)
      unfold enV at HT0
      have HT := Lib.hid HT0
      have HGG := Lib.hid (HG.out.trans g1)
      clear hx g1 HT0
      by_cases h0 : enE l i x = 0
      · rw [h0] at HT
        rw [if_pos h0] at hst
        have HF2 := Lib.hid hst
        clear hst h0
        go_wp2_with (refine HT.out.mono ?_; rintro e w4 ⟨rfl, hA⟩)
        go_roundg (gk - 1)
        case measure => omega
        case rel => exact ⟨i + 1, by go_num, by omega, HGG.out.trans hA, by unfold Hid; rw [← HF2.out, HF.out]⟩
      · rw [if_neg h0] at hst
        generalize enE l i x = z at *
        have q2 : (z != 0) = true := bne_iff_ne.2 h0
        have HQ : Hid (R n 0 = z) := by unfold Hid; rw [← HF.out, hst]
        clear hst h0
        go_wp2_with (refine HT.out.mono ?_; rintro e w4 ⟨rfl, hA⟩)
        exact bodyPost_ret (v := .tuple #[.int .i64 i, .int .i64 z]) (by simp [results, Tryz.results98, go_sem]) rfl ⟨⟨i, by rw [HQ.out]⟩, HGG.out.trans hA⟩
    · have hin : i = n := by omega
      have hi2 : ¬ (i : Int) < n := by omega
      have HQ : Hid (R n 0 = 0) := by unfold Hid; rw [← HF.out, hin, Nat.sub_self]; exact HE.out
      go_wp2_with fail
      exact bodyPost_ret (v := .tuple #[.int .i64 0, .int .i64 0]) (by simp [results, Tryz.results98, go_sem]) rfl ⟨⟨0, by rw [HQ.out]⟩, HG.out⟩
theorem findEn_nil (p : Option Addr) (cap : Nat) (fn : Value) (w : World) :
    Calls Tryz.prog 98 #[.slice p 0 cap, fn] w fun e w' => (∃ i : Int, e = .returned (.tuple #[.int .i64 i, .int .i64 0])) ∧ w = w' := by
  go_enter Tryz.func98, Tryz.ntmps98
  go_wp2_with fail
  refine wp_loop_rounds 1 ?_
  rw [rounds_succ]
  go_wp2_with fail
  exact bodyPost_ret (v := .tuple #[.int .i64 0, .int .i64 0]) (by simp [results, Tryz.results98, go_sem]) rfl ⟨⟨0, rfl⟩, rfl⟩
/-- the check of all entries -/
theorem eachEn_c {w : World} {q : Option Addr} {l : List EnR} {n cap L : Nat} (hn : n = l.length) (h1 : n ≤ 1000) (hr : EnS w q l) (hf : Few l) (hL : w.cell? ⟨L, 0, none⟩ = some (.slice q n cap)) :
    Calls Tryz.prog 53 #[.slice q n cap, .func (.func 54) #[] #[.pointer (some ⟨L, 0, none⟩)]] w fun e w' => e = .returned (.int .i64 (archE l)) ∧ Gr w w' := by
  have H : Hid (Calls Tryz.prog 98 #[.slice q n cap, .func (.func 54) #[] #[.pointer (some ⟨L, 0, none⟩)]] w fun e w' => (∃ i : Int, e = .returned (.tuple #[.int .i64 i, .int .i64 (archE l)])) ∧ Gr w w') := by
    by_cases h0 : 0 < n
    · obtain ⟨b, off, rfl, hc⟩ := hr.out (by omega)
      have := findEn_c hn.symm h1 hc hf hL
      unfold archE
      rw [← hn]
      exact this
    · obtain rfl : n = 0 := by omega
      refine (findEn_nil q cap _ w).mono fun e w' ⟨he, hw⟩ => ⟨?_, hw ▸ Gr.refl _⟩
      have : archE l = 0 := by unfold archE; rw [← hn]; rfl
      rw [this]; exact he
  generalize archE l = z at *
  clear hr hf hL hn
  go_enter Tryz.func53, Tryz.ntmps53
  go_wp2_with (refine H.out.mono ?_; rintro e w4 ⟨⟨i, rfl⟩, hg⟩)
  go_ret
  exact ⟨rfl, hg⟩
theorem checkArch_c {w : World} {q : Option Addr} {l : List EnR} {n cap : Nat} (hn : n = l.length) (h1 : n ≤ 1000) (hr : EnS w q l) (hf : Few l) :
    Calls Tryz.prog 11 #[.agg #[.slice q n cap]] w fun e w' => e = .returned (.int .i64 (archE l)) ∧ Gr w w' := by
  have H := Lib.hid (fun W L (g : Gr w W) (hL : W.cell? ⟨L, 0, none⟩ = some (.slice q n cap)) => eachEn_c (L := L) hn h1 (hr.gr g) hf hL)
  have g1 := (Gr.refl w).alloc (.cells #[.slice q n cap] 24)
  have c0 := cell_new w #[.slice q n cap] 24 0 (by simp)
  have h2 : ¬ (1000 : Int) < (n : Int) := by omega
  generalize archE l = z at *
  clear hr hf hn
  go_enter Tryz.func11, Tryz.ntmps11
  go_wp2_with fail
  refine (H.out _ _ g1 c0).mono ?_
  rintro e w4 ⟨rfl, hg⟩
  go_wp2_with fail
  go_ret
  exact ⟨rfl, g1.trans hg⟩
end Go.Proofs.YtbpgifihlppedaaGreatDoor
