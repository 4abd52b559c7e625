/- Rounds: the program's CheckRound. -/
import Derived.Test.YtimbcjldejifaaaGreatDoorGRkN
namespace Go.Proofs.YtimbcjldejifaaaGreatDoor
open Go.RowKit Go.Lib
set_option linter.unusedSimpArgs false
set_option linter.unusedVariables false
/-- whether a row fits the first one that has values -/
def fitFirst (xs : List RowR) (fz : Int) (x : RowR) : Bool := match xs[fz.toNat]? with
  | some f => fitB f.st x.st f.xs x.xs
  | none => true
/-- the error of a result of a round -/
def rowE (xs : List RowR) (fz : Int) (i : Nat) (x : RowR) : Int :=
  firstE [resE x.nm x.st x.xs, if dupR xs i x.nm then 9 else 0, if (if decide (0 ≤ fz) then !fitFirst xs fz x else false) then 2 else 0]
/-- the error of a round, from a result on -/
def rowFrom (xs : List RowR) (fz : Int) : Nat → Nat → Int
  | 0, _ => 0
  | k + 1, i => match xs[i]? with
    | some x => if rowE xs fz i x = 0 then rowFrom xs fz k (i + 1) else rowE xs fz i x
    | none => 0
theorem rowFrom_step {xs : List RowR} {fz : Int} {n i : Nat} {x : RowR} (hi : i < n) (h : xs[i]? = some x) : rowFrom xs fz (n - i) i = if rowE xs fz i x = 0 then rowFrom xs fz (n - (i + 1)) (i + 1) else rowE xs fz i x := by
  obtain ⟨k, hk⟩ : ∃ k, n - i = k + 1 := ⟨n - i - 1, by omega⟩
  have hk2 : n - (i + 1) = k := by omega
  rw [hk, hk2]
  simp only [rowFrom, h]
set_option maxHeartbeats 1000000 in
set_option maxRecDepth 100000 in
theorem one_row (xs : List RowR) (fz : Int) (i n b off cap L F : Nat) (x : RowR) (w : World) (hn : xs.length = n) (hi : i < n) (h1 : n ≤ 1000) (hcap : n ≤ cap) (hmx : cap ≤ maxLen) (hS : StatesIn w) (hv : IntsV w x.u x.xs) (hl : x.xs.length ≤ 1000)
    (hc : ∀ i x, xs[i]? = some x → RowAt w b (off + i * 3) x) (hL : w.cell? ⟨L, 0, none⟩ = some (.slice (some ⟨b, off, none⟩) n cap)) (hF : w.cell? ⟨F, 0, none⟩ = some (.int .i64 fz)) (hf : fz < n) :
    Calls Tryz.prog 41 #[.int .i64 i, resV x.nm x.st x.u, .pointer (some ⟨L, 0, none⟩), .pointer (some ⟨F, 0, none⟩)] w fun e w' => e = .returned (.int .i64 (rowE xs fz i x)) ∧ Gr w w' := by
  have hR : rowE xs fz i x = firstE [resE x.nm x.st x.xs, if dupR xs i x.nm then 9 else 0, if (if decide (0 ≤ fz) then !fitFirst xs fz x else false) then 2 else 0] := rfl
  have HK := Lib.hid (fun (W : World) (g : Gr w W) => checkResult_c x.nm x.st x.u x.xs W (hS.gr g) (hv.gr g) hl)
  have HD := Lib.hid (fun (B : Nat) (W : World) (g : Gr w W) hB => containsR_pos xs i b off cap B x.nm W (by omega) (by omega) (fun i x hx => (hc i x hx).gr g) hB)
  have HFit : decide (0 ≤ fz) = true → Hid (∃ f : RowR, RowAt w b (off + fz.toNat * 3) f ∧ ∀ (W : World), Gr w W → Calls Tryz.prog 45 #[resV f.nm f.st f.u, resV x.nm x.st x.u] W fun e w' => e = .returned (.bool (fitFirst xs fz x)) ∧ Gr W w') := by
    intro h0
    have h0' : 0 ≤ fz := of_decide_eq_true h0
    obtain ⟨f, hf2⟩ : ∃ f, xs[fz.toNat]? = some f := ⟨xs[fz.toNat]'(by omega), List.getElem?_eq_getElem _⟩
    have hv2 : fitFirst xs fz x = fitB f.st x.st f.xs x.xs := by unfold fitFirst; rw [hf2]
    have ha := hc _ f hf2
    refine ⟨f, ha, fun W g => ?_⟩
    rw [hv2]
    exact fit_c f.nm f.st x.nm x.st f.u x.u f.xs x.xs W (hS.gr g) (ha.val.gr g) (hv.gr g)
  obtain ⟨⟨pu, cu, hu, _⟩⟩ := id hv
  rw [hu] at HK HFit
  rw [hu]
  unfold resV at HK HFit
  unfold resV
  generalize resE x.nm x.st x.xs = e1 at *
  generalize dupR xs i x.nm = d at *
  generalize fitFirst xs fz x = t at *
  obtain ⟨e2, h2', H2⟩ := if_e d 9
  obtain ⟨e3, h3', H3⟩ := if_e (if decide (0 ≤ fz) then !t else false) 2
  rw [← h2', ← h3'] at hR
  have hF3 := first_three e1 e2 e3
  rw [← hR] at hF3
  generalize rowE xs fz i x = err at *
  replace H2 := Lib.hid H2
  have HF := Lib.hid hF3
  obtain ⟨W, hW, g, a0, a1, a2⟩ := box3 w (.string x.nm) (.string x.st) (.slice pu x.xs.length cu) 33
  have l0 := g.cell hL
  have f0 := g.cell hF
  have HW := Lib.hid hW
  have hi1 : (i : Int) ≤ cap := by omega
  have hi0 : (0 : Int) ≤ i := by omega
  generalize x.xs.length = xn at *
  clear hW hc hL hF hF3 hR h2' h3' hn hv hS
  cases h0 : decide (0 ≤ fz)
  · rw [h0] at H3
    simp only [Bool.false_eq_true, if_false] at H3
    replace H3 := Lib.hid H3
    clear HFit
    go_enter Tryz.func41, Tryz.ntmps41
    go_wp2_with fail
    rw [HW.out]
    generalize w.heap.size = B at *
    clear HW
    have gd := (Gr.refl W).drew
    replace a0 := gd.cell a0
    replace a1 := gd.cell a1
    replace a2 := gd.cell a2
    replace l0 := gd.cell l0
    replace f0 := gd.cell f0
    replace g := g.trans gd
    clear gd
    refine wp_region_held_drew (S := (fun w' => (w'.cell? ⟨B, 0, none⟩ = some (.string x.nm) ∧ w'.cell? ⟨B, 1, none⟩ = some (.string x.st) ∧ w'.cell? ⟨B, 2, none⟩ = some (.slice pu xn cu)) ∧ w'.cell? ⟨L, 0, none⟩ = some (.slice (some ⟨b, off, none⟩) n cap) ∧ w'.cell? ⟨F, 0, none⟩ = some (.int .i64 fz))) (by kernel_rfl) ⟨⟨a0, a1, a2⟩, l0, f0⟩ (fun hHeld => ?_)
    generalize W.drew = V at *
    refine wpAnyH_take (i := 0) (v := (.agg #[.string x.nm, .string x.st, .slice pu xn cu])) (op_at rfl) (by kernel_rfl) (by kernel_rfl) (by kernel_rfl) (fun _ _ _ h => h) (Or.inl ⟨rfl, fun w hSw => ?_⟩) (by assumption) ?_
    · (try dsimp only at hSw); go_simp; try with_reducible rfl
    (try simp only [Act.put, List.setIfInBounds_toArray, List.set_cons_zero, List.set_cons_succ])
    refine wpAnyH_take (i := 2) (v := (.slice (some ⟨b, off, none⟩) n cap)) (op_at rfl) (by kernel_rfl) (by kernel_rfl) (by kernel_rfl) (fun _ _ _ h => h) (Or.inl ⟨rfl, fun w hSw => ?_⟩) (by assumption) ?_
    · (try dsimp only at hSw); go_simp; try with_reducible rfl
    (try simp only [Act.put, List.setIfInBounds_toArray, List.set_cons_zero, List.set_cons_succ])
    refine wpAnyH_take (i := 3) (v := (.int .i64 i)) (op_at rfl) (by kernel_rfl) (by kernel_rfl) (by kernel_rfl) (fun _ _ _ h => h) (Or.inl ⟨rfl, fun w hSw => ?_⟩) (by assumption) ?_
    · (try dsimp only at hSw); go_simp; try with_reducible rfl
    (try simp only [Act.put, List.setIfInBounds_toArray, List.set_cons_zero, List.set_cons_succ])
    refine wpAnyH_take (i := 4) (v := (.slice (some ⟨b, off, none⟩) i cap)) (op_at rfl) (by kernel_rfl) (by kernel_rfl) (by kernel_rfl) (fun _ _ _ h => h) (Or.inl ⟨rfl, fun w hSw => ?_⟩) (by assumption) ?_
    · (try dsimp only at hSw); go_simp; try with_reducible rfl
    (try simp only [Act.put, List.setIfInBounds_toArray, List.set_cons_zero, List.set_cons_succ])
    refine wpAnyH_take (i := 5) (v := (.func (.func 42) #[] #[.pointer (some ⟨B, 0, none⟩)])) (op_at rfl) (by kernel_rfl) (by kernel_rfl) (by kernel_rfl) (fun _ _ _ h => h) (Or.inl ⟨rfl, fun w hSw => ?_⟩) (by assumption) ?_
    · (try dsimp only at hSw); go_simp; try with_reducible rfl
    (try simp only [Act.put, List.setIfInBounds_toArray, List.set_cons_zero, List.set_cons_succ])
    refine wpAnyH_take (i := 8) (v := (.int .i64 fz)) (op_at rfl) (by kernel_rfl) (by kernel_rfl) (by kernel_rfl) (fun _ _ _ h => h) (Or.inl ⟨rfl, fun w hSw => ?_⟩) (by assumption) ?_
    · (try dsimp only at hSw); go_simp; try with_reducible rfl
    (try simp only [Act.put, List.setIfInBounds_toArray, List.set_cons_zero, List.set_cons_succ])
    refine wpAnyH_take (i := 9) (v := (.bool false)) (op_at rfl) (by kernel_rfl) (by kernel_rfl) (by kernel_rfl) (fun _ _ _ h => h) (Or.inl ⟨rfl, fun w hSw => ?_⟩) (by assumption) ?_
    · (try dsimp only at hSw); go_simp; try with_reducible rfl
    (try simp only [Act.put, List.setIfInBounds_toArray, List.set_cons_zero, List.set_cons_succ])
    refine wpAnyH_ready (rs := [1]) (by kernel_rfl) (by simp) (AllReadyH.cons (op_at rfl) (fun K hK => ?_) AllReadyH.nil)
    go_simp
    (refine (HK.out _ g).mono ?_; rintro e W1 ⟨rfl, hg⟩; replace a0 := hg.cell a0; replace a1 := hg.cell a1; replace a2 := hg.cell a2; replace l0 := hg.cell l0; replace f0 := hg.cell f0; replace g := g.trans hg; clear hg)
    go_wp2_with fail
    refine hK.out _ _ ⟨⟨a0, a1, a2⟩, l0, f0⟩ (fun hHeld => ?_)
    clear hK K
    (try simp only [Act.put, List.setIfInBounds_toArray, List.set_cons_zero, List.set_cons_succ])
    refine wpAnyH_ready (rs := [6]) (by kernel_rfl) (by simp) (AllReadyH.cons (op_at rfl) (fun K hK => ?_) AllReadyH.nil)
    go_simp
    (refine (HD.out B _ g a0).mono ?_; rintro e W2 ⟨rfl, hg⟩; replace a0 := hg.cell a0; replace a1 := hg.cell a1; replace a2 := hg.cell a2; replace l0 := hg.cell l0; replace f0 := hg.cell f0; replace g := g.trans hg; clear hg)
    go_wp2_with fail
    refine hK.out _ _ ⟨⟨a0, a1, a2⟩, l0, f0⟩ (fun hHeld => ?_)
    clear hK K
    (try simp only [Act.put, List.setIfInBounds_toArray, List.set_cons_zero, List.set_cons_succ])
    refine wpAnyH_ready (rs := [7]) (by kernel_rfl) (by simp) (AllReadyH.cons (op_at rfl) (fun K hK => ?_) AllReadyH.nil)
    go_simp
    (refine (H2.out _).mono ?_; rintro e w' ⟨rfl, rfl⟩)
    go_wp2_with fail
    refine hK.out _ _ ⟨⟨a0, a1, a2⟩, l0, f0⟩ (fun hHeld => ?_)
    clear hK K
    (try simp only [Act.put, List.setIfInBounds_toArray, List.set_cons_zero, List.set_cons_succ])
    refine wpAnyH_take (i := 10) (v := (.bool false)) (op_at rfl) (by kernel_rfl) (by kernel_rfl) (by kernel_rfl) (fun _ _ _ h => h) (Or.inl ⟨rfl, fun w hSw => ?_⟩) (by assumption) ?_
    · (try dsimp only at hSw); go_simp; try with_reducible rfl
    (try simp only [Act.put, List.setIfInBounds_toArray, List.set_cons_zero, List.set_cons_succ])
    refine wpAnyH_take (i := 11) (v := undef) (op_at rfl) (by kernel_rfl) (by kernel_rfl) (by kernel_rfl) (fun _ _ _ h => h) (Or.inr ⟨rfl, rfl⟩) (by assumption) ?_
    (try simp only [Act.put, List.setIfInBounds_toArray, List.set_cons_zero, List.set_cons_succ])
    refine wpAnyH_take (i := 12) (v := undef) (op_at rfl) (by kernel_rfl) (by kernel_rfl) (by kernel_rfl) (fun _ _ _ h => h) (Or.inr ⟨rfl, rfl⟩) (by assumption) ?_
    (try simp only [Act.put, List.setIfInBounds_toArray, List.set_cons_zero, List.set_cons_succ])
    refine wpAnyH_take (i := 13) (v := undef) (op_at rfl) (by kernel_rfl) (by kernel_rfl) (by kernel_rfl) (fun _ _ _ h => h) (Or.inr ⟨rfl, rfl⟩) (by assumption) ?_
    (try simp only [Act.put, List.setIfInBounds_toArray, List.set_cons_zero, List.set_cons_succ])
    refine wpAnyH_take (i := 14) (v := undef) (op_at rfl) (by kernel_rfl) (by kernel_rfl) (by kernel_rfl) (fun _ _ _ h => h) (Or.inr ⟨rfl, rfl⟩) (by assumption) ?_
    (try simp only [Act.put, List.setIfInBounds_toArray, List.set_cons_zero, List.set_cons_succ])
    refine wpAnyH_take (i := 15) (v := undef) (op_at rfl) (by kernel_rfl) (by kernel_rfl) (by kernel_rfl) (fun _ _ _ h => h) (Or.inr ⟨rfl, rfl⟩) (by assumption) ?_
    (try simp only [Act.put, List.setIfInBounds_toArray, List.set_cons_zero, List.set_cons_succ])
    refine wpAnyH_take (i := 16) (v := undef) (op_at rfl) (by kernel_rfl) (by kernel_rfl) (by kernel_rfl) (fun _ _ _ h => h) (Or.inr ⟨rfl, rfl⟩) (by assumption) ?_
    (try simp only [Act.put, List.setIfInBounds_toArray, List.set_cons_zero, List.set_cons_succ])
    refine wpAnyH_take (i := 17) (v := undef) (op_at rfl) (by kernel_rfl) (by kernel_rfl) (by kernel_rfl) (fun _ _ _ h => h) (Or.inr ⟨rfl, rfl⟩) (by assumption) ?_
    (try simp only [Act.put, List.setIfInBounds_toArray, List.set_cons_zero, List.set_cons_succ])
    refine wpAnyH_take (i := 18) (v := (.bool false)) (op_at rfl) (by kernel_rfl) (by kernel_rfl) (by kernel_rfl) (fun _ _ _ h => h) (Or.inl ⟨rfl, fun w hSw => ?_⟩) (by assumption) ?_
    · (try dsimp only at hSw); go_simp; try with_reducible rfl
    (try simp only [Act.put, List.setIfInBounds_toArray, List.set_cons_zero, List.set_cons_succ])
    refine wpAnyH_ready (rs := [19]) (by kernel_rfl) (by simp) (AllReadyH.cons (op_at rfl) (fun K hK => ?_) AllReadyH.nil)
    go_simp
    (refine (H3.out _).mono ?_; rintro e w' ⟨rfl, rfl⟩)
    go_wp2_with fail
    refine hK.out _ _ ⟨⟨a0, a1, a2⟩, l0, f0⟩ (fun hHeld => ?_)
    clear hK K
    (try simp only [Act.put, List.setIfInBounds_toArray, List.set_cons_zero, List.set_cons_succ])
    refine wpAnyH_ready (rs := [20]) (by kernel_rfl) (by simp) (AllReadyH.cons (op_at rfl) (fun K hK => ?_) AllReadyH.nil)
    go_simp
    obtain ⟨W3, hW3, g3, s0, s1, s2⟩ := box3 W2 (.int .i64 e1) (.int .i64 e2) (.int .i64 e3) 34
    rw [hW3]
    clear hW3
    replace a0 := g3.cell a0
    replace a1 := g3.cell a1
    replace a2 := g3.cell a2
    replace l0 := g3.cell l0
    replace f0 := g3.cell f0
    replace g := g.trans g3
    refine hK.out _ _ ⟨⟨a0, a1, a2⟩, l0, f0⟩ (fun hHeld => ?_)
    clear hK K
    (try simp only [Act.put, List.setIfInBounds_toArray, List.set_cons_zero, List.set_cons_succ])
    refine wpAnyH_ready (rs := [21]) (by kernel_rfl) (by simp) (AllReadyH.cons (op_at rfl) (fun K hK => ?_) AllReadyH.nil)
    go_simp
    (refine (HF.out _ _ W3 s0 s1 s2).mono ?_; rintro e w8 ⟨rfl, rfl⟩)
    go_wp2_with fail
    refine hK.out _ _ ⟨⟨a0, a1, a2⟩, l0, f0⟩ (fun hHeld => ?_)
    clear hK K
    (try simp only [Act.put, List.setIfInBounds_toArray, List.set_cons_zero, List.set_cons_succ])
    refine wpAnyH_take (i := 22) (v := (.int .i64 err)) (op_at rfl) (by kernel_rfl) (by kernel_rfl) (by kernel_rfl) (fun _ _ _ h => h) (Or.inl ⟨rfl, fun w hSw => ?_⟩) (by assumption) ?_
    · (try dsimp only at hSw); go_simp; try with_reducible rfl
    (try simp only [Act.put, List.setIfInBounds_toArray, List.set_cons_zero, List.set_cons_succ])
    refine wpAnyH_done (by kernel_rfl) ?_ _
    go_wp2_with fail
    go_ret
    exact ⟨rfl, g⟩
  · obtain ⟨f, ha, hT⟩ := (HFit h0).out
    rw [h0] at H3
    simp only [if_true] at H3
    replace H3 := Lib.hid H3
    have h0' : 0 ≤ fz := of_decide_eq_true h0
    obtain ⟨k, rfl⟩ : ∃ k : Nat, fz = k := ⟨fz.toNat, by omega⟩
    rw [Int.toNat_natCast] at ha
    obtain ⟨m0, m1, m2, hvf, _⟩ := ha.gr g
    obtain ⟨⟨pf, cf, huf, _⟩⟩ := hvf
    rw [huf] at m2 hT
    generalize f.xs.length = fn at *
    have HT := Lib.hid hT
    clear HFit hT ha huf h0'
    go_enter Tryz.func41, Tryz.ntmps41
    go_wp2_with fail
    rw [HW.out]
    generalize w.heap.size = B at *
    clear HW
    have gd := (Gr.refl W).drew
    replace a0 := gd.cell a0
    replace a1 := gd.cell a1
    replace a2 := gd.cell a2
    replace l0 := gd.cell l0
    replace f0 := gd.cell f0
    replace m0 := gd.cell m0
    replace m1 := gd.cell m1
    replace m2 := gd.cell m2
    replace g := g.trans gd
    clear gd
    refine wp_region_held_drew (S := (fun w' => (w'.cell? ⟨B, 0, none⟩ = some (.string x.nm) ∧ w'.cell? ⟨B, 1, none⟩ = some (.string x.st) ∧ w'.cell? ⟨B, 2, none⟩ = some (.slice pu xn cu)) ∧ w'.cell? ⟨L, 0, none⟩ = some (.slice (some ⟨b, off, none⟩) n cap) ∧ w'.cell? ⟨F, 0, none⟩ = some (.int .i64 (k : Int)) ∧ w'.cell? ⟨b, off + k * 3, none⟩ = some (.string f.nm) ∧ w'.cell? ⟨b, off + k * 3 + 1, none⟩ = some (.string f.st) ∧ w'.cell? ⟨b, off + k * 3 + 2, none⟩ = some (.slice pf fn cf))) (by kernel_rfl) ⟨⟨a0, a1, a2⟩, l0, f0, m0, m1, m2⟩ (fun hHeld => ?_)
    generalize W.drew = V at *
    refine wpAnyH_take (i := 0) (v := (.agg #[.string x.nm, .string x.st, .slice pu xn cu])) (op_at rfl) (by kernel_rfl) (by kernel_rfl) (by kernel_rfl) (fun _ _ _ h => h) (Or.inl ⟨rfl, fun w hSw => ?_⟩) (by assumption) ?_
    · (try dsimp only at hSw); go_simp; try with_reducible rfl
    (try simp only [Act.put, List.setIfInBounds_toArray, List.set_cons_zero, List.set_cons_succ])
    refine wpAnyH_take (i := 2) (v := (.slice (some ⟨b, off, none⟩) n cap)) (op_at rfl) (by kernel_rfl) (by kernel_rfl) (by kernel_rfl) (fun _ _ _ h => h) (Or.inl ⟨rfl, fun w hSw => ?_⟩) (by assumption) ?_
    · (try dsimp only at hSw); go_simp; try with_reducible rfl
    (try simp only [Act.put, List.setIfInBounds_toArray, List.set_cons_zero, List.set_cons_succ])
    refine wpAnyH_take (i := 3) (v := (.int .i64 i)) (op_at rfl) (by kernel_rfl) (by kernel_rfl) (by kernel_rfl) (fun _ _ _ h => h) (Or.inl ⟨rfl, fun w hSw => ?_⟩) (by assumption) ?_
    · (try dsimp only at hSw); go_simp; try with_reducible rfl
    (try simp only [Act.put, List.setIfInBounds_toArray, List.set_cons_zero, List.set_cons_succ])
    refine wpAnyH_take (i := 4) (v := (.slice (some ⟨b, off, none⟩) i cap)) (op_at rfl) (by kernel_rfl) (by kernel_rfl) (by kernel_rfl) (fun _ _ _ h => h) (Or.inl ⟨rfl, fun w hSw => ?_⟩) (by assumption) ?_
    · (try dsimp only at hSw); go_simp; try with_reducible rfl
    (try simp only [Act.put, List.setIfInBounds_toArray, List.set_cons_zero, List.set_cons_succ])
    refine wpAnyH_take (i := 5) (v := (.func (.func 42) #[] #[.pointer (some ⟨B, 0, none⟩)])) (op_at rfl) (by kernel_rfl) (by kernel_rfl) (by kernel_rfl) (fun _ _ _ h => h) (Or.inl ⟨rfl, fun w hSw => ?_⟩) (by assumption) ?_
    · (try dsimp only at hSw); go_simp; try with_reducible rfl
    (try simp only [Act.put, List.setIfInBounds_toArray, List.set_cons_zero, List.set_cons_succ])
    refine wpAnyH_take (i := 8) (v := (.int .i64 (k : Int))) (op_at rfl) (by kernel_rfl) (by kernel_rfl) (by kernel_rfl) (fun _ _ _ h => h) (Or.inl ⟨rfl, fun w hSw => ?_⟩) (by assumption) ?_
    · (try dsimp only at hSw); go_simp; try with_reducible rfl
    (try simp only [Act.put, List.setIfInBounds_toArray, List.set_cons_zero, List.set_cons_succ])
    refine wpAnyH_take (i := 9) (v := (.bool true)) (op_at rfl) (by kernel_rfl) (by kernel_rfl) (by kernel_rfl) (fun _ _ _ h => h) (Or.inl ⟨rfl, fun w hSw => ?_⟩) (by assumption) ?_
    · (try dsimp only at hSw); go_simp; try with_reducible rfl
    (try simp only [Act.put, List.setIfInBounds_toArray, List.set_cons_zero, List.set_cons_succ])
    refine wpAnyH_ready (rs := [1]) (by kernel_rfl) (by simp) (AllReadyH.cons (op_at rfl) (fun K hK => ?_) AllReadyH.nil)
    go_simp
    (refine (HK.out _ g).mono ?_; rintro e W1 ⟨rfl, hg⟩; replace a0 := hg.cell a0; replace a1 := hg.cell a1; replace a2 := hg.cell a2; replace l0 := hg.cell l0; replace f0 := hg.cell f0; replace m0 := hg.cell m0; replace m1 := hg.cell m1; replace m2 := hg.cell m2; replace g := g.trans hg; clear hg)
    go_wp2_with fail
    refine hK.out _ _ ⟨⟨a0, a1, a2⟩, l0, f0, m0, m1, m2⟩ (fun hHeld => ?_)
    clear hK K
    (try simp only [Act.put, List.setIfInBounds_toArray, List.set_cons_zero, List.set_cons_succ])
    refine wpAnyH_ready (rs := [6]) (by kernel_rfl) (by simp) (AllReadyH.cons (op_at rfl) (fun K hK => ?_) AllReadyH.nil)
    go_simp
    (refine (HD.out B _ g a0).mono ?_; rintro e W2 ⟨rfl, hg⟩; replace a0 := hg.cell a0; replace a1 := hg.cell a1; replace a2 := hg.cell a2; replace l0 := hg.cell l0; replace f0 := hg.cell f0; replace m0 := hg.cell m0; replace m1 := hg.cell m1; replace m2 := hg.cell m2; replace g := g.trans hg; clear hg)
    go_wp2_with fail
    refine hK.out _ _ ⟨⟨a0, a1, a2⟩, l0, f0, m0, m1, m2⟩ (fun hHeld => ?_)
    clear hK K
    (try simp only [Act.put, List.setIfInBounds_toArray, List.set_cons_zero, List.set_cons_succ])
    refine wpAnyH_ready (rs := [7]) (by kernel_rfl) (by simp) (AllReadyH.cons (op_at rfl) (fun K hK => ?_) AllReadyH.nil)
    go_simp
    (refine (H2.out _).mono ?_; rintro e w' ⟨rfl, rfl⟩)
    go_wp2_with fail
    refine hK.out _ _ ⟨⟨a0, a1, a2⟩, l0, f0, m0, m1, m2⟩ (fun hHeld => ?_)
    clear hK K
    (try simp only [Act.put, List.setIfInBounds_toArray, List.set_cons_zero, List.set_cons_succ])
    refine wpAnyH_take (i := 10) (v := (.bool true)) (op_at rfl) (by kernel_rfl) (by kernel_rfl) (by kernel_rfl) (fun _ _ _ h => h) (Or.inl ⟨rfl, fun w hSw => ?_⟩) (by assumption) ?_
    · (try dsimp only at hSw); go_simp; try with_reducible rfl
    (try simp only [Act.put, List.setIfInBounds_toArray, List.set_cons_zero, List.set_cons_succ])
    refine wpAnyH_take (i := 11) (v := (.slice (some ⟨b, off, none⟩) n cap)) (op_at rfl) (by kernel_rfl) (by kernel_rfl) (by kernel_rfl) (fun _ _ _ h => h) (Or.inl ⟨rfl, fun w hSw => ?_⟩) (by assumption) ?_
    · (try dsimp only at hSw); go_simp; try with_reducible rfl
    (try simp only [Act.put, List.setIfInBounds_toArray, List.set_cons_zero, List.set_cons_succ])
    refine wpAnyH_take (i := 12) (v := (.int .i64 (k : Int))) (op_at rfl) (by kernel_rfl) (by kernel_rfl) (by kernel_rfl) (fun _ _ _ h => h) (Or.inl ⟨rfl, fun w hSw => ?_⟩) (by assumption) ?_
    · (try dsimp only at hSw); go_simp; try with_reducible rfl
    (try simp only [Act.put, List.setIfInBounds_toArray, List.set_cons_zero, List.set_cons_succ])
    refine wpAnyH_take (i := 13) (v := (.pointer (some ⟨b, off + k * 3, none⟩))) (op_at rfl) (by kernel_rfl) (by kernel_rfl) (by kernel_rfl) (fun _ _ _ h => h) (Or.inl ⟨rfl, fun w hSw => ?_⟩) (by assumption) ?_
    · (try dsimp only at hSw); go_simp; try with_reducible rfl
    (try simp only [Act.put, List.setIfInBounds_toArray, List.set_cons_zero, List.set_cons_succ])
    refine wpAnyH_take (i := 14) (v := (.agg #[.string f.nm, .string f.st, .slice pf fn cf])) (op_at rfl) (by kernel_rfl) (by kernel_rfl) (by kernel_rfl) (fun _ _ _ h => h) (Or.inl ⟨rfl, fun w hSw => ?_⟩) (by assumption) ?_
    · (try dsimp only at hSw); go_simp; try with_reducible rfl
    (try simp only [Act.put, List.setIfInBounds_toArray, List.set_cons_zero, List.set_cons_succ])
    refine wpAnyH_take (i := 15) (v := (.agg #[.string x.nm, .string x.st, .slice pu xn cu])) (op_at rfl) (by kernel_rfl) (by kernel_rfl) (by kernel_rfl) (fun _ _ _ h => h) (Or.inl ⟨rfl, fun w hSw => ?_⟩) (by assumption) ?_
    · (try dsimp only at hSw); go_simp; try with_reducible rfl
    (try simp only [Act.put, List.setIfInBounds_toArray, List.set_cons_zero, List.set_cons_succ])
    refine wpAnyH_ready (rs := [16]) (by kernel_rfl) (by simp) (AllReadyH.cons (op_at rfl) (fun K hK => ?_) AllReadyH.nil)
    go_simp
    (refine (HT.out _ g).mono ?_; rintro e W2 ⟨rfl, hg⟩; replace a0 := hg.cell a0; replace a1 := hg.cell a1; replace a2 := hg.cell a2; replace l0 := hg.cell l0; replace f0 := hg.cell f0; replace m0 := hg.cell m0; replace m1 := hg.cell m1; replace m2 := hg.cell m2; replace g := g.trans hg; clear hg)
    go_wp2_with fail
    refine hK.out _ _ ⟨⟨a0, a1, a2⟩, l0, f0, m0, m1, m2⟩ (fun hHeld => ?_)
    clear hK K
    (try simp only [Act.put, List.setIfInBounds_toArray, List.set_cons_zero, List.set_cons_succ])
    refine wpAnyH_take (i := 17) (v := (.bool (!t))) (op_at rfl) (by kernel_rfl) (by kernel_rfl) (by kernel_rfl) (fun _ _ _ h => h) (Or.inl ⟨rfl, fun w hSw => ?_⟩) (by assumption) ?_
    · (try dsimp only at hSw); go_simp; try with_reducible rfl
    (try simp only [Act.put, List.setIfInBounds_toArray, List.set_cons_zero, List.set_cons_succ])
    refine wpAnyH_take (i := 18) (v := (.bool (!t))) (op_at rfl) (by kernel_rfl) (by kernel_rfl) (by kernel_rfl) (fun _ _ _ h => h) (Or.inl ⟨rfl, fun w hSw => ?_⟩) (by assumption) ?_
    · (try dsimp only at hSw); go_simp; try with_reducible rfl
    (try simp only [Act.put, List.setIfInBounds_toArray, List.set_cons_zero, List.set_cons_succ])
    refine wpAnyH_ready (rs := [19]) (by kernel_rfl) (by simp) (AllReadyH.cons (op_at rfl) (fun K hK => ?_) AllReadyH.nil)
    go_simp
    (refine (H3.out _).mono ?_; rintro e w' ⟨rfl, rfl⟩)
    go_wp2_with fail
    refine hK.out _ _ ⟨⟨a0, a1, a2⟩, l0, f0, m0, m1, m2⟩ (fun hHeld => ?_)
    clear hK K
    (try simp only [Act.put, List.setIfInBounds_toArray, List.set_cons_zero, List.set_cons_succ])
    refine wpAnyH_ready (rs := [20]) (by kernel_rfl) (by simp) (AllReadyH.cons (op_at rfl) (fun K hK => ?_) AllReadyH.nil)
    go_simp
    obtain ⟨W3, hW3, g3, s0, s1, s2⟩ := box3 W2 (.int .i64 e1) (.int .i64 e2) (.int .i64 e3) 34
    rw [hW3]
    clear hW3
    replace a0 := g3.cell a0
    replace a1 := g3.cell a1
    replace a2 := g3.cell a2
    replace l0 := g3.cell l0
    replace f0 := g3.cell f0
    replace m0 := g3.cell m0
    replace m1 := g3.cell m1
    replace m2 := g3.cell m2
    replace g := g.trans g3
    refine hK.out _ _ ⟨⟨a0, a1, a2⟩, l0, f0, m0, m1, m2⟩ (fun hHeld => ?_)
    clear hK K
    (try simp only [Act.put, List.setIfInBounds_toArray, List.set_cons_zero, List.set_cons_succ])
    refine wpAnyH_ready (rs := [21]) (by kernel_rfl) (by simp) (AllReadyH.cons (op_at rfl) (fun K hK => ?_) AllReadyH.nil)
    go_simp
    (refine (HF.out _ _ W3 s0 s1 s2).mono ?_; rintro e w8 ⟨rfl, rfl⟩)
    go_wp2_with fail
    refine hK.out _ _ ⟨⟨a0, a1, a2⟩, l0, f0, m0, m1, m2⟩ (fun hHeld => ?_)
    clear hK K
    (try simp only [Act.put, List.setIfInBounds_toArray, List.set_cons_zero, List.set_cons_succ])
    refine wpAnyH_take (i := 22) (v := (.int .i64 err)) (op_at rfl) (by kernel_rfl) (by kernel_rfl) (by kernel_rfl) (fun _ _ _ h => h) (Or.inl ⟨rfl, fun w hSw => ?_⟩) (by assumption) ?_
    · (try dsimp only at hSw); go_simp; try with_reducible rfl
    (try simp only [Act.put, List.setIfInBounds_toArray, List.set_cons_zero, List.set_cons_succ])
    refine wpAnyH_done (by kernel_rfl) ?_ _
    go_wp2_with fail
    go_ret
    exact ⟨rfl, g⟩
end Go.Proofs.YtimbcjldejifaaaGreatDoor
namespace Go.Proofs.YtimbcjldejifaaaGreatDoor
open Go.RowKit Go.Lib
set_option linter.unusedSimpArgs false
set_option linter.unusedVariables false
set_option maxHeartbeats 1000000 in
set_option maxRecDepth 100000 in
theorem findRow_pos (xs : List RowR) (fz : Int) (n b off cap L F : Nat) (w : World) (hn : xs.length = n) (h1 : n ≤ 1000) (hcap : n ≤ cap) (hmx : cap ≤ maxLen) (hS : StatesIn w)
    (hc : ∀ i x, xs[i]? = some x → RowAt w b (off + i * 3) x) (hL : w.cell? ⟨L, 0, none⟩ = some (.slice (some ⟨b, off, none⟩) n cap)) (hF : w.cell? ⟨F, 0, none⟩ = some (.int .i64 fz)) (hf : fz < n) :
    Calls Tryz.prog 75 #[.slice (some ⟨b, off, none⟩) n cap, .func (.func 41) #[] #[.pointer (some ⟨L, 0, none⟩), .pointer (some ⟨F, 0, none⟩)]] w fun e w' => (∃ i : Int, e = .returned (.tuple #[.int .i64 i, .int .i64 (rowFrom xs fz n 0)])) ∧ Gr w w' := by
  have HC := Lib.hid hc
  have HN := Lib.hid hn
  have HO := Lib.hid (fun (i : Nat) (x : RowR) (W : World) (hi : i < n) (hx : xs[i]? = some x) (hg : Gr w W) => one_row xs fz i n b off cap L F x W hn hi h1 hcap hmx (hS.gr hg) ((hc i x hx).gr hg).val (hc i x hx).len (fun i x hx => (hc i x hx).gr hg) (hg.cell hL) (hg.cell hF) hf)
  clear hc hL hn hF hS hf
  go_enter Tryz.func75, Tryz.ntmps75
  go_wp2_with fail
  go_loopg [11] n (fun gk s11 wr => ∃ i : Nat, s11 = .int .i64 i ∧ gk + i = n ∧ Gr w wr ∧ Hid (rowFrom xs fz (n - i) i = rowFrom xs fz n 0))
  case atStart => exact ⟨0, rfl, by omega, Gr.refl _, rfl⟩
  case round =>
    obtain ⟨i, rfl, hi, hg, HF⟩ := hrel
    by_cases hlt : i < n
    · obtain ⟨x, hx⟩ : ∃ x, xs[i]? = some x := ⟨xs[i]'(by have := HN.out; omega), List.getElem?_eq_getElem _⟩
      obtain ⟨c0, c1, c2, hv, _⟩ := (HC.out i x hx).gr hg
      obtain ⟨⟨p', cap', hu, _⟩⟩ := hv
      have hf := rowFrom_step (fz := fz) hlt hx
      have hi2 : (i : Int) < n := by omega
      have hT := fun W hg2 => HO.out i x W hlt hx hg2
      rw [hu] at c2 hT
      unfold resV at hT
      generalize x.xs.length = xn at *
      clear hx hu
      obtain ⟨W, hW, g, a0, a1, a2⟩ := box3 wr (.string x.nm) (.string x.st) (.slice p' xn cap') 33
      have gW := hg.trans g
      have HW := Lib.hid hW
      by_cases h0 : rowE xs fz i x = 0
      · rw [h0] at hT hf
        rw [if_pos rfl] at hf
        have HT := Lib.hid hT
        have HF2 := Lib.hid hf
        clear hT hf h0 hW
        go_wp2_with fail
        rw [HW.out]
        refine (HT.out _ gW).mono ?_
        rintro e w4 ⟨rfl, hg2⟩
        go_wp2_with fail
        go_roundg (gk - 1)
        case measure => omega
        case rel => exact ⟨i + 1, by go_num, by omega, gW.trans hg2, by unfold Hid; rw [← HF2.out, HF.out]⟩
      · rw [if_neg h0] at hf
        generalize rowE xs fz i x = z at *
        have q1 : (z == 0) = false := by simpa using h0
        have q2 : (z != 0) = true := by simpa [bne] using q1
        have HT := Lib.hid hT
        have HF2 := Lib.hid hf
        clear hT hf hW
        go_wp2_with fail
        rw [HW.out]
        refine (HT.out _ gW).mono ?_
        rintro e w4 ⟨rfl, hg2⟩
        go_wp2_with fail
        exact bodyPost_ret (v := .tuple #[.int .i64 i, .int .i64 z]) (by simp [results, Tryz.results75, go_sem]) rfl ⟨⟨i, by rw [← HF.out, HF2.out]⟩, gW.trans hg2⟩
    · have hin : i = n := by omega
      have HE2 : Hid (rowFrom xs fz (n - i) i = 0) := by unfold Hid; rw [hin, Nat.sub_self]; rfl
      have hi2 : (n : Int) ≤ i := by omega
      clear hin
      go_wp2_with fail
      exact bodyPost_ret (v := .tuple #[.int .i64 0, .int .i64 0]) (by simp [results, Tryz.results75, go_sem]) rfl ⟨⟨0, by rw [← HF.out, HE2.out]⟩, hg⟩
theorem eachRow_pos (xs : List RowR) (fz : Int) (n b off cap L F : Nat) (w : World) (hn : xs.length = n) (h1 : n ≤ 1000) (hcap : n ≤ cap) (hmx : cap ≤ maxLen) (hS : StatesIn w)
    (hc : ∀ i x, xs[i]? = some x → RowAt w b (off + i * 3) x) (hL : w.cell? ⟨L, 0, none⟩ = some (.slice (some ⟨b, off, none⟩) n cap)) (hF : w.cell? ⟨F, 0, none⟩ = some (.int .i64 fz)) (hf : fz < n) :
    Calls Tryz.prog 40 #[.slice (some ⟨b, off, none⟩) n cap, .func (.func 41) #[] #[.pointer (some ⟨L, 0, none⟩), .pointer (some ⟨F, 0, none⟩)]] w fun e w' => e = .returned (.int .i64 (rowFrom xs fz n 0)) ∧ Gr w w' := by
  have HF := Lib.hid (findRow_pos xs fz n b off cap L F w hn h1 hcap hmx hS hc hL hF hf)
  generalize rowFrom xs fz n 0 = z at *
  clear hc hL hn hF hS
  go_enter Tryz.func40, Tryz.ntmps40
  go_wp2_with fail
  refine HF.out.mono ?_
  rintro e w4 ⟨⟨i, rfl⟩, hg⟩
  go_wp2_with fail
  go_ret
  exact ⟨rfl, hg⟩
/-- the place of the first row with values -/
def firstV (xs : List RowR) : Int := firstP hasV xs xs.length 0
theorem firstP_lt (Q : RowR → Bool) (xs : List RowR) : ∀ (k i : Nat), firstP Q xs k i < (i + k : Nat) ∨ firstP Q xs k i = -1
  | 0, i => .inr rfl
  | k + 1, i => by
    simp only [firstP]
    split
    · split
      · exact .inl (by omega)
      · rcases firstP_lt Q xs k (i + 1) with h | h
        · exact .inl (by omega)
        · exact .inr h
    · exact .inr rfl
/-- the slice v reads as the results xs -/
structure RowsV (w : World) (v : Value) (xs : List RowR) : Prop where
  mk' ::
  out : ∃ p cap, v = .slice p xs.length cap ∧ (xs.length ≤ cap ∧ cap ≤ maxLen) ∧ (0 < xs.length → ∃ b off, p = some ⟨b, off, none⟩ ∧ ∀ i x, xs[i]? = some x → RowAt w b (off + i * 3) x)
theorem RowsV.gr {w w' : World} {v : Value} {xs : List RowR} (h : RowsV w v xs) (k : Gr w w') : RowsV w' v xs := by
  obtain ⟨⟨p, cap, rfl, hcap, hh⟩⟩ := h
  refine ⟨p, cap, rfl, hcap, fun h0 => ?_⟩
  obtain ⟨b, off, h1, h2⟩ := hh h0
  exact ⟨b, off, h1, fun i x hx => (h2 i x hx).gr k⟩
set_option maxHeartbeats 1000000 in
set_option maxRecDepth 100000 in
theorem checkRound_pos (xs : List RowR) (n b off cap : Nat) (w : World) (hn : xs.length = n) (h1 : n ≤ 160) (hcap : n ≤ cap) (hmx : cap ≤ maxLen) (hS : StatesIn w)
    (hc : ∀ i x, xs[i]? = some x → RowAt w b (off + i * 3) x) :
    Calls Tryz.prog 16 #[.slice (some ⟨b, off, none⟩) n cap] w fun e w' => e = .returned (.int .i64 (rowFrom xs (firstV xs) n 0)) ∧ Gr w w' := by
  have HI := Lib.hid (fun (W : World) (g : Gr w W) => indexV_pos xs n b off cap W (by omega) (by omega) (fun i x hx => (hc i x hx).gr g))
  have hfz : firstV xs = firstP hasV xs n 0 := by unfold firstV; rw [hn]
  have hfl : firstV xs < n := by
    rw [hfz]
    rcases firstP_lt hasV xs n 0 with h | h
    · simpa using h
    · rw [h]; omega
  rw [← hfz] at HI
  generalize firstV xs = fz at *
  have HE := Lib.hid (fun (L F : Nat) (W : World) (g : Gr w W) hL hF => eachRow_pos xs fz n b off cap L F W hn (by omega) hcap hmx (hS.gr g) (fun i x hx => (hc i x hx).gr g) hL hF hfl)
  generalize rowFrom xs fz n 0 = z at *
  have hz2 : decide ((160 : Int) < n) = false := decide_eq_false (by omega)
  obtain ⟨W, hW, g, a0⟩ := box1 w (.slice (some ⟨b, off, none⟩) n cap) 30
  have HW := Lib.hid hW
  clear hW hc hn hfz hS
  go_enter Tryz.func16, Tryz.ntmps16
  go_wp2_with fail
  rw [HW.out]
  generalize w.heap.size = B at *
  clear HW
  refine (HI.out _ g).mono ?_
  rintro e W1 ⟨rfl, hg⟩
  replace a0 := hg.cell a0
  replace g := g.trans hg
  clear hg HI
  obtain ⟨W2, hW2, g2, f0⟩ := box1 W1 (.int .i64 fz) 3
  have HW2 := Lib.hid hW2
  have la := g2.cell a0
  have lb := la
  rw [← hW2] at lb
  clear hW2
  go_wp2_with fail
  rw [HW2.out]
  generalize W1.heap.size = F at *
  clear HW2 lb
  refine (HE.out B F _ (g.trans g2) la f0).mono ?_
  rintro e W3 ⟨rfl, hg⟩
  go_wp2_with fail
  go_ret
  exact ⟨rfl, (g.trans g2).trans hg⟩
end Go.Proofs.YtimbcjldejifaaaGreatDoor
