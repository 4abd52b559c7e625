/- ResultRounds: empty lists, too many results, errors; the program and the reference. -/
import Derived.Test.YtenhodepaoaiiaaGreatDoorGRlP
import Derived.Test.YtenhodepaoaiiaaGreatDoorStB
namespace Go.Proofs.YtenhodepaoaiiaaGreatDoor
open Go.RowKit Go.Lib
set_option linter.unusedSimpArgs false
set_option linter.unusedVariables false
/-- a result out of what it is without its place -/
def unbare (b : Bare) : RowR := ⟨b.nm, b.st, undef, b.xs⟩
theorem firstP_norm (xs : List RowR) : ∀ (k i : Nat), firstP hasV ((xs.map bare).map unbare) k i = firstP hasV xs k i
  | 0, _ => rfl
  | k + 1, i => by
    simp only [firstP, List.getElem?_map]
    cases xs[i]? with
    | none => rfl
    | some x =>
      simp only [Option.map_some]
      rw [firstP_norm xs k (i + 1)]
      rfl
theorem rowE_norm (xs : List RowR) (fz : Int) (i : Nat) (x : RowR) : rowE ((xs.map bare).map unbare) fz i (unbare (bare x)) = rowE xs fz i x := by
  have h1 : dupR ((xs.map bare).map unbare) i x.nm = dupR xs i x.nm := by
    unfold dupR
    rw [← List.map_take, ← List.map_take, List.any_map, List.any_map]
    rfl
  have h2 : fitFirst ((xs.map bare).map unbare) fz (unbare (bare x)) = fitFirst xs fz x := by
    unfold fitFirst
    rw [List.getElem?_map, List.getElem?_map]
    cases xs[fz.toNat]? <;> rfl
  unfold rowE
  rw [h2]
  show firstE [_, if dupR ((xs.map bare).map unbare) i x.nm then 9 else 0, _] = _
  rw [h1]
  rfl
theorem rowFrom_norm (xs : List RowR) (fz : Int) : ∀ (k i : Nat), rowFrom ((xs.map bare).map unbare) fz k i = rowFrom xs fz k i
  | 0, _ => rfl
  | k + 1, i => by
    simp only [rowFrom, List.getElem?_map]
    cases hx : xs[i]? with
    | none => rfl
    | some x =>
      simp only [Option.map_some]
      rw [rowE_norm xs fz i x, rowFrom_norm xs fz k (i + 1)]
/-- the error of a round -/
def roundE (xs : List RowR) : Int := if 160 < xs.length then 5 else rowFrom xs (firstV xs) xs.length 0
theorem roundE_norm (xs : List RowR) : roundE xs = roundE ((xs.map bare).map unbare) := by
  unfold roundE
  rw [rowFrom_norm]
  unfold firstV
  rw [firstP_norm]
  simp
theorem roundE_bare {xs ys : List RowR} (h : ys.map bare = xs.map bare) : roundE ys = roundE xs := by
  rw [roundE_norm ys, roundE_norm xs, h]
set_option maxHeartbeats 1000000
set_option maxRecDepth 100000
theorem indexF_0 (p : Option Addr) (cap : Nat) (f : Value) (w : World) :
    Calls Tryz.prog 89 #[.slice p 0 cap, f] w fun e w' => e = .returned (.int .i64 (-1)) ∧ w = w' := by
  go_enter Tryz.func89, Tryz.ntmps89
  go_wp2_with fail
  refine wp_loop_rounds 2 ?_
  rw [rounds_succ]
  go_wp2_with fail
  go_ret
  exact ⟨rfl, rfl⟩
theorem findR_0 (p : Option Addr) (cap : Nat) (f : Value) (w : World) :
    Calls Tryz.prog 82 #[.slice p 0 cap, f] w fun e w' => e = .returned (.tuple #[.int .i64 0, .int .i64 0]) ∧ w = w' := by
  go_enter Tryz.func82, Tryz.ntmps82
  go_wp2_with fail
  refine wp_loop_rounds 2 ?_
  rw [rounds_succ]
  go_wp2_with fail
  exact bodyPost_ret (v := .tuple #[.int .i64 0, .int .i64 0]) (by simp [results, Tryz.results82, go_sem]) rfl ⟨rfl, rfl⟩
theorem eachR_0 (p : Option Addr) (cap : Nat) (f : Value) (w : World) :
    Calls Tryz.prog 39 #[.slice p 0 cap, f] w fun e w' => e = .returned (.int .i64 0) ∧ w = w' := by
  have H := Lib.hid (fun W => findR_0 p cap f W)
  go_enter Tryz.func39, Tryz.ntmps39
  go_wp2_with (refine (H.out _).mono ?_; rintro e w4 ⟨rfl, rfl⟩)
  go_ret
  exact ⟨rfl, rfl⟩
end Go.Proofs.YtenhodepaoaiiaaGreatDoor
namespace Go.Proofs.YtenhodepaoaiiaaGreatDoor
open Go.RowKit Go.Lib
set_option linter.unusedSimpArgs false
set_option linter.unusedVariables false
set_option maxHeartbeats 2000000
set_option maxRecDepth 100000
theorem dup_none {xs : List RowR} (hV : ValidB (xs.map bare)) {j : Nat} {x : RowR} (hx : xs[j]? = some x) : dupR xs j x.nm = false := by
  have h := zero_of_valid hV
  exact (rowE_parts.1 (rowE_zero xs.length 0 h j x (Nat.zero_le _) (by have := (List.getElem?_eq_some_iff.1 hx).1; omega) hx)).2.1
theorem oneRes_ok {xs : List RowR} {x : RowR} {n b off cap j L : Nat} {w : World} (hV : ValidB (xs.map bare)) (hn : xs.length = n) (h1 : n ≤ 160) (hcap : n ≤ cap) (hmx : cap ≤ maxLen) (hx : xs[j]? = some x) (hc : ∀ i x, xs[i]? = some x → RowAt w b (off + i * 3) x) (hv : IntsV w x.u x.xs) (hL : w.cell? ⟨L, 0, none⟩ = some (.slice (some ⟨b, off, none⟩) n cap)) :
    Calls Tryz.prog 40 #[.int .i64 j, .agg #[.string x.nm, .string x.st, x.u], .pointer (some ⟨L, 0, none⟩)] w fun e w' => e = .returned (.int .i64 0) ∧ Gr w w' := by
  have hjn := (List.getElem?_eq_some_iff.1 hx).1
  have hxm : bare x ∈ xs.map bare := List.mem_map.2 ⟨x, List.mem_of_getElem? hx, rfl⟩
  have hres : resE x.nm x.st x.xs = 0 := hV.each _ hxm
  have HI := Lib.hid (fun (n : Int) (W : World) => (show Calls Tryz.prog 42 #[.bool false, .int .i64 n] W fun e w' => e = .returned (.int .i64 0) ∧ W = w' from by simpa using if_c false n W))
  have HN := Lib.hid (fun (W : World) (g : Gr w W) => (show Calls Tryz.prog 43 #[.string x.nm] W fun e w' => e = .returned (.bool true) ∧ Gr W w' from by
    have := isName_c x.nm W
    rw [(fine_row hres).1] at this
    refine this.mono ?_
    rintro e w' ⟨rfl, hg⟩
    exact ⟨rfl, hg⟩))
  have HD := Lib.hid (fun (W : World) (g : Gr w W) => hasResult_pos xs j b off cap x.nm W (by omega) (by omega) (fun i x hx => (hc i x hx).gr g))
  rw [dup_none hV hx] at HD
  have HFm := Lib.hid (fun (W : World) (g : Gr w W) => checkForm_ok hres (hv.gr g))
  have HSh := Lib.hid (fun (W : World) (g : Gr w W) => checkShape_ok (cap := cap) hV hn h1 hx (fun i x hx => (hc i x hx).gr g) (hv.gr g))
  have HF := Lib.hid (fun b cap W => first_four 0 0 0 0 b cap W)
  have HFz : Hid (firstE [0, 0, 0, 0] = 0) := rfl
  obtain ⟨⟨pu, cu, hu, _⟩⟩ := id hv
  rw [hu] at HFm HSh ⊢
  obtain ⟨W, hW, g, a0, a1, a2⟩ := box3 w (.string x.nm) (.string x.st) (.slice pu x.xs.length cu) 42
  have l0 := g.cell hL
  have HW := Lib.hid hW
  have hj1 : (j : Int) ≤ cap := by omega
  have hj0 : (0 : Int) ≤ j := by omega
  generalize x.xs.length = xn at *
  clear hW hL hc hv hu hV hx hres hxm hn
  go_enter Tryz.func40, Tryz.ntmps40
  go_wp2_with fail
  rw [HW.out]
  generalize w.heap.size = B at *
  clear HW
  have gd := (Gr.refl W).drew
  replace a0 := gd.cell a0
  replace a1 := gd.cell a1
  replace a2 := gd.cell a2
  replace l0 := gd.cell l0
  replace g := g.trans gd
  clear gd
  refine wp_region_held_drew (S := (fun w' => (w'.cell? ⟨B, 0, none⟩ = some (.string x.nm) ∧ w'.cell? ⟨B, 1, none⟩ = some (.string x.st) ∧ w'.cell? ⟨B, 2, none⟩ = some (.slice pu xn cu)) ∧ w'.cell? ⟨L, 0, none⟩ = some (.slice (some ⟨b, off, none⟩) n cap))) (by kernel_rfl) ⟨⟨a0, a1, a2⟩, l0⟩ (fun hHeld => ?_)
  generalize W.drew = V at *
  refine wpAnyH_take (i := 0) (v := (.pointer (some ⟨B, 0, none⟩))) (op_at rfl) (by kernel_rfl) (by kernel_rfl) (by kernel_rfl) (fun _ _ _ h => h) (Or.inl ⟨rfl, fun w hSw => ?_⟩) (by assumption) ?_
  · (try dsimp only at hSw); go_simp; try with_reducible rfl
  (try simp only [Act.put, List.setIfInBounds_toArray, List.set_cons_zero, List.set_cons_succ])
  refine wpAnyH_take (i := 1) (v := (.string x.nm)) (op_at rfl) (by kernel_rfl) (by kernel_rfl) (by kernel_rfl) (fun _ _ _ h => h) (Or.inl ⟨rfl, fun w hSw => ?_⟩) (by assumption) ?_
  · (try dsimp only at hSw); go_simp; try with_reducible rfl
  (try simp only [Act.put, List.setIfInBounds_toArray, List.set_cons_zero, List.set_cons_succ])
  refine wpAnyH_take (i := 5) (v := (.slice (some ⟨b, off, none⟩) n cap)) (op_at rfl) (by kernel_rfl) (by kernel_rfl) (by kernel_rfl) (fun _ _ _ h => h) (Or.inl ⟨rfl, fun w hSw => ?_⟩) (by assumption) ?_
  · (try dsimp only at hSw); go_simp; try with_reducible rfl
  (try simp only [Act.put, List.setIfInBounds_toArray, List.set_cons_zero, List.set_cons_succ])
  refine wpAnyH_take (i := 6) (v := (.int .i64 j)) (op_at rfl) (by kernel_rfl) (by kernel_rfl) (by kernel_rfl) (fun _ _ _ h => h) (Or.inl ⟨rfl, fun w hSw => ?_⟩) (by assumption) ?_
  · (try dsimp only at hSw); go_simp; try with_reducible rfl
  (try simp only [Act.put, List.setIfInBounds_toArray, List.set_cons_zero, List.set_cons_succ])
  refine wpAnyH_take (i := 7) (v := (.slice (some ⟨b, off, none⟩) j cap)) (op_at rfl) (by kernel_rfl) (by kernel_rfl) (by kernel_rfl) (fun _ _ _ h => h) (Or.inl ⟨rfl, fun w hSw => ?_⟩) (by assumption) ?_
  · (try dsimp only at hSw); go_simp; try with_reducible rfl
  (try simp only [Act.put, List.setIfInBounds_toArray, List.set_cons_zero, List.set_cons_succ])
  refine wpAnyH_take (i := 8) (v := (.pointer (some ⟨B, 0, none⟩))) (op_at rfl) (by kernel_rfl) (by kernel_rfl) (by kernel_rfl) (fun _ _ _ h => h) (Or.inl ⟨rfl, fun w hSw => ?_⟩) (by assumption) ?_
  · (try dsimp only at hSw); go_simp; try with_reducible rfl
  (try simp only [Act.put, List.setIfInBounds_toArray, List.set_cons_zero, List.set_cons_succ])
  refine wpAnyH_take (i := 9) (v := (.string x.nm)) (op_at rfl) (by kernel_rfl) (by kernel_rfl) (by kernel_rfl) (fun _ _ _ h => h) (Or.inl ⟨rfl, fun w hSw => ?_⟩) (by assumption) ?_
  · (try dsimp only at hSw); go_simp; try with_reducible rfl
  (try simp only [Act.put, List.setIfInBounds_toArray, List.set_cons_zero, List.set_cons_succ])
  refine wpAnyH_take (i := 12) (v := (.agg #[.string x.nm, .string x.st, .slice pu xn cu])) (op_at rfl) (by kernel_rfl) (by kernel_rfl) (by kernel_rfl) (fun _ _ _ h => h) (Or.inl ⟨rfl, fun w hSw => ?_⟩) (by assumption) ?_
  · (try dsimp only at hSw); go_simp; try with_reducible rfl
  (try simp only [Act.put, List.setIfInBounds_toArray, List.set_cons_zero, List.set_cons_succ])
  refine wpAnyH_take (i := 14) (v := (.slice (some ⟨b, off, none⟩) n cap)) (op_at rfl) (by kernel_rfl) (by kernel_rfl) (by kernel_rfl) (fun _ _ _ h => h) (Or.inl ⟨rfl, fun w hSw => ?_⟩) (by assumption) ?_
  · (try dsimp only at hSw); go_simp; try with_reducible rfl
  (try simp only [Act.put, List.setIfInBounds_toArray, List.set_cons_zero, List.set_cons_succ])
  refine wpAnyH_take (i := 15) (v := (.agg #[.string x.nm, .string x.st, .slice pu xn cu])) (op_at rfl) (by kernel_rfl) (by kernel_rfl) (by kernel_rfl) (fun _ _ _ h => h) (Or.inl ⟨rfl, fun w hSw => ?_⟩) (by assumption) ?_
  · (try dsimp only at hSw); go_simp; try with_reducible rfl
  (try simp only [Act.put, List.setIfInBounds_toArray, List.set_cons_zero, List.set_cons_succ])
  refine wpAnyH_ready (rs := [2]) (by kernel_rfl) (by simp) (AllReadyH.cons (op_at rfl) (fun K hK => ?_) AllReadyH.nil)
  go_simp
  (refine (HN.out _ g).mono ?_; rintro e W5 ⟨rfl, hg⟩; replace a0 := hg.cell a0; replace a1 := hg.cell a1; replace a2 := hg.cell a2; replace l0 := hg.cell l0; replace g := g.trans hg; clear hg)
  go_wp2_with fail
  refine hK.out _ _ ⟨⟨a0, a1, a2⟩, l0⟩ (fun hHeld => ?_)
  clear hK K
  (try simp only [Act.put, List.setIfInBounds_toArray, List.set_cons_zero, List.set_cons_succ])
  refine wpAnyH_take (i := 3) (v := (.bool false)) (op_at rfl) (by kernel_rfl) (by kernel_rfl) (by kernel_rfl) (fun _ _ _ h => h) (Or.inl ⟨rfl, fun w hSw => ?_⟩) (by assumption) ?_
  · (try dsimp only at hSw); go_simp; try with_reducible rfl
  (try simp only [Act.put, List.setIfInBounds_toArray, List.set_cons_zero, List.set_cons_succ])
  refine wpAnyH_ready (rs := [4]) (by kernel_rfl) (by simp) (AllReadyH.cons (op_at rfl) (fun K hK => ?_) AllReadyH.nil)
  go_simp
  (refine (HI.out 8 _).mono ?_; rintro e w' ⟨rfl, rfl⟩)
  go_wp2_with fail
  refine hK.out _ _ ⟨⟨a0, a1, a2⟩, l0⟩ (fun hHeld => ?_)
  clear hK K
  (try simp only [Act.put, List.setIfInBounds_toArray, List.set_cons_zero, List.set_cons_succ])
  refine wpAnyH_ready (rs := [10]) (by kernel_rfl) (by simp) (AllReadyH.cons (op_at rfl) (fun K hK => ?_) AllReadyH.nil)
  go_simp
  (refine (HD.out _ g).mono ?_; rintro e W6 ⟨rfl, hg⟩; replace a0 := hg.cell a0; replace a1 := hg.cell a1; replace a2 := hg.cell a2; replace l0 := hg.cell l0; replace g := g.trans hg; clear hg)
  go_wp2_with fail
  refine hK.out _ _ ⟨⟨a0, a1, a2⟩, l0⟩ (fun hHeld => ?_)
  clear hK K
  (try simp only [Act.put, List.setIfInBounds_toArray, List.set_cons_zero, List.set_cons_succ])
  refine wpAnyH_ready (rs := [11]) (by kernel_rfl) (by simp) (AllReadyH.cons (op_at rfl) (fun K hK => ?_) AllReadyH.nil)
  go_simp
  (refine (HI.out 9 _).mono ?_; rintro e w' ⟨rfl, rfl⟩)
  go_wp2_with fail
  refine hK.out _ _ ⟨⟨a0, a1, a2⟩, l0⟩ (fun hHeld => ?_)
  clear hK K
  (try simp only [Act.put, List.setIfInBounds_toArray, List.set_cons_zero, List.set_cons_succ])
  refine wpAnyH_ready (rs := [13]) (by kernel_rfl) (by simp) (AllReadyH.cons (op_at rfl) (fun K hK => ?_) AllReadyH.nil)
  go_simp
  (refine (HFm.out _ g).mono ?_; rintro e W8 ⟨rfl, hg⟩; replace a0 := hg.cell a0; replace a1 := hg.cell a1; replace a2 := hg.cell a2; replace l0 := hg.cell l0; replace g := g.trans hg; clear hg)
  go_wp2_with fail
  refine hK.out _ _ ⟨⟨a0, a1, a2⟩, l0⟩ (fun hHeld => ?_)
  clear hK K
  (try simp only [Act.put, List.setIfInBounds_toArray, List.set_cons_zero, List.set_cons_succ])
  refine wpAnyH_ready (rs := [16]) (by kernel_rfl) (by simp) (AllReadyH.cons (op_at rfl) (fun K hK => ?_) AllReadyH.nil)
  go_simp
  (refine (HSh.out _ g).mono ?_; rintro e W9 ⟨rfl, hg⟩; replace a0 := hg.cell a0; replace a1 := hg.cell a1; replace a2 := hg.cell a2; replace l0 := hg.cell l0; replace g := g.trans hg; clear hg)
  go_wp2_with fail
  refine hK.out _ _ ⟨⟨a0, a1, a2⟩, l0⟩ (fun hHeld => ?_)
  clear hK K
  (try simp only [Act.put, List.setIfInBounds_toArray, List.set_cons_zero, List.set_cons_succ])
  refine wpAnyH_ready (rs := [17]) (by kernel_rfl) (by simp) (AllReadyH.cons (op_at rfl) (fun K hK => ?_) AllReadyH.nil)
  go_simp
  obtain ⟨W3, hW3, g3, s0, s1, s2, s3⟩ := box4 W9 (.int .i64 0) (.int .i64 0) (.int .i64 0) (.int .i64 0) 27
  rw [hW3]
  clear hW3
  replace a0 := g3.cell a0
  replace a1 := g3.cell a1
  replace a2 := g3.cell a2
  replace l0 := g3.cell l0
  replace g := g.trans g3
  refine hK.out _ _ ⟨⟨a0, a1, a2⟩, l0⟩ (fun hHeld => ?_)
  clear hK K
  (try simp only [Act.put, List.setIfInBounds_toArray, List.set_cons_zero, List.set_cons_succ])
  refine wpAnyH_ready (rs := [18]) (by kernel_rfl) (by simp) (AllReadyH.cons (op_at rfl) (fun K hK => ?_) AllReadyH.nil)
  go_simp
  (refine (HF.out _ _ W3 s0 s1 s2 s3).mono ?_; rintro e w8 ⟨rfl, rfl⟩; rw [HFz.out])
  go_wp2_with fail
  refine hK.out _ _ ⟨⟨a0, a1, a2⟩, l0⟩ (fun hHeld => ?_)
  clear hK K
  (try simp only [Act.put, List.setIfInBounds_toArray, List.set_cons_zero, List.set_cons_succ])
  refine wpAnyH_take (i := 19) (v := (.int .i64 0)) (op_at rfl) (by kernel_rfl) (by kernel_rfl) (by kernel_rfl) (fun _ _ _ h => h) (Or.inl ⟨rfl, fun w hSw => ?_⟩) (by assumption) ?_
  · (try dsimp only at hSw); go_simp; try with_reducible rfl
  (try simp only [Act.put, List.setIfInBounds_toArray, List.set_cons_zero, List.set_cons_succ])
  refine wpAnyH_done (by kernel_rfl) ?_ _
  go_wp2_with fail
  go_ret
  exact ⟨rfl, g⟩
theorem findRes_ok {xs : List RowR} {n b off cap L : Nat} {w : World} (hV : ValidB (xs.map bare)) (hn : xs.length = n) (h1 : n ≤ 160) (hcap : n ≤ cap) (hmx : cap ≤ maxLen) (hc : ∀ i x, xs[i]? = some x → RowAt w b (off + i * 3) x) (hL : w.cell? ⟨L, 0, none⟩ = some (.slice (some ⟨b, off, none⟩) n cap)) :
    Calls Tryz.prog 82 #[.slice (some ⟨b, off, none⟩) n cap, .func (.func 40) #[] #[.pointer (some ⟨L, 0, none⟩)]] w fun e w' => e = .returned (.tuple #[.int .i64 0, .int .i64 0]) ∧ Gr w w' := by
  have HX := Lib.hid (fun k (h : k < n) => (show ∃ x, xs[k]? = some x from ⟨xs[k]'(by omega), List.getElem?_eq_getElem _⟩))
  have HC := Lib.hid hc
  have HO := Lib.hid (fun (j : Nat) (x : RowR) (W : World) (g : Gr w W) (hx : xs[j]? = some x) => oneRes_ok (L := L) (w := W) hV hn h1 hcap hmx hx (fun i x hx => (hc i x hx).gr g) (((hc j x hx).gr g).val) (g.cell hL))
  clear hc hL hV hn
  go_enter Tryz.func82, Tryz.ntmps82
  go_wp2_with fail
  go_loopg [11] n (fun gk s11 wr => ∃ i : Nat, s11 = .int .i64 i ∧ gk + i = n ∧ Gr w wr)
  case atStart => exact ⟨0, rfl, by omega, Gr.refl _⟩
  case round =>
    obtain ⟨i, rfl, hi, hg⟩ := hrel
    by_cases hlt : i < n
    · obtain ⟨x, hx⟩ := HX.out i hlt
      obtain ⟨c0, c1, c2, hv, _⟩ := (HC.out i x hx).gr hg
      have hi2 : (i : Int) < n := by omega
      obtain ⟨⟨pu, cu, hu, _⟩⟩ := id hv
      rw [hu] at c2
      have g1 := (Gr.refl wr).alloc (.cells #[.string x.nm, .string x.st, .slice pu x.xs.length cu] 42)
      have HT := Lib.hid (HO.out i x _ (hg.trans g1) hx)
      rw [hu] at HT
      clear hx hv hu
      generalize x.xs.length = xn at *
      go_wp2_with (refine HT.out.mono ?_; rintro e w4 ⟨rfl, hg2⟩)
      go_roundg (gk - 1)
      case measure => omega
      case rel => exact ⟨i + 1, by go_num, by omega, hg.trans (g1.trans hg2)⟩
    · obtain rfl : i = n := by omega
      go_wp2_with fail
      exact bodyPost_ret (v := .tuple #[.int .i64 0, .int .i64 0]) (by simp [results, Tryz.results82, go_sem]) rfl ⟨rfl, hg⟩
theorem eachRes_ok {xs : List RowR} {n b off cap L : Nat} {w : World} (hV : ValidB (xs.map bare)) (hn : xs.length = n) (h1 : n ≤ 160) (hcap : n ≤ cap) (hmx : cap ≤ maxLen) (hc : ∀ i x, xs[i]? = some x → RowAt w b (off + i * 3) x) (hL : w.cell? ⟨L, 0, none⟩ = some (.slice (some ⟨b, off, none⟩) n cap)) :
    Calls Tryz.prog 39 #[.slice (some ⟨b, off, none⟩) n cap, .func (.func 40) #[] #[.pointer (some ⟨L, 0, none⟩)]] w fun e w' => e = .returned (.int .i64 0) ∧ Gr w w' := by
  have H := Lib.hid (findRes_ok hV hn h1 hcap hmx hc hL)
  clear hc hL hV hn
  go_enter Tryz.func39, Tryz.ntmps39
  go_wp2_with (refine H.out.mono ?_; rintro e w4 ⟨rfl, hg⟩)
  go_ret
  exact ⟨rfl, hg⟩
theorem checkRes_pos {xs : List RowR} {n b off cap : Nat} {w : World} (hV : ValidB (xs.map bare)) (hn : xs.length = n) (h1 : n ≤ 160) (hcap : n ≤ cap) (hmx : cap ≤ maxLen) (hc : ∀ i x, xs[i]? = some x → RowAt w b (off + i * 3) x) :
    Calls Tryz.prog 8 #[.slice (some ⟨b, off, none⟩) n cap] w fun e w' => e = .returned (.int .i64 0) ∧ Gr w w' := by
  have HE := Lib.hid (fun L W (g : Gr w W) hL => eachRes_ok (L := L) (w := W) hV hn h1 hcap hmx (fun i x hx => (hc i x hx).gr g) hL)
  obtain ⟨W, hW, g, a0⟩ := box1 w (.slice (some ⟨b, off, none⟩) n cap) 22
  have HW := Lib.hid hW
  have hz2 : decide ((160 : Int) < n) = false := decide_eq_false (by omega)
  clear hW hc hV hn
  go_enter Tryz.func8, Tryz.ntmps8
  go_wp2_with fail
  rw [HW.out]
  generalize w.heap.size = B at *
  clear HW
  refine (HE.out B W g a0).mono ?_
  rintro e w4 ⟨rfl, hg⟩
  go_wp2_with fail
  go_ret
  exact ⟨rfl, g.trans hg⟩
theorem checkRes_0 (p : Option Addr) (cap : Nat) (w : World) :
    Calls Tryz.prog 8 #[.slice p 0 cap] w fun e w' => e = .returned (.int .i64 0) ∧ Gr w w' := by
  have HE := Lib.hid (fun f W => eachR_0 p cap f W)
  obtain ⟨W, hW, g, a0⟩ := box1 w (.slice p 0 cap) 22
  have HW := Lib.hid hW
  clear hW
  go_enter Tryz.func8, Tryz.ntmps8
  go_wp2_with fail
  rw [HW.out]
  clear HW
  refine (HE.out _ _).mono ?_
  rintro e w4 ⟨rfl, rfl⟩
  go_wp2_with fail
  go_ret
  exact ⟨rfl, g⟩
theorem checkRes_ok {xs : List RowR} {v : Value} {w : World} (h : RowsV w v xs) (hV : ValidB (xs.map bare)) (h1 : xs.length ≤ 160) :
    Calls Tryz.prog 8 #[v] w fun e w' => e = .returned (.int .i64 0) ∧ Gr w w' := by
  obtain ⟨⟨p, cap, rfl, hcap, hh⟩⟩ := h
  by_cases h0 : 0 < xs.length
  · obtain ⟨b, off, rfl, hc⟩ := hh h0
    exact checkRes_pos hV rfl h1 hcap.1 hcap.2 hc
  · rw [show xs.length = 0 by omega]
    exact checkRes_0 p cap w
theorem quota_ok {xs : List RowR} {p : Option Addr} {n cap : Nat} {w : World} (h : RowsV w (.slice p n cap) xs) (hn : xs.length = n) (hV : ValidB (xs.map bare)) (h1 : n ≤ 160) (m : Int) (hm : outE m 0 160 = 0) :
    Calls Tryz.prog 47 #[.slice p n cap, .int .i64 m] w fun e w' => e = .returned (.int .i64 0) ∧ Gr w w' := by
  have HC := Lib.hid (checkRes_ok h hV (by omega))
  have HRg := Lib.hid (fun W => range_c m 0 160 W)
  rw [hm] at HRg
  have HF := Lib.hid (fun b cap W => first_pair 0 0 b cap W)
  have HFz : Hid (firstE [0, 0] = 0) := rfl
  clear h hV hm hn
  go_enter Tryz.func47, Tryz.ntmps47
  go_wp2_with fail
  refine HC.out.mono ?_
  rintro e w0 ⟨rfl, g0⟩
  go_wp2_with fail
  refine (HRg.out _).mono ?_
  rintro e w0' ⟨rfl, rfl⟩
  go_wp2_with fail
  refine (HF.out _ _ _ (by exact cell_new _ #[_, _] _ 0 (by simp)) (by exact cell_new _ #[_, _] _ 1 (by simp))).mono ?_
  rintro e w0'' ⟨rfl, rfl⟩
  rw [HFz.out]
  go_wp2_with fail
  go_ret
  exact ⟨rfl, g0.alloc _⟩
end Go.Proofs.YtenhodepaoaiiaaGreatDoor
