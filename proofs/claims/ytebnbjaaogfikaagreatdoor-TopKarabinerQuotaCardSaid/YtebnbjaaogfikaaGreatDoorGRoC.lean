/- ResultRounds: empty lists, too many results, errors; the program and the reference. -/
import Derived.Test.YtebnbjaaogfikaaGreatDoorGOrN
import Derived.Test.YtebnbjaaogfikaaGreatDoorStB
import Derived.Test.YtebnbjaaogfikaaGreatDoorGResB
namespace Go.Proofs.YtebnbjaaogfikaaGreatDoor
open Go.RowKit Go.Lib
set_option linter.unusedSimpArgs false
set_option linter.unusedVariables false
/-- a result out of what it is without its place -/
def unbare (b : Bare) : RowR := ⟨b.nm, b.st, undef, b.xs⟩
theorem firstP_norm (xs : List RowR) : ∀ (k i : Nat), firstP hasV ((xs.map bare).map unbare) k i = firstP hasV xs k i
  | 0, _ => rfl
  | k + 1, i => by
    simp only [firstP, List.getElem?_map]
    cases xs[i]? with
    | none => rfl
    | some x =>
      simp only [Option.map_some]
      rw [firstP_norm xs k (i + 1)]
      rfl
theorem rowE_norm (xs : List RowR) (fz : Int) (i : Nat) (x : RowR) : rowE ((xs.map bare).map unbare) fz i (unbare (bare x)) = rowE xs fz i x := by
  have h1 : dupR ((xs.map bare).map unbare) i x.nm = dupR xs i x.nm := by
    unfold dupR
    rw [← List.map_take, ← List.map_take, List.any_map, List.any_map]
    rfl
  have h2 : fitFirst ((xs.map bare).map unbare) fz (unbare (bare x)) = fitFirst xs fz x := by
    unfold fitFirst
    rw [List.getElem?_map, List.getElem?_map]
    cases xs[fz.toNat]? <;> rfl
  unfold rowE
  rw [h2]
  show firstE [_, if dupR ((xs.map bare).map unbare) i x.nm then 9 else 0, _] = _
  rw [h1]
  rfl
theorem rowFrom_norm (xs : List RowR) (fz : Int) : ∀ (k i : Nat), rowFrom ((xs.map bare).map unbare) fz k i = rowFrom xs fz k i
  | 0, _ => rfl
  | k + 1, i => by
    simp only [rowFrom, List.getElem?_map]
    cases hx : xs[i]? with
    | none => rfl
    | some x =>
      simp only [Option.map_some]
      rw [rowE_norm xs fz i x, rowFrom_norm xs fz k (i + 1)]
/-- the error of a round -/
def roundE (xs : List RowR) : Int := if 160 < xs.length then 5 else rowFrom xs (firstV xs) xs.length 0
theorem roundE_norm (xs : List RowR) : roundE xs = roundE ((xs.map bare).map unbare) := by
  unfold roundE
  rw [rowFrom_norm]
  unfold firstV
  rw [firstP_norm]
  simp
theorem roundE_bare {xs ys : List RowR} (h : ys.map bare = xs.map bare) : roundE ys = roundE xs := by
  rw [roundE_norm ys, roundE_norm xs, h]
set_option maxHeartbeats 1000000
set_option maxRecDepth 100000
theorem indexF_0 (p : Option Addr) (cap : Nat) (f : Value) (w : World) :
    Calls Tryz.prog 37 #[.slice p 0 cap, f] w fun e w' => e = .returned (.int .i64 (-1)) ∧ w = w' := by
  go_enter Tryz.func37, Tryz.ntmps37
  go_wp2_with fail
  refine wp_loop_rounds 2 ?_
  rw [rounds_succ]
  go_wp2_with fail
  go_ret
  exact ⟨rfl, rfl⟩
theorem findR_0 (p : Option Addr) (cap : Nat) (f : Value) (w : World) :
    Calls Tryz.prog 72 #[.slice p 0 cap, f] w fun e w' => e = .returned (.tuple #[.int .i64 0, .int .i64 0]) ∧ w = w' := by
  go_enter Tryz.func72, Tryz.ntmps72
  go_wp2_with fail
  refine wp_loop_rounds 2 ?_
  rw [rounds_succ]
  go_wp2_with fail
  exact bodyPost_ret (v := .tuple #[.int .i64 0, .int .i64 0]) (by simp [results, Tryz.results72, go_sem]) rfl ⟨rfl, rfl⟩
theorem eachR_0 (p : Option Addr) (cap : Nat) (f : Value) (w : World) :
    Calls Tryz.prog 38 #[.slice p 0 cap, f] w fun e w' => e = .returned (.int .i64 0) ∧ w = w' := by
  have H := Lib.hid (fun W => findR_0 p cap f W)
  go_enter Tryz.func38, Tryz.ntmps38
  go_wp2_with (refine (H.out _).mono ?_; rintro e w4 ⟨rfl, rfl⟩)
  go_ret
  exact ⟨rfl, rfl⟩
theorem checkRound_0 (p : Option Addr) (cap : Nat) (w : World) :
    Calls Tryz.prog 18 #[.slice p 0 cap] w fun e w' => e = .returned (.int .i64 0) ∧ Gr w w' := by
  have HI := Lib.hid (fun f W => indexF_0 p cap f W)
  have HE := Lib.hid (fun f W => eachR_0 p cap f W)
  obtain ⟨W, hW, g, a0⟩ := box1 w (.slice p 0 cap) 22
  have HW := Lib.hid hW
  clear hW
  go_enter Tryz.func18, Tryz.ntmps18
  go_wp2_with fail
  rw [HW.out]
  generalize w.heap.size = B at *
  clear HW
  refine (HI.out _ _).mono ?_
  rintro e W1 ⟨rfl, rfl⟩
  have b0 := ((Gr.refl W).alloc (.cells #[.int .i64 (-1)] 3)).cell a0
  go_wp2_with (refine (HE.out _ _).mono ?_; rintro e w4 ⟨rfl, rfl⟩)
  go_ret
  exact ⟨rfl, g.alloc _⟩
theorem checkRound_many (p : Option Addr) (n cap : Nat) (hn : 160 < n) (w : World) :
    Calls Tryz.prog 18 #[.slice p n cap] w fun e w' => e = .returned (.int .i64 5) ∧ Gr w w' := by
  have h2 : decide ((160 : Int) < n) = true := decide_eq_true (by omega)
  go_enter Tryz.func18, Tryz.ntmps18
  go_wp2_with fail
  go_ret
  exact ⟨rfl, (Gr.refl w).alloc _⟩
theorem refRound_0 (p : Option Addr) (cap : Nat) (w : World) :
    Calls Tryz.prog 13 #[.slice p 0 cap] w fun e w' => e = .returned (.int .i64 0) ∧ Gr w w' := by
  go_enter Tryz.func13, Tryz.ntmps13
  go_wp2_with fail
  refine wp_loop_rounds 2 ?_
  rw [rounds_succ]
  go_wp2_with fail
  go_ret
  exact ⟨rfl, Gr.refl _⟩
theorem refRound_many (p : Option Addr) (n cap : Nat) (hn : 160 < n) (w : World) :
    Calls Tryz.prog 13 #[.slice p n cap] w fun e w' => e = .returned (.int .i64 5) ∧ Gr w w' := by
  have h2 : decide ((160 : Int) < n) = true := decide_eq_true (by omega)
  go_enter Tryz.func13, Tryz.ntmps13
  go_wp2_with fail
  go_ret
  exact ⟨rfl, Gr.refl _⟩
/-- CheckRound, of any results that are read -/
theorem checkRound_any {W : World} {v : Value} {ys : List RowR} (h : RowsV W v ys) (hSt : StatesIn W) :
    Calls Tryz.prog 18 #[v] W fun e w' => e = .returned (.int .i64 (roundE ys)) ∧ Gr W w' := by
  obtain ⟨⟨p, cap, rfl, hcap, hh⟩⟩ := h
  unfold roundE
  by_cases h0 : 0 < ys.length
  · obtain ⟨b, off, rfl, hc⟩ := hh h0
    by_cases h1 : 160 < ys.length
    · rw [if_pos h1]; exact checkRound_many _ _ cap h1 W
    · rw [if_neg h1]; exact checkRound_pos ys _ b off cap W rfl (by omega) hcap.1 hcap.2 hSt hc
  · have hz : ys.length = 0 := by omega
    rw [if_neg (by omega), hz]
    exact checkRound_0 p cap W
theorem refRound_any {W : World} {v : Value} {ys : List RowR} (h : RowsV W v ys) :
    Calls Tryz.prog 13 #[v] W fun e w' => e = .returned (.int .i64 (roundE ys)) ∧ Gr W w' := by
  obtain ⟨⟨p, cap, rfl, hcap, hh⟩⟩ := h
  unfold roundE
  by_cases h0 : 0 < ys.length
  · obtain ⟨b, off, rfl, hc⟩ := hh h0
    by_cases h1 : 160 < ys.length
    · rw [if_pos h1]; exact refRound_many _ _ cap h1 W
    · rw [if_neg h1]; exact refRound_pos ys _ b off cap W rfl (by omega) hcap.1 hcap.2 hc
  · have hz : ys.length = 0 := by omega
    rw [if_neg (by omega), hz]
    exact refRound_0 p cap W
theorem rank_bad {W : World} {p : Option Addr} {n cap : Nat} {E : Int} (hE : E ≠ 0) (h : Calls Tryz.prog 18 #[.slice p n cap] W fun e w' => e = .returned (.int .i64 E) ∧ Gr W w') :
    Calls Tryz.prog 7 #[.slice p n cap] W fun e w' => e = .returned (.tuple #[.slice none 0 0, .int .i64 E]) ∧ Gr W w' := by
  have H := Lib.hid h
  have hE2 : (E != 0) = true := bne_iff_ne.2 hE
  have hE3 : (E == 0) = false := beq_eq_false_iff_ne.2 hE
  clear h hE
  go_enter Tryz.func7, Tryz.ntmps7
  go_wp2_with fail
  refine H.out.mono ?_
  rintro e w1 ⟨rfl, g⟩
  go_wp2_with fail
  exact bodyPost_ret (v := .tuple #[.slice none 0 0, .int .i64 E]) (by simp [results, Tryz.results7, go_sem]) rfl ⟨rfl, g⟩
theorem rank_none (p : Option Addr) (cap : Nat) (W : World) :
    Calls Tryz.prog 7 #[.slice p 0 cap] W fun e w' => ∃ q c, e = .returned (.tuple #[.slice q 0 c, .int .i64 0]) ∧ Gr W w' := by
  have H := Lib.hid (checkRound_0 p cap W)
  have H2 := Lib.hid (fun W => ranks_0 p cap W)
  go_enter Tryz.func7, Tryz.ntmps7
  go_wp2_with fail
  refine H.out.mono ?_
  rintro e w1 ⟨rfl, g⟩
  go_wp2_with fail
  refine (H2.out _).mono ?_
  rintro e w2 ⟨q, c, rfl, g2⟩
  go_wp2_with fail
  exact bodyPost_ret (v := .tuple #[.slice q 0 c, .int .i64 0]) (by simp [results, Tryz.results7, go_sem]) rfl ⟨q, c, rfl, g.trans g2⟩
theorem through_bad {W : World} {p : Option Addr} {n cap : Nat} {E m : Int} (hE : firstE [E, outE m 0 160] ≠ 0) (h : Calls Tryz.prog 18 #[.slice p n cap] W fun e w' => e = .returned (.int .i64 E) ∧ Gr W w') :
    Calls Tryz.prog 8 #[.slice p n cap, .int .i64 m] W fun e w' => e = .returned (.tuple #[.slice none 0 0, .int .i64 (firstE [E, outE m 0 160])]) ∧ Gr W w' := by
  have H := Lib.hid h
  have HRg := Lib.hid (fun W => range_c m 0 160 W)
  have HF := Lib.hid (fun b cap W => first_pair E (outE m 0 160) b cap W)
  generalize firstE [E, outE m 0 160] = F at *
  generalize outE m 0 160 = o at *
  have hE2 : (F != 0) = true := bne_iff_ne.2 hE
  have hE3 : (F == 0) = false := beq_eq_false_iff_ne.2 hE
  clear h hE
  go_enter Tryz.func8, Tryz.ntmps8
  go_wp2_with fail
  refine H.out.mono ?_
  rintro e w0 ⟨rfl, g0⟩
  go_wp2_with fail
  refine (HRg.out _).mono ?_
  rintro e w0' ⟨rfl, rfl⟩
  go_wp2_with fail
  refine (HF.out _ _ _ (by exact cell_new _ #[_, _] _ 0 (by simp)) (by exact cell_new _ #[_, _] _ 1 (by simp))).mono ?_
  rintro e w0'' ⟨rfl, rfl⟩
  go_wp2_with fail
  exact bodyPost_ret (v := .tuple #[.slice none 0 0, .int .i64 F]) (by simp [results, Tryz.results8, go_sem]) rfl ⟨rfl, g0.alloc _⟩
theorem through_none (p : Option Addr) (cap : Nat) (m : Int) (hm : outE m 0 160 = 0) (W : World) :
    Calls Tryz.prog 8 #[.slice p 0 cap, .int .i64 m] W fun e w' => e = .returned (.tuple #[.slice none 0 0, .int .i64 0]) ∧ Gr W w' := by
  have H := Lib.hid (checkRound_0 p cap W)
  have HRg := Lib.hid (fun W => range_c m 0 160 W)
  rw [hm] at HRg
  have HF := Lib.hid (fun b cap W => first_pair 0 0 b cap W)
  have HFz : Hid (firstE [0, 0] = 0) := rfl
  have HC := Lib.hid (fun W => climbers_0 none 0 W)
  have HK := Lib.hid (fun W => ranks_0 none 0 W)
  have HP := Lib.hid (fun q c W => placed_0 none q 0 c W)
  clear hm
  go_enter Tryz.func8, Tryz.ntmps8
  go_wp2_with fail
  refine H.out.mono ?_
  rintro e w0 ⟨rfl, g0⟩
  go_wp2_with fail
  refine (HRg.out _).mono ?_
  rintro e w0' ⟨rfl, rfl⟩
  go_wp2_with fail
  refine (HF.out _ _ _ (by exact cell_new _ #[_, _] _ 0 (by simp)) (by exact cell_new _ #[_, _] _ 1 (by simp))).mono ?_
  rintro e w0'' ⟨rfl, rfl⟩
  rw [HFz.out]
  have g1 : Gr W (w0.alloc (.cells #[.int .i64 0, .int .i64 0] 28)) := g0.alloc _
  generalize w0.alloc (.cells #[.int .i64 0, .int .i64 0] 28) = W1 at *
  go_wp2_with fail
  refine wp_loop_rounds 2 ?_
  rw [rounds_succ]
  go_wp2_with fail
  refine (HC.out _).mono ?_
  rintro e w2 ⟨rfl, rfl⟩
  go_wp2_with fail
  refine (HK.out _).mono ?_
  rintro e w3 ⟨q, c, rfl, g3⟩
  go_wp2_with fail
  refine (HP.out _ _ _).mono ?_
  rintro e w4 ⟨rfl, g4⟩
  go_wp2_with fail
  refine wp_loop_rounds 2 ?_
  rw [rounds_succ]
  go_wp2_with fail
  exact bodyPost_ret (v := .tuple #[.slice none 0 0, .int .i64 0]) (by simp [results, Tryz.results8, go_sem]) rfl ⟨rfl, g1.trans (g3.trans g4)⟩
end Go.Proofs.YtebnbjaaogfikaaGreatDoor
namespace Go.Proofs.YtebnbjaaogfikaaGreatDoor
open Go.RowKit Go.Lib
set_option linter.unusedSimpArgs false
set_option linter.unusedVariables false
set_option maxHeartbeats 2000000
set_option maxRecDepth 100000
theorem dup_none {xs : List RowR} (hV : ValidB (xs.map bare)) {j : Nat} {x : RowR} (hx : xs[j]? = some x) : dupR xs j x.nm = false := by
  have h := zero_of_valid hV
  exact (rowE_parts.1 (rowE_zero xs.length 0 h j x (Nat.zero_le _) (by have := (List.getElem?_eq_some_iff.1 hx).1; omega) hx)).2.1
theorem oneRes_ok {xs : List RowR} {x : RowR} {n b off cap j L : Nat} {w : World} (hV : ValidB (xs.map bare)) (hn : xs.length = n) (h1 : n ≤ 160) (hcap : n ≤ cap) (hmx : cap ≤ maxLen) (hx : xs[j]? = some x) (hc : ∀ i x, xs[i]? = some x → RowAt w b (off + i * 3) x) (hv : IntsV w x.u x.xs) (hL : w.cell? ⟨L, 0, none⟩ = some (.slice (some ⟨b, off, none⟩) n cap)) :
    Calls Tryz.prog 89 #[.int .i64 j, .agg #[.string x.nm, .string x.st, x.u], .pointer (some ⟨L, 0, none⟩)] w fun e w' => e = .returned (.int .i64 0) ∧ Gr w w' := by
  have hjn := (List.getElem?_eq_some_iff.1 hx).1
  have hxm : bare x ∈ xs.map bare := List.mem_map.2 ⟨x, List.mem_of_getElem? hx, rfl⟩
  have hres : resE x.nm x.st x.xs = 0 := hV.each _ hxm
  have HI := Lib.hid (fun (n : Int) (W : World) => (show Calls Tryz.prog 42 #[.bool false, .int .i64 n] W fun e w' => e = .returned (.int .i64 0) ∧ W = w' from by simpa using if_c false n W))
  have HN := Lib.hid (fun (W : World) (g : Gr w W) => (show Calls Tryz.prog 73 #[.string x.nm] W fun e w' => e = .returned (.bool true) ∧ Gr W w' from by
    have := isName_c x.nm W
    rw [(fine_row hres).1] at this
    refine this.mono ?_
    rintro e w' ⟨rfl, hg⟩
    exact ⟨rfl, hg⟩))
  have HD := Lib.hid (fun (W : World) (g : Gr w W) => hasResult_pos xs j b off cap x.nm W (by omega) (by omega) (fun i x hx => (hc i x hx).gr g))
  rw [dup_none hV hx] at HD
  have HFm := Lib.hid (fun (W : World) (g : Gr w W) => checkForm_ok hres (hv.gr g))
  have HSh := Lib.hid (fun (W : World) (g : Gr w W) => checkShape_ok (cap := cap) hV hn h1 hx (fun i x hx => (hc i x hx).gr g) (hv.gr g))
  have HF := Lib.hid (fun b cap W => first_four 0 0 0 0 b cap W)
  have HFz : Hid (firstE [0, 0, 0, 0] = 0) := rfl
  obtain ⟨⟨pu, cu, hu, _⟩⟩ := id hv
  rw [hu] at HFm HSh ⊢
  obtain ⟨W, hW, g, a0, a1, a2⟩ := box3 w (.string x.nm) (.string x.st) (.slice pu x.xs.length cu) 34
  have l0 := g.cell hL
  have HW := Lib.hid hW
  have hj1 : (j : Int) ≤ cap := by omega
  have hj0 : (0 : Int) ≤ j := by omega
  generalize x.xs.length = xn at *
  clear hW hL hc hv hu hV hx hres hxm hn
  go_enter Tryz.func89, Tryz.ntmps89
  go_wp2_with fail
  rw [HW.out]
  generalize w.heap.size = B at *
  clear HW
  have gd := (Gr.refl W).drew
  replace a0 := gd.cell a0
  replace a1 := gd.cell a1
  replace a2 := gd.cell a2
  replace l0 := gd.cell l0
  replace g := g.trans gd
  clear gd
  refine wp_region_held_drew (S := (fun w' => (w'.cell? ⟨B, 0, none⟩ = some (.string x.nm) ∧ w'.cell? ⟨B, 1, none⟩ = some (.string x.st) ∧ w'.cell? ⟨B, 2, none⟩ = some (.slice pu xn cu)) ∧ w'.cell? ⟨L, 0, none⟩ = some (.slice (some ⟨b, off, none⟩) n cap))) (by kernel_rfl) ⟨⟨a0, a1, a2⟩, l0⟩ (fun hHeld => ?_)
  generalize W.drew = V at *
  refine wpAnyH_take (i := 0) (v := (.pointer (some ⟨B, 0, none⟩))) (op_at rfl) (by kernel_rfl) (by kernel_rfl) (by kernel_rfl) (fun _ _ _ h => h) (Or.inl ⟨rfl, fun w hSw => ?_⟩) (by assumption) ?_
  · (try dsimp only at hSw); go_simp; try with_reducible rfl
  (try simp only [Act.put, List.setIfInBounds_toArray, List.set_cons_zero, List.set_cons_succ])
  refine wpAnyH_take (i := 1) (v := (.string x.nm)) (op_at rfl) (by kernel_rfl) (by kernel_rfl) (by kernel_rfl) (fun _ _ _ h => h) (Or.inl ⟨rfl, fun w hSw => ?_⟩) (by assumption) ?_
  · (try dsimp only at hSw); go_simp; try with_reducible rfl
  (try simp only [Act.put, List.setIfInBounds_toArray, List.set_cons_zero, List.set_cons_succ])
  refine wpAnyH_take (i := 5) (v := (.slice (some ⟨b, off, none⟩) n cap)) (op_at rfl) (by kernel_rfl) (by kernel_rfl) (by kernel_rfl) (fun _ _ _ h => h) (Or.inl ⟨rfl, fun w hSw => ?_⟩) (by assumption) ?_
  · (try dsimp only at hSw); go_simp; try with_reducible rfl
  (try simp only [Act.put, List.setIfInBounds_toArray, List.set_cons_zero, List.set_cons_succ])
  refine wpAnyH_take (i := 6) (v := (.int .i64 j)) (op_at rfl) (by kernel_rfl) (by kernel_rfl) (by kernel_rfl) (fun _ _ _ h => h) (Or.inl ⟨rfl, fun w hSw => ?_⟩) (by assumption) ?_
  · (try dsimp only at hSw); go_simp; try with_reducible rfl
  (try simp only [Act.put, List.setIfInBounds_toArray, List.set_cons_zero, List.set_cons_succ])
  refine wpAnyH_take (i := 7) (v := (.slice (some ⟨b, off, none⟩) j cap)) (op_at rfl) (by kernel_rfl) (by kernel_rfl) (by kernel_rfl) (fun _ _ _ h => h) (Or.inl ⟨rfl, fun w hSw => ?_⟩) (by assumption) ?_
  · (try dsimp only at hSw); go_simp; try with_reducible rfl
  (try simp only [Act.put, List.setIfInBounds_toArray, List.set_cons_zero, List.set_cons_succ])
  refine wpAnyH_take (i := 8) (v := (.pointer (some ⟨B, 0, none⟩))) (op_at rfl) (by kernel_rfl) (by kernel_rfl) (by kernel_rfl) (fun _ _ _ h => h) (Or.inl ⟨rfl, fun w hSw => ?_⟩) (by assumption) ?_
  · (try dsimp only at hSw); go_simp; try with_reducible rfl
  (try simp only [Act.put, List.setIfInBounds_toArray, List.set_cons_zero, List.set_cons_succ])
  refine wpAnyH_take (i := 9) (v := (.string x.nm)) (op_at rfl) (by kernel_rfl) (by kernel_rfl) (by kernel_rfl) (fun _ _ _ h => h) (Or.inl ⟨rfl, fun w hSw => ?_⟩) (by assumption) ?_
  · (try dsimp only at hSw); go_simp; try with_reducible rfl
  (try simp only [Act.put, List.setIfInBounds_toArray, List.set_cons_zero, List.set_cons_succ])
  refine wpAnyH_take (i := 12) (v := (.agg #[.string x.nm, .string x.st, .slice pu xn cu])) (op_at rfl) (by kernel_rfl) (by kernel_rfl) (by kernel_rfl) (fun _ _ _ h => h) (Or.inl ⟨rfl, fun w hSw => ?_⟩) (by assumption) ?_
  · (try dsimp only at hSw); go_simp; try with_reducible rfl
  (try simp only [Act.put, List.setIfInBounds_toArray, List.set_cons_zero, List.set_cons_succ])
  refine wpAnyH_take (i := 14) (v := (.slice (some ⟨b, off, none⟩) n cap)) (op_at rfl) (by kernel_rfl) (by kernel_rfl) (by kernel_rfl) (fun _ _ _ h => h) (Or.inl ⟨rfl, fun w hSw => ?_⟩) (by assumption) ?_
  · (try dsimp only at hSw); go_simp; try with_reducible rfl
  (try simp only [Act.put, List.setIfInBounds_toArray, List.set_cons_zero, List.set_cons_succ])
  refine wpAnyH_take (i := 15) (v := (.agg #[.string x.nm, .string x.st, .slice pu xn cu])) (op_at rfl) (by kernel_rfl) (by kernel_rfl) (by kernel_rfl) (fun _ _ _ h => h) (Or.inl ⟨rfl, fun w hSw => ?_⟩) (by assumption) ?_
  · (try dsimp only at hSw); go_simp; try with_reducible rfl
  (try simp only [Act.put, List.setIfInBounds_toArray, List.set_cons_zero, List.set_cons_succ])
  refine wpAnyH_ready (rs := [2]) (by kernel_rfl) (by simp) (AllReadyH.cons (op_at rfl) (fun K hK => ?_) AllReadyH.nil)
  go_simp
  (refine (HN.out _ g).mono ?_; rintro e W5 ⟨rfl, hg⟩; replace a0 := hg.cell a0; replace a1 := hg.cell a1; replace a2 := hg.cell a2; replace l0 := hg.cell l0; replace g := g.trans hg; clear hg)
  go_wp2_with fail
  refine hK.out _ _ ⟨⟨a0, a1, a2⟩, l0⟩ (fun hHeld => ?_)
  clear hK K
  (try simp only [Act.put, List.setIfInBounds_toArray, List.set_cons_zero, List.set_cons_succ])
  refine wpAnyH_take (i := 3) (v := (.bool false)) (op_at rfl) (by kernel_rfl) (by kernel_rfl) (by kernel_rfl) (fun _ _ _ h => h) (Or.inl ⟨rfl, fun w hSw => ?_⟩) (by assumption) ?_
  · (try dsimp only at hSw); go_simp; try with_reducible rfl
  (try simp only [Act.put, List.setIfInBounds_toArray, List.set_cons_zero, List.set_cons_succ])
  refine wpAnyH_ready (rs := [4]) (by kernel_rfl) (by simp) (AllReadyH.cons (op_at rfl) (fun K hK => ?_) AllReadyH.nil)
  go_simp
  (refine (HI.out 8 _).mono ?_; rintro e w' ⟨rfl, rfl⟩)
  go_wp2_with fail
  refine hK.out _ _ ⟨⟨a0, a1, a2⟩, l0⟩ (fun hHeld => ?_)
  clear hK K
  (try simp only [Act.put, List.setIfInBounds_toArray, List.set_cons_zero, List.set_cons_succ])
  refine wpAnyH_ready (rs := [10]) (by kernel_rfl) (by simp) (AllReadyH.cons (op_at rfl) (fun K hK => ?_) AllReadyH.nil)
  go_simp
  (refine (HD.out _ g).mono ?_; rintro e W6 ⟨rfl, hg⟩; replace a0 := hg.cell a0; replace a1 := hg.cell a1; replace a2 := hg.cell a2; replace l0 := hg.cell l0; replace g := g.trans hg; clear hg)
  go_wp2_with fail
  refine hK.out _ _ ⟨⟨a0, a1, a2⟩, l0⟩ (fun hHeld => ?_)
  clear hK K
  (try simp only [Act.put, List.setIfInBounds_toArray, List.set_cons_zero, List.set_cons_succ])
  refine wpAnyH_ready (rs := [11]) (by kernel_rfl) (by simp) (AllReadyH.cons (op_at rfl) (fun K hK => ?_) AllReadyH.nil)
  go_simp
  (refine (HI.out 9 _).mono ?_; rintro e w' ⟨rfl, rfl⟩)
  go_wp2_with fail
  refine hK.out _ _ ⟨⟨a0, a1, a2⟩, l0⟩ (fun hHeld => ?_)
  clear hK K
  (try simp only [Act.put, List.setIfInBounds_toArray, List.set_cons_zero, List.set_cons_succ])
  refine wpAnyH_ready (rs := [13]) (by kernel_rfl) (by simp) (AllReadyH.cons (op_at rfl) (fun K hK => ?_) AllReadyH.nil)
  go_simp
  (refine (HFm.out _ g).mono ?_; rintro e W8 ⟨rfl, hg⟩; replace a0 := hg.cell a0; replace a1 := hg.cell a1; replace a2 := hg.cell a2; replace l0 := hg.cell l0; replace g := g.trans hg; clear hg)
  go_wp2_with fail
  refine hK.out _ _ ⟨⟨a0, a1, a2⟩, l0⟩ (fun hHeld => ?_)
  clear hK K
  (try simp only [Act.put, List.setIfInBounds_toArray, List.set_cons_zero, List.set_cons_succ])
  refine wpAnyH_ready (rs := [16]) (by kernel_rfl) (by simp) (AllReadyH.cons (op_at rfl) (fun K hK => ?_) AllReadyH.nil)
  go_simp
  (refine (HSh.out _ g).mono ?_; rintro e W9 ⟨rfl, hg⟩; replace a0 := hg.cell a0; replace a1 := hg.cell a1; replace a2 := hg.cell a2; replace l0 := hg.cell l0; replace g := g.trans hg; clear hg)
  go_wp2_with fail
  refine hK.out _ _ ⟨⟨a0, a1, a2⟩, l0⟩ (fun hHeld => ?_)
  clear hK K
  (try simp only [Act.put, List.setIfInBounds_toArray, List.set_cons_zero, List.set_cons_succ])
  refine wpAnyH_ready (rs := [17]) (by kernel_rfl) (by simp) (AllReadyH.cons (op_at rfl) (fun K hK => ?_) AllReadyH.nil)
  go_simp
  obtain ⟨W3, hW3, g3, s0, s1, s2, s3⟩ := box4 W9 (.int .i64 0) (.int .i64 0) (.int .i64 0) (.int .i64 0) 28
  rw [hW3]
  clear hW3
  replace a0 := g3.cell a0
  replace a1 := g3.cell a1
  replace a2 := g3.cell a2
  replace l0 := g3.cell l0
  replace g := g.trans g3
  refine hK.out _ _ ⟨⟨a0, a1, a2⟩, l0⟩ (fun hHeld => ?_)
  clear hK K
  (try simp only [Act.put, List.setIfInBounds_toArray, List.set_cons_zero, List.set_cons_succ])
  refine wpAnyH_ready (rs := [18]) (by kernel_rfl) (by simp) (AllReadyH.cons (op_at rfl) (fun K hK => ?_) AllReadyH.nil)
  go_simp
  (refine (HF.out _ _ W3 s0 s1 s2 s3).mono ?_; rintro e w8 ⟨rfl, rfl⟩; rw [HFz.out])
  go_wp2_with fail
  refine hK.out _ _ ⟨⟨a0, a1, a2⟩, l0⟩ (fun hHeld => ?_)
  clear hK K
  (try simp only [Act.put, List.setIfInBounds_toArray, List.set_cons_zero, List.set_cons_succ])
  refine wpAnyH_take (i := 19) (v := (.int .i64 0)) (op_at rfl) (by kernel_rfl) (by kernel_rfl) (by kernel_rfl) (fun _ _ _ h => h) (Or.inl ⟨rfl, fun w hSw => ?_⟩) (by assumption) ?_
  · (try dsimp only at hSw); go_simp; try with_reducible rfl
  (try simp only [Act.put, List.setIfInBounds_toArray, List.set_cons_zero, List.set_cons_succ])
  refine wpAnyH_done (by kernel_rfl) ?_ _
  go_wp2_with fail
  go_ret
  exact ⟨rfl, g⟩
theorem findRes_ok {xs : List RowR} {n b off cap L : Nat} {w : World} (hV : ValidB (xs.map bare)) (hn : xs.length = n) (h1 : n ≤ 160) (hcap : n ≤ cap) (hmx : cap ≤ maxLen) (hc : ∀ i x, xs[i]? = some x → RowAt w b (off + i * 3) x) (hL : w.cell? ⟨L, 0, none⟩ = some (.slice (some ⟨b, off, none⟩) n cap)) :
    Calls Tryz.prog 72 #[.slice (some ⟨b, off, none⟩) n cap, .func (.func 89) #[] #[.pointer (some ⟨L, 0, none⟩)]] w fun e w' => e = .returned (.tuple #[.int .i64 0, .int .i64 0]) ∧ Gr w w' := by
  have HX := Lib.hid (fun k (h : k < n) => (show ∃ x, xs[k]? = some x from ⟨xs[k]'(by omega), List.getElem?_eq_getElem _⟩))
  have HC := Lib.hid hc
  have HO := Lib.hid (fun (j : Nat) (x : RowR) (W : World) (g : Gr w W) (hx : xs[j]? = some x) => oneRes_ok (L := L) (w := W) hV hn h1 hcap hmx hx (fun i x hx => (hc i x hx).gr g) (((hc j x hx).gr g).val) (g.cell hL))
  clear hc hL hV hn
  go_enter Tryz.func72, Tryz.ntmps72
  go_wp2_with fail
  go_loopg [11] n (fun gk s11 wr => ∃ i : Nat, s11 = .int .i64 i ∧ gk + i = n ∧ Gr w wr)
  case atStart => exact ⟨0, rfl, by omega, Gr.refl _⟩
  case round =>
    obtain ⟨i, rfl, hi, hg⟩ := hrel
    by_cases hlt : i < n
    · obtain ⟨x, hx⟩ := HX.out i hlt
      obtain ⟨c0, c1, c2, hv, _⟩ := (HC.out i x hx).gr hg
      have hi2 : (i : Int) < n := by omega
      obtain ⟨⟨pu, cu, hu, _⟩⟩ := id hv
      rw [hu] at c2
      have g1 := (Gr.refl wr).alloc (.cells #[.string x.nm, .string x.st, .slice pu x.xs.length cu] 34)
      have HT := Lib.hid (HO.out i x _ (hg.trans g1) hx)
      rw [hu] at HT
      clear hx hv hu
      generalize x.xs.length = xn at *
      go_wp2_with (refine HT.out.mono ?_; rintro e w4 ⟨rfl, hg2⟩)
      go_roundg (gk - 1)
      case measure => omega
      case rel => exact ⟨i + 1, by go_num, by omega, hg.trans (g1.trans hg2)⟩
    · obtain rfl : i = n := by omega
      go_wp2_with fail
      exact bodyPost_ret (v := .tuple #[.int .i64 0, .int .i64 0]) (by simp [results, Tryz.results72, go_sem]) rfl ⟨rfl, hg⟩
theorem eachRes_ok {xs : List RowR} {n b off cap L : Nat} {w : World} (hV : ValidB (xs.map bare)) (hn : xs.length = n) (h1 : n ≤ 160) (hcap : n ≤ cap) (hmx : cap ≤ maxLen) (hc : ∀ i x, xs[i]? = some x → RowAt w b (off + i * 3) x) (hL : w.cell? ⟨L, 0, none⟩ = some (.slice (some ⟨b, off, none⟩) n cap)) :
    Calls Tryz.prog 38 #[.slice (some ⟨b, off, none⟩) n cap, .func (.func 89) #[] #[.pointer (some ⟨L, 0, none⟩)]] w fun e w' => e = .returned (.int .i64 0) ∧ Gr w w' := by
  have H := Lib.hid (findRes_ok hV hn h1 hcap hmx hc hL)
  clear hc hL hV hn
  go_enter Tryz.func38, Tryz.ntmps38
  go_wp2_with (refine H.out.mono ?_; rintro e w4 ⟨rfl, hg⟩)
  go_ret
  exact ⟨rfl, hg⟩
theorem checkRes_pos {xs : List RowR} {n b off cap : Nat} {w : World} (hV : ValidB (xs.map bare)) (hn : xs.length = n) (h1 : n ≤ 160) (hcap : n ≤ cap) (hmx : cap ≤ maxLen) (hc : ∀ i x, xs[i]? = some x → RowAt w b (off + i * 3) x) :
    Calls Tryz.prog 63 #[.slice (some ⟨b, off, none⟩) n cap] w fun e w' => e = .returned (.int .i64 0) ∧ Gr w w' := by
  have HE := Lib.hid (fun L W (g : Gr w W) hL => eachRes_ok (L := L) (w := W) hV hn h1 hcap hmx (fun i x hx => (hc i x hx).gr g) hL)
  obtain ⟨W, hW, g, a0⟩ := box1 w (.slice (some ⟨b, off, none⟩) n cap) 22
  have HW := Lib.hid hW
  have hz2 : decide ((160 : Int) < n) = false := decide_eq_false (by omega)
  clear hW hc hV hn
  go_enter Tryz.func63, Tryz.ntmps63
  go_wp2_with fail
  rw [HW.out]
  generalize w.heap.size = B at *
  clear HW
  refine (HE.out B W g a0).mono ?_
  rintro e w4 ⟨rfl, hg⟩
  go_wp2_with fail
  go_ret
  exact ⟨rfl, g.trans hg⟩
theorem checkRes_0 (p : Option Addr) (cap : Nat) (w : World) :
    Calls Tryz.prog 63 #[.slice p 0 cap] w fun e w' => e = .returned (.int .i64 0) ∧ Gr w w' := by
  have HE := Lib.hid (fun f W => eachR_0 p cap f W)
  obtain ⟨W, hW, g, a0⟩ := box1 w (.slice p 0 cap) 22
  have HW := Lib.hid hW
  clear hW
  go_enter Tryz.func63, Tryz.ntmps63
  go_wp2_with fail
  rw [HW.out]
  clear HW
  refine (HE.out _ _).mono ?_
  rintro e w4 ⟨rfl, rfl⟩
  go_wp2_with fail
  go_ret
  exact ⟨rfl, g⟩
theorem checkRes_ok {xs : List RowR} {v : Value} {w : World} (h : RowsV w v xs) (hV : ValidB (xs.map bare)) (h1 : xs.length ≤ 160) :
    Calls Tryz.prog 63 #[v] w fun e w' => e = .returned (.int .i64 0) ∧ Gr w w' := by
  obtain ⟨⟨p, cap, rfl, hcap, hh⟩⟩ := h
  by_cases h0 : 0 < xs.length
  · obtain ⟨b, off, rfl, hc⟩ := hh h0
    exact checkRes_pos hV rfl h1 hcap.1 hcap.2 hc
  · rw [show xs.length = 0 by omega]
    exact checkRes_0 p cap w
theorem quota_ok {xs : List RowR} {p : Option Addr} {n cap : Nat} {w : World} (h : RowsV w (.slice p n cap) xs) (hn : xs.length = n) (hV : ValidB (xs.map bare)) (h1 : n ≤ 160) (m : Int) (hm : outE m 0 160 = 0) :
    Calls Tryz.prog 29 #[.slice p n cap, .int .i64 m] w fun e w' => e = .returned (.int .i64 0) ∧ Gr w w' := by
  have HC := Lib.hid (checkRes_ok h hV (by omega))
  have HRg := Lib.hid (fun W => range_c m 0 160 W)
  rw [hm] at HRg
  have HF := Lib.hid (fun b cap W => first_pair 0 0 b cap W)
  have HFz : Hid (firstE [0, 0] = 0) := rfl
  clear h hV hm hn
  go_enter Tryz.func29, Tryz.ntmps29
  go_wp2_with fail
  refine HC.out.mono ?_
  rintro e w0 ⟨rfl, g0⟩
  go_wp2_with fail
  refine (HRg.out _).mono ?_
  rintro e w0' ⟨rfl, rfl⟩
  go_wp2_with fail
  refine (HF.out _ _ _ (by exact cell_new _ #[_, _] _ 0 (by simp)) (by exact cell_new _ #[_, _] _ 1 (by simp))).mono ?_
  rintro e w0'' ⟨rfl, rfl⟩
  rw [HFz.out]
  go_wp2_with fail
  go_ret
  exact ⟨rfl, g0.alloc _⟩
end Go.Proofs.YtebnbjaaogfikaaGreatDoor
namespace Go.Proofs.YtebnbjaaogfikaaGreatDoor
open Go.RowKit Go.Lib
set_option linter.unusedSimpArgs false
set_option linter.unusedVariables false
theorem set_two {α : Type} (A B : List α) (x y : α) : ((A ++ x :: y :: B).set (A.length + 1) x).set A.length y = A ++ y :: x :: B := by
  rw [List.set_append_right _ _ (by omega), List.set_append_right _ _ (by omega), show A.length + 1 - A.length = 1 by omega, Nat.sub_self]
  rfl
open Go.Sort in
theorem swp_filter {α : Type} [Inhabited α] (d : Array α) (j : Nat) (hj : j + 1 < d.size) (p : α → Bool) (h : ¬ (p d[j + 1]! = true ∧ p d[j]! = true)) : (swp d (j + 1) j).toList.filter p = d.toList.filter p := by
  obtain ⟨l⟩ := d
  simp only [List.size_toArray] at hj
  have e1 : (⟨l⟩ : Array α)[j + 1]! = l[j + 1]'hj := by rw [getElem!_pos _ _ (by simpa using hj)]; rfl
  have e2 : (⟨l⟩ : Array α)[j]! = l[j]'(by omega) := by rw [getElem!_pos _ _ (by simp; omega)]; rfl
  rw [e1, e2] at h
  unfold swp
  rw [e1, e2]
  have hsp : l = l.take j ++ l[j]'(by omega) :: l[j + 1]'hj :: l.drop (j + 2) := by
    rw [← List.drop_eq_getElem_cons hj, ← List.drop_eq_getElem_cons (by omega), List.take_append_drop]
  have hlen : (l.take j).length = j := by rw [List.length_take]; omega
  have hs2 : (((⟨l⟩ : Array α).setIfInBounds (j + 1) (l[j]'(by omega))).setIfInBounds j (l[j + 1]'hj)).toList = l.take j ++ l[j + 1]'hj :: l[j]'(by omega) :: l.drop (j + 2) := by
    have h2 := set_two (l.take j) (l.drop (j + 2)) (l[j]'(by omega)) (l[j + 1]'hj)
    rw [hlen, ← hsp] at h2
    simpa using h2
  rw [hs2]
  conv => rhs; rw [show (⟨l⟩ : Array α).toList = l.take j ++ l[j]'(by omega) :: l[j + 1]'hj :: l.drop (j + 2) from hsp]
  rw [List.filter_append, List.filter_append]
  congr 1
  clear hs2 hsp e1 e2
  generalize l[j]'(by omega) = x at *
  generalize l[j + 1]'hj = y at *
  by_cases h1 : p y = true
  · have h2 : ¬ p x = true := fun h2 => h ⟨h1, h2⟩
    rw [List.filter_cons_of_pos h1, List.filter_cons_of_neg h2, List.filter_cons_of_neg h2, List.filter_cons_of_pos h1]
  · by_cases h2 : p x = true
    · rw [List.filter_cons_of_neg h1, List.filter_cons_of_pos h2, List.filter_cons_of_pos h2, List.filter_cons_of_neg h1]
    · rw [List.filter_cons_of_neg h1, List.filter_cons_of_neg h2, List.filter_cons_of_neg h2, List.filter_cons_of_neg h1]
section
open Go.Sort
variable {α : Type} [Inhabited α] {lt : α → α → Bool} {p : α → Bool}
theorem insInner_size : ∀ (j : Nat) (d : Array α), (insInner lt 0 j d).size = d.size
  | 0, d => rfl
  | j + 1, d => by
    unfold insInner
    split
    · rw [insInner_size j, size_swp]
    · rfl
theorem insInner_filter (hp : ∀ x y, lt x y = true → ¬ (p x = true ∧ p y = true)) : ∀ (j : Nat) (d : Array α), j < d.size → (insInner lt 0 j d).toList.filter p = d.toList.filter p
  | 0, d, _ => rfl
  | j + 1, d, h => by
    unfold insInner
    split
    · rename_i hc
      simp only [Bool.and_eq_true] at hc
      rw [insInner_filter hp j _ (by rw [size_swp]; omega)]
      exact swp_filter d j h _ (hp _ _ hc.2)
    · rfl
theorem insOuter_filter (hp : ∀ x y, lt x y = true → ¬ (p x = true ∧ p y = true)) (b : Nat) : ∀ (k i : Nat) (d : Array α), b - i = k → b ≤ d.size → (insOuter lt 0 b i d).toList.filter p = d.toList.filter p
  | 0, i, d, hk, _ => by
    unfold insOuter
    rw [if_neg (by omega)]
  | k + 1, i, d, hk, hb => by
    unfold insOuter
    rw [if_pos (by omega), insOuter_filter hp b k (i + 1) _ (by omega) (by rw [insInner_size]; exact hb)]
    exact insInner_filter hp i d (by omega)
end
/-- the stable sort keeps the order of those with one rank -/
theorem srtP_filter (ps : List PlR) (r : Int) : (srtP ps).filter (fun p => p.rk == r) = ps.filter (fun p => p.rk == r) := by
  unfold srtP Sort.insertionSort
  rw [insOuter_filter (α := PlR) (lt := ltOf cmpP) (p := fun p => p.rk == r) (fun x y h => by
    rw [lt_pl, decide_eq_true_eq] at h
    simp only [beq_iff_eq]
    omega) _ _ _ _ rfl (by simp)]
/-- of a sorted list: those up to a rank, and those at the next one -/
theorem sorted_next {m : Int} : ∀ (ps : List PlR), ps.Pairwise (fun a b => a.rk ≤ b.rk) → (ps.filter fun p => decide (p.rk ≤ m + 1)) = (ps.filter fun p => decide (p.rk ≤ m)) ++ ps.filter (fun p => p.rk == m + 1)
  | [], _ => rfl
  | p :: ps, h => by
    rw [List.pairwise_cons] at h
    have ih := sorted_next (m := m) ps h.2
    by_cases h1 : p.rk ≤ m
    · rw [List.filter_cons_of_pos (by simp; omega), List.filter_cons_of_pos (by simpa using h1), List.filter_cons_of_neg (by simp; omega), ih]
      rfl
    · have hnil : (ps.filter fun q => decide (q.rk ≤ m)) = [] := by
        rw [List.filter_eq_nil_iff]
        intro q hq
        have := h.1 q hq
        simp; omega
      rw [hnil] at ih
      by_cases h2 : p.rk = m + 1
      · rw [List.filter_cons_of_pos (by simp; omega), List.filter_cons_of_neg (by simpa using h1), List.filter_cons_of_pos (by simpa using h2), ih, hnil]
        rfl
      · rw [List.filter_cons_of_neg (by simp; omega), List.filter_cons_of_neg (by simpa using h1), List.filter_cons_of_neg (by simpa using h2), ih, hnil]
/-- the names at a rank, in their order -/
def atRank (ps : List PlR) (r : Int) : List ByteArray := (ps.filter fun p => p.rk == r).map fun p => p.nm
theorem goOn_next (m : Int) (ps : List PlR) : goOn (m + 1) (srtP ps) = goOn m (srtP ps) ++ atRank ps (m + 1) := by
  unfold goOn atRank
  rw [sorted_next _ (srtP_pairwise ps), List.map_append, srtP_filter]
theorem goOn_zero {ps : List PlR} (h : ∀ p ∈ ps, 1 ≤ p.rk) : goOn 0 (srtP ps) = [] := by
  unfold goOn
  have : ((srtP ps).filter fun p => decide (p.rk ≤ 0)) = [] := by
    rw [List.filter_eq_nil_iff]
    intro q hq
    have := h q ((srtP_spec ps).1.mem_iff.1 hq)
    simp; omega
  rw [this]; rfl
/-- behind the greatest rank nobody goes on -/
theorem goOn_more {ps : List PlR} {n : Nat} (h : ∀ p ∈ ps, p.rk ≤ n) (m : Int) (hm : (n : Int) ≤ m) : goOn m (srtP ps) = goOn n (srtP ps) := by
  unfold goOn
  congr 1
  apply List.filter_congr
  intro q hq
  have := h q ((srtP_spec ps).1.mem_iff.1 hq)
  rw [decide_eq_true (by omega), decide_eq_true (by omega)]
theorem gradeZ_fine {l : List UInt8} (h : l.isEmpty = true) : gradeZ l = 0 := by
  have : l = [] := by simpa using h
  subst this; rfl
/-- nobody with a state is ahead of one without -/
theorem cmpB_fine {c b : Bare} (hb : b.st.toList.isEmpty = true) (hc : resE c.nm c.st c.xs = 0) (h : cmpB c b < 0) : c.st.toList.isEmpty = true := by
  cases hs : c.st.toList.isEmpty
  · exfalso
    have h1 := (resE_zero hc).1
    have hg := gradeZ_pos hs h1
    unfold cmpB ordZ at h
    rw [gradeZ_fine hb] at h
    rcases cmpZ_cases (gradeZ c.st.toList) 0 with ⟨h2, e⟩ | ⟨h2, e⟩ | ⟨h2, e⟩
    · omega
    · omega
    · rw [e] at h
      simp [firstE] at h
  · rfl
/-- among those with values the ranks are the same as among all -/
theorem rankB_fine {bs : List Bare} (hV : ValidB bs) {b : Bare} (hb : b.st.toList.isEmpty = true) : rankB (fineB bs) b = rankB bs b := by
  unfold rankB fineB
  rw [List.countP_filter]
  congr 2
  apply List.countP_congr
  intro c hc
  simp only [Bool.and_eq_true, decide_eq_true_eq]
  exact ⟨fun h => h.1, fun h => ⟨h, cmpB_fine hb (hV.each c hc) h⟩⟩
/-- the results with their ranks among all of them -/
def atB (bs : List Bare) (r : Int) : List ByteArray := (bs.filter fun b => (rankB bs b == r) && b.st.toList.isEmpty).map fun b => b.nm
theorem pls_map (cs : List Bare) (f : Bare → Int) : pls (cs.map fun b => b.nm) (cs.map f) = cs.map fun b => ⟨b.nm, f b⟩ := by
  unfold pls
  induction cs with
  | nil => rfl
  | cons c cs ih => simp only [List.map_cons, List.zipWith_cons_cons, ih]
theorem atRank_B {bs : List Bare} (hV : ValidB bs) (r : Int) : atRank (pls ((fineB bs).map fun b => b.nm) (ranksB (fineB bs))) r = atB bs r := by
  unfold atRank atB ranksB
  rw [pls_map, List.filter_map, List.map_map]
  unfold fineB
  rw [List.filter_filter]
  show ((bs.filter _).map fun b => b.nm) = _
  congr 1
  apply List.filter_congr
  intro b hb
  simp only [Function.comp]
  cases hs : b.st.toList.isEmpty
  · simp
  · rw [show rankB (List.filter (fun b => b.st.toList.isEmpty) bs) b = rankB bs b from rankB_fine hV hs]
/-- who goes on, rank by rank -/
def upTo (bs : List Bare) : Nat → List ByteArray
  | 0 => []
  | r + 1 => upTo bs r ++ atB bs (r + 1 : Nat)
theorem thruB_upTo {bs : List Bare} (hV : ValidB bs) : ∀ r : Nat, thruB bs r = upTo bs r
  | 0 => by
    unfold thruB upTo
    refine goOn_zero fun p hp => ?_
    unfold ranksB at hp
    rw [pls_map] at hp
    obtain ⟨b, _, rfl⟩ := List.mem_map.1 hp
    show 1 ≤ rankB _ b
    unfold rankB; omega
  | r + 1 => by
    unfold upTo
    rw [← thruB_upTo hV r, ← atRank_B hV]
    unfold thruB
    have := goOn_next (r : Int) (pls ((fineB bs).map fun b => b.nm) (ranksB (fineB bs)))
    exact this
theorem thruB_big {bs : List Bare} {n : Nat} (hn : bs.length = n) (m : Int) (hm : (n : Int) ≤ m) : thruB bs m = thruB bs n := by
  unfold thruB
  refine goOn_more (fun p hp => ?_) m hm
  unfold ranksB at hp
  rw [pls_map] at hp
  obtain ⟨b, hb, rfl⟩ := List.mem_map.1 hp
  show rankB _ b ≤ n
  unfold rankB
  have h1 := countP_strict (P := fun c => decide (cmpB c b < 0)) (Q := fun _ => true) (fineB bs) (fun _ _ _ => rfl) ⟨b, hb, by rw [cmpB_self]; rfl, rfl⟩
  rw [List.countP_true] at h1
  have h2 : (fineB bs).length ≤ bs.length := List.length_filter_le _ _
  omega
end Go.Proofs.YtebnbjaaogfikaaGreatDoor
