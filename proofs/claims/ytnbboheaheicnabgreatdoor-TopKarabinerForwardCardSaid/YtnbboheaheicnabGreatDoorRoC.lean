/- ResultRounds: empty lists, too many results, errors; the program and the reference. -/
import Derived.Test.YtnbboheaheicnabGreatDoorOrMN
namespace Go.Proofs.YtnbboheaheicnabGreatDoor
open Go.RowKit Go.Lib
set_option linter.unusedSimpArgs false
set_option linter.unusedVariables false
/-- a result out of what it is without its place -/
def unbare (b : Bare) : RowR := ⟨b.nm, b.st, undef, b.xs⟩
theorem firstP_norm (xs : List RowR) : ∀ (k i : Nat), firstP hasV ((xs.map bare).map unbare) k i = firstP hasV xs k i
  | 0, _ => rfl
  | k + 1, i => by
    simp only [firstP, List.getElem?_map]
    cases xs[i]? with
    | none => rfl
    | some x =>
      simp only [Option.map_some]
      rw [firstP_norm xs k (i + 1)]
      rfl
theorem rowE_norm (xs : List RowR) (fz : Int) (i : Nat) (x : RowR) : rowE ((xs.map bare).map unbare) fz i (unbare (bare x)) = rowE xs fz i x := by
  have h1 : dupR ((xs.map bare).map unbare) i x.nm = dupR xs i x.nm := by
    unfold dupR
    rw [← List.map_take, ← List.map_take, List.any_map, List.any_map]
    rfl
  have h2 : fitFirst ((xs.map bare).map unbare) fz (unbare (bare x)) = fitFirst xs fz x := by
    unfold fitFirst
    rw [List.getElem?_map, List.getElem?_map]
    cases xs[fz.toNat]? <;> rfl
  unfold rowE
  rw [h2]
  show firstE [_, if dupR ((xs.map bare).map unbare) i x.nm then 9 else 0, _] = _
  rw [h1]
  rfl
theorem rowFrom_norm (xs : List RowR) (fz : Int) : ∀ (k i : Nat), rowFrom ((xs.map bare).map unbare) fz k i = rowFrom xs fz k i
  | 0, _ => rfl
  | k + 1, i => by
    simp only [rowFrom, List.getElem?_map]
    cases hx : xs[i]? with
    | none => rfl
    | some x =>
      simp only [Option.map_some]
      rw [rowE_norm xs fz i x, rowFrom_norm xs fz k (i + 1)]
/-- the error of a round -/
def roundE (xs : List RowR) : Int := if 160 < xs.length then 5 else rowFrom xs (firstV xs) xs.length 0
theorem roundE_norm (xs : List RowR) : roundE xs = roundE ((xs.map bare).map unbare) := by
  unfold roundE
  rw [rowFrom_norm]
  unfold firstV
  rw [firstP_norm]
  simp
theorem roundE_bare {xs ys : List RowR} (h : ys.map bare = xs.map bare) : roundE ys = roundE xs := by
  rw [roundE_norm ys, roundE_norm xs, h]
set_option maxHeartbeats 1000000
set_option maxRecDepth 100000
theorem indexF_0 (p : Option Addr) (cap : Nat) (f : Value) (w : World) :
    Calls Tryz.prog 41 #[.slice p 0 cap, f] w fun e w' => e = .returned (.int .i64 (-1)) ∧ w = w' := by
  go_enter Tryz.func41, Tryz.ntmps41
  go_wp2_with fail
  refine wp_loop_rounds 2 ?_
  rw [rounds_succ]
  go_wp2_with fail
  go_ret
  exact ⟨rfl, rfl⟩
theorem findR_0 (p : Option Addr) (cap : Nat) (f : Value) (w : World) :
    Calls Tryz.prog 78 #[.slice p 0 cap, f] w fun e w' => e = .returned (.tuple #[.int .i64 0, .int .i64 0]) ∧ w = w' := by
  go_enter Tryz.func78, Tryz.ntmps78
  go_wp2_with fail
  refine wp_loop_rounds 2 ?_
  rw [rounds_succ]
  go_wp2_with fail
  exact bodyPost_ret (v := .tuple #[.int .i64 0, .int .i64 0]) (by simp [results, Tryz.results78, go_sem]) rfl ⟨rfl, rfl⟩
theorem eachR_0 (p : Option Addr) (cap : Nat) (f : Value) (w : World) :
    Calls Tryz.prog 42 #[.slice p 0 cap, f] w fun e w' => e = .returned (.int .i64 0) ∧ w = w' := by
  have H := Lib.hid (fun W => findR_0 p cap f W)
  go_enter Tryz.func42, Tryz.ntmps42
  go_wp2_with (refine (H.out _).mono ?_; rintro e w4 ⟨rfl, rfl⟩)
  go_ret
  exact ⟨rfl, rfl⟩
theorem checkRound_0 (p : Option Addr) (cap : Nat) (w : World) :
    Calls Tryz.prog 22 #[.slice p 0 cap] w fun e w' => e = .returned (.int .i64 0) ∧ Gr w w' := by
  have HI := Lib.hid (fun f W => indexF_0 p cap f W)
  have HE := Lib.hid (fun f W => eachR_0 p cap f W)
  obtain ⟨W, hW, g, a0⟩ := box1 w (.slice p 0 cap) 22
  have HW := Lib.hid hW
  clear hW
  go_enter Tryz.func22, Tryz.ntmps22
  go_wp2_with fail
  rw [HW.out]
  generalize w.heap.size = B at *
  clear HW
  refine (HI.out _ _).mono ?_
  rintro e W1 ⟨rfl, rfl⟩
  have b0 := ((Gr.refl W).alloc (.cells #[.int .i64 (-1)] 3)).cell a0
  go_wp2_with (refine (HE.out _ _).mono ?_; rintro e w4 ⟨rfl, rfl⟩)
  go_ret
  exact ⟨rfl, g.alloc _⟩
theorem checkRound_many (p : Option Addr) (n cap : Nat) (hn : 160 < n) (w : World) :
    Calls Tryz.prog 22 #[.slice p n cap] w fun e w' => e = .returned (.int .i64 5) ∧ Gr w w' := by
  have h2 : decide ((160 : Int) < n) = true := decide_eq_true (by omega)
  go_enter Tryz.func22, Tryz.ntmps22
  go_wp2_with fail
  go_ret
  exact ⟨rfl, (Gr.refl w).alloc _⟩
theorem refRound_0 (p : Option Addr) (cap : Nat) (w : World) :
    Calls Tryz.prog 14 #[.slice p 0 cap] w fun e w' => e = .returned (.int .i64 0) ∧ Gr w w' := by
  go_enter Tryz.func14, Tryz.ntmps14
  go_wp2_with fail
  refine wp_loop_rounds 2 ?_
  rw [rounds_succ]
  go_wp2_with fail
  go_ret
  exact ⟨rfl, Gr.refl _⟩
theorem refRound_many (p : Option Addr) (n cap : Nat) (hn : 160 < n) (w : World) :
    Calls Tryz.prog 14 #[.slice p n cap] w fun e w' => e = .returned (.int .i64 5) ∧ Gr w w' := by
  have h2 : decide ((160 : Int) < n) = true := decide_eq_true (by omega)
  go_enter Tryz.func14, Tryz.ntmps14
  go_wp2_with fail
  go_ret
  exact ⟨rfl, Gr.refl _⟩
/-- CheckRound, of any results that are read -/
theorem checkRound_any {W : World} {v : Value} {ys : List RowR} (h : RowsV W v ys) (hSt : StatesIn W) :
    Calls Tryz.prog 22 #[v] W fun e w' => e = .returned (.int .i64 (roundE ys)) ∧ Gr W w' := by
  obtain ⟨⟨p, cap, rfl, hcap, hh⟩⟩ := h
  unfold roundE
  by_cases h0 : 0 < ys.length
  · obtain ⟨b, off, rfl, hc⟩ := hh h0
    by_cases h1 : 160 < ys.length
    · rw [if_pos h1]; exact checkRound_many _ _ cap h1 W
    · rw [if_neg h1]; exact checkRound_pos ys _ b off cap W rfl (by omega) hcap.1 hcap.2 hSt hc
  · have hz : ys.length = 0 := by omega
    rw [if_neg (by omega), hz]
    exact checkRound_0 p cap W
theorem refRound_any {W : World} {v : Value} {ys : List RowR} (h : RowsV W v ys) :
    Calls Tryz.prog 14 #[v] W fun e w' => e = .returned (.int .i64 (roundE ys)) ∧ Gr W w' := by
  obtain ⟨⟨p, cap, rfl, hcap, hh⟩⟩ := h
  unfold roundE
  by_cases h0 : 0 < ys.length
  · obtain ⟨b, off, rfl, hc⟩ := hh h0
    by_cases h1 : 160 < ys.length
    · rw [if_pos h1]; exact refRound_many _ _ cap h1 W
    · rw [if_neg h1]; exact refRound_pos ys _ b off cap W rfl (by omega) hcap.1 hcap.2 hc
  · have hz : ys.length = 0 := by omega
    rw [if_neg (by omega), hz]
    exact refRound_0 p cap W
theorem rank_bad {W : World} {p : Option Addr} {n cap : Nat} {E : Int} (hE : E ≠ 0) (h : Calls Tryz.prog 22 #[.slice p n cap] W fun e w' => e = .returned (.int .i64 E) ∧ Gr W w') :
    Calls Tryz.prog 15 #[.slice p n cap] W fun e w' => e = .returned (.tuple #[.slice none 0 0, .int .i64 E]) ∧ Gr W w' := by
  have H := Lib.hid h
  have hE2 : (E != 0) = true := bne_iff_ne.2 hE
  have hE3 : (E == 0) = false := beq_eq_false_iff_ne.2 hE
  clear h hE
  go_enter Tryz.func15, Tryz.ntmps15
  go_wp2_with fail
  refine H.out.mono ?_
  rintro e w1 ⟨rfl, g⟩
  go_wp2_with fail
  exact bodyPost_ret (v := .tuple #[.slice none 0 0, .int .i64 E]) (by simp [results, Tryz.results15, go_sem]) rfl ⟨rfl, g⟩
theorem rank_none (p : Option Addr) (cap : Nat) (W : World) :
    Calls Tryz.prog 15 #[.slice p 0 cap] W fun e w' => ∃ q c, e = .returned (.tuple #[.slice q 0 c, .int .i64 0]) ∧ Gr W w' := by
  have H := Lib.hid (checkRound_0 p cap W)
  have H2 := Lib.hid (fun W => ranks_0 p cap W)
  go_enter Tryz.func15, Tryz.ntmps15
  go_wp2_with fail
  refine H.out.mono ?_
  rintro e w1 ⟨rfl, g⟩
  go_wp2_with fail
  refine (H2.out _).mono ?_
  rintro e w2 ⟨q, c, rfl, g2⟩
  go_wp2_with fail
  exact bodyPost_ret (v := .tuple #[.slice q 0 c, .int .i64 0]) (by simp [results, Tryz.results15, go_sem]) rfl ⟨q, c, rfl, g.trans g2⟩
theorem through_bad {W : World} {p : Option Addr} {n cap : Nat} {E m : Int} (hE : firstE [E, outE m 0 160] ≠ 0) (h : Calls Tryz.prog 22 #[.slice p n cap] W fun e w' => e = .returned (.int .i64 E) ∧ Gr W w') :
    Calls Tryz.prog 8 #[.slice p n cap, .int .i64 m] W fun e w' => e = .returned (.tuple #[.slice none 0 0, .int .i64 (firstE [E, outE m 0 160])]) ∧ Gr W w' := by
  have H := Lib.hid h
  have HRg := Lib.hid (fun W => range_c m 0 160 W)
  have HF := Lib.hid (fun b cap W => first_pair E (outE m 0 160) b cap W)
  generalize firstE [E, outE m 0 160] = F at *
  generalize outE m 0 160 = o at *
  have hE2 : (F != 0) = true := bne_iff_ne.2 hE
  have hE3 : (F == 0) = false := beq_eq_false_iff_ne.2 hE
  clear h hE
  go_enter Tryz.func8, Tryz.ntmps8
  go_wp2_with fail
  refine H.out.mono ?_
  rintro e w0 ⟨rfl, g0⟩
  go_wp2_with fail
  refine (HRg.out _).mono ?_
  rintro e w0' ⟨rfl, rfl⟩
  go_wp2_with fail
  refine (HF.out _ _ _ (by exact cell_new _ #[_, _] _ 0 (by simp)) (by exact cell_new _ #[_, _] _ 1 (by simp))).mono ?_
  rintro e w0'' ⟨rfl, rfl⟩
  go_wp2_with fail
  exact bodyPost_ret (v := .tuple #[.slice none 0 0, .int .i64 F]) (by simp [results, Tryz.results8, go_sem]) rfl ⟨rfl, g0.alloc _⟩
theorem through_none (p : Option Addr) (cap : Nat) (m : Int) (hm : outE m 0 160 = 0) (W : World) :
    Calls Tryz.prog 8 #[.slice p 0 cap, .int .i64 m] W fun e w' => e = .returned (.tuple #[.slice none 0 0, .int .i64 0]) ∧ Gr W w' := by
  have H := Lib.hid (checkRound_0 p cap W)
  have HRg := Lib.hid (fun W => range_c m 0 160 W)
  rw [hm] at HRg
  have HF := Lib.hid (fun b cap W => first_pair 0 0 b cap W)
  have HFz : Hid (firstE [0, 0] = 0) := rfl
  have HC := Lib.hid (fun W => climbers_0 none 0 W)
  have HK := Lib.hid (fun W => ranks_0 none 0 W)
  have HP := Lib.hid (fun q c W => placed_0 none q 0 c W)
  clear hm
  go_enter Tryz.func8, Tryz.ntmps8
  go_wp2_with fail
  refine H.out.mono ?_
  rintro e w0 ⟨rfl, g0⟩
  go_wp2_with fail
  refine (HRg.out _).mono ?_
  rintro e w0' ⟨rfl, rfl⟩
  go_wp2_with fail
  refine (HF.out _ _ _ (by exact cell_new _ #[_, _] _ 0 (by simp)) (by exact cell_new _ #[_, _] _ 1 (by simp))).mono ?_
  rintro e w0'' ⟨rfl, rfl⟩
  rw [HFz.out]
  have g1 : Gr W (w0.alloc (.cells #[.int .i64 0, .int .i64 0] 27)) := g0.alloc _
  generalize w0.alloc (.cells #[.int .i64 0, .int .i64 0] 27) = W1 at *
  go_wp2_with fail
  refine wp_loop_rounds 2 ?_
  rw [rounds_succ]
  go_wp2_with fail
  refine (HC.out _).mono ?_
  rintro e w2 ⟨rfl, rfl⟩
  go_wp2_with fail
  refine (HK.out _).mono ?_
  rintro e w3 ⟨q, c, rfl, g3⟩
  go_wp2_with fail
  refine (HP.out _ _ _).mono ?_
  rintro e w4 ⟨rfl, g4⟩
  go_wp2_with fail
  refine wp_loop_rounds 2 ?_
  rw [rounds_succ]
  go_wp2_with fail
  exact bodyPost_ret (v := .tuple #[.slice none 0 0, .int .i64 0]) (by simp [results, Tryz.results8, go_sem]) rfl ⟨rfl, g1.trans (g3.trans g4)⟩
end Go.Proofs.YtnbboheaheicnabGreatDoor
