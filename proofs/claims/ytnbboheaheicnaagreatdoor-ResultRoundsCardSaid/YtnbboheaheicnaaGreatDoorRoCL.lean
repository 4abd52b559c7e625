/- ResultRounds: empty lists, too many results, errors; the program and the reference. -/
import Derived.Test.YtnbboheaheicnaaGreatDoorRoAB
import Derived.Test.YtnbboheaheicnaaGreatDoorOrL
namespace Go.Proofs.YtnbboheaheicnaaGreatDoor
open Go.RowKit Go.Lib
set_option linter.unusedSimpArgs false
set_option linter.unusedVariables false
/-- a result out of what it is without its place -/
def unbare (b : Bare) : RowR := ⟨b.nm, b.st, undef, b.xs⟩
theorem firstP_norm (xs : List RowR) : ∀ (k i : Nat), firstP hasV ((xs.map bare).map unbare) k i = firstP hasV xs k i
  | 0, _ => rfl
  | k + 1, i => by
    simp only [firstP, List.getElem?_map]
    cases xs[i]? with
    | none => rfl
    | some x =>
      simp only [Option.map_some]
      rw [firstP_norm xs k (i + 1)]
      rfl
theorem rowE_norm (xs : List RowR) (fz : Int) (i : Nat) (x : RowR) : rowE ((xs.map bare).map unbare) fz i (unbare (bare x)) = rowE xs fz i x := by
  have h1 : dupR ((xs.map bare).map unbare) i x.nm = dupR xs i x.nm := by
    unfold dupR
    rw [← List.map_take, ← List.map_take, List.any_map, List.any_map]
    rfl
  have h2 : fitFirst ((xs.map bare).map unbare) fz (unbare (bare x)) = fitFirst xs fz x := by
    unfold fitFirst
    rw [List.getElem?_map, List.getElem?_map]
    cases xs[fz.toNat]? <;> rfl
  unfold rowE
  rw [h2]
  show firstE [_, if dupR ((xs.map bare).map unbare) i x.nm then 9 else 0, _] = _
  rw [h1]
  rfl
theorem rowFrom_norm (xs : List RowR) (fz : Int) : ∀ (k i : Nat), rowFrom ((xs.map bare).map unbare) fz k i = rowFrom xs fz k i
  | 0, _ => rfl
  | k + 1, i => by
    simp only [rowFrom, List.getElem?_map]
    cases hx : xs[i]? with
    | none => rfl
    | some x =>
      simp only [Option.map_some]
      rw [rowE_norm xs fz i x, rowFrom_norm xs fz k (i + 1)]
/-- the error of a round -/
def roundE (xs : List RowR) : Int := if 160 < xs.length then 5 else rowFrom xs (firstV xs) xs.length 0
theorem roundE_norm (xs : List RowR) : roundE xs = roundE ((xs.map bare).map unbare) := by
  unfold roundE
  rw [rowFrom_norm]
  unfold firstV
  rw [firstP_norm]
  simp
theorem roundE_bare {xs ys : List RowR} (h : ys.map bare = xs.map bare) : roundE ys = roundE xs := by
  rw [roundE_norm ys, roundE_norm xs, h]
set_option maxHeartbeats 1000000
set_option maxRecDepth 100000
theorem indexF_0 (p : Option Addr) (cap : Nat) (f : Value) (w : World) :
    Calls Tryz.prog 38 #[.slice p 0 cap, f] w fun e w' => e = .returned (.int .i64 (-1)) ∧ w = w' := by
  go_enter Tryz.func38, Tryz.ntmps38
  go_wp2_with fail
  refine wp_loop_rounds 2 ?_
  rw [rounds_succ]
  go_wp2_with fail
  go_ret
  exact ⟨rfl, rfl⟩
theorem findR_0 (p : Option Addr) (cap : Nat) (f : Value) (w : World) :
    Calls Tryz.prog 98 #[.slice p 0 cap, f] w fun e w' => e = .returned (.tuple #[.int .i64 0, .int .i64 0]) ∧ w = w' := by
  go_enter Tryz.func98, Tryz.ntmps98
  go_wp2_with fail
  refine wp_loop_rounds 2 ?_
  rw [rounds_succ]
  go_wp2_with fail
  exact bodyPost_ret (v := .tuple #[.int .i64 0, .int .i64 0]) (by simp [results, Tryz.results98, go_sem]) rfl ⟨rfl, rfl⟩
theorem eachR_0 (p : Option Addr) (cap : Nat) (f : Value) (w : World) :
    Calls Tryz.prog 39 #[.slice p 0 cap, f] w fun e w' => e = .returned (.int .i64 0) ∧ w = w' := by
  have H := Lib.hid (fun W => findR_0 p cap f W)
  go_enter Tryz.func39, Tryz.ntmps39
  go_wp2_with (refine (H.out _).mono ?_; rintro e w4 ⟨rfl, rfl⟩)
  go_ret
  exact ⟨rfl, rfl⟩
theorem checkRound_0 (p : Option Addr) (cap : Nat) (w : World) :
    Calls Tryz.prog 11 #[.slice p 0 cap] w fun e w' => e = .returned (.int .i64 0) ∧ Gr w w' := by
  have HI := Lib.hid (fun f W => indexF_0 p cap f W)
  have HE := Lib.hid (fun f W => eachR_0 p cap f W)
  obtain ⟨W, hW, g, a0⟩ := box1 w (.slice p 0 cap) 22
  have HW := Lib.hid hW
  clear hW
  go_enter Tryz.func11, Tryz.ntmps11
  go_wp2_with fail
  rw [HW.out]
  generalize w.heap.size = B at *
  clear HW
  refine (HI.out _ _).mono ?_
  rintro e W1 ⟨rfl, rfl⟩
  have b0 := ((Gr.refl W).alloc (.cells #[.int .i64 (-1)] 3)).cell a0
  go_wp2_with (refine (HE.out _ _).mono ?_; rintro e w4 ⟨rfl, rfl⟩)
  go_ret
  exact ⟨rfl, g.alloc _⟩
theorem checkRound_many (p : Option Addr) (n cap : Nat) (hn : 160 < n) (w : World) :
    Calls Tryz.prog 11 #[.slice p n cap] w fun e w' => e = .returned (.int .i64 5) ∧ Gr w w' := by
  have h2 : decide ((160 : Int) < n) = true := decide_eq_true (by omega)
  go_enter Tryz.func11, Tryz.ntmps11
  go_wp2_with fail
  go_ret
  exact ⟨rfl, (Gr.refl w).alloc _⟩
theorem refRound_0 (p : Option Addr) (cap : Nat) (w : World) :
    Calls Tryz.prog 10 #[.slice p 0 cap] w fun e w' => e = .returned (.int .i64 0) ∧ Gr w w' := by
  go_enter Tryz.func10, Tryz.ntmps10
  go_wp2_with fail
  refine wp_loop_rounds 2 ?_
  rw [rounds_succ]
  go_wp2_with fail
  go_ret
  exact ⟨rfl, Gr.refl _⟩
theorem refRound_many (p : Option Addr) (n cap : Nat) (hn : 160 < n) (w : World) :
    Calls Tryz.prog 10 #[.slice p n cap] w fun e w' => e = .returned (.int .i64 5) ∧ Gr w w' := by
  have h2 : decide ((160 : Int) < n) = true := decide_eq_true (by omega)
  go_enter Tryz.func10, Tryz.ntmps10
  go_wp2_with fail
  go_ret
  exact ⟨rfl, Gr.refl _⟩
/-- CheckRound, of any results that are read -/
theorem checkRound_any {W : World} {v : Value} {ys : List RowR} (h : RowsV W v ys) (hSt : StatesIn W) :
    Calls Tryz.prog 11 #[v] W fun e w' => e = .returned (.int .i64 (roundE ys)) ∧ Gr W w' := by
  obtain ⟨⟨p, cap, rfl, hcap, hh⟩⟩ := h
  unfold roundE
  by_cases h0 : 0 < ys.length
  · obtain ⟨b, off, rfl, hc⟩ := hh h0
    by_cases h1 : 160 < ys.length
    · rw [if_pos h1]; exact checkRound_many _ _ cap h1 W
    · rw [if_neg h1]; exact checkRound_pos ys _ b off cap W rfl (by omega) hcap.1 hcap.2 hSt hc
  · have hz : ys.length = 0 := by omega
    rw [if_neg (by omega), hz]
    exact checkRound_0 p cap W
theorem refRound_any {W : World} {v : Value} {ys : List RowR} (h : RowsV W v ys) :
    Calls Tryz.prog 10 #[v] W fun e w' => e = .returned (.int .i64 (roundE ys)) ∧ Gr W w' := by
  obtain ⟨⟨p, cap, rfl, hcap, hh⟩⟩ := h
  unfold roundE
  by_cases h0 : 0 < ys.length
  · obtain ⟨b, off, rfl, hc⟩ := hh h0
    by_cases h1 : 160 < ys.length
    · rw [if_pos h1]; exact refRound_many _ _ cap h1 W
    · rw [if_neg h1]; exact refRound_pos ys _ b off cap W rfl (by omega) hcap.1 hcap.2 hc
  · have hz : ys.length = 0 := by omega
    rw [if_neg (by omega), hz]
    exact refRound_0 p cap W
theorem rank_bad {W : World} {p : Option Addr} {n cap : Nat} {E : Int} (hE : E ≠ 0) (h : Calls Tryz.prog 11 #[.slice p n cap] W fun e w' => e = .returned (.int .i64 E) ∧ Gr W w') :
    Calls Tryz.prog 7 #[.slice p n cap] W fun e w' => e = .returned (.tuple #[.slice none 0 0, .int .i64 E]) ∧ Gr W w' := by
  have H := Lib.hid h
  have hE2 : (E != 0) = true := bne_iff_ne.2 hE
  have hE3 : (E == 0) = false := beq_eq_false_iff_ne.2 hE
  clear h hE
  go_enter Tryz.func7, Tryz.ntmps7
  go_wp2_with fail
  refine H.out.mono ?_
  rintro e w1 ⟨rfl, g⟩
  go_wp2_with fail
  exact bodyPost_ret (v := .tuple #[.slice none 0 0, .int .i64 E]) (by simp [results, Tryz.results7, go_sem]) rfl ⟨rfl, g⟩
theorem rank_none (p : Option Addr) (cap : Nat) (W : World) :
    Calls Tryz.prog 7 #[.slice p 0 cap] W fun e w' => ∃ q c, e = .returned (.tuple #[.slice q 0 c, .int .i64 0]) ∧ Gr W w' := by
  have H := Lib.hid (checkRound_0 p cap W)
  have H2 := Lib.hid (fun W => ranks_0 p cap W)
  go_enter Tryz.func7, Tryz.ntmps7
  go_wp2_with fail
  refine H.out.mono ?_
  rintro e w1 ⟨rfl, g⟩
  go_wp2_with fail
  refine (H2.out _).mono ?_
  rintro e w2 ⟨q, c, rfl, g2⟩
  go_wp2_with fail
  exact bodyPost_ret (v := .tuple #[.slice q 0 c, .int .i64 0]) (by simp [results, Tryz.results7, go_sem]) rfl ⟨q, c, rfl, g.trans g2⟩
theorem through_bad {W : World} {p : Option Addr} {n cap : Nat} {E m : Int} (hE : firstE [E, outE m 0 160] ≠ 0) (h : Calls Tryz.prog 11 #[.slice p n cap] W fun e w' => e = .returned (.int .i64 E) ∧ Gr W w') :
    Calls Tryz.prog 9 #[.slice p n cap, .int .i64 m] W fun e w' => e = .returned (.tuple #[.slice none 0 0, .int .i64 (firstE [E, outE m 0 160])]) ∧ Gr W w' := by
  have H := Lib.hid h
  have HRg := Lib.hid (fun W => range_c m 0 160 W)
  have HF := Lib.hid (fun b cap W => first_pair E (outE m 0 160) b cap W)
  generalize firstE [E, outE m 0 160] = F at *
  generalize outE m 0 160 = o at *
  have hE2 : (F != 0) = true := bne_iff_ne.2 hE
  have hE3 : (F == 0) = false := beq_eq_false_iff_ne.2 hE
  clear h hE
  go_enter Tryz.func9, Tryz.ntmps9
  go_wp2_with fail
  refine H.out.mono ?_
  rintro e w0 ⟨rfl, g0⟩
  go_wp2_with fail
  refine (HRg.out _).mono ?_
  rintro e w0' ⟨rfl, rfl⟩
  go_wp2_with fail
  refine (HF.out _ _ _ (by exact cell_new _ #[_, _] _ 0 (by simp)) (by exact cell_new _ #[_, _] _ 1 (by simp))).mono ?_
  rintro e w0'' ⟨rfl, rfl⟩
  go_wp2_with fail
  exact bodyPost_ret (v := .tuple #[.slice none 0 0, .int .i64 F]) (by simp [results, Tryz.results9, go_sem]) rfl ⟨rfl, g0.alloc _⟩
theorem through_none (p : Option Addr) (cap : Nat) (m : Int) (hm : outE m 0 160 = 0) (W : World) :
    Calls Tryz.prog 9 #[.slice p 0 cap, .int .i64 m] W fun e w' => e = .returned (.tuple #[.slice none 0 0, .int .i64 0]) ∧ Gr W w' := by
  have H := Lib.hid (checkRound_0 p cap W)
  have HRg := Lib.hid (fun W => range_c m 0 160 W)
  rw [hm] at HRg
  have HF := Lib.hid (fun b cap W => first_pair 0 0 b cap W)
  have HFz : Hid (firstE [0, 0] = 0) := rfl
  have HC := Lib.hid (fun W => climbers_0 none 0 W)
  have HK := Lib.hid (fun W => ranks_0 none 0 W)
  have HP := Lib.hid (fun q c W => placed_0 none q 0 c W)
  clear hm
  go_enter Tryz.func9, Tryz.ntmps9
  go_wp2_with fail
  refine H.out.mono ?_
  rintro e w0 ⟨rfl, g0⟩
  go_wp2_with fail
  refine (HRg.out _).mono ?_
  rintro e w0' ⟨rfl, rfl⟩
  go_wp2_with fail
  refine (HF.out _ _ _ (by exact cell_new _ #[_, _] _ 0 (by simp)) (by exact cell_new _ #[_, _] _ 1 (by simp))).mono ?_
  rintro e w0'' ⟨rfl, rfl⟩
  rw [HFz.out]
  have g1 : Gr W (w0.alloc (.cells #[.int .i64 0, .int .i64 0] 26)) := g0.alloc _
  generalize w0.alloc (.cells #[.int .i64 0, .int .i64 0] 26) = W1 at *
  go_wp2_with fail
  refine wp_loop_rounds 2 ?_
  rw [rounds_succ]
  go_wp2_with fail
  refine (HC.out _).mono ?_
  rintro e w2 ⟨rfl, rfl⟩
  go_wp2_with fail
  refine (HK.out _).mono ?_
  rintro e w3 ⟨q, c, rfl, g3⟩
  go_wp2_with fail
  refine (HP.out _ _ _).mono ?_
  rintro e w4 ⟨rfl, g4⟩
  go_wp2_with fail
  refine wp_loop_rounds 2 ?_
  rw [rounds_succ]
  go_wp2_with fail
  exact bodyPost_ret (v := .tuple #[.slice none 0 0, .int .i64 0]) (by simp [results, Tryz.results9, go_sem]) rfl ⟨rfl, g1.trans (g3.trans g4)⟩
theorem results_0 (p : Option Addr) (cap : Nat) (w : World) :
    Calls Tryz.prog 8 #[.slice p 0 cap] w fun e w' => e = .returned (.slice none 0 0) ∧ w = w' := by
  go_enter Tryz.func8, Tryz.ntmps8
  go_wp2_with fail
  refine wp_loop_rounds 2 ?_
  rw [rounds_succ]
  go_wp2_with fail
  go_ret
  exact ⟨rfl, rfl⟩
theorem refThrough_none (p : Option Addr) (cap : Nat) (m : Int) (w : World) :
    Calls Tryz.prog 15 #[.slice p 0 cap, .int .i64 m] w fun e w' => e = .returned (.slice none 0 0) ∧ Gr w w' := by
  have H := Lib.hid (fun W => refRank_nil p cap W)
  by_cases hm : (1 : Int) ≤ m
  all_goals
    go_enter Tryz.func15, Tryz.ntmps15
    go_wp2_with (refine (H.out _).mono ?_; rintro e w1 ⟨rfl, rfl⟩)
    refine wp_loop_rounds 2 ?_
    rw [rounds_succ]
    go_wp2_with fail
    go_ret
    exact ⟨rfl, Gr.refl _⟩
end Go.Proofs.YtnbboheaheicnaaGreatDoor
namespace Go.Proofs.YtnbboheaheicnaaGreatDoor
open Go.RowKit Go.Lib
set_option linter.unusedSimpArgs false
set_option linter.unusedVariables false
theorem rowsV_slice {w : World} {v : Value} {xs : List RowR} (h : RowsV w v xs) : ∃ p c, v = .slice p xs.length c := by
  obtain ⟨⟨p, c, rfl, _⟩⟩ := h
  exact ⟨p, c, rfl⟩
theorem res_any {W : World} {v : Value} {xs : List RowR} (h : RowsV W v xs) (hl : ∀ x ∈ xs, x.xs.length ≤ 10) (hn : xs.length ≤ 162) :
    Calls Tryz.prog 8 #[v] W fun e w' => ∃ p c ys, e = .returned (.slice p xs.length c) ∧ RowsV w' (.slice p xs.length c) ys ∧ ys.map bare = xs.map bare ∧ Gr W w' := by
  obtain ⟨⟨p, cap, rfl, hcap, hh⟩⟩ := h
  by_cases h0 : 0 < xs.length
  · obtain ⟨b, off, rfl, hc⟩ := hh h0
    refine (results_pos xs xs.length b off cap W rfl (by omega) (fun x hx => by have := hl x hx; omega) hc).mono ?_
    rintro e w' ⟨v, gs, ys, rfl, ho, hcp, g⟩
    have hr := hcp.made.rows ho rfl (fun x hx => by have := hl x hx; omega)
    obtain ⟨p, c, rfl⟩ := rowsV_slice hr
    rw [hcp.leny] at hr ⊢
    exact ⟨p, c, ys, rfl, hr, hcp.bare, g⟩
  · have hz : xs = [] := List.length_eq_zero_iff.1 (by omega)
    subst hz
    refine (results_0 p cap W).mono ?_
    rintro e w' ⟨rfl, rfl⟩
    exact ⟨none, 0, [], rfl, ⟨none, 0, rfl, ⟨Nat.le_refl _, by unfold maxLen; omega⟩, fun h => absurd h (by simp)⟩, rfl, Gr.refl _⟩
theorem valid_any {xs : List RowR} (h : roundE xs = 0) : ValidB (xs.map bare) ∧ xs.length ≤ 160 := by
  unfold roundE at h
  by_cases h1 : 160 < xs.length
  · rw [if_pos h1] at h; omega
  · rw [if_neg h1] at h
    exact ⟨valid_of_zero h, by omega⟩
theorem rank_good (hS : SortFOK) {W : World} {p : Option Addr} {n c : Nat} {ys : List RowR} (h : RowsV W (.slice p n c) ys) (hn : ys.length = n) (h1 : n ≤ 160) (hSt : StatesIn W) (hV : ValidB (ys.map bare)) :
    Calls Tryz.prog 7 #[.slice p n c] W fun e w' => ∃ q k, e = .returned (.tuple #[.slice q n k, .int .i64 0]) ∧ ReadsI w' (.slice q n k) (ranksB (ys.map bare)) ∧ Gr W w' := by
  have hrl : (ranksB (ys.map bare)).length = n := by rw [ranksB_len, List.length_map, hn]
  by_cases h0 : 0 < n
  · refine (rank_ok hS ys h (by omega) (by omega) hSt (zero_of_valid hV)).mono ?_
    rintro e w' ⟨R, rfl, _, hh, g⟩
    rw [ranksL_bare] at hh
    refine ⟨some ⟨R, 0, none⟩, n, by rw [hn], ⟨_, n, by rw [hrl], fun _ => ⟨R, rfl, fun i x hx => cell_ints hh hx⟩⟩, g⟩
  · have hz : n = 0 := by omega
    subst hz
    refine (rank_none p c W).mono ?_
    rintro e w' ⟨q, k, rfl, g⟩
    exact ⟨q, k, rfl, ⟨_, k, by rw [hrl], fun h => by omega⟩, g⟩
theorem through_good (hS : SortFOK) (I : InsOK) {W : World} {p : Option Addr} {n c : Nat} {ys : List RowR} (h : RowsV W (.slice p n c) ys) (hn : ys.length = n) (h1 : n < 20) (hSt : StatesIn W) (hV : ValidB (ys.map bare)) (m : Int) (hm : outE m 0 160 = 0) :
    Calls Tryz.prog 9 #[.slice p n c, .int .i64 m] W fun e w' => ∃ q l k, e = .returned (.tuple #[.slice q l k, .int .i64 0]) ∧ StrsV w' (.slice q l k) (thruB (ys.map bare) m) ∧ Gr W w' := by
  by_cases h0 : 0 < n
  · refine (through_ok hS I h (by omega) (by omega) hSt hV m (outE_zero.1 hm)).mono ?_
    rintro e w' ⟨u, rfl, hu, g⟩
    obtain ⟨q, k, rfl, _, _⟩ := id hu.out
    exact ⟨q, _, k, rfl, hu, g⟩
  · have hz : n = 0 := by omega
    subst hz
    refine (through_none p c m hm W).mono ?_
    rintro e w' ⟨rfl, g⟩
    have hnil : thruB (ys.map bare) m = [] := List.length_eq_zero_iff.1 (by have := thruB_len (ys.map bare) m; rw [List.length_map, hn] at this; omega)
    rw [hnil]
    exact ⟨none, 0, 0, rfl, ⟨none, 0, rfl, ⟨Nat.le_refl _, by unfold maxLen; omega⟩, .inl ⟨rfl, rfl, rfl⟩⟩, g⟩
theorem refRank_good {W : World} {p : Option Addr} {n c : Nat} {ys : List RowR} (h : RowsV W (.slice p n c) ys) (hn : ys.length = n) (h1 : n ≤ 160) (hV : ValidB (ys.map bare)) :
    Calls Tryz.prog 13 #[.slice p n c] W fun e w' => ∃ u, e = .returned u ∧ ReadsI w' u (ranksB (ys.map bare)) ∧ Gr W w' := by
  have hrl : (ranksB (ys.map bare)).length = n := by rw [ranksB_len, List.length_map, hn]
  by_cases h0 : 0 < n
  · obtain ⟨⟨p', cap, e, hcap, hh⟩⟩ := h
    cases e
    obtain ⟨b, off, rfl, hc⟩ := hh (by omega)
    refine (refRank_pos ys ys.length b off c W rfl h1 hV hc).mono ?_
    rintro e w' ⟨v, rfl, ho, g⟩
    exact ⟨v, rfl, reads_of_owns (by rw [hrl]; exact ho), g⟩
  · have hz : n = 0 := by omega
    subst hz
    refine (refRank_nil p c W).mono ?_
    rintro e w' ⟨rfl, rfl⟩
    exact ⟨_, rfl, ⟨none, 0, by rw [hrl], fun h => by omega⟩, Gr.refl _⟩
theorem refThrough_good {W : World} {p : Option Addr} {n c : Nat} {ys : List RowR} (h : RowsV W (.slice p n c) ys) (hn : ys.length = n) (h1 : n ≤ 160) (hV : ValidB (ys.map bare)) (m : Int) (hm : outE m 0 160 = 0) :
    Calls Tryz.prog 15 #[.slice p n c, .int .i64 m] W fun e w' => ∃ u, e = .returned u ∧ StrsV w' u (thruB (ys.map bare) m) ∧ Gr W w' := by
  obtain ⟨hm0, hm1⟩ := outE_zero.1 hm
  obtain ⟨mm, rfl⟩ : ∃ mm : Nat, m = mm := ⟨m.toNat, by omega⟩
  by_cases h0 : 0 < n
  · obtain ⟨⟨p', cap, e, hcap, hh⟩⟩ := h
    cases e
    obtain ⟨b, off, rfl, hc⟩ := hh (by omega)
    exact refThrough_pos ys ys.length b off c mm W rfl h0 h1 (by omega) hV hc
  · have hz : n = 0 := by omega
    subst hz
    refine (refThrough_none p c _ W).mono ?_
    rintro e w' ⟨rfl, g⟩
    have hnil : thruB (ys.map bare) mm = [] := List.length_eq_zero_iff.1 (by have := thruB_len (ys.map bare) mm; rw [List.length_map, hn] at this; omega)
    rw [hnil]
    exact ⟨_, rfl, ⟨none, 0, rfl, ⟨Nat.le_refl _, by unfold maxLen; omega⟩, .inl ⟨rfl, rfl, rfl⟩⟩, g⟩
set_option maxHeartbeats 2000000
set_option maxRecDepth 100000
theorem rounds_short (p : Option Addr) (n cap : Nat) (u : Value) (w : World) (hA : AwakeOn w)
    (hS : Calls Tryz.prog 5 #[.slice p n cap, .int .i64 10] w fun e w' => e = .returned (.bool false) ∧ w = w') :
    Calls Tryz.prog 3 #[.slice p n cap, u] w fun e w' => e = .returned (.bool true) ∧ Gr w w' := by
  have HS := Lib.hid hS
  have HA : Hid (AwakeOn w) := hA
  clear hS hA
  go_enter Tryz.func3, Tryz.ntmps3
  go_wp2_with (first
    | (refine HS.out.mono ?_; rintro e w4 ⟨rfl, rfl⟩)
    | (refine (HA.out _ (Gr.refl _)).mono ?_; rintro e w5 ⟨rfl, g5⟩))
  go_ret
  exact ⟨rfl, g5⟩
/-- a round with an error -/
theorem rounds_bad (xs : List RowR) (p : Option Addr) (n cap : Nat) (m : Int) (w : World) (hn : xs.length = n) (h : RowsV w (.slice p n cap) xs) (hl : ∀ x ∈ xs, x.xs.length ≤ 10) (h2 : n ≤ 162) (hSt : StatesIn w) (hA : AwakeOn w) (hE : roundE xs ≠ 0)
    (hS : Calls Tryz.prog 5 #[.slice p n cap, .int .i64 10] w fun e w' => e = .returned (.bool true) ∧ w = w') :
    Calls Tryz.prog 3 #[.slice p n cap, .int .i64 m] w fun e w' => e = .returned (.bool true) ∧ Gr w w' := by
  have HS := Lib.hid hS
  have HA : Hid (AwakeOn w) := hA
  have HRes := Lib.hid (fun W (g : Gr w W) => res_any (h.gr g) hl (by omega))
  have HRef := Lib.hid (fun W (g : Gr w W) => refRound_any (h.gr g))
  rw [hn] at HRes
  have HB := Lib.hid (fun (ys : List RowR) (hb : ys.map bare = xs.map bare) => roundE_bare hb)
  have HF := Lib.hid (show firstE [roundE xs, outE m 0 160] = roundE xs from by simp only [firstE]; rw [if_neg hE])
  have HSt : Hid (StatesIn w) := hSt
  generalize hEE : roundE xs = E at *
  have HE0 : Hid (E ≠ 0) := hE
  have hE2 : (E != 0) = true := bne_iff_ne.2 hE
  have hE3 : (E == 0) = false := beq_eq_false_iff_ne.2 hE
  clear hS hA h hl hE hEE hSt
  go_enter Tryz.func3, Tryz.ntmps3
  go_wp2_with (first
    | (refine HS.out.mono ?_; rintro e w4 ⟨rfl, rfl⟩))
  refine (HRes.out _ (Gr.refl _)).mono ?_
  rintro e w1 ⟨p1, c1, ys1, rfl, hr1, hb1, g1⟩
  have hc1 := checkRound_any hr1 (HSt.out.gr g1)
  rw [HB.out _ hb1] at hc1
  go_wp2_with fail
  refine (rank_bad HE0.out hc1).mono ?_
  rintro e w2 ⟨rfl, g2⟩
  have g02 := g1.trans g2
  clear hr1 hb1 hc1
  go_wp2_with fail
  refine (HRes.out _ g02).mono ?_
  rintro e w3 ⟨p3, c3, ys3, rfl, hr3, hb3, g3⟩
  have hc3 := checkRound_any hr3 (HSt.out.gr (g02.trans g3))
  rw [HB.out _ hb3] at hc3
  go_wp2_with fail
  refine (through_bad (m := m) (by rw [HF.out]; exact HE0.out) hc3).mono ?_
  rintro e w4 ⟨rfl, g4⟩
  rw [HF.out]
  have g04 := (g02.trans g3).trans g4
  clear hr3 hb3 hc3
  go_wp2_with fail
  refine (HRef.out _ g04).mono ?_
  rintro e w5 ⟨rfl, g5⟩
  have g05 := g04.trans g5
  go_wp2_with fail
  refine (HRes.out _ g05).mono ?_
  rintro e w6 ⟨p6, c6, ys6, rfl, hr6, hb6, g6⟩
  have hc6 := checkRound_any hr6 (HSt.out.gr (g05.trans g6))
  rw [HB.out _ hb6] at hc6
  go_wp2_with fail
  refine hc6.mono ?_
  rintro e w7 ⟨rfl, g7⟩
  have g07 := (g05.trans g6).trans g7
  go_wp2_with (refine (HA.out _ g07).mono ?_; rintro e w8 ⟨rfl, g8⟩)
  go_ret
  exact ⟨rfl, g07.trans g8⟩
/-- a number of places out of range -/
theorem rounds_range (hS0 : SortFOK) (xs : List RowR) (p : Option Addr) (n cap : Nat) (m : Int) (w : World) (hn : xs.length = n) (h : RowsV w (.slice p n cap) xs) (hl : ∀ x ∈ xs, x.xs.length ≤ 10) (h2 : n ≤ 162) (hSt : StatesIn w) (hA : AwakeOn w) (hE : roundE xs = 0) (hm : m < 0 ∨ 160 < m)
    (hS : Calls Tryz.prog 5 #[.slice p n cap, .int .i64 10] w fun e w' => e = .returned (.bool true) ∧ w = w') :
    Calls Tryz.prog 3 #[.slice p n cap, .int .i64 m] w fun e w' => e = .returned (.bool true) ∧ Gr w w' := by
  have HO := Lib.hid (show outE m 0 160 = 3 from by rcases outE_or m 0 160 with e | e; · have := outE_zero.1 e; omega
                                                    · exact e)
  have HS := Lib.hid hS
  have HA : Hid (AwakeOn w) := hA
  obtain ⟨hV, hn160⟩ := valid_any hE
  have HV := Lib.hid hV
  have HArg := Lib.hid (fun W (g : Gr w W) => h.gr g)
  have HRes := Lib.hid (fun W (g : Gr w W) => res_any (h.gr g) hl (by omega))
  have HRef := Lib.hid (fun W (g : Gr w W) => refRound_any (h.gr g))
  rw [hn] at HRes
  rw [hE] at HRef
  have HB := Lib.hid (fun (ys : List RowR) (hb : ys.map bare = xs.map bare) => (show roundE ys = 0 from (roundE_bare hb).trans hE))
  have HSt : Hid (StatesIn w) := hSt
  have HLn := Lib.hid (fun (ys : List RowR) (hb : ys.map bare = xs.map bare) => (show ys.length = n from by have := congrArg List.length hb; simpa [hn] using this))
  clear hS hA h hl hE hSt hV
  go_enter Tryz.func3, Tryz.ntmps3
  go_wp2_with (first
    | (refine HS.out.mono ?_; rintro e w4 ⟨rfl, rfl⟩))
  refine (HRes.out _ (Gr.refl _)).mono ?_
  rintro e w1 ⟨p1, c1, ys1, rfl, hr1, hb1, g1⟩
  have hk1 := rank_good hS0 hr1 (HLn.out _ hb1) (by omega) (HSt.out.gr g1) (by rw [hb1]; exact HV.out)
  rw [hb1] at hk1
  go_wp2_with fail
  refine hk1.mono ?_
  rintro e w2 ⟨q1, k1, rfl, hrd, g2⟩
  have g02 := g1.trans g2
  have HRD := Lib.hid hrd
  clear hr1 hb1 hk1 hrd
  go_wp2_with fail
  refine (HRes.out _ g02).mono ?_
  rintro e w3 ⟨p3, c3, ys3, rfl, hr3, hb3, g3⟩
  have hc3 := checkRound_any hr3 (HSt.out.gr (g02.trans g3))
  rw [HB.out _ hb3] at hc3
  have hF : firstE [0, outE m 0 160] = 3 := by rw [HO.out]; rfl
  have ht3 := through_bad (m := m) (by rw [hF]; decide) hc3
  rw [hF] at ht3
  clear hF hc3
  go_wp2_with fail
  refine ht3.mono ?_
  rintro e w4 ⟨rfl, g4⟩
  have g04 := (g02.trans g3).trans g4
  clear ht3
  clear hr3 hb3
  go_wp2_with fail
  refine (HRef.out _ g04).mono ?_
  rintro e w5 ⟨rfl, g5⟩
  have g05 := g04.trans g5
  go_wp2_with fail
  refine (HRes.out _ g05).mono ?_
  rintro e w6 ⟨p6, c6, ys6, rfl, hr6, hb6, g6⟩
  have hc6 := checkRound_any hr6 (HSt.out.gr (g05.trans g6))
  rw [HB.out _ hb6] at hc6
  go_wp2_with fail
  refine hc6.mono ?_
  rintro e w7 ⟨rfl, g7⟩
  have g07 := (g05.trans g6).trans g7
  have g27 := (((g3.trans g4).trans g5).trans g6).trans g7
  clear hr6 hb6 hc6
  go_wp2_with fail
  refine (refRank_good (HArg.out _ g07) hn (by omega) HV.out).mono ?_
  rintro e w8 ⟨u8, rfl, hu8, g8⟩
  have hs8 := same_c (HRD.out.gr (g27.trans g8)) hu8 (by rw [ranksB_len, List.length_map, hn]; omega)
  clear hu8
  go_wp2_with fail
  refine hs8.mono ?_
  rintro e w9 ⟨rfl, g9⟩
  have g09 := (g07.trans g8).trans g9
  clear hs8
  rcases hm with hm | hm
  · go_wp2_with (refine (HA.out _ g09).mono ?_; rintro e wA ⟨rfl, gA⟩)
    go_ret
    exact ⟨rfl, g09.trans gA⟩
  · have hm0 : ¬ m < 0 := by omega
    go_wp2_with (refine (HA.out _ g09).mono ?_; rintro e wA ⟨rfl, gA⟩)
    go_ret
    exact ⟨rfl, g09.trans gA⟩
/-- a round without an error -/
theorem rounds_fine (hS0 : SortFOK) (I : InsOK) (xs : List RowR) (p : Option Addr) (n cap : Nat) (m : Int) (w : World) (hn : xs.length = n) (h : RowsV w (.slice p n cap) xs) (hl : ∀ x ∈ xs, x.xs.length ≤ 10) (h2 : n ≤ 10) (hSt : StatesIn w) (hA : AwakeOn w) (hE : roundE xs = 0) (hm0 : ¬ m < 0) (hm1 : ¬ 160 < m)
    (hS : Calls Tryz.prog 5 #[.slice p n cap, .int .i64 10] w fun e w' => e = .returned (.bool true) ∧ w = w') :
    Calls Tryz.prog 3 #[.slice p n cap, .int .i64 m] w fun e w' => e = .returned (.bool true) ∧ Gr w w' := by
  have HO := Lib.hid (show outE m 0 160 = 0 from outE_zero.2 ⟨by omega, by omega⟩)
  have HS := Lib.hid hS
  have HA : Hid (AwakeOn w) := hA
  obtain ⟨hV, hn160⟩ := valid_any hE
  have HV := Lib.hid hV
  have HArg := Lib.hid (fun W (g : Gr w W) => h.gr g)
  have HRes := Lib.hid (fun W (g : Gr w W) => res_any (h.gr g) hl (by omega))
  have HRef := Lib.hid (fun W (g : Gr w W) => refRound_any (h.gr g))
  rw [hn] at HRes
  rw [hE] at HRef
  have HB := Lib.hid (fun (ys : List RowR) (hb : ys.map bare = xs.map bare) => (show roundE ys = 0 from (roundE_bare hb).trans hE))
  have HSt : Hid (StatesIn w) := hSt
  have HLn := Lib.hid (fun (ys : List RowR) (hb : ys.map bare = xs.map bare) => (show ys.length = n from by have := congrArg List.length hb; simpa [hn] using this))
  clear hS hA h hl hE hSt hV
  go_enter Tryz.func3, Tryz.ntmps3
  go_wp2_with (first
    | (refine HS.out.mono ?_; rintro e w4 ⟨rfl, rfl⟩))
  refine (HRes.out _ (Gr.refl _)).mono ?_
  rintro e w1 ⟨p1, c1, ys1, rfl, hr1, hb1, g1⟩
  have hk1 := rank_good hS0 hr1 (HLn.out _ hb1) (by omega) (HSt.out.gr g1) (by rw [hb1]; exact HV.out)
  rw [hb1] at hk1
  go_wp2_with fail
  refine hk1.mono ?_
  rintro e w2 ⟨q1, k1, rfl, hrd, g2⟩
  have g02 := g1.trans g2
  have HRD := Lib.hid hrd
  clear hr1 hb1 hk1 hrd
  go_wp2_with fail
  refine (HRes.out _ g02).mono ?_
  rintro e w3 ⟨p3, c3, ys3, rfl, hr3, hb3, g3⟩
  have ht3 := through_good hS0 I hr3 (HLn.out _ hb3) (by omega) (HSt.out.gr (g02.trans g3)) (by rw [hb3]; exact HV.out) m HO.out
  rw [hb3] at ht3
  go_wp2_with fail
  refine ht3.mono ?_
  rintro e w4 ⟨q4, l4, k4, rfl, hw4, g4⟩
  have g04 := (g02.trans g3).trans g4
  have HW4 := Lib.hid hw4
  clear ht3 hw4
  clear hr3 hb3
  go_wp2_with fail
  refine (HRef.out _ g04).mono ?_
  rintro e w5 ⟨rfl, g5⟩
  have g05 := g04.trans g5
  go_wp2_with fail
  refine (HRes.out _ g05).mono ?_
  rintro e w6 ⟨p6, c6, ys6, rfl, hr6, hb6, g6⟩
  have hc6 := checkRound_any hr6 (HSt.out.gr (g05.trans g6))
  rw [HB.out _ hb6] at hc6
  go_wp2_with fail
  refine hc6.mono ?_
  rintro e w7 ⟨rfl, g7⟩
  have g07 := (g05.trans g6).trans g7
  have g27 := (((g3.trans g4).trans g5).trans g6).trans g7
  clear hr6 hb6 hc6
  go_wp2_with fail
  refine (refRank_good (HArg.out _ g07) hn (by omega) HV.out).mono ?_
  rintro e w8 ⟨u8, rfl, hu8, g8⟩
  have hs8 := same_c (HRD.out.gr (g27.trans g8)) hu8 (by rw [ranksB_len, List.length_map, hn]; omega)
  clear hu8
  go_wp2_with fail
  refine hs8.mono ?_
  rintro e w9 ⟨rfl, g9⟩
  have g09 := (g07.trans g8).trans g9
  clear hs8
  have g49 := ((((g5.trans g6).trans g7).trans g8).trans g9)
  go_wp2_with fail
  refine (refThrough_good (HArg.out _ g09) hn (by omega) HV.out m HO.out).mono ?_
  rintro e wA ⟨uA, rfl, hwA, gA⟩
  have hsA := sameWords_c (HW4.out.gr (g49.trans gA)) hwA (by have := thruB_len (xs.map bare) m; rw [List.length_map, hn] at this; omega)
  clear hwA
  go_wp2_with fail
  refine hsA.mono ?_
  rintro e wB ⟨rfl, gB⟩
  have g0B := (g09.trans gA).trans gB
  clear hsA
  go_wp2_with (refine (HA.out _ g0B).mono ?_; rintro e wC ⟨rfl, gC⟩)
  go_ret
  exact ⟨rfl, g0B.trans gC⟩
end Go.Proofs.YtnbboheaheicnaaGreatDoor
