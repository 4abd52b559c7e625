/- Draws: the reference's. -/
import Derived.Test.YtaapaijdcgpdkaaGMapM
import Derived.Test.YtaapaijdcgpdkaaGNmsB
import Derived.Test.YtaapaijdcgpdkaaDrB
import Derived.Shelf.SlSortCmp.Kit1
import Derived.Sort.Grow
namespace Go.Proofs.Ytaapaijdcgpdkaa
open Go.RowKit Go.Lib
set_option linter.unusedSimpArgs false
set_option linter.unusedVariables false
theorem refDrawE_c (key n : Int) (w : World) :
    Calls Try.prog 18 #[.int .i64 key, .int .i64 n] w fun e w' => e = .returned (.int .i64 (drawE key n)) ∧ w = w' := by
  have HE : Hid (drawE key n = if decide (key < 1) || decide (2147483646 < key) || decide (n < 0) || decide (256 < n) then 3 else 0) := by
    unfold Hid drawE
    rw [show decide ((2147483647 : Int) ≤ key) = decide ((2147483646 : Int) < key) from decide_eq_decide.2 (by omega)]
  cases h1 : decide (key < 1) <;> cases h2 : decide ((2147483646 : Int) < key) <;> cases h3 : decide (n < 0) <;> cases h4 : decide (256 < n)
  all_goals
    rw [h1, h2, h3, h4] at HE
    go_enter Try.func18, Try.ntmps18
    go_wp2_with fail
    go_ret
    exact ⟨by rw [HE.out]; rfl, rfl⟩
/-- the first words of block g are these numbers -/
structure RowP (w : World) (g : Nat) (l : Array Nat) : Prop where
  mk' ::
  out : ∃ cur, w.heap[g]? = some (.cells cur 3 (0, 0)) ∧ ∀ i, i < l.size → cur[i]? = some (.int .i64 ((l.getD i 0 : Nat) : Int))
theorem RowP.cell {w : World} {g : Nat} {l : Array Nat} (h : RowP w g l) {i : Nat} (hi : i < l.size) : w.cell? ⟨g, i, none⟩ = some (.int .i64 ((l.getD i 0 : Nat) : Int)) := by
  obtain ⟨cur, h1, h2⟩ := h.out
  rw [cell_of_row w g i _ 3 (0, 0) h1]
  exact h2 i hi
theorem RowP.frozen {w : World} {g : Nat} {l : Array Nat} (h : RowP w g l) (i : Nat) : w.frozen? ⟨g, i, none⟩ = false := by
  obtain ⟨cur, h1, h2⟩ := h.out
  exact frozen_of_row w g i _ 3 h1
theorem RowP.set {w : World} {g : Nat} {l : Array Nat} (h : RowP w g l) (i x : Nat) (hi : i < l.size) : RowP (w.setCell ⟨g, i, none⟩ (.int .i64 (x : Int))) g (l.setIfInBounds i x) := by
  obtain ⟨cur, h1, h2⟩ := h.out
  refine ⟨cur.setIfInBounds i (.int .i64 (x : Int)), heap_setCell_same w g i _ 3 _ h1, fun j hj => ?_⟩
  rw [Array.size_setIfInBounds] at hj
  by_cases e : i = j
  · subst e
    have hc := (Array.getElem?_eq_some_iff.1 (h2 i hi)).1
    rw [Array.getElem?_setIfInBounds_self_of_lt hc]
    simp [Array.getD, hi]
  · rw [Array.getElem?_setIfInBounds_ne e, h2 j hj]
    simp [Array.getD, hj, Array.getElem_setIfInBounds, e]
theorem RowP.drew {w : World} {g : Nat} {l : Array Nat} (h : RowP w g l) : RowP w.drew g l := ⟨h.out⟩
def natC (n : Nat) : List Value := (List.range n).map fun x : Nat => Value.int .i64 (x : Int)
theorem natC_len (n : Nat) : (natC n).length = n := by simp [natC]
theorem natC_add (n : Nat) : natC (n + 1) = natC n ++ [.int .i64 (n : Int)] := by simp [natC, List.range_succ]
theorem cell_int (w : World) (x : Int) (T : TypeId) : ∀ (j : Nat) (u : Value), [Value.int .i64 x][j]? = some u → (w.alloc (.cells #[.int .i64 x] T)).cell? ((⟨w.heap.size, 0, none⟩ : Addr).add j) = some u := cell_one_new w (.int .i64 x) T
end Go.Proofs.Ytaapaijdcgpdkaa
namespace Go.Proofs.Ytaapaijdcgpdkaa
open Go.RowKit Go.Lib
set_option linter.unusedSimpArgs false
set_option linter.unusedVariables false
theorem draw0_c (key : Int) (w : World) :
    Calls Try.prog 10 #[.int .i64 key, .int .i64 0] w fun e w' => (∃ u, e = .returned (.tuple #[u, .int .i64 (drawE key 0)])) ∧ Gr w w' := by
  by_cases h : drawE key 0 = 0
  · obtain ⟨h1, h2, _, _⟩ := drawE_zero h
    obtain ⟨k, rfl⟩ : ∃ k : Nat, key = k := ⟨key.toNat, by omega⟩
    refine (draw_good k 0 w (by omega) (by omega) (by omega)).mono ?_
    rintro e w' ⟨rfl, _, _, g⟩
    exact ⟨⟨_, by rw [h]⟩, g⟩
  · refine (draw_bad key 0 w h).mono ?_
    rintro e w' ⟨rfl, rfl⟩
    exact ⟨⟨_, rfl⟩, Gr.refl _⟩
/-- the error of a pick -/
def pickE (c sp key : Int) : Int := firstE [outE c 0 160, outE sp 0 99999, drawE key 0]
set_option maxHeartbeats 1000000 in
set_option maxRecDepth 100000 in
theorem checkPick_c (c sp key : Int) (w : World) :
    Calls Try.prog 25 #[.agg #[.int .i64 c, .int .i64 sp, .int .i64 key]] w fun e w' => e = .returned (.int .i64 (pickE c sp key)) ∧ Gr w w' := by
  have hR : pickE c sp key = firstE [outE c 0 160, outE sp 0 99999, drawE key 0] := rfl
  have HD := Lib.hid (fun W => draw0_c key W)
  obtain ⟨e1, h1', H1⟩ := range_e c 0 160
  obtain ⟨e2, h2', H2⟩ := day_e sp
  generalize drawE key 0 = e3 at *
  rw [← h1', ← h2'] at hR
  have hF := first_three e1 e2 e3
  rw [← hR] at hF
  generalize pickE c sp key = err at *
  replace H1 := Lib.hid H1
  replace H2 := Lib.hid H2
  have HF := Lib.hid hF
  obtain ⟨W, hW, g, a0, a1, a2⟩ := box3 w (.int .i64 c) (.int .i64 sp) (.int .i64 key) 25
  have HW := Lib.hid hW
  clear hW hF hR h1' h2'
  go_enter Try.func25, Try.ntmps25
  go_wp2_with fail
  rw [HW.out]
  generalize w.heap.size = Bx at *
  clear HW
  refine (HD.out _).mono ?_
  rintro e W1 ⟨⟨u, rfl⟩, hg⟩
  replace a0 := hg.cell a0
  replace a1 := hg.cell a1
  replace a2 := hg.cell a2
  replace g := g.trans hg
  clear hg
  go_wp2_with fail
  have gd := (Gr.refl W1).drew
  replace a0 := gd.cell a0
  replace a1 := gd.cell a1
  replace a2 := gd.cell a2
  replace g := g.trans gd
  clear gd
  refine wp_region_held_drew (S := (fun w' => w'.cell? ⟨Bx, 0, none⟩ = some (.int .i64 c) ∧ w'.cell? ⟨Bx, 1, none⟩ = some (.int .i64 sp) ∧ w'.cell? ⟨Bx, 2, none⟩ = some (.int .i64 key))) (by kernel_rfl) ⟨a0, a1, a2⟩ (fun hHeld => ?_)
  generalize W1.drew = V at *
  refine wpAnyH_take (i := 0) (v := (.pointer (some ⟨Bx, 0, none⟩))) (op_at rfl) (by kernel_rfl) (by kernel_rfl) (by kernel_rfl) (fun _ _ _ h => h) (Or.inl ⟨rfl, fun w hSw => ?_⟩) (by assumption) ?_
  · (try dsimp only at hSw); go_simp; try with_reducible rfl
  (try simp only [Act.put, List.setIfInBounds_toArray, List.set_cons_zero, List.set_cons_succ])
  refine wpAnyH_take (i := 1) (v := (.int .i64 c)) (op_at rfl) (by kernel_rfl) (by kernel_rfl) (by kernel_rfl) (fun _ _ _ h => h) (Or.inl ⟨rfl, fun w hSw => ?_⟩) (by assumption) ?_
  · (try dsimp only at hSw); go_simp; try with_reducible rfl
  (try simp only [Act.put, List.setIfInBounds_toArray, List.set_cons_zero, List.set_cons_succ])
  refine wpAnyH_take (i := 3) (v := (.pointer (some ⟨Bx, 1, none⟩))) (op_at rfl) (by kernel_rfl) (by kernel_rfl) (by kernel_rfl) (fun _ _ _ h => h) (Or.inl ⟨rfl, fun w hSw => ?_⟩) (by assumption) ?_
  · (try dsimp only at hSw); go_simp; try with_reducible rfl
  (try simp only [Act.put, List.setIfInBounds_toArray, List.set_cons_zero, List.set_cons_succ])
  refine wpAnyH_take (i := 4) (v := (.int .i64 sp)) (op_at rfl) (by kernel_rfl) (by kernel_rfl) (by kernel_rfl) (fun _ _ _ h => h) (Or.inl ⟨rfl, fun w hSw => ?_⟩) (by assumption) ?_
  · (try dsimp only at hSw); go_simp; try with_reducible rfl
  (try simp only [Act.put, List.setIfInBounds_toArray, List.set_cons_zero, List.set_cons_succ])
  refine wpAnyH_take (i := 6) (v := (.int .i64 e3)) (op_at rfl) (by kernel_rfl) (by kernel_rfl) (by kernel_rfl) (fun _ _ _ h => h) (Or.inl ⟨rfl, fun w hSw => ?_⟩) (by assumption) ?_
  · (try dsimp only at hSw); go_simp; try with_reducible rfl
  (try simp only [Act.put, List.setIfInBounds_toArray, List.set_cons_zero, List.set_cons_succ])
  refine wpAnyH_ready (rs := [2]) (by kernel_rfl) (by simp) (AllReadyH.cons (op_at rfl) (fun K hK => ?_) AllReadyH.nil)
  go_simp
  (refine (H1.out _).mono ?_; rintro e w' ⟨rfl, rfl⟩)
  go_wp2_with fail
  refine hK.out _ _ ⟨a0, a1, a2⟩ (fun hHeld => ?_)
  clear hK K
  (try simp only [Act.put, List.setIfInBounds_toArray, List.set_cons_zero, List.set_cons_succ])
  refine wpAnyH_ready (rs := [5]) (by kernel_rfl) (by simp) (AllReadyH.cons (op_at rfl) (fun K hK => ?_) AllReadyH.nil)
  go_simp
  (refine (H2.out _).mono ?_; rintro e w' ⟨rfl, rfl⟩)
  go_wp2_with fail
  refine hK.out _ _ ⟨a0, a1, a2⟩ (fun hHeld => ?_)
  clear hK K
  (try simp only [Act.put, List.setIfInBounds_toArray, List.set_cons_zero, List.set_cons_succ])
  refine wpAnyH_ready (rs := [7]) (by kernel_rfl) (by simp) (AllReadyH.cons (op_at rfl) (fun K hK => ?_) AllReadyH.nil)
  go_simp
  obtain ⟨WW, hWW, gW, s0, s1, s2⟩ := box3 V (.int .i64 e1) (.int .i64 e2) (.int .i64 e3) 35
  rw [hWW]
  clear hWW
  replace a0 := gW.cell a0
  replace a1 := gW.cell a1
  replace a2 := gW.cell a2
  replace g := g.trans gW
  refine hK.out _ _ ⟨a0, a1, a2⟩ (fun hHeld => ?_)
  clear hK K
  (try simp only [Act.put, List.setIfInBounds_toArray, List.set_cons_zero, List.set_cons_succ])
  refine wpAnyH_ready (rs := [8]) (by kernel_rfl) (by simp) (AllReadyH.cons (op_at rfl) (fun K hK => ?_) AllReadyH.nil)
  go_simp
  (refine (HF.out _ _ WW s0 s1 s2).mono ?_; rintro e w8 ⟨rfl, rfl⟩)
  go_wp2_with fail
  refine hK.out _ _ ⟨a0, a1, a2⟩ (fun hHeld => ?_)
  clear hK K
  (try simp only [Act.put, List.setIfInBounds_toArray, List.set_cons_zero, List.set_cons_succ])
  refine wpAnyH_take (i := 9) (v := (.int .i64 err)) (op_at rfl) (by kernel_rfl) (by kernel_rfl) (by kernel_rfl) (fun _ _ _ h => h) (Or.inl ⟨rfl, fun w hSw => ?_⟩) (by assumption) ?_
  · (try dsimp only at hSw); go_simp; try with_reducible rfl
  (try simp only [Act.put, List.setIfInBounds_toArray, List.set_cons_zero, List.set_cons_succ])
  refine wpAnyH_done (by kernel_rfl) ?_ _
  go_wp2_with fail
  go_ret
  exact ⟨rfl, g⟩
theorem pickE_eq (c sp key : Int) : pickE c sp key = if (outB c 0 160 || outB sp 0 99999) = true then 3 else drawE key 0 := by
  unfold pickE outE
  cases outB c 0 160 <;> cases outB sp 0 99999 <;> simp [firstE]
  intro h; exact h.symm
set_option maxHeartbeats 1000000 in
set_option maxRecDepth 100000 in
theorem refPick_c (c sp key : Int) (w : World) :
    Calls Try.prog 8 #[.agg #[.int .i64 c, .int .i64 sp, .int .i64 key]] w fun e w' => e = .returned (.int .i64 (pickE c sp key)) ∧ Gr w w' := by
  have hR := Lib.hid (pickE_eq c sp key)
  have HO1 := Lib.hid (fun W => refOutside_c c 0 160 W)
  have HO2 := Lib.hid (fun W => refOutside_c sp 0 99999 W)
  have HD := Lib.hid (fun W => refDrawE_c key 0 W)
  generalize drawE key 0 = e3 at *
  generalize outB c 0 160 = o1 at *
  generalize outB sp 0 99999 = o2 at *
  obtain ⟨W, hW, g, a0, a1, a2⟩ := box3 w (.int .i64 c) (.int .i64 sp) (.int .i64 key) 32
  have HW := Lib.hid hW
  have HG := Lib.hid g
  clear hW g
  cases o1 <;> cases o2
  all_goals
    go_enter Try.func8, Try.ntmps8
    go_wp2_with fail
    rw [HW.out]
    refine (HO1.out _).mono ?_
    rintro e W1 ⟨rfl, rfl⟩
    go_wp2_with fail
    repeat (first
      | (with_reducible refine (HO2.out _).mono ?_; rintro e W1 ⟨rfl, rfl⟩; go_wp2_with fail)
      | (with_reducible refine (HD.out _).mono ?_; rintro e W1 ⟨rfl, rfl⟩; go_wp2_with fail))
    go_ret
    exact ⟨by rw [hR.out]; rfl, HG.out⟩
theorem refNms_nil (p : Option Addr) (cap : Nat) (w : World) :
    Calls Try.prog 15 #[.slice p 0 cap] w fun e w' => e = .returned (.int .i64 0) ∧ w = w' := by
  go_enter Try.func15, Try.ntmps15
  go_wp2_with fail
  refine wp_loop_rounds 2 ?_
  rw [rounds_succ]
  go_wp2_with fail
  go_ret
  exact ⟨rfl, rfl⟩
theorem refList_c {v : Value} {xs : List ByteArray} {w : World} (h : StrAts w v xs) :
    Calls Try.prog 6 #[v] w fun e w' => e = .returned (.int .i64 (listE 160 (strE xs) xs)) ∧ Gr w w' := by
  obtain ⟨⟨p, cap, rfl, ⟨hcap, hmx⟩, hh⟩⟩ := h
  rcases Nat.lt_or_ge 160 xs.length with hl | hl
  · have HE : Hid (listE 160 (strE xs) xs = 5) := by unfold Hid listE; rw [if_pos hl]
    have hz2 : decide ((160 : Int) < xs.length) = true := decide_eq_true (by omega)
    clear hh
    generalize xs.length = n at *
    go_enter Try.func6, Try.ntmps6
    go_wp2_with fail
    all_goals
      go_ret
      exact ⟨by rw [HE.out]; rfl, Gr.refl _⟩
  · have HE : Hid (listE 160 (strE xs) xs = errG (strE xs) xs xs.length 0) := by unfold Hid listE; rw [if_neg (by omega)]
    have hz2 : decide ((160 : Int) < xs.length) = false := decide_eq_false (by omega)
    have HK : Hid (∀ W, Gr w W → Calls Try.prog 15 #[.slice p xs.length cap] W fun e w' => e = .returned (.int .i64 (errG (strE xs) xs xs.length 0)) ∧ Gr W w') := by
      intro W g
      rcases Nat.eq_zero_or_pos xs.length with h0 | h0
      · rw [h0]
        refine (refNms_nil p cap W).mono ?_
        rintro e w' ⟨rfl, rfl⟩
        exact ⟨rfl, Gr.refl _⟩
      · obtain ⟨b, off, rfl, hc⟩ := hh h0
        exact refNms_pos xs _ b off cap W rfl (by omega) hcap (fun i x hx => (hc i x hx).gr g)
    rw [HE.out]
    generalize errG (strE xs) xs xs.length 0 = z at *
    clear hh HE
    generalize xs.length = n at *
    go_enter Try.func6, Try.ntmps6
    go_wp2_with fail
    refine (HK.out _ (Gr.refl _)).mono ?_
    rintro e w4 ⟨rfl, hg⟩
    go_wp2_with fail
    go_ret
    exact ⟨rfl, hg⟩
end Go.Proofs.Ytaapaijdcgpdkaa
namespace Go.Proofs.Ytaapaijdcgpdkaa
open Go.RowKit Go.Lib
set_option linter.unusedSimpArgs false
set_option linter.unusedVariables false
def lateE (cs : List ByteArray) (xs : List TstR) (ds d : Int) : Int := firstE [listE 160 (strE cs) cs, listE 256 (tstE xs) xs, outE ds 0 99999, outE d 0 99999]
theorem tst_range {xs : List TstR} (h : listE 256 (tstE xs) xs = 0) : xs.length ≤ 256 ∧ ∀ y ∈ xs, 0 ≤ y.dy ∧ y.dy ≤ 99999 := by
  unfold listE at h
  split at h
  · cases h
  · rename_i hl
    refine ⟨by omega, fun x hm => ?_⟩
    obtain ⟨i, hi, hx⟩ := List.mem_iff_getElem.1 hm
    have h0 := errG_zero xs.length 0 h (by omega) i x (by omega) (by omega) (by rw [List.getElem?_eq_getElem hi, hx])
    unfold tstE at h0
    exact outE_zero.1 (firstE_zero h0 (outE x.dy 0 99999) (by simp))
theorem str_len {cs : List ByteArray} (h : listE 160 (strE cs) cs = 0) : cs.length ≤ 160 := by
  unfold listE at h
  split at h
  · cases h
  · omega
theorem lateE_zero {cs : List ByteArray} {xs : List TstR} {ds d : Int} (h : lateE cs xs ds d = 0) : listE 160 (strE cs) cs = 0 ∧ listE 256 (tstE xs) xs = 0 ∧ (0 ≤ ds ∧ ds ≤ 99999) ∧ 0 ≤ d ∧ d ≤ 99999 := by
  unfold lateE at h
  exact ⟨firstE_zero h _ (by simp), firstE_zero h _ (by simp), outE_zero.1 (firstE_zero h (outE ds 0 99999) (by simp)), outE_zero.1 (firstE_zero h (outE d 0 99999) (by simp))⟩
theorem late_iff {xs : List TstR} (h : ∀ x ∈ xs, 0 ≤ x.dy) (s : ByteArray) (ds d : Int) : decide (lastT xs s (d - ds) d < 0) = (decide (lastZ (lastD d s) xs (-1) < 0) || decide (lastZ (lastD d s) xs (-1) < d - ds)) := by
  have := last_span s (d - ds) d xs (-1) (-1) h (.inl ⟨by omega, .inl (by omega)⟩)
  unfold lastT
  rw [← Bool.decide_or]
  apply decide_eq_decide.2
  omega
theorem lastZ_ge (Q : TstR → Bool) : ∀ (l : List TstR) (m : Int), m ≤ lastZ Q l m
  | [], m => Int.le_refl _
  | y :: l, m => by
    have := lastZ_ge Q l (if Q y then max m y.dy else m)
    simp only [lastZ]
    split at this <;> simp_all <;> omega
end Go.Proofs.Ytaapaijdcgpdkaa
namespace Go.Proofs.Ytaapaijdcgpdkaa
open Go.RowKit Go.Lib
set_option linter.unusedSimpArgs false
set_option linter.unusedVariables false
/-- -1, 0 or 1 -/
def cmpY (a b : Int) : Int := if decide (a < b) then -1 else if decide (b < a) then 1 else 0
theorem isNaNY_c (x : Int) (w : World) :
    Calls Try.prog 45 #[.int .i64 x] w fun e w' => e = .returned (.bool false) ∧ w = w' := by
  go_enter Try.func45, Try.ntmps45
  go_wp2_with fail
  go_ret
  exact ⟨by simp, rfl⟩
theorem cmpYInt_c (x y : Int) (w : World) :
    Calls Try.prog 30 #[.int .i64 x, .int .i64 y] w fun e w' => e = .returned (.int .i64 (cmpY x y)) ∧ w = w' := by
  have HX := Lib.hid (fun W => isNaNY_c x W)
  have HY := Lib.hid (fun W => isNaNY_c y W)
  have HE : Hid (cmpY x y = if decide (x < y) then -1 else if decide (y < x) then 1 else 0) := rfl
  cases h1 : decide (x < y) <;> cases h2 : decide (y < x)
  all_goals
    rw [h1, h2] at HE
    go_enter Try.func30, Try.ntmps30
    go_wp2_with fail
    repeat (first
      | (with_reducible refine (HX.out _).mono ?_; rintro e w4 ⟨rfl, rfl⟩; go_wp2_with fail)
      | (with_reducible refine (HY.out _).mono ?_; rintro e w4 ⟨rfl, rfl⟩; go_wp2_with fail))
    go_ret
    exact ⟨by rw [HE.out]; rfl, rfl⟩
theorem cmpY_lt (a b : Int) : cmpY a b < 0 ↔ a < b := by
  unfold cmpY
  by_cases h1 : a < b
  · simp [h1]
  · by_cases h2 : b < a <;> simp [h1, h2]
def dayM (m : List (ByteArray × Int)) (s : ByteArray) : Int := (lookM m s).getD 0
def cmpM (m : List (ByteArray × Int)) (a b : ByteArray) : Int := cmpY (dayM m a) (dayM m b)
theorem lt_cmpM (m : List (ByteArray × Int)) (a b : ByteArray) : ltOf (cmpM m) a b = decide (dayM m a < dayM m b) := by
  unfold ltOf
  exact decide_eq_decide.2 (cmpY_lt _ _)
theorem swo_cmpM (m : List (ByteArray × Int)) : Go.Sort.SWO (ltOf (cmpM m)) where
  irrefl x := by rw [lt_cmpM]; simp
  trans x y z h1 h2 := by rw [lt_cmpM, decide_eq_true_eq] at *; omega
  ntrans x y z h1 h2 := by rw [lt_cmpM, decide_eq_false_iff_not] at *; omega
set_option maxHeartbeats 1000000 in
set_option maxRecDepth 100000 in
theorem poolCmp_c (m : List (ByteArray × Int)) (T g : Nat) (a b : ByteArray) (w : World) (hT : w.cell? ⟨T, 0, none⟩ = some (.map (some g))) (hm : MapAt w g m) :
    Calls Try.prog 29 #[.string a, .string b, .pointer (some ⟨T, 0, none⟩)] w fun e w' => e = .returned (.int .i64 (cmpM m a b)) ∧ w = w' := by
  have h1 := map_look hm a
  have h2 := map_look hm b
  have HC := Lib.hid (fun W => cmpYInt_c (dayM m a) (dayM m b) W)
  have HE : Hid (cmpM m a b = cmpY (dayM m a) (dayM m b)) := rfl
  rw [show (lookM m a).getD 0 = dayM m a from rfl] at h1
  rw [show (lookM m b).getD 0 = dayM m b from rfl] at h2
  generalize dayM m a = x at *
  generalize dayM m b = y at *
  generalize cmpY x y = z at *
  clear hm
  go_enter Try.func29, Try.ntmps29
  go_wp2_with fail
  refine (HC.out _).mono ?_
  rintro e w4 ⟨rfl, rfl⟩
  go_wp2_with fail
  go_ret
  exact ⟨by rw [HE.out]; rfl, rfl⟩
def encS (s : ByteArray) : Value := .string s
open Go.Sort Go.Shelf in
/-- what the library's insertion sort does -/
structure InsSOK : Prop where
  some : ∀ (m : List (ByteArray × Int)) (cb : Array Value) (blk off cap a b : Nat) (d0 d : Array ByteArray) (w0 w : World), CmpLays1 Try.prog 29 cb encS (cmpM m) blk off d0.size w0 → Row1 encS w0 blk off d0 → d0.size = d.size → SW encS w0 blk off d w → a ≤ b → b ≤ d.size → d.size < 4611686018427387904 →
    Calls Try.prog 61 #[.slice (some ⟨blk, off, none⟩) d.size cap, .int .i64 a, .int .i64 b, .func (.func 29) #[] cb] w fun e w' =>
      e = .returned (.tuple #[]) ∧ SW encS w0 blk off (Sort.insertionSort (ltOf (cmpM m)) d a b) w'
open Go.Sort Go.Shelf in
set_option maxHeartbeats 1000000 in
set_option maxRecDepth 100000 in
theorem stableS_c (I : InsSOK) (m : List (ByteArray × Int)) (cb : Array Value) (blk off cap : Nat) (d : Array ByteArray) (w0 w : World) (hl : CmpLays1 Try.prog 29 cb encS (cmpM m) blk off d.size w0) (hR : Row1 encS w0 blk off d) (hS : SW encS w0 blk off d w) (hn : d.size < 20) :
    Calls Try.prog 44 #[.slice (some ⟨blk, off, none⟩) d.size cap, .int .i64 d.size, .func (.func 29) #[] cb] w fun e w' =>
      e = .returned (.tuple #[]) ∧ SW encS w0 blk off (Sort.insertionSort (ltOf (cmpM m)) d 0 d.size) w' := by
  have HI := Lib.hid (I.some m cb blk off cap 0 d.size d d w0 w hl hR rfl hS (by omega) (by omega) (by omega))
  clear hl hR hS I
  generalize Sort.insertionSort (ltOf (cmpM m)) d 0 d.size = dd at *
  generalize hnn : d.size = n at *
  have h1 : ¬ ((20 : Int) ≤ (n : Int)) := by omega
  have h2 : ¬ ((20 : Int) < (n : Int)) := by omega
  have h1' : (decide ((20 : Int) ≤ (n : Int))) = false := decide_eq_false h1
  have h2' : (decide ((20 : Int) < (n : Int))) = false := decide_eq_false h2
  clear hnn
  go_enter Try.func44, Try.ntmps44
  go_wp2_with fail
  go_loopg [7, 8] 0 (fun gk s7 s8 wr => gk = 0 ∧ s7 = .int .i64 0 ∧ s8 = .int .i64 20 ∧ wr = w)
  case atStart => exact ⟨rfl, rfl, rfl, rfl⟩
  case round =>
    obtain ⟨rfl, rfl, rfl, rfl⟩ := hrel
    rw [Int.natCast_zero] at HI
    go_wp2_with (refine HI.out.mono ?_; rintro e w4 ⟨rfl, HW⟩)
    go_loopg [6, 7, 8, 9] 0 (fun gk s6 s7 s8 s9 wr => gk = 0 ∧ s6 = .int .i64 20 ∧ s7 = .int .i64 0 ∧ wr = w4)
    case atStart => exact ⟨rfl, rfl, rfl, rfl⟩
    case round =>
      obtain ⟨rfl, rfl, rfl, rfl⟩ := hrel
      go_wp2_with fail
      go_end0
      exact ⟨rfl, HW⟩
open Go.Sort Go.Shelf in
set_option maxHeartbeats 1000000 in
set_option maxRecDepth 100000 in
theorem sortSS_c (I : InsSOK) (m : List (ByteArray × Int)) (cb : Array Value) (blk off cap : Nat) (d : Array ByteArray) (w0 w : World) (hl : CmpLays1 Try.prog 29 cb encS (cmpM m) blk off d.size w0) (hR : Row1 encS w0 blk off d) (hS : SW encS w0 blk off d w) (hn : d.size < 20) :
    Calls Try.prog 28 #[.slice (some ⟨blk, off, none⟩) d.size cap, .func (.func 29) #[] cb] w fun e w' =>
      e = .returned (.tuple #[]) ∧ SW encS w0 blk off (Sort.insertionSort (ltOf (cmpM m)) d 0 d.size) w' := by
  have HI := Lib.hid (stableS_c I m cb blk off cap d w0 w hl hR hS hn)
  clear hl hR hS I hn
  generalize Sort.insertionSort (ltOf (cmpM m)) d 0 d.size = dd at *
  generalize d.size = n at *
  go_enter Try.func28, Try.ntmps28
  go_wp2_with (refine HI.out.mono ?_; rintro e w4 ⟨rfl, HW⟩)
  go_end0
  exact ⟨rfl, HW⟩
theorem insS_0 (p : Option Addr) (cap : Nat) (f : Value) (w : World) :
    Calls Try.prog 61 #[.slice p 0 cap, .int .i64 0, .int .i64 0, f] w fun e w' => e = .returned (.tuple #[]) ∧ w' = w := by
  go_enter Try.func61, Try.ntmps61
  go_wp2_with fail
  refine wp_loop_rounds 2 ?_
  rw [rounds_succ]
  go_wp2_with fail
  go_end0
  exact ⟨rfl, rfl⟩
theorem stableS_0 (p : Option Addr) (cap : Nat) (f : Value) (w : World) :
    Calls Try.prog 44 #[.slice p 0 cap, .int .i64 0, f] w fun e w' => e = .returned (.tuple #[]) ∧ w' = w := by
  have HI := Lib.hid (insS_0 p cap f)
  go_enter Try.func44, Try.ntmps44
  go_wp2_with fail
  refine wp_loop_rounds 2 ?_
  rw [rounds_succ]
  go_wp2_with (refine (HI.out _).mono ?_; rintro e w4 ⟨rfl, rfl⟩)
  refine wp_loop_rounds 2 ?_
  rw [rounds_succ]
  go_wp2_with fail
  go_end0
  exact ⟨rfl, rfl⟩
theorem sortSS_0 (p : Option Addr) (cap : Nat) (f : Value) (w : World) :
    Calls Try.prog 28 #[.slice p 0 cap, f] w fun e w' => e = .returned (.tuple #[]) ∧ w' = w := by
  have HI := Lib.hid (stableS_0 p cap f)
  go_enter Try.func28, Try.ntmps28
  go_wp2_with (refine (HI.out _).mono ?_; rintro e w4 ⟨rfl, rfl⟩)
  go_end0
  exact ⟨rfl, rfl⟩
end Go.Proofs.Ytaapaijdcgpdkaa
