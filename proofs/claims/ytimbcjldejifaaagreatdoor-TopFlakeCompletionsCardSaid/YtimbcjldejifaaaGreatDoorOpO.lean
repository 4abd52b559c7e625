/- Open values: (question).above. Open values: the reference's answer and the program's: a rank is possible with the least value that will do, or with none. Open values: (question).turn. -/
import Derived.Test.YtimbcjldejifaaaGreatDoorOpL
import Derived.Sort.OwnSortedInts
namespace Go.Proofs.YtimbcjldejifaaaGreatDoor
open Go.RowKit Go.Lib
set_option linter.unusedSimpArgs false
set_option linter.unusedVariables false
/-- a question's value -/
def qV (x : OpR) (u : Value) (r : Int) : Value := .agg #[.string x.nm, .int .i64 x.lo, .int .i64 x.hi, u, .int .i64 r]
/-- how many have an end above a value -/
def cntV (f : OpR → Int) (v : Int) (ys : List OpR) : Int := cnt (fun _ y => decide (v < f y)) ys 0
theorem opsV_slice {w : World} {u : Value} {ys : List OpR} (h : OpsV w u ys) : ∃ p c, u = .slice p ys.length c := by
  obtain ⟨⟨p, cap, rfl, _⟩⟩ := h
  exact ⟨p, cap, rfl⟩
theorem lo_c (y : OpR) (w : World) : Calls Tryz.prog 27 #[opV y] w fun e w' => e = .returned (.int .i64 y.lo) ∧ Gr w w' := by
  unfold opV
  go_enter Tryz.func27, Tryz.ntmps27
  go_wp2_with fail
  go_ret
  exact ⟨rfl, (Gr.refl w).alloc _⟩
theorem hi_c (y : OpR) (w : World) : Calls Tryz.prog 59 #[opV y] w fun e w' => e = .returned (.int .i64 y.hi) ∧ Gr w w' := by
  unfold opV
  go_enter Tryz.func59, Tryz.ntmps59
  go_wp2_with fail
  go_ret
  exact ⟨rfl, (Gr.refl w).alloc _⟩
set_option maxHeartbeats 1000000 in
set_option maxRecDepth 100000 in
theorem above_lo_pos (ys : List OpR) (n b off cap : Nat) (x : OpR) (r v : Int) (w : World) (hn : ys.length = n) (h1 : n ≤ 1000) (hc : ∀ i y, ys[i]? = some y → OpAt w b (off + i * 3) y) :
    Calls Tryz.prog 26 #[qV x (.slice (some ⟨b, off, none⟩) n cap) r, .int .i64 v, .func (.func 27) #[] #[]] w fun e w' => e = .returned (.int .i64 (cntV (fun y => y.lo) v ys)) ∧ Gr w w' := by
  unfold qV
  have HC := Lib.hid hc
  have HN := Lib.hid hn
  have HE : Hid (cntV (fun y => y.lo) v ys = cnt (fun _ y => decide (v < y.lo)) ys 0) := rfl
  have HP : Hid (∀ (i : Nat) (y : OpR), (fun (_ : Nat) (y : OpR) => decide (v < y.lo)) i y = decide (v < y.lo)) := fun i y => rfl
  generalize hp : (fun (_ : Nat) (y : OpR) => decide (v < y.lo)) = p at HE HP
  obtain ⟨W, hW, g, hQ⟩ := boxQ w (.string x.nm) (.int .i64 x.lo) (.int .i64 x.hi) (.slice (some ⟨b, off, none⟩) n cap) (.int .i64 r) 67
  have HG := Lib.hid g
  obtain ⟨r0, r1, r2, r3, r4, _⟩ := row5 hQ
  clear hc hn hp hQ
  go_enter Tryz.func26, Tryz.ntmps26
  go_wp2_with fail
  clear hW r0 r1 r2 r3 r4
  go_loopg [7, 13] n (fun gk s7 s13 wr => ∃ (i : Nat) (a : Int), s13 = .int .i64 i ∧ s7 = .int .i64 a ∧ 0 ≤ a ∧ a ≤ i ∧ gk + i = n ∧ Gr W wr ∧ Hid (a + cnt p (ys.drop i) i = cnt p ys 0))
  case atStart => exact ⟨0, 0, rfl, rfl, by omega, by omega, by omega, Gr.refl _, by simp [Hid]⟩
  case round =>
    obtain ⟨i, a, rfl, rfl, ha0, ha1, hi, hg, HF⟩ := hrel
    by_cases hlt : i < n
    · obtain ⟨y, hy⟩ : ∃ y, ys[i]? = some y := ⟨ys[i]'(by have := HN.out; omega), List.getElem?_eq_getElem _⟩
      obtain ⟨c0, c1, c2⟩ := (HC.out i y hy).gr (HG.out.trans hg)
      have hf := cnt_drop (p := p) hy
      have hpp := HP.out i y
      have hi2 : (i : Int) < n := by omega
      have hw : IntKind.i64.wrap (a + 1) = a + 1 := by rw [IntKind.wrap_i64]; omega
      obtain ⟨W2, hW2, g2, b0, b1, b2⟩ := box3 wr (.string y.nm) (.int .i64 y.lo) (.int .i64 y.hi) 28
      have HT := Lib.hid (lo_c y W2)
      have gg := hg.trans g2
      unfold opV at HT
      have HW2 := Lib.hid hW2
      clear hy hW2
      cases e2 : decide (v < y.lo)
      all_goals
        rw [e2] at hpp
        rw [hpp] at hf
        simp only [Bool.false_eq_true, if_false, if_true] at hf
        have HF2 := Lib.hid hf
        clear hf hpp
        go_wp2_with fail
        rw [HW2.out]
        refine HT.out.mono ?_
        rintro e W3 ⟨rfl, hg3⟩
        go_wp2_with fail
        first
          | (go_roundg (gk - 1)
             case measure => omega
             case rel => exact ⟨i + 1, a, by go_num, rfl, by omega, by omega, by omega, gg.trans hg3, by unfold Hid; rw [← HF.out, HF2.out]; omega⟩)
          | (go_roundg (gk - 1)
             case measure => omega
             case rel => exact ⟨i + 1, a + 1, by go_num, by go_num, by omega, by omega, by omega, gg.trans hg3, by unfold Hid; rw [← HF.out, HF2.out]; omega⟩)
    · have : ys.drop i = [] := List.drop_of_length_le (by have := HN.out; omega)
      have HE2 : Hid (cnt p ys 0 = a) := by unfold Hid; rw [← HF.out, this]; simp [cnt]
      have hi2 : (n : Int) ≤ i := by omega
      clear this
      go_wp2_with fail
      go_ret
      exact ⟨by rw [HE.out, HE2.out]; rfl, HG.out.trans hg⟩
theorem above_lo_c {u : Value} {ys : List OpR} (x : OpR) (r v : Int) {w : World} (h : OpsV w u ys) (h1 : ys.length ≤ 1000) :
    Calls Tryz.prog 26 #[qV x u r, .int .i64 v, .func (.func 27) #[] #[]] w fun e w' => e = .returned (.int .i64 (cntV (fun y => y.lo) v ys)) ∧ Gr w w' := by
  obtain ⟨⟨p, cap, rfl, hcap, hh⟩⟩ := h
  by_cases h0 : 0 < ys.length
  · obtain ⟨b, off, rfl, hc⟩ := hh h0
    exact above_lo_pos ys _ b off cap x r v w rfl h1 hc
  · have hx : ys = [] := List.eq_nil_of_length_eq_zero (by omega)
    subst hx
    unfold qV
    have HE : Hid (cntV (fun y => y.lo) v [] = 0) := rfl
    go_enter Tryz.func26, Tryz.ntmps26
    go_wp2_with fail
    refine wp_loop_rounds 1 ?_
    rw [rounds_succ]
    go_wp2_with fail
    go_ret
    exact ⟨by rw [HE.out]; rfl, (Gr.refl w).alloc _⟩
set_option maxHeartbeats 1000000 in
set_option maxRecDepth 100000 in
theorem above_hi_pos (ys : List OpR) (n b off cap : Nat) (x : OpR) (r v : Int) (w : World) (hn : ys.length = n) (h1 : n ≤ 1000) (hc : ∀ i y, ys[i]? = some y → OpAt w b (off + i * 3) y) :
    Calls Tryz.prog 26 #[qV x (.slice (some ⟨b, off, none⟩) n cap) r, .int .i64 v, .func (.func 59) #[] #[]] w fun e w' => e = .returned (.int .i64 (cntV (fun y => y.hi) v ys)) ∧ Gr w w' := by
  unfold qV
  have HC := Lib.hid hc
  have HN := Lib.hid hn
  have HE : Hid (cntV (fun y => y.hi) v ys = cnt (fun _ y => decide (v < y.hi)) ys 0) := rfl
  have HP : Hid (∀ (i : Nat) (y : OpR), (fun (_ : Nat) (y : OpR) => decide (v < y.hi)) i y = decide (v < y.hi)) := fun i y => rfl
  generalize hp : (fun (_ : Nat) (y : OpR) => decide (v < y.hi)) = p at HE HP
  obtain ⟨W, hW, g, hQ⟩ := boxQ w (.string x.nm) (.int .i64 x.lo) (.int .i64 x.hi) (.slice (some ⟨b, off, none⟩) n cap) (.int .i64 r) 67
  have HG := Lib.hid g
  obtain ⟨r0, r1, r2, r3, r4, _⟩ := row5 hQ
  clear hc hn hp hQ
  go_enter Tryz.func26, Tryz.ntmps26
  go_wp2_with fail
  clear hW r0 r1 r2 r3 r4
  go_loopg [7, 13] n (fun gk s7 s13 wr => ∃ (i : Nat) (a : Int), s13 = .int .i64 i ∧ s7 = .int .i64 a ∧ 0 ≤ a ∧ a ≤ i ∧ gk + i = n ∧ Gr W wr ∧ Hid (a + cnt p (ys.drop i) i = cnt p ys 0))
  case atStart => exact ⟨0, 0, rfl, rfl, by omega, by omega, by omega, Gr.refl _, by simp [Hid]⟩
  case round =>
    obtain ⟨i, a, rfl, rfl, ha0, ha1, hi, hg, HF⟩ := hrel
    by_cases hlt : i < n
    · obtain ⟨y, hy⟩ : ∃ y, ys[i]? = some y := ⟨ys[i]'(by have := HN.out; omega), List.getElem?_eq_getElem _⟩
      obtain ⟨c0, c1, c2⟩ := (HC.out i y hy).gr (HG.out.trans hg)
      have hf := cnt_drop (p := p) hy
      have hpp := HP.out i y
      have hi2 : (i : Int) < n := by omega
      have hw : IntKind.i64.wrap (a + 1) = a + 1 := by rw [IntKind.wrap_i64]; omega
      obtain ⟨W2, hW2, g2, b0, b1, b2⟩ := box3 wr (.string y.nm) (.int .i64 y.lo) (.int .i64 y.hi) 28
      have HT := Lib.hid (hi_c y W2)
      have gg := hg.trans g2
      unfold opV at HT
      have HW2 := Lib.hid hW2
      clear hy hW2
      cases e2 : decide (v < y.hi)
      all_goals
        rw [e2] at hpp
        rw [hpp] at hf
        simp only [Bool.false_eq_true, if_false, if_true] at hf
        have HF2 := Lib.hid hf
        clear hf hpp
        go_wp2_with fail
        rw [HW2.out]
        refine HT.out.mono ?_
        rintro e W3 ⟨rfl, hg3⟩
        go_wp2_with fail
        first
          | (go_roundg (gk - 1)
             case measure => omega
             case rel => exact ⟨i + 1, a, by go_num, rfl, by omega, by omega, by omega, gg.trans hg3, by unfold Hid; rw [← HF.out, HF2.out]; omega⟩)
          | (go_roundg (gk - 1)
             case measure => omega
             case rel => exact ⟨i + 1, a + 1, by go_num, by go_num, by omega, by omega, by omega, gg.trans hg3, by unfold Hid; rw [← HF.out, HF2.out]; omega⟩)
    · have : ys.drop i = [] := List.drop_of_length_le (by have := HN.out; omega)
      have HE2 : Hid (cnt p ys 0 = a) := by unfold Hid; rw [← HF.out, this]; simp [cnt]
      have hi2 : (n : Int) ≤ i := by omega
      clear this
      go_wp2_with fail
      go_ret
      exact ⟨by rw [HE.out, HE2.out]; rfl, HG.out.trans hg⟩
theorem above_hi_c {u : Value} {ys : List OpR} (x : OpR) (r v : Int) {w : World} (h : OpsV w u ys) (h1 : ys.length ≤ 1000) :
    Calls Tryz.prog 26 #[qV x u r, .int .i64 v, .func (.func 59) #[] #[]] w fun e w' => e = .returned (.int .i64 (cntV (fun y => y.hi) v ys)) ∧ Gr w w' := by
  obtain ⟨⟨p, cap, rfl, hcap, hh⟩⟩ := h
  by_cases h0 : 0 < ys.length
  · obtain ⟨b, off, rfl, hc⟩ := hh h0
    exact above_hi_pos ys _ b off cap x r v w rfl h1 hc
  · have hx : ys = [] := List.eq_nil_of_length_eq_zero (by omega)
    subst hx
    unfold qV
    have HE : Hid (cntV (fun y => y.hi) v [] = 0) := rfl
    go_enter Tryz.func26, Tryz.ntmps26
    go_wp2_with fail
    refine wp_loop_rounds 1 ?_
    rw [rounds_succ]
    go_wp2_with fail
    go_ret
    exact ⟨by rw [HE.out]; rfl, (Gr.refl w).alloc _⟩
theorem cnt_plain (p : OpR → Bool) : ∀ (xs : List OpR) (i : Nat), cnt (fun _ y => p y) xs i = (xs.countP p : Int)
  | [], i => rfl
  | x :: xs, i => by
    have := cnt_plain p xs (i + 1)
    simp only [cnt, List.countP_cons]
    rw [this]
    rcases Bool.eq_false_or_eq_true (p x) with hp | hp <;> simp [hp] <;> omega
theorem cnt_cut (c : Int) (p : OpR → Bool) : ∀ (xs : List OpR) (i : Nat), c < i → cnt (fun j y => !((j : Int) == c) && p y) xs i = (xs.countP p : Int)
  | [], i, _ => rfl
  | x :: xs, i, h => by
    have := cnt_cut c p xs (i + 1) (by omega)
    have e : ((i : Int) == c) = false := beq_eq_false_iff_ne.2 (by omega)
    simp only [cnt, List.countP_cons]
    rw [this]
    rcases Bool.eq_false_or_eq_true (p x) with hp | hp <;> simp [hp, e] <;> omega
theorem cnt_others (c : Nat) (p : OpR → Bool) : ∀ (xs : List OpR) (i : Nat), cnt (fun j y => !((j : Int) == ((c + i : Nat) : Int)) && p y) xs i = ((others xs c).countP p : Int) := by
  induction c with
  | zero =>
    intro xs i
    cases xs with
    | nil => rfl
    | cons x xs =>
      have := cnt_cut ((0 + i : Nat) : Int) p xs (i + 1) (by omega)
      simp only [cnt, others]
      rw [this]
      simp
  | succ c ih =>
    intro xs i
    cases xs with
    | nil => rfl
    | cons x xs =>
      have := ih xs (i + 1)
      have e : ((i : Int) == ((c + 1 + i : Nat) : Int)) = false := beq_eq_false_iff_ne.2 (by omega)
      have e2 : c + (i + 1) = c + 1 + i := by omega
      rw [e2] at this
      simp only [cnt]
      rw [this]
      simp only [others, List.take_succ_cons, List.drop_succ_cons, List.cons_append, List.countP_cons]
      rcases Bool.eq_false_or_eq_true (p x) with hp | hp <;> simp [hp, beq_eq_false_iff_ne.1 e] <;> omega
theorem sur_others (xs : List OpR) (c : Nat) (v : Int) : cnt (surP c v) xs 0 = cntV (fun y => y.lo) v (others xs c) := by
  have := cnt_others c (fun y => decide (v < y.lo)) xs 0
  have h2 := cnt_plain (fun y => decide (v < y.lo)) (others xs c) 0
  unfold cntV
  rw [h2, ← this]; rfl
theorem per_others (xs : List OpR) (c : Nat) (v : Int) : cnt (perP c v) xs 0 = cntV (fun y => y.hi) v (others xs c) := by
  have := cnt_others c (fun y => decide (v < y.hi)) xs 0
  have h2 := cnt_plain (fun y => decide (v < y.hi)) (others xs c) 0
  unfold cntV
  rw [h2, ← this]; rfl
theorem cntV_anti (f : OpR → Int) {v u : Int} (h : v ≤ u) (ys : List OpR) : cntV f u ys ≤ cntV f v ys := by
  unfold cntV
  rw [cnt_plain (fun y => decide (u < f y)), cnt_plain (fun y => decide (v < f y))]
  have : ys.countP (fun y => decide (u < f y)) ≤ ys.countP (fun y => decide (v < f y)) := List.countP_mono_left fun y _ hy => by
    simp only [decide_eq_true_eq] at *
    omega
  omega
/-- the lower ends, sorted -/
def lowsS (ys : List OpR) : List Int := (ys.map fun y => y.lo).mergeSort fun x y => decide (x ≤ y)
theorem lowsS_length (ys : List OpR) : (lowsS ys).length = ys.length := by simp [lowsS]
theorem lowsS_count (ys : List OpR) (v : Int) : cntV (fun y => y.lo) v ys = ((lowsS ys).countP (fun x => decide (v < x)) : Int) := by
  unfold cntV
  rw [cnt_plain (fun y => decide (v < y.lo))]
  have h1 : (lowsS ys).countP (fun x => decide (v < x)) = (ys.map fun y => y.lo).countP (fun x => decide (v < x)) := (List.mergeSort_perm _ _).countP_eq _
  rw [h1, List.countP_map]; rfl
theorem lowsS_sorted (ys : List OpR) : (lowsS ys).Pairwise (· ≤ ·) := by
  have := List.pairwise_mergeSort (le := fun (x y : Int) => decide (x ≤ y)) (fun a b c h1 h2 => by simp only [decide_eq_true_eq] at *; omega) (fun a b => by simp only [Bool.or_eq_true, decide_eq_true_eq]; omega) (ys.map fun y => y.lo)
  exact this.imp fun h => by simpa using h
theorem sorted_count {s : List Int} (hs : s.Pairwise (· ≤ ·)) {k : Nat} {t : Int} (hk : s[k]? = some t) (v : Int) : s.countP (fun x => decide (v < x)) < s.length - k ↔ t ≤ v := by
  obtain ⟨hlt, ht⟩ := List.getElem?_eq_some_iff.1 hk
  rw [List.pairwise_iff_getElem] at hs
  constructor
  · intro h
    refine Int.not_lt.1 fun hv => ?_
    have h1 : (s.drop k).countP (fun x => decide (v < x)) = (s.drop k).length := List.countP_eq_length.2 fun x hx => by
      obtain ⟨j, hj, rfl⟩ := List.getElem_of_mem hx
      rw [List.getElem_drop]
      simp only [decide_eq_true_eq]
      rw [List.length_drop] at hj
      rcases Nat.eq_zero_or_pos j with rfl | hp
      · simp only [Nat.add_zero]; omega
      · have := hs k (k + j) hlt (by omega) (by omega); omega
    have h2 : (s.drop k).countP (fun x => decide (v < x)) ≤ s.countP (fun x => decide (v < x)) := (List.drop_sublist k s).countP_le
    rw [h1, List.length_drop] at h2
    omega
  · intro h
    have h0 : s.countP (fun x => decide (v < x)) = (s.take (k + 1)).countP (fun x => decide (v < x)) + (s.drop (k + 1)).countP (fun x => decide (v < x)) := by
      rw [← List.countP_append, List.take_append_drop]
    have h1 : (s.take (k + 1)).countP (fun x => decide (v < x)) = 0 := List.countP_eq_zero.2 fun x hx => by
      obtain ⟨j, hj, rfl⟩ := List.getElem_of_mem hx
      rw [List.getElem_take]
      simp only [decide_eq_true_eq]
      rw [List.length_take] at hj
      rcases Nat.lt_or_ge j k with hp | hp
      · have := hs j k (by omega) hlt hp; omega
      · have : j = k := by omega
        subst this; omega
    have h2 : (s.drop (k + 1)).countP (fun x => decide (v < x)) ≤ (s.drop (k + 1)).length := List.countP_le_length
    rw [List.length_drop] at h2
    omega
/-- the least value with which the rank is not too good -/
def turnV (lo : Int) (ys : List OpR) (r : Int) : Int := if (ys.length : Int) < r then lo else max lo ((lowsS ys).getD ((ys.length : Int) - r).toNat 0)
theorem turn_iff {lo : Int} {ys : List OpR} {r v : Int} (h1 : 1 ≤ r) (hlo : lo ≤ v) : cntV (fun y => y.lo) v ys < r ↔ turnV lo ys r ≤ v := by
  unfold turnV
  rw [lowsS_count]
  have hle : (lowsS ys).countP (fun x => decide (v < x)) ≤ (lowsS ys).length := List.countP_le_length
  have hl := lowsS_length ys
  split
  · constructor <;> intro _ <;> omega
  · rename_i hr
    obtain ⟨t, ht⟩ : ∃ t, (lowsS ys)[((ys.length : Int) - r).toNat]? = some t := ⟨_, List.getElem?_eq_getElem (by omega)⟩
    have hs := sorted_count (lowsS_sorted ys) ht v
    rw [List.getD_eq_getElem?_getD, ht, Option.getD_some]
    constructor
    · intro h
      have := hs.1 (by omega)
      omega
    · intro h
      have := hs.2 (by omega)
      omega
/-- what the program answers -/
def isPoss (lo hi : Int) (ys : List OpR) (r : Int) : Bool := decide (turnV lo ys r ≤ hi) && decide (r - 1 ≤ cntV (fun y => y.hi) (turnV lo ys r) ys)
theorem turn_ge (lo : Int) (ys : List OpR) (r : Int) : lo ≤ turnV lo ys r := by
  unfold turnV; split <;> omega
theorem someV_iff (xs : List OpR) (c r : Int) : ∀ (k : Nat) (v : Int), someV xs c r k v = true ↔ ∃ u, v ≤ u ∧ u < v + k ∧ okV xs c r u = true
  | 0, v => by
    simp only [someV, Bool.false_eq_true, false_iff]
    rintro ⟨u, h1, h2, _⟩
    omega
  | k + 1, v => by
    simp only [someV, Bool.or_eq_true]
    rw [someV_iff xs c r k (v + 1)]
    constructor
    · rintro (h | ⟨u, h1, h2, h3⟩)
      · exact ⟨v, by omega, by omega, h⟩
      · exact ⟨u, by omega, by omega, h3⟩
    · rintro ⟨u, h1, h2, h3⟩
      by_cases hu : u = v
      · subst hu; exact .inl h3
      · exact .inr ⟨u, by omega, by omega, h3⟩
theorem poss_same (xs : List OpR) (c : Nat) {r : Int} (x : OpR) (h1 : 1 ≤ r) (hl : x.lo ≤ x.hi) : possB xs c r x = isPoss x.lo x.hi (others xs c) r := by
  rw [Bool.eq_iff_iff]
  unfold possB isPoss
  rw [someV_iff]
  simp only [okV, Bool.and_eq_true, decide_eq_true_eq, sur_others, per_others]
  constructor
  · rintro ⟨u, hu1, hu2, hu3, hu4⟩
    have h3 := (turn_iff h1 hu1).1 hu3
    have h4 := cntV_anti (fun y => y.hi) h3 (others xs c)
    exact ⟨by omega, by omega⟩
  · rintro ⟨h3, h4⟩
    exact ⟨turnV x.lo (others xs c) r, turn_ge _ _ _, by omega, (turn_iff h1 (turn_ge _ _ _)).2 (by omega), h4⟩
/-- what the library's sort does -/
structure SortOK : Prop where
  some : ∀ (blk off cap : Nat) (zs : List Int) (w : World), Go.Sort.Holds (Value.int .i64) w blk off zs.toArray → blk < w.heap.size → zs.length < 4611686018427387904 →
    Calls Tryz.prog 60 #[.slice (some ⟨blk, off, none⟩) zs.length cap] w fun e w' =>
      e = .returned (.tuple #[]) ∧ ∃ n os, w' = Go.Sort.grow (Go.Sort.putRow (Value.int .i64) (Go.Sort.ahead w n) blk off (zs.mergeSort fun x y => decide (x ≤ y)).toArray) os
  none : ∀ (p : Option Addr) (cap : Nat) (w : World), Calls Tryz.prog 60 #[.slice p 0 cap] w fun e w' => e = .returned (.tuple #[]) ∧ w' = w
theorem cell_one_at {w : World} {A : Nat} (hA : A = w.heap.size) (a : Value) (T : TypeId) : ∀ (j : Nat) (u : Value), [a][j]? = some u → (w.alloc (.cells #[a] T)).cell? ((⟨A, 0, none⟩ : Addr).add j) = some u := by
  subst hA
  exact cell_one_new w a T
/-- the lower ends in their order -/
def lowsL (ys : List OpR) : List Int := ys.map fun y => y.lo
theorem lowsL_take {ys : List OpR} {k : Nat} {y : OpR} (h : ys[k]? = some y) : lowsL (ys.take (k + 1)) = lowsL (ys.take k) ++ [y.lo] := by
  unfold lowsL
  rw [List.take_add_one, h]
  simp
/-- behind the sort -/
theorem sort_own (hS : SortOK) {w : World} {base n : Nat} {v : Value} {zs : List Int} (hn : zs.length = n) (h9 : n ≤ 1000) (h : w.ownsRow base 3 1 v n (ints zs)) (hb : base ≤ w.heap.size) :
    Calls Tryz.prog 60 #[v] w fun e w' => e = .returned (.tuple #[]) ∧ w'.ownsRow base 3 1 v n (ints (zs.mergeSort fun x y => decide (x ≤ y))) ∧ Below base w w' := by
  subst hn
  rcases h.2 with ⟨rfl, h0⟩ | ⟨g, cap, cur, rfl, hbase, hcur, h1, h2, h3, h4⟩
  · obtain rfl : zs = [] := by
      cases zs with
      | nil => rfl
      | cons a l => simp at h0
    refine (hS.none none 0 w).mono ?_
    rintro e w' ⟨rfl, rfl⟩
    exact ⟨rfl, by simpa using h, Below.refl _ _⟩
  · have hlt := (Array.getElem?_eq_some_iff.1 hcur).1
    refine (hS.some g 0 cap zs w (holds_of_blockI hcur (by rw [Nat.mul_one] at h4; simpa [ints] using h4)) hlt (by omega)).mono ?_
    rintro e w' ⟨rfl, m, os, rfl⟩
    refine ⟨rfl, ?_, ?_⟩
    · have := ownsRow_sortedI (w := w) (base := base) (n := m) (e := 3) (os := os) (ss := zs) (ts := zs.mergeSort fun x y => decide (x ≤ y)) (by simp) hbase hcur h1 h2 h3
      simpa [ints] using this
    · exact (Below.refl base w).grown (grownBy_sortedI _) hb (fun k hk => by cases hk; exact hbase)
set_option maxHeartbeats 1000000 in
set_option maxRecDepth 100000 in
theorem turn_pos (hS : SortOK) (ys : List OpR) (n b off cap : Nat) (x : OpR) (r : Int) (w : World) (hn : ys.length = n) (h1 : n ≤ 1000) (h0 : 0 < n) (hc : ∀ i y, ys[i]? = some y → OpAt w b (off + i * 3) y) (hr0 : 1 ≤ r) (hr1 : r ≤ 1000) :
    Calls Tryz.prog 25 #[qV x (.slice (some ⟨b, off, none⟩) n cap) r] w fun e w' => e = .returned (.int .i64 (turnV x.lo ys r)) ∧ Gr w w' := by
  unfold qV
  have HC := Lib.hid hc
  have HN := Lib.hid hn
  obtain ⟨i0, hi, hz0, hz1, hz2⟩ := info_parts info3
  obtain ⟨W, hW, g, hQ⟩ := boxQ w (.string x.nm) (.int .i64 x.lo) (.int .i64 x.hi) (.slice (some ⟨b, off, none⟩) n cap) (.int .i64 r) 67
  have HG := Lib.hid g
  have HQ := Lib.hid hQ
  have HB : Hid (w.heap.size < W.heap.size) := by unfold Hid; rw [← hW, World.size_alloc]; omega
  obtain ⟨r0, r1, r2, r3, r4, _⟩ := row5 hQ
  clear hc hn hQ
  go_enter Tryz.func25, Tryz.ntmps25
  go_wp2_with fail
  clear hW r0 r1 r2 r3 r4
  have hs0 : W.heap.size ≤ W.heap.size := Nat.le_refl _
  go_loopw [3, 9] (fun v i wr => ∃ k : Nat, k ≤ n ∧ i = .int .i64 k ∧ wr.ownsRow W.heap.size 3 1 v k (ints (lowsL (ys.take k))) ∧ Gr W wr) (fun _ i _ => n - (intOf i).toNat)
  case atStart => exact ⟨0, Nat.zero_le _, rfl, World.ownsRow_nil _ _ _ _, Below.refl _ _⟩
  case round =>
    obtain ⟨k, hk, rfl, hown, hg⟩ := hrel
    have hsize := hg.size
    by_cases hlt : k < n
    · obtain ⟨y, hy⟩ : ∃ y, ys[k]? = some y := ⟨ys[k]'(by have := HN.out; omega), List.getElem?_eq_getElem _⟩
      obtain ⟨c0, c1, c2⟩ := (HC.out k y hy).gr (HG.out.trans hg)
      have hq := lowsL_take hy
      have HL := Lib.hid hq
      have hi2 : (k : Int) < n := by omega
      have hk1 : k ≤ 1000 := by omega
      clear hy hq
      go_wp2_with (first
          | (at_builtin; refine wpList_append_own _ rfl _ _ 31 rfl W.heap.size 3 i0 (.int .i64 0) 1 8 Tryz.underlying31 hi hz0 hz1 hz2 rfl (by decide) _ _ _ rfl ((hown.alloc _).alloc _) ⟨wr.heap.size + 1, 0, none⟩ 1 1 [.int .i64 y.lo] rfl rfl (cell_one_at (by simp) _ _) (by intro u hu; simp at hu; subst hu; rfl) (by unfold maxLen; omega) (by first | omega | (simp; omega)) (by first | omega | (simp; omega)) ?_; intro v1 w1 hown1 hgrow1 hnil1))
      go_roundw
      case rel =>
        exact ⟨k + 1, by omega, by go_num, by rw [HL.out]; simpa [ints] using hown1, ((hg.alloc _).alloc _).grown hgrow1 (by simp; omega) (fun j hj => (hown.lt j hj).1)⟩
      case measure => simp [intOf]; omega
    · have hkk : k = n := by omega
      subst hkk
      have hi2 : (k : Int) ≤ k := by omega
      have htk : ys.take k = ys := List.take_of_length_le (by have := HN.out; omega)
      rw [htk] at hown
      have hlz : (lowsL ys).length = k := by unfold lowsL; rw [List.length_map]; exact HN.out
      have HS := Lib.hid (sort_own hS hlz (by omega) hown hg.size)
      obtain ⟨p3, c3, hp3⟩ := owns_slice hown
      subst hp3
      have HO := Lib.hid hown
      clear htk hown
      have HT : Hid (turnV x.lo ys r = if (k : Int) < r then x.lo else max x.lo ((lowsS ys).getD ((k : Int) - r).toNat 0)) := by unfold Hid turnV; rw [HN.out]
      have hw1 : IntKind.i64.wrap ((k : Int) - r) = k - r := by rw [IntKind.wrap_i64]; omega
      go_wp2_with fail
      refine HS.out.mono ?_
      rintro e w3 ⟨rfl, hown3, hbel⟩
      have gg : Gr W w3 := Below.trans hg hbel
      have gw : Gr w w3 := HG.out.trans gg
      obtain ⟨r0, r1, r2, r3, r4, _⟩ := row5 (gg.block HQ.out)
      by_cases hr : (k : Int) < r
      · have HT2 : Hid (turnV x.lo ys r = x.lo) := by unfold Hid; rw [HT.out, if_pos hr]
        clear HT
        go_wp2_with fail
        go_ret
        exact ⟨by rw [HT2.out]; rfl, gw⟩
      · have HT2 : Hid (turnV x.lo ys r = max x.lo ((lowsS ys).getD ((k : Int) - r).toNat 0)) := by unfold Hid; rw [HT.out, if_neg hr]
        clear HT
        have hr2 : r ≤ k := by omega
        have hr3 : (0 : Int) ≤ k - r := by omega
        have hr4 : (k : Int) - r < k := by omega
        have HN2 := Lib.hid HN.out
        clear hg gg HN HQ HC hi hz0 hz1 hz2
        obtain ⟨t, ht⟩ : ∃ t, (lowsS ys)[((k : Int) - r).toNat]? = some t := ⟨_, List.getElem?_eq_getElem (by rw [lowsS_length, HN2.out]; omega)⟩
        have HT3 : Hid (turnV x.lo ys r = max x.lo t) := by unfold Hid; rw [HT2.out, List.getD_eq_getElem?_getD, ht, Option.getD_some]
        have hp3 : ∃ g3, p3 = some ⟨g3, 0, none⟩ ∧ w3.cell? ⟨g3, ((k : Int) - r).toNat, none⟩ = some (.int .i64 t) := by
          rcases hown3.2 with ⟨h, h00⟩ | ⟨g3, cap3, cur3, h, hb3, hcur3, ha1, ha2, ha3, ha4⟩
          · have := hown3.1
            simp [ints, h00] at this
            omega
          · cases h
            refine ⟨g3, rfl, ?_⟩
            have := hown3.cellAt ((k : Int) - r).toNat (by omega)
            rw [this]
            unfold ints
            rw [List.getElem?_map, show (lowsL ys).mergeSort (fun x y => decide (x ≤ y)) = lowsS ys from rfl, ht]; rfl
        obtain ⟨g3, rfl, hct⟩ := hp3
        clear ht HT2
        go_wp2_with fail
        go_big_quiet (fail)
        go_wp2_with fail
        all_goals
          go_ret
          first
            | exact ⟨by rw [HT3.out, Int.max_eq_right (by omega)]; rfl, gw.trans (Gr.drewN (Gr.refl _) _)⟩
            | exact ⟨by rw [HT3.out, Int.max_eq_left (by omega)]; rfl, gw.trans (Gr.drewN (Gr.refl _) _)⟩
set_option maxHeartbeats 1000000 in
set_option maxRecDepth 100000 in
theorem turn_nil (hS : SortOK) (p : Option Addr) (cap : Nat) (x : OpR) (r : Int) (w : World) (hr0 : 1 ≤ r) :
    Calls Tryz.prog 25 #[qV x (.slice p 0 cap) r] w fun e w' => e = .returned (.int .i64 (turnV x.lo [] r)) ∧ Gr w w' := by
  unfold qV
  obtain ⟨W, hW, g, hQ⟩ := boxQ w (.string x.nm) (.int .i64 x.lo) (.int .i64 x.hi) (.slice p 0 cap) (.int .i64 r) 67
  have HG := Lib.hid g
  have HS := Lib.hid (hS.none none 0 W)
  have HT : Hid (turnV x.lo [] r = x.lo) := by unfold Hid turnV; rw [if_pos (by simp; omega)]
  obtain ⟨r0, r1, r2, r3, r4, _⟩ := row5 hQ
  have hr : (0 : Int) < r := by omega
  clear hQ g hS
  go_enter Tryz.func25, Tryz.ntmps25
  go_wp2_with fail
  clear hW
  refine wp_loop_rounds 1 ?_
  rw [rounds_succ]
  go_wp2_with fail
  refine HS.out.mono ?_
  rintro e w3 ⟨rfl, rfl⟩
  go_wp2_with fail
  go_ret
  exact ⟨by rw [HT.out]; rfl, HG.out⟩
theorem turn_c (hS : SortOK) {u : Value} {ys : List OpR} (x : OpR) {r : Int} {w : World} (h : OpsV w u ys) (h1 : ys.length ≤ 1000) (hr0 : 1 ≤ r) (hr1 : r ≤ 1000) :
    Calls Tryz.prog 25 #[qV x u r] w fun e w' => e = .returned (.int .i64 (turnV x.lo ys r)) ∧ Gr w w' := by
  obtain ⟨⟨p, cap, rfl, hcap, hh⟩⟩ := h
  by_cases h0 : 0 < ys.length
  · obtain ⟨b, off, rfl, hc⟩ := hh h0
    exact turn_pos hS ys _ b off cap x r w rfl h1 h0 hc hr0 hr1
  · have hx : ys = [] := List.eq_nil_of_length_eq_zero (by omega)
    subst hx
    exact turn_nil hS p cap x r w hr0
end Go.Proofs.YtimbcjldejifaaaGreatDoor
