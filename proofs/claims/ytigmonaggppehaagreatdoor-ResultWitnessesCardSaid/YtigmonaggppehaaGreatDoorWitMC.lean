/- Witnesses: the values that the program makes have the rank: plain arithmetic. -/
import Derived.Test.YtigmonaggppehaaGreatDoorOpY
import Derived.Test.YtigmonaggppehaaGreatDoorWitAB
namespace Go.Proofs.YtigmonaggppehaaGreatDoor
open Go.RowKit Go.Lib
set_option linter.unusedSimpArgs false
set_option linter.unusedVariables false
/-- the values that are made: the climber has T; as many others as asked have their high end, if that is above T and the low end is not -/
def witL (c : Nat) (T : Int) : List OpR → Nat → Int → List Int
  | [], _, _ => []
  | x :: xs, i, b => if i = c then T :: witL c T xs (i + 1) b else if (x.lo ≤ T ∧ T < x.hi) ∧ 0 < b then x.hi :: witL c T xs (i + 1) (b - 1) else x.lo :: witL c T xs (i + 1) b
theorem witL_len (c : Nat) (T : Int) : ∀ (xs : List OpR) (i : Nat) (b : Int), (witL c T xs i b).length = xs.length
  | [], _, _ => rfl
  | x :: xs, i, b => by
    unfold witL
    split
    · simp [witL_len c T xs (i + 1) b]
    · split
      · simp [witL_len c T xs (i + 1) (b - 1)]
      · simp [witL_len c T xs (i + 1) b]
/-- each lies within its bounds -/
theorem witL_in (c : Nat) (T : Int) : ∀ (xs : List OpR) (i : Nat) (b : Int) (j : Nat) (x : OpR) (y : Int), (∀ x ∈ xs, x.lo ≤ x.hi) → (∀ j x, xs[j]? = some x → i + j = c → x.lo ≤ T ∧ T ≤ x.hi) →
    xs[j]? = some x → (witL c T xs i b)[j]? = some y → x.lo ≤ y ∧ y ≤ x.hi
  | [], i, b, j, x, y, _, _, hx, _ => by simp at hx
  | x0 :: xs, i, b, j, x, y, hle, hT, hx, hy => by
    have hr : ∀ b', ∀ j', j = j' + 1 → (witL c T xs (i + 1) b')[j']? = some y → x.lo ≤ y ∧ y ≤ x.hi := fun b' j' hj hy' => by
      subst hj
      refine witL_in c T xs (i + 1) b' j' x y (fun z hz => hle z (by simp [hz])) (fun k z hz hk => hT (k + 1) z (by simpa using hz) (by omega)) (by simpa using hx) hy'
    have h0 := hle x0 (by simp)
    unfold witL at hy
    split at hy
    · rename_i hc
      rcases j with _ | j
      · simp at hx hy
        subst hx hy
        exact hT 0 _ rfl (by omega)
      · exact hr b j rfl (by simpa using hy)
    · split at hy
      · rcases j with _ | j
        · simp at hx hy
          subst hx hy
          omega
        · exact hr (b - 1) j rfl (by simpa using hy)
      · rcases j with _ | j
        · simp at hx hy
          subst hx hy
          omega
        · exact hr b j rfl (by simpa using hy)
theorem witL_at (c : Nat) (T : Int) : ∀ (xs : List OpR) (i : Nat) (b : Int) (j : Nat), j < xs.length → i + j = c → (witL c T xs i b)[j]? = some T
  | [], i, b, j, h, _ => by simp at h
  | x0 :: xs, i, b, j, h, hc => by
    unfold witL
    rcases j with _ | j
    · rw [if_pos (by omega)]; rfl
    · have h1 := fun b' => witL_at c T xs (i + 1) b' j (by simpa using h) (by omega)
      rw [if_neg (by omega)]
      split <;> simp [h1]
/-- others that may be above or not -/
def freP (c T : Int) (i : Nat) (x : OpR) : Bool := !((i : Int) == c) && (decide (x.lo ≤ T) && decide (T < x.hi))
theorem per_split (c T : Int) : ∀ (xs : List OpR) (i : Nat), (∀ x ∈ xs, x.lo ≤ x.hi) → cnt (perP c T) xs i = cnt (surP c T) xs i + cnt (freP c T) xs i
  | [], _, _ => rfl
  | x :: xs, i, h => by
    have h1 := per_split c T xs (i + 1) (fun z hz => h z (by simp [hz]))
    have h0 := h x (by simp)
    have h2 : (if perP c T i x = true then (1 : Int) else 0) = (if surP c T i x = true then 1 else 0) + (if freP c T i x = true then 1 else 0) := by
      unfold perP surP freP
      rcases Bool.eq_false_or_eq_true ((i : Int) == c) with e | e
      · simp [e]
      · simp only [e, Bool.not_false, Bool.true_and]
        by_cases a1 : T < x.lo
        · rw [decide_eq_true a1, decide_eq_true (show T < x.hi by omega), decide_eq_false (show ¬ x.lo ≤ T by omega)]; rfl
        · rw [decide_eq_false a1, decide_eq_true (show x.lo ≤ T by omega)]
          by_cases a2 : T < x.hi
          · rw [decide_eq_true a2]; rfl
          · rw [decide_eq_false a2]; rfl
    simp only [cnt]
    omega
theorem cntI_cons (v y : Int) (ys : List Int) : cntI v (y :: ys) = (if v < y then 1 else 0) + cntI v ys := by
  unfold cntI
  rw [List.countP_cons]
  split <;> simp_all <;> omega
theorem witL_count (c : Nat) (T : Int) : ∀ (xs : List OpR) (i : Nat) (b : Int), 0 ≤ b → b ≤ cnt (freP c T) xs i → cntI T (witL c T xs i b) = cnt (surP c T) xs i + b
  | [], i, b, h0, h1 => by
    simp only [cnt] at h1
    simp [witL, cnt, cntI]
    omega
  | x :: xs, i, b, h0, h1 => by
    have hf := (cnt_le (freP c T) xs (i + 1)).1
    have ih := witL_count c T xs (i + 1)
    simp only [cnt] at h1 ⊢
    unfold witL
    by_cases hc : i = c
    · rw [if_pos hc, cntI_cons, if_neg (by omega)]
      have e : ((i : Int) == (c : Int)) = true := by simp [hc]
      have e1 : surP c T i x = false := by simp [surP, e]
      have e2 : freP c T i x = false := by simp [freP, e]
      rw [e2] at h1
      rw [e1, ih b h0 (by simpa using h1)]
      simp
    · have e : ((i : Int) == (c : Int)) = false := beq_eq_false_iff_ne.2 (by omega)
      rw [if_neg hc]
      by_cases hq : (x.lo ≤ T ∧ T < x.hi) ∧ 0 < b
      · have e1 : surP c T i x = false := by simp [surP, e]; omega
        have e2 : freP c T i x = true := by simp [freP, e, hq.1.1, hq.1.2]
        rw [e2] at h1
        simp only [if_true] at h1
        rw [if_pos hq, cntI_cons, if_pos hq.1.2, e1, ih (b - 1) (by omega) (by omega)]
        simp
        omega
      · rw [if_neg hq, cntI_cons]
        by_cases hl : T < x.lo
        · have e1 : surP c T i x = true := by simp [surP, e, hl]
          have e2 : freP c T i x = false := by simp [freP, e]; omega
          rw [e2] at h1
          rw [if_pos hl, e1, ih b h0 (by simpa using h1)]
          simp
          omega
        · have e1 : surP c T i x = false := by simp [surP, e]; omega
          have hb : freP c T i x = true → b = 0 := fun hp => by
            simp [freP, e] at hp
            omega
          rw [if_neg hl, e1]
          rcases Bool.eq_false_or_eq_true (freP c T i x) with e2 | e2
          · have := hb e2
            rw [ih b h0 (by omega)]
            simp
          · rw [e2] at h1
            rw [ih b h0 (by simpa using h1)]
            simp
theorem outFrom_none {xs : List OpR} {ys : List Int} (h : ∀ (j : Nat) (x : OpR) (y : Int), xs[j]? = some x → ys[j]? = some y → x.lo ≤ y ∧ y ≤ x.hi) : ∀ (k i : Nat), outFrom xs ys k i = false
  | 0, _ => rfl
  | k + 1, i => by
    simp only [outFrom]
    rw [outFrom_none h k (i + 1), Bool.or_false]
    unfold outAt
    split
    · rename_i x y hx hy
      have := h i x y hx hy
      rw [decide_eq_false (by omega), decide_eq_false (by omega)]; rfl
    · rfl
/-- the values that are made are witnesses -/
theorem wit_good (xs : List OpR) (cl : Nat) (x : OpR) (r : Int) (hx : xs[cl]? = some x) (hle : ∀ (j : Nat) (x : OpR), xs[j]? = some x → x.lo ≤ x.hi) (hr : 1 ≤ r) (hp : possB xs cl r x = true) :
    witE xs (witL cl (turnV x.lo (others xs cl) r) xs 0 (r - 1 - cntV (fun y => y.lo) (turnV x.lo (others xs cl) r) (others xs cl))) (turnV x.lo (others xs cl) r) r = 0 := by
  have hl0 := hle cl x hx
  rw [poss_same xs cl x hr hl0] at hp
  unfold isPoss at hp
  simp only [Bool.and_eq_true, decide_eq_true_eq] at hp
  obtain ⟨hp1, hp2⟩ := hp
  have ht := turn_ge x.lo (others xs cl) r
  have hs := (turn_iff (ys := others xs cl) hr ht).2 (Int.le_refl _)
  generalize turnV x.lo (others xs cl) r = T at *
  have hmem : ∀ z ∈ xs, z.lo ≤ z.hi := fun z hz => by
    obtain ⟨j, hj, rfl⟩ := List.getElem_of_mem hz
    exact hle j _ (List.getElem?_eq_getElem hj)
  have hsp := per_split cl T xs 0 hmem
  rw [sur_others, per_others] at hsp
  have hcount := witL_count cl T xs 0 (r - 1 - cntV (fun y => y.lo) T (others xs cl)) (by omega) (by omega)
  rw [sur_others] at hcount
  unfold witE
  rw [outFrom_none (fun j x' y hx' hy => witL_in cl T xs 0 _ j x' y hmem (fun k z hz hk => by
    have : k = cl := by omega
    subst this
    rw [hx] at hz
    cases hz
    exact ⟨ht, hp1⟩) hx' hy), hcount]
  simp
  omega
end Go.Proofs.YtigmonaggppehaaGreatDoor
namespace Go.Proofs.YtigmonaggppehaaGreatDoor
open Go.RowKit Go.Lib
set_option linter.unusedSimpArgs false
set_option linter.unusedVariables false
theorem witL_c {c : Nat} {T : Int} {xs : List OpR} {i : Nat} {x : OpR} (b : Int) (h : xs[i]? = some x) (hc : i = c) : witL c T (xs.drop i) i b = T :: witL c T (xs.drop (i + 1)) (i + 1) b := by
  obtain ⟨h1, rfl⟩ := List.getElem?_eq_some_iff.1 h
  rw [List.drop_eq_getElem_cons h1, witL, if_pos hc]
theorem witL_hi {c : Nat} {T : Int} {xs : List OpR} {i : Nat} {x : OpR} {b : Int} (h : xs[i]? = some x) (hc : ¬ i = c) (hq : (x.lo ≤ T ∧ T < x.hi) ∧ 0 < b) : witL c T (xs.drop i) i b = x.hi :: witL c T (xs.drop (i + 1)) (i + 1) (b - 1) := by
  obtain ⟨h1, rfl⟩ := List.getElem?_eq_some_iff.1 h
  rw [List.drop_eq_getElem_cons h1, witL, if_neg hc, if_pos hq]
theorem witL_lo {c : Nat} {T : Int} {xs : List OpR} {i : Nat} {x : OpR} {b : Int} (h : xs[i]? = some x) (hc : ¬ i = c) (hq : ¬ ((x.lo ≤ T ∧ T < x.hi) ∧ 0 < b)) : witL c T (xs.drop i) i b = x.lo :: witL c T (xs.drop (i + 1)) (i + 1) b := by
  obtain ⟨h1, rfl⟩ := List.getElem?_eq_some_iff.1 h
  rw [List.drop_eq_getElem_cons h1, witL, if_neg hc, if_neg hq]
set_option maxHeartbeats 1000000 in
set_option maxRecDepth 100000 in
theorem witness_err {v : Value} {xs : List OpR} {w : World} (cl r : Int) (h : OpsV w v xs) (hE : questE xs cl r ≠ 0) :
    Calls Tryz.prog 7 #[v, .int .i64 cl, .int .i64 r] w fun e w' => e = .returned (.tuple #[.slice none 0 0, .int .i64 (questE xs cl r)]) ∧ Gr w w' := by
  obtain ⟨p, cap, rfl⟩ := opsV_slice h
  have HQ := Lib.hid (quest_c cl r h)
  have hz : (questE xs cl r == 0) = false := beq_eq_false_iff_ne.2 hE
  clear h
  generalize questE xs cl r = E at *
  generalize xs.length = n at *
  go_enter Tryz.func7, Tryz.ntmps7
  go_wp2_with fail
  refine HQ.out.mono ?_
  rintro e w1 ⟨rfl, g⟩
  go_wp2_with fail
  exact bodyPost_ret (v := .tuple #[.slice none 0 0, .int .i64 E]) (by simp [results, Tryz.results7, go_sem]) rfl ⟨rfl, g⟩
set_option maxHeartbeats 1000000 in
set_option maxRecDepth 100000 in
theorem witness_none (hS : SortOK) {v : Value} {xs : List OpR} {w : World} (cl : Nat) (r : Int) (x : OpR) (h : OpsV w v xs) (hE : questE xs cl r = 0) (hx : xs[cl]? = some x) (h1 : xs.length ≤ 160) (hr0 : 1 ≤ r) (hr1 : r ≤ 1000) (hP : isPoss x.lo x.hi (others xs cl) r = false) :
    Calls Tryz.prog 7 #[v, .int .i64 cl, .int .i64 r] w fun e w' => e = .returned (.tuple #[.slice none 0 0, .int .i64 23]) ∧ Gr w w' := by
  have HQ := Lib.hid (quest_c (cl : Int) r h)
  rw [hE] at HQ
  have HAsk := Lib.hid (fun (W : World) (hW : Gr w W) => ask_c r (h.gr hW) (by omega) hx)
  have hlo : (others xs cl).length ≤ 1000 := by unfold others; rw [List.length_append, List.length_take, List.length_drop]; omega
  have HIs := Lib.hid (fun (u : Value) (W : World) (hu : OpsV W u (others xs cl)) => isPossible_c hS x hu hlo hr0 hr1)
  rw [hP] at HIs
  unfold qV at HIs
  obtain ⟨p, cap, rfl⟩ := opsV_slice h
  clear h hE hx hP hlo
  generalize xs.length = n at *
  go_enter Tryz.func7, Tryz.ntmps7
  go_wp2_with fail
  refine HQ.out.mono ?_
  rintro e w1 ⟨rfl, g⟩
  go_wp2_with fail
  refine (HAsk.out _ g).mono ?_
  rintro e w2 ⟨u, rfl, hu, g2⟩
  replace g := g.trans g2
  obtain ⟨p3, c3, rfl⟩ := opsV_slice hu
  obtain ⟨W, hW, gW, hQ⟩ := boxQ w2 (.string x.nm) (.int .i64 x.lo) (.int .i64 x.hi) (.slice p3 (others xs cl).length c3) (.int .i64 r) 85
  have HT := Lib.hid (HIs.out _ W (hu.gr gW))
  have HW := Lib.hid hW
  clear hW hQ hu g2
  go_wp2_with fail
  rw [HW.out]
  refine HT.out.mono ?_
  rintro e w3 ⟨rfl, g3⟩
  go_wp2_with fail
  exact bodyPost_ret (v := .tuple #[.slice none 0 0, .int .i64 23]) (by simp [results, Tryz.results7, go_sem]) rfl ⟨rfl, (g.trans gW).trans g3⟩
set_option maxHeartbeats 1000000 in
set_option maxRecDepth 100000 in
theorem witness_some (hS : SortOK) {xs : List OpR} {w : World} (n b off cap cl : Nat) (r : Int) (x : OpR) (hn : xs.length = n) (h : OpsV w (.slice (some ⟨b, off, none⟩) n cap) xs) (hc : ∀ i x, xs[i]? = some x → OpAt w b (off + i * 3) x) (hE : questE xs cl r = 0) (hx : xs[cl]? = some x) (h1 : n ≤ 160) (hr0 : 1 ≤ r) (hr1 : r ≤ 1000) (hP : isPoss x.lo x.hi (others xs cl) r = true) :
    Calls Tryz.prog 7 #[.slice (some ⟨b, off, none⟩) n cap, .int .i64 cl, .int .i64 r] w fun e w' => ∃ u, e = .returned (.tuple #[u, .int .i64 0]) ∧ w'.ownsRow w.heap.size 3 1 u n (ints (witL cl (turnV x.lo (others xs cl) r) xs 0 (r - 1 - cntV (fun y => y.lo) (turnV x.lo (others xs cl) r) (others xs cl)))) ∧ Gr w w' := by
  have HQ := Lib.hid (quest_c (cl : Int) r h)
  rw [hE] at HQ
  have HAsk := Lib.hid (fun (W : World) (hW : Gr w W) => ask_c r (h.gr hW) (by omega) hx)
  have hlo : (others xs cl).length ≤ 1000 := by unfold others; rw [List.length_append, List.length_take, List.length_drop]; omega
  have HIs := Lib.hid (fun (u : Value) (W : World) (hu : OpsV W u (others xs cl)) => isPossible_c hS x hu hlo hr0 hr1)
  rw [hP] at HIs
  have HTu := Lib.hid (fun (u : Value) (W : World) (hu : OpsV W u (others xs cl)) => turn_c hS x hu hlo hr0 hr1)
  have HAb := Lib.hid (fun (u : Value) (T : Int) (W : World) (hu : OpsV W u (others xs cl)) => above_lo_c x r T hu hlo)
  have hcb := cnt_le (fun _ (y : OpR) => decide (turnV x.lo (others xs cl) r < y.lo)) (others xs cl) 0
  have hcl : cl < n := by
    have := (List.getElem?_eq_some_iff.1 hx).1
    omega
  unfold qV at HIs HTu HAb
  generalize turnV x.lo (others xs cl) r = T at *
  replace HAb := Lib.hid (fun u => HAb.out u T)
  have hA0 : 0 ≤ cntV (fun y => y.lo) T (others xs cl) := hcb.1
  have hA1 : cntV (fun y => y.lo) T (others xs cl) ≤ 1000 := by
    have := hcb.2
    have e : cntV (fun y => y.lo) T (others xs cl) = cnt (fun _ (y : OpR) => decide (T < y.lo)) (others xs cl) 0 := rfl
    omega
  clear hcb
  generalize cntV (fun y => y.lo) T (others xs cl) = A at *
  have HC := Lib.hid hc
  have HN := Lib.hid hn
  have hwl := witL_len cl T xs 0 (r - 1 - A)
  rw [hn] at hwl
  obtain ⟨R, hR⟩ : ∃ R, witL cl T xs 0 (r - 1 - A) = R := ⟨_, rfl⟩
  have HR := Lib.hid hR
  rw [hR] at hwl ⊢
  obtain ⟨i0, hi, hz0, hz1, hz2⟩ := info_parts info3
  have hw1 : IntKind.i64.wrap (r - 1) = r - 1 := by rw [IntKind.wrap_i64]; omega
  have hw2 : IntKind.i64.wrap (r - 1 - A) = r - 1 - A := by rw [IntKind.wrap_i64]; omega
  clear h hc hE hx hP hlo hn hR
  go_enter Tryz.func7, Tryz.ntmps7
  go_wp2_with fail
  refine HQ.out.mono ?_
  rintro e w1 ⟨rfl, g⟩
  go_wp2_with fail
  refine (HAsk.out _ g).mono ?_
  rintro e w2 ⟨u, rfl, hu, g2⟩
  replace g := g.trans g2
  obtain ⟨p3, c3, rfl⟩ := opsV_slice hu
  obtain ⟨W, hW, gW, hQ⟩ := boxQ w2 (.string x.nm) (.int .i64 x.lo) (.int .i64 x.hi) (.slice p3 (others xs cl).length c3) (.int .i64 r) 85
  have HT := Lib.hid (HIs.out _ W (hu.gr gW))
  have HW := Lib.hid hW
  replace g := g.trans gW
  replace hu := hu.gr gW
  obtain ⟨r0, r1, r2, r3, r4, _⟩ := row5 hQ
  clear hW hQ g2 gW HQ HAsk
  generalize (others xs cl).length = m at *
  go_wp2_with fail
  rw [HW.out]
  generalize w2.heap.size = B at *
  refine HT.out.mono ?_
  rintro e w3 ⟨rfl, g3⟩
  replace g := g.trans g3
  replace hu := hu.gr g3
  replace r0 := g3.cell r0
  replace r1 := g3.cell r1
  replace r2 := g3.cell r2
  replace r3 := g3.cell r3
  replace r4 := g3.cell r4
  clear HT HW g3
  go_wp2_with fail
  refine (HTu.out _ _ hu).mono ?_
  rintro e w4 ⟨rfl, g3⟩
  replace g := g.trans g3
  replace hu := hu.gr g3
  replace r0 := g3.cell r0
  replace r1 := g3.cell r1
  replace r2 := g3.cell r2
  replace r3 := g3.cell r3
  replace r4 := g3.cell r4
  clear g3
  go_wp2_with fail
  refine (HAb.out _ _ hu).mono ?_
  rintro e w5 ⟨rfl, g3⟩
  replace g := g.trans g3
  clear g3 r0 r1 r2 r3 r4 hu HTu HAb HIs
  go_wp2_with fail
  go_loopw [11, 12, 40] (fun s11 s12 s40 wr => ∃ (k : Nat) (q : Int) (L : List Int), k ≤ n ∧ s40 = .int .i64 k ∧ s11 = .int .i64 q ∧ -3000 ≤ q ∧ q ≤ 3000 ∧ wr.ownsRow w.heap.size 3 1 s12 k (ints L) ∧ Hid (L ++ witL cl T (xs.drop k) k q = R) ∧ Gr w wr) (fun _ _ i _ => n - (intOf i).toNat)
  case atStart => exact ⟨0, _, [], Nat.zero_le _, rfl, rfl, by omega, by omega, World.ownsRow_nil _ _ _ _, by unfold Hid; rw [List.drop_zero, HR.out]; rfl, g⟩
  case round =>
    obtain ⟨k, q, L, hk, rfl, rfl, hq0, hq1, hown, HL, gr⟩ := hrel
    have hsize := Below.size gr
    by_cases hlt : k < n
    · obtain ⟨y, hy⟩ : ∃ y, xs[k]? = some y := ⟨xs[k]'(by have := HN.out; omega), List.getElem?_eq_getElem _⟩
      obtain ⟨c0, c1, c2⟩ := (HC.out k y hy).gr gr
      have hkI : (k : Int) < n := by omega
      have hwq : IntKind.i64.wrap (q - 1) = q - 1 := by rw [IntKind.wrap_i64]; omega
      have hk1 : k ≤ 1000 := by omega
      by_cases hcc : k = cl
      · subst hcc
        have qc : ((k : Int) == (k : Int)) = true := by simp
        by_cases ha : y.lo ≤ T
        · have q1 : decide (y.lo ≤ T) = true := decide_eq_true ha
          by_cases hb : T < y.hi
          · have q2 : decide (T < y.hi) = true := decide_eq_true hb
            have HS := Lib.hid (witL_c (T := T) q hy rfl)
            clear hy
            go_wp2_with (first
                | (at_builtin; refine wpList_append_own _ rfl _ _ 24 rfl w.heap.size 3 i0 (.int .i64 0) 1 8 Tryz.underlying24 hi hz0 hz1 hz2 rfl (by decide) _ _ _ rfl ((hown.alloc _).alloc _) ⟨wr.heap.size + 1, 0, none⟩ 1 1 [.int .i64 T] rfl rfl (cell_one_at (by simp) _ _) (by intro u hu; simp at hu; subst hu; rfl) (by unfold maxLen; omega) (by first | omega | (simp; omega)) (by first | omega | (simp; omega)) ?_; intro v1 w9 hown1 hgrow1 hnil1))
            go_roundw
            case rel =>
              exact ⟨k + 1, q, L ++ [T], by omega, by go_num, by go_num, by omega, by omega, by simpa [ints] using hown1, by unfold Hid; rw [← HL.out, HS.out]; simp, Below.grown ((gr.alloc _).alloc _) hgrow1 (by simp; omega) (fun j hj => (hown.lt j hj).1)⟩
            case measure => simp [intOf]; omega
          · have q2 : decide (T < y.hi) = false := decide_eq_false hb
            have HS := Lib.hid (witL_c (T := T) q hy rfl)
            clear hy
            go_wp2_with (first
                | (at_builtin; refine wpList_append_own _ rfl _ _ 24 rfl w.heap.size 3 i0 (.int .i64 0) 1 8 Tryz.underlying24 hi hz0 hz1 hz2 rfl (by decide) _ _ _ rfl ((hown.alloc _).alloc _) ⟨wr.heap.size + 1, 0, none⟩ 1 1 [.int .i64 T] rfl rfl (cell_one_at (by simp) _ _) (by intro u hu; simp at hu; subst hu; rfl) (by unfold maxLen; omega) (by first | omega | (simp; omega)) (by first | omega | (simp; omega)) ?_; intro v1 w9 hown1 hgrow1 hnil1))
            go_roundw
            case rel =>
              exact ⟨k + 1, q, L ++ [T], by omega, by go_num, by go_num, by omega, by omega, by simpa [ints] using hown1, by unfold Hid; rw [← HL.out, HS.out]; simp, Below.grown ((gr.alloc _).alloc _) hgrow1 (by simp; omega) (fun j hj => (hown.lt j hj).1)⟩
            case measure => simp [intOf]; omega
        · have q1 : decide (y.lo ≤ T) = false := decide_eq_false ha
          have HS := Lib.hid (witL_c (T := T) q hy rfl)
          clear hy
          go_wp2_with (first
              | (at_builtin; refine wpList_append_own _ rfl _ _ 24 rfl w.heap.size 3 i0 (.int .i64 0) 1 8 Tryz.underlying24 hi hz0 hz1 hz2 rfl (by decide) _ _ _ rfl ((hown.alloc _).alloc _) ⟨wr.heap.size + 1, 0, none⟩ 1 1 [.int .i64 T] rfl rfl (cell_one_at (by simp) _ _) (by intro u hu; simp at hu; subst hu; rfl) (by unfold maxLen; omega) (by first | omega | (simp; omega)) (by first | omega | (simp; omega)) ?_; intro v1 w9 hown1 hgrow1 hnil1))
          go_roundw
          case rel =>
            exact ⟨k + 1, q, L ++ [T], by omega, by go_num, by go_num, by omega, by omega, by simpa [ints] using hown1, by unfold Hid; rw [← HL.out, HS.out]; simp, Below.grown ((gr.alloc _).alloc _) hgrow1 (by simp; omega) (fun j hj => (hown.lt j hj).1)⟩
          case measure => simp [intOf]; omega
      · have qc : ((k : Int) == (cl : Int)) = false := beq_eq_false_iff_ne.2 (by omega)
        by_cases hq : (y.lo ≤ T ∧ T < y.hi) ∧ 0 < q
        · obtain ⟨⟨ha, hb⟩, hd⟩ := id hq
          have q1 : decide (y.lo ≤ T) = true := decide_eq_true ha
          have q2 : decide (T < y.hi) = true := decide_eq_true hb
          have q3 : decide (0 < q) = true := decide_eq_true hd
          have HS := Lib.hid (witL_hi (T := T) hy hcc hq)
          clear hy
          go_wp2_with (first
              | (at_builtin; refine wpList_append_own _ rfl _ _ 24 rfl w.heap.size 3 i0 (.int .i64 0) 1 8 Tryz.underlying24 hi hz0 hz1 hz2 rfl (by decide) _ _ _ rfl ((hown.alloc _).alloc _) ⟨wr.heap.size + 1, 0, none⟩ 1 1 [.int .i64 y.hi] rfl rfl (cell_one_at (by simp) _ _) (by intro u hu; simp at hu; subst hu; rfl) (by unfold maxLen; omega) (by first | omega | (simp; omega)) (by first | omega | (simp; omega)) ?_; intro v1 w9 hown1 hgrow1 hnil1))
          go_roundw
          case rel =>
            exact ⟨k + 1, q - 1, L ++ [y.hi], by omega, by go_num, by go_num, by omega, by omega, by simpa [ints] using hown1, by unfold Hid; rw [← HL.out, HS.out]; simp, Below.grown ((gr.alloc _).alloc _) hgrow1 (by simp; omega) (fun j hj => (hown.lt j hj).1)⟩
          case measure => simp [intOf]; omega
        · by_cases ha : y.lo ≤ T
          · have q1 : decide (y.lo ≤ T) = true := decide_eq_true ha
            by_cases hb : T < y.hi
            · have q2 : decide (T < y.hi) = true := decide_eq_true hb
              have q3 : decide (0 < q) = false := decide_eq_false (fun hd => hq ⟨⟨ha, hb⟩, hd⟩)
              have hd : ¬ 0 < q := fun hd => hq ⟨⟨ha, hb⟩, hd⟩
              have HS := Lib.hid (witL_lo (T := T) hy hcc hq)
              clear hy
              go_wp2_with (first
                  | (at_builtin; refine wpList_append_own _ rfl _ _ 24 rfl w.heap.size 3 i0 (.int .i64 0) 1 8 Tryz.underlying24 hi hz0 hz1 hz2 rfl (by decide) _ _ _ rfl ((hown.alloc _).alloc _) ⟨wr.heap.size + 1, 0, none⟩ 1 1 [.int .i64 y.lo] rfl rfl (cell_one_at (by simp) _ _) (by intro u hu; simp at hu; subst hu; rfl) (by unfold maxLen; omega) (by first | omega | (simp; omega)) (by first | omega | (simp; omega)) ?_; intro v1 w9 hown1 hgrow1 hnil1))
              go_roundw
              case rel =>
                exact ⟨k + 1, q, L ++ [y.lo], by omega, by go_num, by go_num, by omega, by omega, by simpa [ints] using hown1, by unfold Hid; rw [← HL.out, HS.out]; simp, Below.grown ((gr.alloc _).alloc _) hgrow1 (by simp; omega) (fun j hj => (hown.lt j hj).1)⟩
              case measure => simp [intOf]; omega
            · have q2 : decide (T < y.hi) = false := decide_eq_false hb
              have HS := Lib.hid (witL_lo (T := T) hy hcc hq)
              clear hy
              go_wp2_with (first
                  | (at_builtin; refine wpList_append_own _ rfl _ _ 24 rfl w.heap.size 3 i0 (.int .i64 0) 1 8 Tryz.underlying24 hi hz0 hz1 hz2 rfl (by decide) _ _ _ rfl ((hown.alloc _).alloc _) ⟨wr.heap.size + 1, 0, none⟩ 1 1 [.int .i64 y.lo] rfl rfl (cell_one_at (by simp) _ _) (by intro u hu; simp at hu; subst hu; rfl) (by unfold maxLen; omega) (by first | omega | (simp; omega)) (by first | omega | (simp; omega)) ?_; intro v1 w9 hown1 hgrow1 hnil1))
              go_roundw
              case rel =>
                exact ⟨k + 1, q, L ++ [y.lo], by omega, by go_num, by go_num, by omega, by omega, by simpa [ints] using hown1, by unfold Hid; rw [← HL.out, HS.out]; simp, Below.grown ((gr.alloc _).alloc _) hgrow1 (by simp; omega) (fun j hj => (hown.lt j hj).1)⟩
              case measure => simp [intOf]; omega
          · have q1 : decide (y.lo ≤ T) = false := decide_eq_false ha
            have HS := Lib.hid (witL_lo (T := T) hy hcc hq)
            clear hy
            go_wp2_with (first
                | (at_builtin; refine wpList_append_own _ rfl _ _ 24 rfl w.heap.size 3 i0 (.int .i64 0) 1 8 Tryz.underlying24 hi hz0 hz1 hz2 rfl (by decide) _ _ _ rfl ((hown.alloc _).alloc _) ⟨wr.heap.size + 1, 0, none⟩ 1 1 [.int .i64 y.lo] rfl rfl (cell_one_at (by simp) _ _) (by intro u hu; simp at hu; subst hu; rfl) (by unfold maxLen; omega) (by first | omega | (simp; omega)) (by first | omega | (simp; omega)) ?_; intro v1 w9 hown1 hgrow1 hnil1))
            go_roundw
            case rel =>
              exact ⟨k + 1, q, L ++ [y.lo], by omega, by go_num, by go_num, by omega, by omega, by simpa [ints] using hown1, by unfold Hid; rw [← HL.out, HS.out]; simp, Below.grown ((gr.alloc _).alloc _) hgrow1 (by simp; omega) (fun j hj => (hown.lt j hj).1)⟩
            case measure => simp [intOf]; omega
    · have hkk : k = n := by omega
      subst hkk
      have hi2 : (k : Int) ≤ k := by omega
      have HL2 : Hid (L = R) := by
        have hd : xs.drop k = [] := List.drop_of_length_le (by have := HN.out; omega)
        unfold Hid
        rw [← HL.out, hd]
        simp [witL]
      go_wp2_with fail
      obtain ⟨p8, c8, hp8⟩ := owns_slice hown
      subst hp8
      exact bodyPost_ret (v := .tuple #[.slice p8 k c8, .int .i64 0]) (by simp [results, Tryz.results7, go_sem]) rfl ⟨_, rfl, by rw [← HL2.out]; exact hown, gr⟩
end Go.Proofs.YtigmonaggppehaaGreatDoor
