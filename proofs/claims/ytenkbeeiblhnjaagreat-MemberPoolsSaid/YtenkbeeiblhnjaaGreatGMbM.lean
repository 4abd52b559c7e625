/- Members: ages. -/
import Derived.Test.YtenkbeeiblhnjaaGreatGMbE
import Derived.Test.YtenkbeeiblhnjaaGreatGTsB
namespace Go.Proofs.YtenkbeeiblhnjaaGreat
open Go.RowKit Go.Lib
set_option linter.unusedSimpArgs false
set_option linter.unusedVariables false
theorem cli_one {W : World} {Bq : Nat} {x : CliR} (h0 : W.cell? ⟨Bq, 0, none⟩ = some (.string x.nm)) (h1 : W.cell? ⟨Bq, 1, none⟩ = some (.string x.na)) (h2 : W.cell? ⟨Bq, 2, none⟩ = some (.int .i64 x.bn)) (h3 : W.cell? ⟨Bq, 3, none⟩ = some (.string x.ct)) :
    CliAts W (.slice (some ⟨Bq, 0, none⟩) 1 1) [x] :=
  ⟨_, 1, rfl, ⟨by simp, by unfold maxLen; omega⟩, fun _ => ⟨Bq, 0, rfl, fun i y hy => by
    rcases i with _ | i
    · simp at hy; subst hy; exact ⟨h0, h1, h2, h3⟩
    · simp at hy⟩⟩
/-- the error of a climber and a day -/
def ageE (x : CliR) (d : Int) : Int := firstE [listE 160 (cliE [x]) [x], outE d 0 99999, if decide (d < x.bn) then 11 else 0]
set_option maxHeartbeats 1000000 in
set_option maxRecDepth 100000 in
theorem checkAge_c (x : CliR) (d : Int) (w : World) :
    Calls Tryz.prog 78 #[cliV x, .int .i64 d] w fun e w' => e = .returned (.int .i64 (ageE x d)) ∧ Gr w w' := by
  have hR : ageE x d = firstE [listE 160 (cliE [x]) [x], outE d 0 99999, if decide (d < x.bn) then 11 else 0] := rfl
  have HC := Lib.hid (fun (Bq : Nat) (W : World) h0 h1 h2 h3 => checkClis_c [x] (.slice (some ⟨Bq, 0, none⟩) 1 1) W (cli_one h0 h1 h2 h3))
  generalize listE 160 (cliE [x]) [x] = e1 at *
  obtain ⟨e2, h2', H2⟩ := day_e d
  obtain ⟨e3, h3', H3⟩ := if_e (decide (d < x.bn)) 11
  rw [← h2', ← h3'] at hR
  have hF := first_three e1 e2 e3
  rw [← hR] at hF
  generalize ageE x d = err at *
  replace H2 := Lib.hid H2
  replace H3 := Lib.hid H3
  have HF := Lib.hid hF
  unfold cliV
  obtain ⟨W, hW, g, a0, a1, a2, a3⟩ := box4 w (.string x.nm) (.string x.na) (.int .i64 x.bn) (.string x.ct) 74
  have HW := Lib.hid hW
  clear hW hF hR h2' h3'
  go_enter Tryz.func78, Tryz.ntmps78
  go_wp2_with fail
  rw [HW.out]
  generalize w.heap.size = Bx at *
  clear HW
  have gd := (Gr.refl W).drew
  replace a0 := gd.cell a0
  replace a1 := gd.cell a1
  replace a2 := gd.cell a2
  replace a3 := gd.cell a3
  replace g := g.trans gd
  clear gd
  refine wp_region_held_drew (S := (fun w' => w'.cell? ⟨Bx, 0, none⟩ = some (.string x.nm) ∧ w'.cell? ⟨Bx, 1, none⟩ = some (.string x.na) ∧ w'.cell? ⟨Bx, 2, none⟩ = some (.int .i64 x.bn) ∧ w'.cell? ⟨Bx, 3, none⟩ = some (.string x.ct))) (by kernel_rfl) ⟨a0, a1, a2, a3⟩ (fun hHeld => ?_)
  generalize W.drew = V at *
  refine wpAnyH_take (i := 0) (v := (.agg #[.string x.nm, .string x.na, .int .i64 x.bn, .string x.ct])) (op_at rfl) (by kernel_rfl) (by kernel_rfl) (by kernel_rfl) (fun _ _ _ h => h) (Or.inl ⟨rfl, fun w hSw => ?_⟩) (by assumption) ?_
  · (try dsimp only at hSw); go_simp; try with_reducible rfl
  (try simp only [Act.put, List.setIfInBounds_toArray, List.set_cons_zero, List.set_cons_succ])
  refine wpAnyH_take (i := 3) (v := (.int .i64 d)) (op_at rfl) (by kernel_rfl) (by kernel_rfl) (by kernel_rfl) (fun _ _ _ h => h) (Or.inl ⟨rfl, fun w hSw => ?_⟩) (by assumption) ?_
  · (try dsimp only at hSw); go_simp; try with_reducible rfl
  (try simp only [Act.put, List.setIfInBounds_toArray, List.set_cons_zero, List.set_cons_succ])
  refine wpAnyH_take (i := 5) (v := (.pointer (some ⟨Bx, 2, none⟩))) (op_at rfl) (by kernel_rfl) (by kernel_rfl) (by kernel_rfl) (fun _ _ _ h => h) (Or.inl ⟨rfl, fun w hSw => ?_⟩) (by assumption) ?_
  · (try dsimp only at hSw); go_simp; try with_reducible rfl
  (try simp only [Act.put, List.setIfInBounds_toArray, List.set_cons_zero, List.set_cons_succ])
  refine wpAnyH_take (i := 6) (v := (.int .i64 x.bn)) (op_at rfl) (by kernel_rfl) (by kernel_rfl) (by kernel_rfl) (fun _ _ _ h => h) (Or.inl ⟨rfl, fun w hSw => ?_⟩) (by assumption) ?_
  · (try dsimp only at hSw); go_simp; try with_reducible rfl
  (try simp only [Act.put, List.setIfInBounds_toArray, List.set_cons_zero, List.set_cons_succ])
  refine wpAnyH_take (i := 7) (v := (.int .i64 d)) (op_at rfl) (by kernel_rfl) (by kernel_rfl) (by kernel_rfl) (fun _ _ _ h => h) (Or.inl ⟨rfl, fun w hSw => ?_⟩) (by assumption) ?_
  · (try dsimp only at hSw); go_simp; try with_reducible rfl
  (try simp only [Act.put, List.setIfInBounds_toArray, List.set_cons_zero, List.set_cons_succ])
  refine wpAnyH_take (i := 8) (v := (.bool (decide (d < x.bn)))) (op_at rfl) (by kernel_rfl) (by kernel_rfl) (by kernel_rfl) (fun _ _ _ h => h) (Or.inl ⟨rfl, fun w hSw => ?_⟩) (by assumption) ?_
  · (try dsimp only at hSw); go_simp; try with_reducible rfl
  (try simp only [Act.put, List.setIfInBounds_toArray, List.set_cons_zero, List.set_cons_succ])
  refine wpAnyH_ready (rs := [1]) (by kernel_rfl) (by simp) (AllReadyH.cons (op_at rfl) (fun K hK => ?_) AllReadyH.nil)
  go_simp
  obtain ⟨WS, hWS, gS, t0, t1, t2, t3⟩ := box4 V (.string x.nm) (.string x.na) (.int .i64 x.bn) (.string x.ct) 74
  rw [hWS]
  clear hWS
  replace a0 := gS.cell a0
  replace a1 := gS.cell a1
  replace a2 := gS.cell a2
  replace a3 := gS.cell a3
  replace g := g.trans gS
  refine hK.out _ _ ⟨a0, a1, a2, a3⟩ (fun hHeld => ?_)
  clear hK K
  (try simp only [Act.put, List.setIfInBounds_toArray, List.set_cons_zero, List.set_cons_succ])
  refine wpAnyH_ready (rs := [2]) (by kernel_rfl) (by simp) (AllReadyH.cons (op_at rfl) (fun K hK => ?_) AllReadyH.nil)
  go_simp
  (refine (HC.out V.heap.size _ t0 t1 t2 t3).mono ?_; rintro e W1 ⟨rfl, hg⟩; replace a0 := hg.cell a0; replace a1 := hg.cell a1; replace a2 := hg.cell a2; replace a3 := hg.cell a3; replace g := g.trans hg; clear hg)
  go_wp2_with fail
  refine hK.out _ _ ⟨a0, a1, a2, a3⟩ (fun hHeld => ?_)
  clear hK K
  (try simp only [Act.put, List.setIfInBounds_toArray, List.set_cons_zero, List.set_cons_succ])
  refine wpAnyH_ready (rs := [4]) (by kernel_rfl) (by simp) (AllReadyH.cons (op_at rfl) (fun K hK => ?_) AllReadyH.nil)
  go_simp
  (refine (H2.out _).mono ?_; rintro e w' ⟨rfl, rfl⟩)
  go_wp2_with fail
  refine hK.out _ _ ⟨a0, a1, a2, a3⟩ (fun hHeld => ?_)
  clear hK K
  (try simp only [Act.put, List.setIfInBounds_toArray, List.set_cons_zero, List.set_cons_succ])
  refine wpAnyH_ready (rs := [9]) (by kernel_rfl) (by simp) (AllReadyH.cons (op_at rfl) (fun K hK => ?_) AllReadyH.nil)
  go_simp
  (refine (H3.out _).mono ?_; rintro e w' ⟨rfl, rfl⟩)
  go_wp2_with fail
  refine hK.out _ _ ⟨a0, a1, a2, a3⟩ (fun hHeld => ?_)
  clear hK K
  (try simp only [Act.put, List.setIfInBounds_toArray, List.set_cons_zero, List.set_cons_succ])
  refine wpAnyH_ready (rs := [10]) (by kernel_rfl) (by simp) (AllReadyH.cons (op_at rfl) (fun K hK => ?_) AllReadyH.nil)
  go_simp
  obtain ⟨WW, hWW, gW, s0, s1, s2⟩ := box3 W1 (.int .i64 e1) (.int .i64 e2) (.int .i64 e3) 32
  rw [hWW]
  clear hWW
  replace a0 := gW.cell a0
  replace a1 := gW.cell a1
  replace a2 := gW.cell a2
  replace a3 := gW.cell a3
  replace g := g.trans gW
  refine hK.out _ _ ⟨a0, a1, a2, a3⟩ (fun hHeld => ?_)
  clear hK K
  (try simp only [Act.put, List.setIfInBounds_toArray, List.set_cons_zero, List.set_cons_succ])
  refine wpAnyH_ready (rs := [11]) (by kernel_rfl) (by simp) (AllReadyH.cons (op_at rfl) (fun K hK => ?_) AllReadyH.nil)
  go_simp
  (refine (HF.out _ _ WW s0 s1 s2).mono ?_; rintro e w8 ⟨rfl, rfl⟩)
  go_wp2_with fail
  refine hK.out _ _ ⟨a0, a1, a2, a3⟩ (fun hHeld => ?_)
  clear hK K
  (try simp only [Act.put, List.setIfInBounds_toArray, List.set_cons_zero, List.set_cons_succ])
  refine wpAnyH_take (i := 12) (v := (.int .i64 err)) (op_at rfl) (by kernel_rfl) (by kernel_rfl) (by kernel_rfl) (fun _ _ _ h => h) (Or.inl ⟨rfl, fun w hSw => ?_⟩) (by assumption) ?_
  · (try dsimp only at hSw); go_simp; try with_reducible rfl
  (try simp only [Act.put, List.setIfInBounds_toArray, List.set_cons_zero, List.set_cons_succ])
  refine wpAnyH_done (by kernel_rfl) ?_ _
  go_wp2_with fail
  go_ret
  exact ⟨rfl, g⟩
theorem ageE_eq (x : CliR) (d : Int) : ageE x d = if listE 160 (cliE [x]) [x] = 0 then (if outB d 0 99999 = true then 3 else if decide (d < x.bn) = true then 11 else 0) else listE 160 (cliE [x]) [x] := by
  unfold ageE outE
  by_cases h : listE 160 (cliE [x]) [x] = 0 <;> cases outB d 0 99999 <;> cases decide (d < x.bn) <;> simp [firstE, h]
theorem ageE_zero {x : CliR} {d : Int} (h : ageE x d = 0) : 0 ≤ x.bn ∧ x.bn ≤ d ∧ d ≤ 99999 := by
  unfold ageE at h
  have h1 := firstE_zero h _ (List.mem_cons_self ..)
  have h2 := firstE_zero h (outE d 0 99999) (by simp)
  have h3 := firstE_zero h (if decide (d < x.bn) then 11 else 0) (by simp)
  have h4 : cliE [x] 0 x = 0 := by
    unfold listE at h1
    rw [if_neg (by simp)] at h1
    exact errG_zero 1 0 (by simpa using h1) (by simp) 0 x (by omega) (by omega) rfl
  unfold cliE at h4
  have h5 := firstE_zero h4 (outE x.bn 0 99999) (by simp)
  rw [outE_zero] at h2 h5
  have h6 : ¬ d < x.bn := by
    intro h7
    rw [if_pos (by simpa using h7)] at h3
    cases h3
  omega
theorem ageOf_c (x : CliR) (d : Int) (w : World) (h0 : 0 ≤ x.bn) (h1 : x.bn ≤ d) (h2 : d ≤ 99999) :
    Calls Tryz.prog 79 #[cliV x, .int .i64 d] w fun e w' => e = .returned (.int .i64 ((d - x.bn) / 365)) ∧ Gr w w' := by
  unfold cliV
  have h3 : 0 ≤ d - x.bn := by omega
  have h4 : d - x.bn ≤ 99999 := by omega
  go_enter Tryz.func79, Tryz.ntmps79
  go_wp2_with fail
  go_ret
  exact ⟨rfl, (Gr.refl w).alloc _⟩
set_option maxHeartbeats 1000000 in
set_option maxRecDepth 100000 in
theorem age_ok (x : CliR) (d : Int) (w : World) (h : ageE x d = 0) :
    Calls Tryz.prog 31 #[cliV x, .int .i64 d] w fun e w' => e = .returned (.tuple #[.int .i64 ((d - x.bn) / 365), .int .i64 0]) ∧ Gr w w' := by
  obtain ⟨b0, b1, b2⟩ := ageE_zero h
  have HC := Lib.hid (fun W => checkAge_c x d W)
  have HA := Lib.hid (fun W => ageOf_c x d W b0 b1 b2)
  rw [h] at HC
  unfold cliV at *
  obtain ⟨W, hW, g, a0, a1, a2, a3⟩ := box4 w (.string x.nm) (.string x.na) (.int .i64 x.bn) (.string x.ct) 74
  have HW := Lib.hid hW
  generalize (d - x.bn) / 365 = q at *
  clear hW h b0 b1 b2
  go_enter Tryz.func31, Tryz.ntmps31
  go_wp2_with fail
  rw [HW.out]
  refine (HC.out _).mono ?_
  rintro e W1 ⟨rfl, hg⟩
  replace a0 := hg.cell a0
  replace a1 := hg.cell a1
  replace a2 := hg.cell a2
  replace a3 := hg.cell a3
  go_wp2_with fail
  refine (HA.out _).mono ?_
  rintro e W2 ⟨rfl, hg2⟩
  go_wp2_with fail
  exact bodyPost_ret (v := .tuple #[.int .i64 q, .int .i64 0]) (by simp [results, Tryz.results31, go_sem]) rfl ⟨rfl, (g.trans hg).trans hg2⟩
theorem age_bad (x : CliR) (d : Int) (w : World) (h : ageE x d ≠ 0) :
    Calls Tryz.prog 31 #[cliV x, .int .i64 d] w fun e w' => e = .returned (.tuple #[.int .i64 0, .int .i64 (ageE x d)]) ∧ Gr w w' := by
  have HC := Lib.hid (fun W => checkAge_c x d W)
  generalize ageE x d = z at *
  have q1 : (z == 0) = false := by simpa using h
  have q2 : (z != 0) = true := by simpa [bne] using q1
  unfold cliV at *
  obtain ⟨W, hW, g, a0, a1, a2, a3⟩ := box4 w (.string x.nm) (.string x.na) (.int .i64 x.bn) (.string x.ct) 74
  have HW := Lib.hid hW
  clear hW
  go_enter Tryz.func31, Tryz.ntmps31
  go_wp2_with fail
  rw [HW.out]
  refine (HC.out _).mono ?_
  rintro e W1 ⟨rfl, hg⟩
  go_wp2_with fail
  exact bodyPost_ret (v := .tuple #[.int .i64 0, .int .i64 z]) (by simp [results, Tryz.results31, go_sem]) rfl ⟨rfl, g.trans hg⟩
end Go.Proofs.YtenkbeeiblhnjaaGreat
namespace Go.Proofs.YtenkbeeiblhnjaaGreat
open Go.RowKit Go.Lib
set_option linter.unusedSimpArgs false
set_option linter.unusedVariables false
/-- whether a category suits an age; whether one of them does; the names of those -/
def suitB (c : CatR) (a : Int) : Bool := decide (c.lo ≤ a) && decide (a ≤ c.hi)
def covB (xs : List CatR) (a : Int) : Bool := xs.any fun c => suitB c a
def suitL (xs : List CatR) (a : Int) : List ByteArray := (xs.filter fun c => suitB c a).map fun c => c.nm
theorem covB_take {xs : List CatR} {k : Nat} {x : CatR} (h : xs[k]? = some x) (a : Int) : covB (xs.take (k + 1)) a = (covB (xs.take k) a || suitB x a) := by
  unfold covB; rw [List.take_add_one, h]; simp
theorem suitL_take {xs : List CatR} {k : Nat} {x : CatR} (h : xs[k]? = some x) (a : Int) : suitL (xs.take (k + 1)) a = suitL (xs.take k) a ++ (if suitB x a then [x.nm] else []) := by
  unfold suitL; rw [List.take_add_one, h, List.filter_append, List.map_append]
  cases e : suitB x a <;> simp [e]
theorem suitL_cov (xs : List CatR) (a : Int) : (0 < (suitL xs a).length) ↔ covB xs a = true := by
  unfold suitL covB
  rw [List.length_map, List.length_pos_iff_exists_mem, List.any_eq_true]
  constructor
  · rintro ⟨c, hc⟩; rw [List.mem_filter] at hc; exact ⟨c, hc⟩
  · rintro ⟨c, hc⟩; exact ⟨c, List.mem_filter.2 hc⟩
theorem suitL_len (xs : List CatR) (a : Int) : (suitL xs a).length ≤ xs.length := by
  unfold suitL; rw [List.length_map]; exact List.length_filter_le _ _
/-- a row of N truth values -/
structure BitsA (N : Nat) (f : Nat → Bool) (cur : Array Value) : Prop where
  size : cur.size = N
  cell : ∀ a, a < N → cur[a]? = some (.bool (f a))
theorem BitsA.store {N : Nat} {f : Nat → Bool} {cur : Array Value} (h : BitsA N f cur) {m : Nat} (hm : m < N) : BitsA N (fun a => f a || a == m) (cur.setIfInBounds m (.bool true)) := by
  refine ⟨by simpa using h.size, fun a ha => ?_⟩
  rw [Array.getElem?_setIfInBounds]
  have hs := h.size
  by_cases q : m = a
  · subst q; rw [if_pos rfl, if_pos (by omega)]; simp
  · rw [if_neg q, h.cell a ha]
    have q2 : (a == m) = false := by simpa using fun e : a = m => q e.symm
    simp [q2]
theorem BitsA.congr {N : Nat} {f g : Nat → Bool} {cur : Array Value} (h : BitsA N f cur) (e : ∀ a, a < N → f a = g a) : BitsA N g cur := ⟨h.size, fun a ha => by rw [h.cell a ha, e a ha]⟩
structure GapR where
  a : Int
  b : Int
/-- the gaps among the ages below k -/
def gapL (f : Nat → Bool) : Nat → List GapR
  | 0 => []
  | k + 1 => if f k then gapL f k else match (gapL f k).getLast? with
    | some q => if q.b = (k : Int) - 1 then (gapL f k).dropLast ++ [⟨q.a, k⟩] else gapL f k ++ [⟨k, k⟩]
    | none => [⟨k, k⟩]
/-- what the gaps below k have in common -/
structure GapsOK (f : Nat → Bool) (k : Nat) (l : List GapR) : Prop where
  low : ∀ q ∈ l, 0 ≤ q.a ∧ q.a ≤ q.b ∧ q.b < k
  asc : ∀ (i : Nat) (p q : GapR), l[i]? = some p → l[i + 1]? = some q → p.b + 1 < q.a
  mem : ∀ a : Nat, a < k → ((∃ q ∈ l, q.a ≤ (a : Int) ∧ (a : Int) ≤ q.b) ↔ f a = false)
theorem gap_last {f : Nat → Bool} {k : Nat} {l : List GapR} (h : GapsOK f k l) (hk : 0 < k) {q : GapR} (hq : l.getLast? = some q) : q.b = (k : Int) - 1 ↔ f (k - 1) = false := by
  have hm := List.mem_of_getLast? hq
  have hb := h.low q hm
  rw [← h.mem (k - 1) (by omega)]
  constructor
  · intro e; exact ⟨q, hm, by omega, by omega⟩
  · rintro ⟨p, hp, h1, h2⟩
    have hpb := h.low p hp
    -- p is the last one
    obtain ⟨i, hi⟩ := List.mem_iff_getElem?.1 hp
    have hil := (List.getElem?_eq_some_iff.1 hi).1
    rcases Nat.lt_or_ge (i + 1) l.length with h3 | h3
    · exfalso
      have h4 := h.asc i p _ hi (List.getElem?_eq_getElem h3)
      have h5 := h.low _ (List.getElem_mem h3)
      omega
    · have : l.getLast? = l[i]? := by rw [List.getLast?_eq_getElem?]; congr 1; omega
      rw [hq, hi] at this
      cases this
      omega
theorem gap_none {f : Nat → Bool} {k : Nat} {l : List GapR} (h : GapsOK f k l) (hk : 0 < k) (hq : l.getLast? = none) : f (k - 1) = true := by
  rw [List.getLast?_eq_none_iff] at hq
  subst hq
  cases e : f (k - 1)
  · obtain ⟨q, hq, _⟩ := (h.mem (k - 1) (by omega)).2 e
    cases hq
  · rfl
theorem getLast_app {l : List GapR} {q : GapR} (h : l.getLast? = some q) : l = l.dropLast ++ [q] := by
  have hne : l ≠ [] := by intro e; subst e; cases h
  rw [List.getLast?_eq_some_getLast hne] at h
  cases h
  exact (List.dropLast_concat_getLast hne).symm
theorem gaps_ok (f : Nat → Bool) : ∀ k, GapsOK f k (gapL f k)
  | 0 => ⟨fun q hq => (by cases hq), fun i p q h => (by simp [gapL] at h), fun a h => (by omega)⟩
  | k + 1 => by
    have ih := gaps_ok f k
    cases e : f k
    · -- not covered
      have add : (∀ q ∈ gapL f k, q.b + 1 < (k : Int)) → GapsOK f (k + 1) (gapL f k ++ [⟨k, k⟩]) := fun hfar => by
        refine ⟨fun q hq => ?_, fun i p q hp hq => ?_, fun a ha => ?_⟩
        · rw [List.mem_append, List.mem_singleton] at hq
          rcases hq with hq | rfl
          · have := ih.low q hq; omega
          · simp; omega
        · rcases Nat.lt_or_ge (i + 1) (gapL f k).length with h1 | h1
          · rw [List.getElem?_append_left (by omega)] at hp
            rw [List.getElem?_append_left h1] at hq
            exact ih.asc i p q hp hq
          · have hl := (List.getElem?_eq_some_iff.1 hq).1
            simp at hl
            have h2 : i + 1 = (gapL f k).length := by omega
            rw [List.getElem?_append_left (by omega)] at hp
            rw [List.getElem?_append_right h1, h2, Nat.sub_self] at hq
            simp at hq
            subst hq
            exact hfar p (List.mem_of_getElem? hp)
        · rcases Nat.lt_or_ge a k with h1 | h1
          · rw [← ih.mem a h1]
            constructor
            · rintro ⟨q, hq, h2⟩
              rw [List.mem_append, List.mem_singleton] at hq
              rcases hq with hq | rfl
              · exact ⟨q, hq, h2⟩
              · simp at h2; omega
            · rintro ⟨q, hq, h2⟩
              exact ⟨q, List.mem_append_left _ hq, h2⟩
          · obtain rfl : a = k := by omega
            exact ⟨fun _ => e, fun _ => ⟨⟨a, a⟩, by simp, by simp⟩⟩
      cases hq : (gapL f k).getLast? with
      | none =>
        have hnil : gapL f k = [] := List.getLast?_eq_none_iff.1 hq
        have h2 : gapL f (k + 1) = gapL f k ++ [⟨k, k⟩] := by simp only [gapL, e, hq, hnil]; rfl
        rw [h2]
        exact add fun q hq2 => by rw [hnil] at hq2; cases hq2
      | some q =>
        have happ := getLast_app hq
        have hqm := List.mem_of_getLast? hq
        have hql := ih.low q hqm
        by_cases hb : q.b = (k : Int) - 1
        · have h2 : gapL f (k + 1) = (gapL f k).dropLast ++ [⟨q.a, k⟩] := by simp only [gapL, e, hq, hb]; rfl
          rw [h2]
          have hdm : ∀ p ∈ (gapL f k).dropLast, p ∈ gapL f k := fun p hp => by rw [happ]; exact List.mem_append_left _ hp
          refine ⟨fun p hp => ?_, fun i p r hp hr => ?_, fun a ha => ?_⟩
          · rw [List.mem_append, List.mem_singleton] at hp
            rcases hp with hp | rfl
            · have := ih.low p (hdm p hp); omega
            · simp; omega
          · rcases Nat.lt_or_ge (i + 1) (gapL f k).dropLast.length with h1 | h1
            · rw [List.getElem?_append_left (by omega)] at hp
              rw [List.getElem?_append_left h1] at hr
              refine ih.asc i p r ?_ ?_
              · rw [happ, List.getElem?_append_left (by omega)]; exact hp
              · rw [happ, List.getElem?_append_left h1]; exact hr
            · have hl := (List.getElem?_eq_some_iff.1 hr).1
              simp only [List.length_append, List.length_singleton] at hl
              have h3 : i + 1 = (gapL f k).dropLast.length := by omega
              rw [List.getElem?_append_left (by omega)] at hp
              rw [List.getElem?_append_right h1, h3, Nat.sub_self] at hr
              simp at hr
              subst hr
              refine ih.asc i p q ?_ ?_
              · rw [happ, List.getElem?_append_left (by omega)]; exact hp
              · rw [happ, List.getElem?_append_right h1, h3, Nat.sub_self]; rfl
          · rcases Nat.lt_or_ge a k with h1 | h1
            · rw [← ih.mem a h1]
              constructor
              · rintro ⟨p, hp, h3⟩
                rw [List.mem_append, List.mem_singleton] at hp
                rcases hp with hp | rfl
                · exact ⟨p, hdm p hp, h3⟩
                · simp at h3; exact ⟨q, hqm, by omega, by omega⟩
              · rintro ⟨p, hp, h3⟩
                rw [happ, List.mem_append, List.mem_singleton] at hp
                rcases hp with hp | rfl
                · exact ⟨p, List.mem_append_left _ hp, h3⟩
                · exact ⟨⟨p.a, k⟩, by simp, by simp; omega⟩
            · obtain rfl : a = k := by omega
              exact ⟨fun _ => e, fun _ => ⟨⟨q.a, a⟩, by simp, by simp; omega⟩⟩
        · have h2 : gapL f (k + 1) = gapL f k ++ [⟨k, k⟩] := by simp only [gapL, e, hq, hb]; rfl
          rw [h2]
          refine add fun p hp => ?_
          have hpl := ih.low p hp
          obtain ⟨i, hi⟩ := List.mem_iff_getElem?.1 hp
          have hil := (List.getElem?_eq_some_iff.1 hi).1
          rcases Nat.lt_or_ge (i + 1) (gapL f k).length with h3 | h3
          · have h4 := ih.asc i p _ hi (List.getElem?_eq_getElem h3)
            have h5 := ih.low _ (List.getElem_mem h3)
            omega
          · have h6 : (gapL f k).getLast? = (gapL f k)[i]? := by rw [List.getLast?_eq_getElem?]; congr 1; omega
            rw [hq, hi] at h6
            cases h6
            omega
    · have h2 : gapL f (k + 1) = gapL f k := by simp only [gapL, e]; rfl
      rw [h2]
      refine ⟨fun q hq => by have := ih.low q hq; omega, ih.asc, fun a ha => ?_⟩
      rcases Nat.lt_or_ge a k with h1 | h1
      · exact ih.mem a h1
      · obtain rfl : a = k := by omega
        rw [e]
        constructor
        · rintro ⟨q, hq, h3⟩; have := ih.low q hq; omega
        · intro h; cases h
/-- one step, as the program takes it -/
theorem gapL_step (f : Nat → Bool) (k : Nat) : (f k = true ∧ gapL f (k + 1) = gapL f k) ∨ (f k = false ∧ (k = 0 ∨ f (k - 1) = true) ∧ gapL f (k + 1) = gapL f k ++ [⟨k, k⟩] ∧ ∀ q, (gapL f k).getLast? = some q → q.b ≠ (k : Int) - 1) ∨
    (f k = false ∧ 0 < k ∧ f (k - 1) = false ∧ ∃ l q, gapL f k = l ++ [q] ∧ q.b = (k : Int) - 1 ∧ gapL f (k + 1) = l ++ [⟨q.a, k⟩]) := by
  have ih := gaps_ok f k
  cases e : f k
  · right
    rcases Nat.eq_zero_or_pos k with rfl | hk
    · left
      refine ⟨rfl, .inl rfl, by simp [gapL, e], fun q h => by simp [gapL] at h⟩
    · cases hq : (gapL f k).getLast? with
      | none =>
        left
        have hnil : gapL f k = [] := List.getLast?_eq_none_iff.1 hq
        exact ⟨rfl, .inr (gap_none ih hk hq), by simp only [gapL, e, hq, hnil]; rfl, fun q h => by cases h⟩
      | some q =>
        have hg := gap_last ih hk hq
        by_cases hb : q.b = (k : Int) - 1
        · right
          exact ⟨rfl, hk, hg.1 hb, _, q, getLast_app hq, hb, by simp only [gapL, e, hq, hb]; rfl⟩
        · left
          refine ⟨rfl, .inr ?_, by simp only [gapL, e, hq, hb]; rfl, fun p hp => ?_⟩
          · cases e2 : f (k - 1)
            · exact absurd (hg.2 e2) hb
            · rfl
          · cases hp; exact hb
  · exact .inl ⟨rfl, by simp only [gapL, e]; rfl⟩
theorem gapL_len (f : Nat → Bool) : ∀ k, (gapL f k).length ≤ k
  | 0 => by simp [gapL]
  | k + 1 => by
    have ih := gapL_len f k
    rcases gapL_step f k with ⟨_, h⟩ | ⟨_, _, h, _⟩ | ⟨_, _, _, l, q, h1, _, h⟩
    · rw [h]; omega
    · rw [h]; simp; omega
    · rw [h]; rw [h1] at ih; simp at *; omega
end Go.Proofs.YtenkbeeiblhnjaaGreat
