/- Starters: their order by seeds. -/
import Derived.Test.YtlcbdgmclhdofaaGreatDoorGLsD
import Derived.Test.YtlcbdgmclhdofaaGreatDoorGCmpA
import Derived.Test.YtlcbdgmclhdofaaGreatDoorGNat
import Derived.Sort.Grow
import Derived.Sort.LotA
namespace Go.Proofs.YtlcbdgmclhdofaaGreatDoor
open Go.RowKit Go.Lib
set_option linter.unusedSimpArgs false
set_option linter.unusedVariables false
/-- the place that a seed gives -/
def rankE (x : EntR) : Int := if x.sd == 0 then 1000000000 else x.sd
set_option maxHeartbeats 1000000 in
set_option maxRecDepth 100000 in
theorem rankEnt_d (x : EntR) (w : World) :
    Calls Tryz.prog 94 #[entV x] w fun e w' => e = .returned (.int .i64 (rankE x)) ∧ Gd w w' := by
  have HE : Hid (rankE x = if x.sd == 0 then 1000000000 else x.sd) := rfl
  unfold entV
  obtain ⟨W, hW, g, a0, a1, a2⟩ := box3 w (.string x.nm) (.string x.na) (.int .i64 x.sd) 60
  have HG : Hid (Gd w W) := by unfold Hid; rw [← hW]; exact (Gd.refl w).alloc _
  have HW := Lib.hid hW
  clear hW g
  cases h0 : (x.sd == 0)
  all_goals
    rw [h0] at HE
    go_enter Tryz.func94, Tryz.ntmps94
    go_wp2_with fail
    rw [HW.out]
    go_wp2_with fail
    go_ret
    exact ⟨by rw [HE.out]; rfl, HG.out⟩
set_option maxHeartbeats 1000000 in
set_option maxRecDepth 100000 in
theorem seedCmp_c (n b off cap i j L : Nat) (x y : EntR) (w : World) (hi : i < n) (hj : j < n) (h1 : n ≤ 1000) (hx : EntAt w b (off + i * 3) x) (hy : EntAt w b (off + j * 3) y) (hL : w.cell? ⟨L, 0, none⟩ = some (.slice (some ⟨b, off, none⟩) n cap)) :
    Calls Tryz.prog 93 #[.int .i64 i, .int .i64 j, .pointer (some ⟨L, 0, none⟩)] w fun e w' => e = .returned (.int .i64 (cmpY (rankE x) (rankE y))) ∧ Gd w w' := by
  have HR1 := Lib.hid (fun W => rankEnt_d x W)
  have HR2 := Lib.hid (fun W => rankEnt_d y W)
  have HCM := Lib.hid (fun W => cmpYInt_c (rankE x) (rankE y) W)
  unfold entV at HR1 HR2
  generalize rankE x = r1 at *
  generalize rankE y = r2 at *
  generalize cmpY r1 r2 = z at *
  obtain ⟨a0, a1, a2⟩ := hx
  obtain ⟨d0, d1, d2⟩ := hy
  have l0 := hL
  have hi2 : (i : Int) < n := by omega
  have hi3 : (0 : Int) ≤ i := by omega
  have hj2 : (j : Int) < n := by omega
  have hj3 : (0 : Int) ≤ j := by omega
  clear hL
  go_enter Tryz.func93, Tryz.ntmps93
  go_wp2_with fail
  have g := Gd.refl w
  have gd := (Gd.refl w).drew
  replace a0 := gd.cell a0
  replace a1 := gd.cell a1
  replace a2 := gd.cell a2
  replace d0 := gd.cell d0
  replace d1 := gd.cell d1
  replace d2 := gd.cell d2
  replace l0 := gd.cell l0
  replace g := g.trans gd
  clear gd
  refine wp_region_held_drew (S := (fun w' => w'.cell? ⟨b, off + i * 3, none⟩ = some (.string x.nm) ∧ w'.cell? ⟨b, off + i * 3 + 1, none⟩ = some (.string x.na) ∧ w'.cell? ⟨b, off + i * 3 + 2, none⟩ = some (.int .i64 x.sd) ∧ w'.cell? ⟨b, off + j * 3, none⟩ = some (.string y.nm) ∧ w'.cell? ⟨b, off + j * 3 + 1, none⟩ = some (.string y.na) ∧ w'.cell? ⟨b, off + j * 3 + 2, none⟩ = some (.int .i64 y.sd) ∧ w'.cell? ⟨L, 0, none⟩ = some (.slice (some ⟨b, off, none⟩) n cap))) (by kernel_rfl) ⟨a0, a1, a2, d0, d1, d2, l0⟩ (fun hHeld => ?_)
  generalize w.drew = V at *
  refine wpAnyH_take (i := 0) (v := (.slice (some ⟨b, off, none⟩) n cap)) (op_at rfl) (by kernel_rfl) (by kernel_rfl) (by kernel_rfl) (fun _ _ _ h => h) (Or.inl ⟨rfl, fun w hSw => ?_⟩) (by assumption) ?_
  · (try dsimp only at hSw); go_simp; try with_reducible rfl
  (try simp only [Act.put, List.setIfInBounds_toArray, List.set_cons_zero, List.set_cons_succ])
  refine wpAnyH_take (i := 1) (v := (.int .i64 i)) (op_at rfl) (by kernel_rfl) (by kernel_rfl) (by kernel_rfl) (fun _ _ _ h => h) (Or.inl ⟨rfl, fun w hSw => ?_⟩) (by assumption) ?_
  · (try dsimp only at hSw); go_simp; try with_reducible rfl
  (try simp only [Act.put, List.setIfInBounds_toArray, List.set_cons_zero, List.set_cons_succ])
  refine wpAnyH_take (i := 2) (v := (.pointer (some ⟨b, off + i * 3, none⟩))) (op_at rfl) (by kernel_rfl) (by kernel_rfl) (by kernel_rfl) (fun _ _ _ h => h) (Or.inl ⟨rfl, fun w hSw => ?_⟩) (by assumption) ?_
  · (try dsimp only at hSw); go_simp; try with_reducible rfl
  (try simp only [Act.put, List.setIfInBounds_toArray, List.set_cons_zero, List.set_cons_succ])
  refine wpAnyH_take (i := 3) (v := (.agg #[.string x.nm, .string x.na, .int .i64 x.sd])) (op_at rfl) (by kernel_rfl) (by kernel_rfl) (by kernel_rfl) (fun _ _ _ h => h) (Or.inl ⟨rfl, fun w hSw => ?_⟩) (by assumption) ?_
  · (try dsimp only at hSw); go_simp; try with_reducible rfl
  (try simp only [Act.put, List.setIfInBounds_toArray, List.set_cons_zero, List.set_cons_succ])
  refine wpAnyH_take (i := 5) (v := (.slice (some ⟨b, off, none⟩) n cap)) (op_at rfl) (by kernel_rfl) (by kernel_rfl) (by kernel_rfl) (fun _ _ _ h => h) (Or.inl ⟨rfl, fun w hSw => ?_⟩) (by assumption) ?_
  · (try dsimp only at hSw); go_simp; try with_reducible rfl
  (try simp only [Act.put, List.setIfInBounds_toArray, List.set_cons_zero, List.set_cons_succ])
  refine wpAnyH_take (i := 6) (v := (.int .i64 j)) (op_at rfl) (by kernel_rfl) (by kernel_rfl) (by kernel_rfl) (fun _ _ _ h => h) (Or.inl ⟨rfl, fun w hSw => ?_⟩) (by assumption) ?_
  · (try dsimp only at hSw); go_simp; try with_reducible rfl
  (try simp only [Act.put, List.setIfInBounds_toArray, List.set_cons_zero, List.set_cons_succ])
  refine wpAnyH_take (i := 7) (v := (.pointer (some ⟨b, off + j * 3, none⟩))) (op_at rfl) (by kernel_rfl) (by kernel_rfl) (by kernel_rfl) (fun _ _ _ h => h) (Or.inl ⟨rfl, fun w hSw => ?_⟩) (by assumption) ?_
  · (try dsimp only at hSw); go_simp; try with_reducible rfl
  (try simp only [Act.put, List.setIfInBounds_toArray, List.set_cons_zero, List.set_cons_succ])
  refine wpAnyH_take (i := 8) (v := (.agg #[.string y.nm, .string y.na, .int .i64 y.sd])) (op_at rfl) (by kernel_rfl) (by kernel_rfl) (by kernel_rfl) (fun _ _ _ h => h) (Or.inl ⟨rfl, fun w hSw => ?_⟩) (by assumption) ?_
  · (try dsimp only at hSw); go_simp; try with_reducible rfl
  (try simp only [Act.put, List.setIfInBounds_toArray, List.set_cons_zero, List.set_cons_succ])
  refine wpAnyH_ready (rs := [4]) (by kernel_rfl) (by simp) (AllReadyH.cons (op_at rfl) (fun K hK => ?_) AllReadyH.nil)
  go_simp
  (refine (HR1.out _).mono ?_; rintro e W1 ⟨rfl, hg⟩; replace a0 := hg.cell a0; replace a1 := hg.cell a1; replace a2 := hg.cell a2; replace d0 := hg.cell d0; replace d1 := hg.cell d1; replace d2 := hg.cell d2; replace l0 := hg.cell l0; replace g := g.trans hg; clear hg)
  go_wp2_with fail
  refine hK.out _ _ ⟨a0, a1, a2, d0, d1, d2, l0⟩ (fun hHeld => ?_)
  clear hK K
  (try simp only [Act.put, List.setIfInBounds_toArray, List.set_cons_zero, List.set_cons_succ])
  refine wpAnyH_ready (rs := [9]) (by kernel_rfl) (by simp) (AllReadyH.cons (op_at rfl) (fun K hK => ?_) AllReadyH.nil)
  go_simp
  (refine (HR2.out _).mono ?_; rintro e W2 ⟨rfl, hg⟩; replace a0 := hg.cell a0; replace a1 := hg.cell a1; replace a2 := hg.cell a2; replace d0 := hg.cell d0; replace d1 := hg.cell d1; replace d2 := hg.cell d2; replace l0 := hg.cell l0; replace g := g.trans hg; clear hg)
  go_wp2_with fail
  refine hK.out _ _ ⟨a0, a1, a2, d0, d1, d2, l0⟩ (fun hHeld => ?_)
  clear hK K
  (try simp only [Act.put, List.setIfInBounds_toArray, List.set_cons_zero, List.set_cons_succ])
  refine wpAnyH_ready (rs := [10]) (by kernel_rfl) (by simp) (AllReadyH.cons (op_at rfl) (fun K hK => ?_) AllReadyH.nil)
  go_simp
  (refine (HCM.out _).mono ?_; rintro e w8 ⟨rfl, rfl⟩)
  go_wp2_with fail
  refine hK.out _ _ ⟨a0, a1, a2, d0, d1, d2, l0⟩ (fun hHeld => ?_)
  clear hK K
  (try simp only [Act.put, List.setIfInBounds_toArray, List.set_cons_zero, List.set_cons_succ])
  refine wpAnyH_take (i := 11) (v := (.int .i64 z)) (op_at rfl) (by kernel_rfl) (by kernel_rfl) (by kernel_rfl) (fun _ _ _ h => h) (Or.inl ⟨rfl, fun w hSw => ?_⟩) (by assumption) ?_
  · (try dsimp only at hSw); go_simp; try with_reducible rfl
  (try simp only [Act.put, List.setIfInBounds_toArray, List.set_cons_zero, List.set_cons_succ])
  refine wpAnyH_done (by kernel_rfl) ?_ _
  go_wp2_with fail
  go_ret
  exact ⟨rfl, g⟩
end Go.Proofs.YtlcbdgmclhdofaaGreatDoor
namespace Go.Proofs.YtlcbdgmclhdofaaGreatDoor
open Go.RowKit Go.Lib
set_option linter.unusedSimpArgs false
set_option linter.unusedVariables false
set_option linter.unusedSectionVars false
section
open Go.Sort
variable {α : Type} [Inhabited α]
theorem swp_list (L M R : List α) (x y : α) (i j : Nat) (hi : i = L.length) (hj : j = L.length + 1 + M.length) : swp (L ++ x :: (M ++ y :: R)).toArray i j = (L ++ y :: (M ++ x :: R)).toArray := by
  subst hi hj
  have e1 : (L ++ x :: (M ++ y :: R)).toArray[L.length]! = x := by
    rw [getElem!_pos _ _ (by simp)]
    simp
  have e2 : (L ++ x :: (M ++ y :: R)).toArray[L.length + 1 + M.length]! = y := by
    rw [getElem!_pos _ _ (by simp; omega)]
    simp only [List.getElem_toArray]
    rw [List.getElem_append_right (by omega)]
    simp only [show L.length + 1 + M.length - L.length = M.length + 1 by omega, List.getElem_cons_succ]
    rw [List.getElem_append_right (by omega)]
    simp
  unfold swp
  rw [e1, e2]
  apply Array.toList_inj.1
  simp only [Array.toList_setIfInBounds]
  rw [List.set_append_right _ _ (Nat.le_refl _), Nat.sub_self, List.set_cons_zero, List.set_append_right _ _ (by omega), show L.length + 1 + M.length - L.length = M.length + 1 by omega, List.set_cons_succ, List.set_append_right _ _ (Nat.le_refl _), Nat.sub_self, List.set_cons_zero]
theorem swp_comm' (d : Array α) (i j : Nat) (hi : i < d.size) (hj : j < d.size) : swp d j i = swp d i j := by
  apply Array.ext (by simp [swp])
  intro k h1 h2
  rw [← getElem!_pos _ k h1, ← getElem!_pos _ k h2]
  by_cases e1 : k = i
  · subst e1
    by_cases e2 : k = j
    · subst e2; rfl
    · rw [swp_right d j k hi, swp_left d k j hi e2]
  · by_cases e2 : k = j
    · subst e2
      rw [swp_left d k i hj e1, swp_right d i k hj]
    · rw [swp_other d j i k e2 e1, swp_other d i j k e1 e2]
/-- a merge that takes of the first list where neither is less -/
def mrg (lt : α → α → Bool) : List α → List α → List α
  | [], B => B
  | x :: A, [] => x :: A
  | x :: A, y :: B => if lt y x then y :: mrg lt (x :: A) B else x :: mrg lt A (y :: B)
termination_by A B => A.length + B.length
variable (lt : α → α → Bool)
theorem mrg_nil (A : List α) : mrg lt A [] = A := by cases A <;> simp [mrg]
theorem nil_mrg (B : List α) : mrg lt [] B = B := by simp [mrg]
theorem mrg_cons (x : α) (A : List α) (y : α) (B : List α) : mrg lt (x :: A) (y :: B) = if lt y x then y :: mrg lt (x :: A) B else x :: mrg lt A (y :: B) := by rw [mrg]
theorem mrg_app : ∀ (n : Nat) (A1 A2 B1 B2 : List α), A1.length + B1.length = n → (∀ x ∈ A1, ∀ y ∈ B2, lt y x = false) → (∀ x ∈ A2, ∀ y ∈ B1, lt y x = true) → mrg lt (A1 ++ A2) (B1 ++ B2) = mrg lt A1 B1 ++ mrg lt A2 B2
  | n, [], A2, [], B2, _, _, _ => by simp [mrg]
  | n, [], [], y :: B1, B2, hn, h1, h2 => by simp [mrg]
  | n, [], x :: A2, y :: B1, B2, hn, h1, h2 => by
    have := mrg_app B1.length [] (x :: A2) B1 B2 (by simp) h1 (fun x hx y hy => h2 x hx y (List.mem_cons_of_mem _ hy))
    simp only [List.nil_append, List.cons_append] at this ⊢
    rw [mrg_cons, if_pos (h2 x (List.mem_cons_self ..) y (List.mem_cons_self ..)), this, nil_mrg, nil_mrg]
    rfl
  | n, x :: A1, A2, [], [], hn, h1, h2 => by simp [mrg_nil]
  | n, x :: A1, A2, [], y :: B2, hn, h1, h2 => by
    have := mrg_app A1.length A1 A2 [] (y :: B2) (by simp) (fun x hx => h1 x (List.mem_cons_of_mem _ hx)) h2
    simp only [List.nil_append, List.cons_append] at this ⊢
    rw [mrg_cons, if_neg (by rw [h1 x (List.mem_cons_self ..) y (List.mem_cons_self ..)]; simp), this, mrg_nil, mrg_nil]
    rfl
  | n, x :: A1, A2, y :: B1, B2, hn, h1, h2 => by
    simp only [List.length_cons] at hn
    cases hl : lt y x with
    | true =>
      have := mrg_app (n - 1) (x :: A1) A2 B1 B2 (by simp only [List.length_cons]; omega) h1 (fun x hx y hy => h2 x hx y (List.mem_cons_of_mem _ hy))
      simp only [List.cons_append] at this ⊢
      rw [mrg_cons, if_pos hl, this, mrg_cons, if_pos hl]
      rfl
    | false =>
      have := mrg_app (n - 1) A1 A2 (y :: B1) B2 (by simp only [List.length_cons]; omega) (fun x hx => h1 x (List.mem_cons_of_mem _ hx)) h2
      simp only [List.cons_append] at this ⊢
      rw [mrg_cons, if_neg (by rw [hl]; simp), this, mrg_cons, if_neg (by rw [hl]; simp)]
      rfl
termination_by n => n
theorem mrg_one_left (x : α) (B1 B2 : List α) (h1 : ∀ y ∈ B1, lt y x = true) (h2 : ∀ y ∈ B2, lt y x = false) : mrg lt [x] (B1 ++ B2) = B1 ++ x :: B2 := by
  have a := mrg_app lt _ [] [x] B1 B2 rfl (fun x hx => by cases hx) (fun x' hx y hy => by rw [List.mem_singleton] at hx; subst hx; exact h1 y hy)
  have b := mrg_app lt _ [x] [] [] B2 rfl (fun x' hx y hy => by rw [List.mem_singleton] at hx; subst hx; exact h2 y hy) (fun x hx => by cases hx)
  simp only [List.nil_append, List.append_nil, mrg_nil, nil_mrg, List.singleton_append] at a b
  rw [a, b]
theorem mrg_one_right (y : α) (A1 A2 : List α) (h1 : ∀ x ∈ A1, lt y x = false) (h2 : ∀ x ∈ A2, lt y x = true) : mrg lt (A1 ++ A2) [y] = A1 ++ y :: A2 := by
  have a := mrg_app lt _ A1 A2 [y] [] rfl (fun x hx y hy => by cases hy) (fun x hx y' hy => by rw [List.mem_singleton] at hy; subst hy; exact h2 x hx)
  have b := mrg_app lt _ A1 [] [] [y] rfl (fun x hx y' hy => by rw [List.mem_singleton] at hy; subst hy; exact h1 x hx) (fun x hx => by cases hx)
  simp only [List.nil_append, List.append_nil, mrg_nil, nil_mrg] at a b
  rw [a, b]
  simp
theorem mrg_len : ∀ (n : Nat) (A B : List α), A.length + B.length = n → (mrg lt A B).length = n
  | n, [], B, h => by rw [nil_mrg]; simpa using h
  | n, x :: A, [], h => by rw [mrg_nil]; simpa using h
  | n, x :: A, y :: B, h => by
    simp only [List.length_cons] at h
    rw [mrg_cons]
    split
    · rw [List.length_cons, mrg_len (n - 1) (x :: A) B (by simp only [List.length_cons]; omega)]; omega
    · rw [List.length_cons, mrg_len (n - 1) A (y :: B) (by simp only [List.length_cons]; omega)]; omega
termination_by n => n
/-- none is less than one ahead of it -/
def Asc (l : List α) : Prop := l.Pairwise fun x y => lt y x = false
theorem Asc.app {lt : α → α → Bool} {A B : List α} (h : Asc lt (A ++ B)) : Asc lt A ∧ Asc lt B := ⟨(List.pairwise_append.1 h).1, (List.pairwise_append.1 h).2.1⟩
end
section
variable {α : Type} [Inhabited α] (key : α → Int)
def ltK (x y : α) : Bool := decide (key x < key y)
theorem mrg_mem {lt : α → α → Bool} {z : α} : ∀ (n : Nat) (A B : List α), A.length + B.length = n → z ∈ mrg lt A B → z ∈ A ∨ z ∈ B
  | n, [], B, _, h => by rw [nil_mrg] at h; exact .inr h
  | n, x :: A, [], _, h => by rw [mrg_nil] at h; exact .inl h
  | n, x :: A, y :: B, hn, h => by
    simp only [List.length_cons] at hn
    rw [mrg_cons] at h
    split at h
    · rcases List.mem_cons.1 h with rfl | h
      · exact .inr (List.mem_cons_self ..)
      · rcases mrg_mem (n - 1) (x :: A) B (by simp only [List.length_cons]; omega) h with h | h
        · exact .inl h
        · exact .inr (List.mem_cons_of_mem _ h)
    · rcases List.mem_cons.1 h with rfl | h
      · exact .inl (List.mem_cons_self ..)
      · rcases mrg_mem (n - 1) A (y :: B) (by simp only [List.length_cons]; omega) h with h | h
        · exact .inl (List.mem_cons_of_mem _ h)
        · exact .inr h
termination_by n => n
theorem asc_le {l : List α} {x : α} (h : Asc (ltK key) (x :: l)) : ∀ y ∈ l, key x ≤ key y := fun y hy => by
  have := (List.pairwise_cons.1 h).1 y hy
  unfold ltK at this
  have := of_decide_eq_false this
  omega
theorem mrg_asc : ∀ (n : Nat) (A B : List α), A.length + B.length = n → Asc (ltK key) A → Asc (ltK key) B → Asc (ltK key) (mrg (ltK key) A B)
  | n, [], B, _, _, hb => by rw [nil_mrg]; exact hb
  | n, x :: A, [], _, ha, _ => by rw [mrg_nil]; exact ha
  | n, x :: A, y :: B, hn, ha, hb => by
    simp only [List.length_cons] at hn
    have la := asc_le key ha
    have lb := asc_le key hb
    rw [mrg_cons]
    split
    · rename_i hl
      have hl := of_decide_eq_true hl
      refine List.pairwise_cons.2 ⟨fun z hz => ?_, mrg_asc (n - 1) (x :: A) B (by simp only [List.length_cons]; omega) ha (List.pairwise_cons.1 hb).2⟩
      refine decide_eq_false ?_
      rcases mrg_mem _ _ _ rfl hz with hz | hz
      · rcases List.mem_cons.1 hz with rfl | hz
        · omega
        · have := la z hz; omega
      · have := lb z hz; omega
    · rename_i hl
      have hl : ¬ key y < key x := fun h => hl (decide_eq_true h)
      refine List.pairwise_cons.2 ⟨fun z hz => ?_, mrg_asc (n - 1) A (y :: B) (by simp only [List.length_cons]; omega) (List.pairwise_cons.1 ha).2 hb⟩
      refine decide_eq_false ?_
      rcases mrg_mem _ _ _ rfl hz with hz | hz
      · have := la z hz; omega
      · rcases List.mem_cons.1 hz with rfl | hz
        · exact hl
        · have := lb z hz; omega
termination_by n => n
theorem mrg_filter (k : Int) : ∀ (n : Nat) (A B : List α), A.length + B.length = n → Asc (ltK key) A → (mrg (ltK key) A B).filter (fun x => key x == k) = A.filter (fun x => key x == k) ++ B.filter (fun x => key x == k)
  | n, [], B, _, _ => by rw [nil_mrg]; simp
  | n, x :: A, [], _, _ => by rw [mrg_nil]; simp
  | n, x :: A, y :: B, hn, ha => by
    simp only [List.length_cons] at hn
    have la := asc_le key ha
    rw [mrg_cons]
    split
    · rename_i hl
      have hl := of_decide_eq_true hl
      rw [List.filter_cons, mrg_filter k (n - 1) (x :: A) B (by simp only [List.length_cons]; omega) ha]
      by_cases hk : key y = k
      · have hn : (x :: A).filter (fun x => key x == k) = [] := by
          rw [List.filter_eq_nil_iff]
          intro z hz
          rcases List.mem_cons.1 hz with rfl | hz
          · simp; omega
          · have := la z hz; simp; omega
        rw [hn, List.filter_cons]
        simp [hk]
      · simp [List.filter_cons, hk]
    · rw [List.filter_cons, mrg_filter k (n - 1) A (y :: B) (by simp only [List.length_cons]; omega) (List.pairwise_cons.1 ha).2]
      by_cases hk : key x = k <;> simp [List.filter_cons, hk]
termination_by n => n
/-- there is one such list -/
theorem asc_unique : ∀ (l r : List α), Asc (ltK key) l → Asc (ltK key) r → (∀ k, l.filter (fun x => key x == k) = r.filter (fun x => key x == k)) → l = r
  | [], [], _, _, _ => rfl
  | [], y :: r, _, _, h => by have := h (key y); simp at this
  | x :: l, [], _, _, h => by have := h (key x); simp at this
  | x :: l, y :: r, hl, hr, h => by
    have ll := asc_le key hl
    have lr := asc_le key hr
    have hxy : key x = key y := by
      have h1 := h (key x)
      have h2 := h (key y)
      have m1 : x ∈ (y :: r).filter (fun z => key z == key x) := by rw [← h1]; simp
      have m2 : y ∈ (x :: l).filter (fun z => key z == key y) := by rw [h2]; simp
      have q1 := (List.mem_filter.1 m1).1
      have q2 := (List.mem_filter.1 m2).1
      rcases List.mem_cons.1 q1 with e | q1
      · rw [e]
      · rcases List.mem_cons.1 q2 with e | q2
        · rw [e]
        · have := ll y q2; have := lr x q1; omega
    have h0 := h (key x)
    rw [List.filter_cons, List.filter_cons, if_pos (by simp), if_pos (by simp [hxy])] at h0
    have hx : x = y := by injection h0
    subst hx
    congr 1
    refine asc_unique l r (List.pairwise_cons.1 hl).2 (List.pairwise_cons.1 hr).2 fun k => ?_
    have h1 := h k
    rw [List.filter_cons, List.filter_cons] at h1
    split at h1
    · injection h1
    · exact h1
end
end Go.Proofs.YtlcbdgmclhdofaaGreatDoor
