/- The library's stable sort: merges, rotations, what is stable; plain facts. -/
import Derived.Test.YtenkbeeiblhnjaaGreatGNat
import Derived.Sort.Grow
import Derived.Sort.LotA
import Derived.Test.YtenkbeeiblhnjaaGreatGChecks
import Derived.Test.YtenkbeeiblhnjaaGreatGMbA
namespace Go.Proofs.YtenkbeeiblhnjaaGreat
open Go.RowKit Go.Lib
set_option linter.unusedSimpArgs false
set_option linter.unusedVariables false
set_option linter.unusedSectionVars false
section
open Go.Sort
variable {α : Type} [Inhabited α]
theorem swp_list (L M R : List α) (x y : α) (i j : Nat) (hi : i = L.length) (hj : j = L.length + 1 + M.length) : swp (L ++ x :: (M ++ y :: R)).toArray i j = (L ++ y :: (M ++ x :: R)).toArray := by
  subst hi hj
  have e1 : (L ++ x :: (M ++ y :: R)).toArray[L.length]! = x := by
    rw [getElem!_pos _ _ (by simp)]
    simp
  have e2 : (L ++ x :: (M ++ y :: R)).toArray[L.length + 1 + M.length]! = y := by
    rw [getElem!_pos _ _ (by simp; omega)]
    simp only [List.getElem_toArray]
    rw [List.getElem_append_right (by omega)]
    simp only [show L.length + 1 + M.length - L.length = M.length + 1 by omega, List.getElem_cons_succ]
    rw [List.getElem_append_right (by omega)]
    simp
  unfold swp
  rw [e1, e2]
  apply Array.toList_inj.1
  simp only [Array.toList_setIfInBounds]
  rw [List.set_append_right _ _ (Nat.le_refl _), Nat.sub_self, List.set_cons_zero, List.set_append_right _ _ (by omega), show L.length + 1 + M.length - L.length = M.length + 1 by omega, List.set_cons_succ, List.set_append_right _ _ (Nat.le_refl _), Nat.sub_self, List.set_cons_zero]
theorem swp_comm' (d : Array α) (i j : Nat) (hi : i < d.size) (hj : j < d.size) : swp d j i = swp d i j := by
  apply Array.ext (by simp [swp])
  intro k h1 h2
  rw [← getElem!_pos _ k h1, ← getElem!_pos _ k h2]
  by_cases e1 : k = i
  · subst e1
    by_cases e2 : k = j
    · subst e2; rfl
    · rw [swp_right d j k hi, swp_left d k j hi e2]
  · by_cases e2 : k = j
    · subst e2
      rw [swp_left d k i hj e1, swp_right d i k hj]
    · rw [swp_other d j i k e2 e1, swp_other d i j k e1 e2]
/-- a merge that takes of the first list where neither is less -/
def mrg (lt : α → α → Bool) : List α → List α → List α
  | [], B => B
  | x :: A, [] => x :: A
  | x :: A, y :: B => if lt y x then y :: mrg lt (x :: A) B else x :: mrg lt A (y :: B)
termination_by A B => A.length + B.length
variable (lt : α → α → Bool)
theorem mrg_nil (A : List α) : mrg lt A [] = A := by cases A <;> simp [mrg]
theorem nil_mrg (B : List α) : mrg lt [] B = B := by simp [mrg]
theorem mrg_cons (x : α) (A : List α) (y : α) (B : List α) : mrg lt (x :: A) (y :: B) = if lt y x then y :: mrg lt (x :: A) B else x :: mrg lt A (y :: B) := by rw [mrg]
theorem mrg_app : ∀ (n : Nat) (A1 A2 B1 B2 : List α), A1.length + B1.length = n → (∀ x ∈ A1, ∀ y ∈ B2, lt y x = false) → (∀ x ∈ A2, ∀ y ∈ B1, lt y x = true) → mrg lt (A1 ++ A2) (B1 ++ B2) = mrg lt A1 B1 ++ mrg lt A2 B2
  | n, [], A2, [], B2, _, _, _ => by simp [mrg]
  | n, [], [], y :: B1, B2, hn, h1, h2 => by simp [mrg]
  | n, [], x :: A2, y :: B1, B2, hn, h1, h2 => by
    have := mrg_app B1.length [] (x :: A2) B1 B2 (by simp) h1 (fun x hx y hy => h2 x hx y (List.mem_cons_of_mem _ hy))
    simp only [List.nil_append, List.cons_append] at this ⊢
    rw [mrg_cons, if_pos (h2 x (List.mem_cons_self ..) y (List.mem_cons_self ..)), this, nil_mrg, nil_mrg]
    rfl
  | n, x :: A1, A2, [], [], hn, h1, h2 => by simp [mrg_nil]
  | n, x :: A1, A2, [], y :: B2, hn, h1, h2 => by
    have := mrg_app A1.length A1 A2 [] (y :: B2) (by simp) (fun x hx => h1 x (List.mem_cons_of_mem _ hx)) h2
    simp only [List.nil_append, List.cons_append] at this ⊢
    rw [mrg_cons, if_neg (by rw [h1 x (List.mem_cons_self ..) y (List.mem_cons_self ..)]; simp), this, mrg_nil, mrg_nil]
    rfl
  | n, x :: A1, A2, y :: B1, B2, hn, h1, h2 => by
    simp only [List.length_cons] at hn
    cases hl : lt y x with
    | true =>
      have := mrg_app (n - 1) (x :: A1) A2 B1 B2 (by simp only [List.length_cons]; omega) h1 (fun x hx y hy => h2 x hx y (List.mem_cons_of_mem _ hy))
      simp only [List.cons_append] at this ⊢
      rw [mrg_cons, if_pos hl, this, mrg_cons, if_pos hl]
      rfl
    | false =>
      have := mrg_app (n - 1) A1 A2 (y :: B1) B2 (by simp only [List.length_cons]; omega) (fun x hx => h1 x (List.mem_cons_of_mem _ hx)) h2
      simp only [List.cons_append] at this ⊢
      rw [mrg_cons, if_neg (by rw [hl]; simp), this, mrg_cons, if_neg (by rw [hl]; simp)]
      rfl
termination_by n => n
theorem mrg_one_left (x : α) (B1 B2 : List α) (h1 : ∀ y ∈ B1, lt y x = true) (h2 : ∀ y ∈ B2, lt y x = false) : mrg lt [x] (B1 ++ B2) = B1 ++ x :: B2 := by
  have a := mrg_app lt _ [] [x] B1 B2 rfl (fun x hx => by cases hx) (fun x' hx y hy => by rw [List.mem_singleton] at hx; subst hx; exact h1 y hy)
  have b := mrg_app lt _ [x] [] [] B2 rfl (fun x' hx y hy => by rw [List.mem_singleton] at hx; subst hx; exact h2 y hy) (fun x hx => by cases hx)
  simp only [List.nil_append, List.append_nil, mrg_nil, nil_mrg, List.singleton_append] at a b
  rw [a, b]
theorem mrg_one_right (y : α) (A1 A2 : List α) (h1 : ∀ x ∈ A1, lt y x = false) (h2 : ∀ x ∈ A2, lt y x = true) : mrg lt (A1 ++ A2) [y] = A1 ++ y :: A2 := by
  have a := mrg_app lt _ A1 A2 [y] [] rfl (fun x hx y hy => by cases hy) (fun x hx y' hy => by rw [List.mem_singleton] at hy; subst hy; exact h2 x hx)
  have b := mrg_app lt _ A1 [] [] [y] rfl (fun x hx y' hy => by rw [List.mem_singleton] at hy; subst hy; exact h1 x hx) (fun x hx => by cases hx)
  simp only [List.nil_append, List.append_nil, mrg_nil, nil_mrg] at a b
  rw [a, b]
  simp
theorem mrg_len : ∀ (n : Nat) (A B : List α), A.length + B.length = n → (mrg lt A B).length = n
  | n, [], B, h => by rw [nil_mrg]; simpa using h
  | n, x :: A, [], h => by rw [mrg_nil]; simpa using h
  | n, x :: A, y :: B, h => by
    simp only [List.length_cons] at h
    rw [mrg_cons]
    split
    · rw [List.length_cons, mrg_len (n - 1) (x :: A) B (by simp only [List.length_cons]; omega)]; omega
    · rw [List.length_cons, mrg_len (n - 1) A (y :: B) (by simp only [List.length_cons]; omega)]; omega
termination_by n => n
/-- none is less than one ahead of it -/
def Asc (l : List α) : Prop := l.Pairwise fun x y => lt y x = false
theorem Asc.app {lt : α → α → Bool} {A B : List α} (h : Asc lt (A ++ B)) : Asc lt A ∧ Asc lt B := ⟨(List.pairwise_append.1 h).1, (List.pairwise_append.1 h).2.1⟩
end
section
variable {α : Type} [Inhabited α] (key : α → Int)
def ltK (x y : α) : Bool := decide (key x < key y)
theorem mrg_mem {lt : α → α → Bool} {z : α} : ∀ (n : Nat) (A B : List α), A.length + B.length = n → z ∈ mrg lt A B → z ∈ A ∨ z ∈ B
  | n, [], B, _, h => by rw [nil_mrg] at h; exact .inr h
  | n, x :: A, [], _, h => by rw [mrg_nil] at h; exact .inl h
  | n, x :: A, y :: B, hn, h => by
    simp only [List.length_cons] at hn
    rw [mrg_cons] at h
    split at h
    · rcases List.mem_cons.1 h with rfl | h
      · exact .inr (List.mem_cons_self ..)
      · rcases mrg_mem (n - 1) (x :: A) B (by simp only [List.length_cons]; omega) h with h | h
        · exact .inl h
        · exact .inr (List.mem_cons_of_mem _ h)
    · rcases List.mem_cons.1 h with rfl | h
      · exact .inl (List.mem_cons_self ..)
      · rcases mrg_mem (n - 1) A (y :: B) (by simp only [List.length_cons]; omega) h with h | h
        · exact .inl (List.mem_cons_of_mem _ h)
        · exact .inr h
termination_by n => n
theorem asc_le {l : List α} {x : α} (h : Asc (ltK key) (x :: l)) : ∀ y ∈ l, key x ≤ key y := fun y hy => by
  have := (List.pairwise_cons.1 h).1 y hy
  unfold ltK at this
  have := of_decide_eq_false this
  omega
theorem mrg_asc : ∀ (n : Nat) (A B : List α), A.length + B.length = n → Asc (ltK key) A → Asc (ltK key) B → Asc (ltK key) (mrg (ltK key) A B)
  | n, [], B, _, _, hb => by rw [nil_mrg]; exact hb
  | n, x :: A, [], _, ha, _ => by rw [mrg_nil]; exact ha
  | n, x :: A, y :: B, hn, ha, hb => by
    simp only [List.length_cons] at hn
    have la := asc_le key ha
    have lb := asc_le key hb
    rw [mrg_cons]
    split
    · rename_i hl
      have hl := of_decide_eq_true hl
      refine List.pairwise_cons.2 ⟨fun z hz => ?_, mrg_asc (n - 1) (x :: A) B (by simp only [List.length_cons]; omega) ha (List.pairwise_cons.1 hb).2⟩
      refine decide_eq_false ?_
      rcases mrg_mem _ _ _ rfl hz with hz | hz
      · rcases List.mem_cons.1 hz with rfl | hz
        · omega
        · have := la z hz; omega
      · have := lb z hz; omega
    · rename_i hl
      have hl : ¬ key y < key x := fun h => hl (decide_eq_true h)
      refine List.pairwise_cons.2 ⟨fun z hz => ?_, mrg_asc (n - 1) A (y :: B) (by simp only [List.length_cons]; omega) (List.pairwise_cons.1 ha).2 hb⟩
      refine decide_eq_false ?_
      rcases mrg_mem _ _ _ rfl hz with hz | hz
      · have := la z hz; omega
      · rcases List.mem_cons.1 hz with rfl | hz
        · exact hl
        · have := lb z hz; omega
termination_by n => n
theorem mrg_filter (k : Int) : ∀ (n : Nat) (A B : List α), A.length + B.length = n → Asc (ltK key) A → (mrg (ltK key) A B).filter (fun x => key x == k) = A.filter (fun x => key x == k) ++ B.filter (fun x => key x == k)
  | n, [], B, _, _ => by rw [nil_mrg]; simp
  | n, x :: A, [], _, _ => by rw [mrg_nil]; simp
  | n, x :: A, y :: B, hn, ha => by
    simp only [List.length_cons] at hn
    have la := asc_le key ha
    rw [mrg_cons]
    split
    · rename_i hl
      have hl := of_decide_eq_true hl
      rw [List.filter_cons, mrg_filter k (n - 1) (x :: A) B (by simp only [List.length_cons]; omega) ha]
      by_cases hk : key y = k
      · have hn : (x :: A).filter (fun x => key x == k) = [] := by
          rw [List.filter_eq_nil_iff]
          intro z hz
          rcases List.mem_cons.1 hz with rfl | hz
          · simp; omega
          · have := la z hz; simp; omega
        rw [hn, List.filter_cons]
        simp [hk]
      · simp [List.filter_cons, hk]
    · rw [List.filter_cons, mrg_filter k (n - 1) A (y :: B) (by simp only [List.length_cons]; omega) (List.pairwise_cons.1 ha).2]
      by_cases hk : key x = k <;> simp [List.filter_cons, hk]
termination_by n => n
/-- there is one such list -/
theorem asc_unique : ∀ (l r : List α), Asc (ltK key) l → Asc (ltK key) r → (∀ k, l.filter (fun x => key x == k) = r.filter (fun x => key x == k)) → l = r
  | [], [], _, _, _ => rfl
  | [], y :: r, _, _, h => by have := h (key y); simp at this
  | x :: l, [], _, _, h => by have := h (key x); simp at this
  | x :: l, y :: r, hl, hr, h => by
    have ll := asc_le key hl
    have lr := asc_le key hr
    have hxy : key x = key y := by
      have h1 := h (key x)
      have h2 := h (key y)
      have m1 : x ∈ (y :: r).filter (fun z => key z == key x) := by rw [← h1]; simp
      have m2 : y ∈ (x :: l).filter (fun z => key z == key y) := by rw [h2]; simp
      have q1 := (List.mem_filter.1 m1).1
      have q2 := (List.mem_filter.1 m2).1
      rcases List.mem_cons.1 q1 with e | q1
      · rw [e]
      · rcases List.mem_cons.1 q2 with e | q2
        · rw [e]
        · have := ll y q2; have := lr x q1; omega
    have h0 := h (key x)
    rw [List.filter_cons, List.filter_cons, if_pos (by simp), if_pos (by simp [hxy])] at h0
    have hx : x = y := by injection h0
    subst hx
    congr 1
    refine asc_unique l r (List.pairwise_cons.1 hl).2 (List.pairwise_cons.1 hr).2 fun k => ?_
    have h1 := h k
    rw [List.filter_cons, List.filter_cons] at h1
    split at h1
    · injection h1
    · exact h1
end
end Go.Proofs.YtenkbeeiblhnjaaGreat
namespace Go.Proofs.YtenkbeeiblhnjaaGreat
open Go.RowKit Go.Lib
set_option linter.unusedSimpArgs false
set_option linter.unusedVariables false
/-- whether a name is among names -/
def hasS (ns : List ByteArray) (s : ByteArray) : Bool := ns.any fun t => s.toList == t.toList
/-- the first place of a name, from a place on -/
def findS (s : ByteArray) (ns : List ByteArray) : Nat → Nat → Int
  | 0, _ => -1
  | k + 1, i => match ns[i]? with
    | some t => if s.toList == t.toList then i else findS s ns k (i + 1)
    | none => -1
theorem findS_step {s : ByteArray} {ns : List ByteArray} {i n : Nat} {t : ByteArray} (h : ns[i]? = some t) (hi : i < n) : findS s ns (n - i) i = if s.toList == t.toList then (i : Int) else findS s ns (n - (i + 1)) (i + 1) := by
  obtain ⟨k, hk⟩ : ∃ k, n - i = k + 1 := ⟨n - i - 1, by omega⟩
  rw [hk, show n - (i + 1) = k by omega]
  simp only [findS, h]
theorem findS_any (s : ByteArray) (ns : List ByteArray) : ∀ (k i : Nat), i + k ≤ ns.length → decide (0 ≤ findS s ns k i) = hasS ((ns.drop i).take k) s
  | 0, i, h => by simp [findS, hasS]
  | k + 1, i, h => by
    have hi : i < ns.length := by omega
    have ih := findS_any s ns k (i + 1) (by omega)
    unfold hasS at *
    rw [List.drop_eq_getElem_cons hi, List.take_succ_cons, List.any_cons, ← ih]
    simp only [findS, List.getElem?_eq_getElem hi]
    cases s.toList == ns[i].toList <;> simp
set_option maxHeartbeats 1000000 in
set_option maxRecDepth 100000 in
theorem indexS_pos (ns : List ByteArray) (n b off cap : Nat) (s : ByteArray) (w : World) (hn : n ≤ ns.length) (h1 : n ≤ 1000) (hc : ∀ i t, ns[i]? = some t → w.cell? ⟨b, off + i, none⟩ = some (.string t)) :
    Calls Tryz.prog 136 #[.slice (some ⟨b, off, none⟩) n cap, .string s] w fun e w' => e = .returned (.int .i64 (findS s ns n 0)) ∧ w = w' := by
  have HC := Lib.hid hc
  have HX := Lib.hid (fun k (h : k < n) => (show ∃ x, ns[k]? = some x from ⟨ns[k]'(by omega), List.getElem?_eq_getElem _⟩))
  have HS := Lib.hid (fun i t (h : ns[i]? = some t) (hi : i < n) => findS_step (s := s) h hi)
  have HE : Hid (findS s ns 0 n = -1) := rfl
  clear hc hn
  generalize findS s ns = F at *
  go_enter Tryz.func136, Tryz.ntmps136
  go_wp2_with fail
  go_loopg [8] n (fun gk s8 wr => ∃ i : Nat, s8 = .int .i64 i ∧ gk + i = n ∧ wr = w ∧ Hid (F (n - i) i = F n 0))
  case atStart => exact ⟨0, rfl, by omega, rfl, by simp [Hid]⟩
  case round =>
    obtain ⟨i, rfl, hi, rfl, HF⟩ := hrel
    by_cases hlt : i < n
    · obtain ⟨t, ht⟩ := HX.out i hlt
      have c0 := HC.out i t ht
      have hst := HS.out i t ht hlt
      have hi2 : (i : Int) < n := by omega
      cases hh : (s.toList == t.toList)
      · rw [hh] at hst
        have HST := Lib.hid hst
        have hne : ¬ s.toList = t.toList := by simpa using hh
        clear hst ht
        go_wp2_with fail
        go_roundg (gk - 1)
        case measure => omega
        case rel => exact ⟨i + 1, by go_num, by omega, rfl, by have := HF.out; rw [HST.out] at this; simpa [Hid] using this⟩
      · rw [hh] at hst
        have HST := Lib.hid hst
        have hne : s.toList = t.toList := by simpa using hh
        clear hst ht
        go_wp2_with fail
        go_ret
        have q : F n 0 = i := by have := HF.out; rw [HST.out] at this; simpa using this.symm
        exact ⟨by rw [q]; rfl, rfl⟩
    · obtain rfl : i = n := by omega
      have := HF.out
      rw [Nat.sub_self, HE.out] at this
      have HT := Lib.hid this
      clear this
      go_wp2_with fail
      go_ret
      exact ⟨by rw [← HT.out]; rfl, rfl⟩
theorem containsS_pos (ns : List ByteArray) (n b off cap : Nat) (s : ByteArray) (w : World) (hn : n ≤ ns.length) (h1 : n ≤ 1000) (hc : ∀ i t, ns[i]? = some t → w.cell? ⟨b, off + i, none⟩ = some (.string t)) :
    Calls Tryz.prog 100 #[.slice (some ⟨b, off, none⟩) n cap, .string s] w fun e w' => e = .returned (.bool (hasS (ns.take n) s)) ∧ w = w' := by
  have HI := Lib.hid (indexS_pos ns n b off cap s w hn h1 hc)
  have HE : Hid (hasS (ns.take n) s = decide (0 ≤ findS s ns n 0)) := by
    unfold Hid; rw [findS_any s ns n 0 (by omega), List.drop_zero]
  clear hc
  generalize findS s ns n 0 = z at *
  go_enter Tryz.func100, Tryz.ntmps100
  go_wp2_with (refine HI.out.mono ?_; rintro e w4 ⟨rfl, rfl⟩)
  go_ret
  exact ⟨by rw [HE.out]; rfl, rfl⟩
theorem indexS_nil (p : Option Addr) (cap : Nat) (s : ByteArray) (w : World) :
    Calls Tryz.prog 136 #[.slice p 0 cap, .string s] w fun e w' => e = .returned (.int .i64 (-1)) ∧ w = w' := by
  go_enter Tryz.func136, Tryz.ntmps136
  go_wp2_with fail
  refine wp_loop_rounds 2 ?_
  rw [rounds_succ]
  go_wp2_with fail
  go_ret
  exact ⟨rfl, rfl⟩
theorem containsS_nil (p : Option Addr) (cap : Nat) (s : ByteArray) (w : World) :
    Calls Tryz.prog 100 #[.slice p 0 cap, .string s] w fun e w' => e = .returned (.bool false) ∧ w = w' := by
  have HI := Lib.hid (indexS_nil p cap s w)
  go_enter Tryz.func100, Tryz.ntmps100
  go_wp2_with (refine HI.out.mono ?_; rintro e w4 ⟨rfl, rfl⟩)
  go_ret
  exact ⟨rfl, rfl⟩
theorem hasS_succ {ns : List ByteArray} {k : Nat} {t : ByteArray} (h : ns[k]? = some t) (s : ByteArray) : hasS (ns.take (k + 1)) s = (hasS (ns.take k) s || (s.toList == t.toList)) := by
  rw [List.take_add_one, h]; unfold hasS; simp
theorem hasS_le {ns : List ByteArray} {s : ByteArray} {j n : Nat} (hj : j ≤ n) (h : hasS (ns.take j) s = true) : hasS (ns.take n) s = true := by
  unfold hasS at *
  rw [List.any_eq_true] at *
  obtain ⟨t, ht, he⟩ := h
  exact ⟨t, (List.take_subset_take_left ns hj) ht, he⟩
set_option maxHeartbeats 1000000 in
set_option maxRecDepth 100000 in
theorem hasWordT_c (ns : List ByteArray) (q : Option Addr) (n c : Nat) (s : ByteArray) (w : World) (hn : n ≤ ns.length) (h1 : n ≤ 1000) (hh : 0 < n → ∃ b off, q = some ⟨b, off, none⟩ ∧ ∀ i t, ns[i]? = some t → w.cell? ⟨b, off + i, none⟩ = some (.string t)) :
    Calls Tryz.prog 30 #[.slice q n c, .string s] w fun e w' => e = .returned (.bool (hasS (ns.take n) s)) ∧ w = w' := by
  have HS := Lib.hid (fun k (h : k < n) => (show ∃ x, ns[k]? = some x from ⟨ns[k]'(by omega), List.getElem?_eq_getElem _⟩))
  have HH := Lib.hid hh
  have HL := Lib.hid (fun j (h : hasS (ns.take j) s = true) (hj : j ≤ n) => hasS_le hj h)
  clear hh hn
  go_enter Tryz.func30, Tryz.ntmps30
  go_wp2_with fail
  go_loopg [5] n (fun gk s5 wr => ∃ i : Nat, s5 = .int .i64 i ∧ gk + i = n ∧ wr = w ∧ Hid (hasS (ns.take i) s = false))
  case atStart => exact ⟨0, rfl, by omega, rfl, by simp [Hid, hasS]⟩
  case round =>
    obtain ⟨i, rfl, hi, rfl, HF⟩ := hrel
    by_cases hlt : i < n
    · obtain ⟨t, ht⟩ := HS.out i hlt
      obtain ⟨b, off, rfl, hc⟩ := HH.out (by omega)
      have c0 := hc i t ht
      have hst := hasS_succ ht s
      rw [HF.out, Bool.false_or] at hst
      have hi2 : (i : Int) < n := by omega
      clear ht hc
      by_cases hne : t.toList = s.toList
      · have hb : (s.toList == t.toList) = true := by rw [hne]; simp
        have hb2 : (t.toList == s.toList) = true := by rw [hne]; simp
        rw [hb] at hst
        have HQ : Hid (hasS (ns.take n) s = true) := HL.out _ hst (by omega)
        clear hst hb
        go_wp2_with fail
        go_ret
        exact ⟨by rw [HQ.out]; rfl, rfl⟩
      · have hb : (s.toList == t.toList) = false := beq_eq_false_iff_ne.2 (fun e => hne e.symm)
        have hb2 : (t.toList == s.toList) = false := beq_eq_false_iff_ne.2 hne
        rw [hb] at hst
        have HST := Lib.hid hst
        clear hst hb
        go_wp2_with fail
        go_roundg (gk - 1)
        case measure => omega
        case rel => exact ⟨i + 1, by go_num, by omega, rfl, HST⟩
    · obtain rfl : i = n := by omega
      have HQ : Hid (hasS (ns.take i) s = false) := HF
      go_wp2_with fail
      go_ret
      exact ⟨by rw [HQ.out]; rfl, rfl⟩
end Go.Proofs.YtenkbeeiblhnjaaGreat
namespace Go.Proofs.YtenkbeeiblhnjaaGreat
open Go.RowKit Go.Lib
set_option linter.unusedSimpArgs false
set_option linter.unusedVariables false
theorem refOutside_c (n l h : Int) (w : World) :
    Calls Tryz.prog 53 #[.int .i64 n, .int .i64 l, .int .i64 h] w fun e w' => e = .returned (.bool (outB n l h)) ∧ w = w' := by
  have HE : Hid (outB n l h = (decide (n < l) || decide (h < n))) := rfl
  cases h1 : decide (n < l) <;> cases h2 : decide (h < n)
  all_goals
    rw [h1, h2] at HE
    go_enter Tryz.func53, Tryz.ntmps53
    go_wp2_with fail
    go_ret
    exact ⟨by rw [HE.out]; rfl, rfl⟩
theorem dupN_succ {α : Type} (f : α → ByteArray) {xs : List α} {k : Nat} {y : α} (h : xs[k]? = some y) (nm : ByteArray) : dupN f xs (k + 1) nm = (dupN f xs k nm || ((f y).toList == nm.toList)) := by
  unfold dupN
  rw [List.take_add_one, h]
  simp
theorem dupN_le {α : Type} (f : α → ByteArray) {xs : List α} {k i : Nat} (hk : k ≤ i) {nm : ByteArray} (h : dupN f xs k nm = true) : dupN f xs i nm = true := by
  unfold dupN at *
  simp only [List.any_eq_true] at *
  obtain ⟨y, hy, e⟩ := h
  exact ⟨y, List.take_subset_take_left _ hk hy, e⟩
end Go.Proofs.YtenkbeeiblhnjaaGreat
