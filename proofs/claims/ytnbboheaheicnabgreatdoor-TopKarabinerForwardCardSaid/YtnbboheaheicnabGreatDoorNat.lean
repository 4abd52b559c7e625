namespace Go.Proofs.YtnbboheaheicnabGreatDoor.NM
/-- the value of words, the lowest one first -/
def val : List Nat → Nat
  | [] => 0
  | x :: xs => x + 18446744073709551616 * val xs
/-- all words are words -/
def Wd (xs : List Nat) : Prop := ∀ x ∈ xs, x < 18446744073709551616
/-- the last word is not 0 -/
def Canon (xs : List Nat) : Prop := xs.getLast? ≠ some 0
/-- 2^64 to the power n -/
def bp (n : Nat) : Nat := 18446744073709551616 ^ n

theorem bp_zero : bp 0 = 1 := rfl
theorem bp_succ (n : Nat) : bp (n + 1) = 18446744073709551616 * bp n := by unfold bp; rw [Nat.pow_succ, Nat.mul_comm]
theorem bp_add (m n : Nat) : bp (m + n) = bp m * bp n := Nat.pow_add _ _ _
theorem bp_pos (n : Nat) : 0 < bp n := Nat.pow_pos (by omega)
theorem bp_le {m n : Nat} (h : m ≤ n) : bp m ≤ bp n := Nat.pow_le_pow_right (by omega) h
theorem bp_lt {m n : Nat} (h : m < n) : bp m < bp n := Nat.pow_lt_pow_right (by omega) h

theorem Wd.nil : Wd [] := by intro x hx; cases hx
theorem Wd.cons {x : Nat} {xs : List Nat} (h : x < 18446744073709551616) (k : Wd xs) : Wd (x :: xs) := by
  intro y hy; cases hy with | head => exact h | tail _ hy => exact k y hy
theorem Wd.head {x : Nat} {xs : List Nat} (h : Wd (x :: xs)) : x < 18446744073709551616 := h x (List.mem_cons_self ..)
theorem Wd.tail {x : Nat} {xs : List Nat} (h : Wd (x :: xs)) : Wd xs := fun y hy => h y (List.mem_cons_of_mem _ hy)
theorem Wd.append {xs ys : List Nat} (h : Wd xs) (k : Wd ys) : Wd (xs ++ ys) := by
  intro y hy; rcases List.mem_append.1 hy with h1 | h1; exact h y h1; exact k y h1
theorem Wd.left {xs ys : List Nat} (h : Wd (xs ++ ys)) : Wd xs := fun y hy => h y (List.mem_append_left _ hy)
theorem Wd.right {xs ys : List Nat} (h : Wd (xs ++ ys)) : Wd ys := fun y hy => h y (List.mem_append_right _ hy)
theorem Wd.take {xs : List Nat} (h : Wd xs) (n : Nat) : Wd (xs.take n) := fun y hy => h y (List.mem_of_mem_take hy)
theorem Wd.drop {xs : List Nat} (h : Wd xs) (n : Nat) : Wd (xs.drop n) := fun y hy => h y (List.mem_of_mem_drop hy)
theorem Wd.get {xs : List Nat} (h : Wd xs) (i : Nat) (d : Nat) (hd : d < 18446744073709551616) : xs.getD i d < 18446744073709551616 := by
  by_cases hi : i < xs.length
  · rw [List.getD_eq_getElem?_getD, List.getElem?_eq_getElem hi]; exact h _ (List.getElem_mem hi)
  · rw [List.getD_eq_getElem?_getD, List.getElem?_eq_none (by omega)]; exact hd
theorem Wd.replicate (n : Nat) : Wd (List.replicate n 0) := by
  intro y hy; rw [(List.mem_replicate.1 hy).2]; omega

theorem val_nil : val [] = 0 := rfl
theorem val_cons (x : Nat) (xs : List Nat) : val (x :: xs) = x + 18446744073709551616 * val xs := rfl
theorem val_append (xs ys : List Nat) : val (xs ++ ys) = val xs + bp xs.length * val ys := by
  induction xs with
  | nil => simp [val, bp]
  | cons x xs ih => simp only [List.cons_append, val_cons, ih, List.length_cons, bp_succ, Nat.mul_add, Nat.mul_assoc]; omega
theorem val_snoc (xs : List Nat) (x : Nat) : val (xs ++ [x]) = val xs + bp xs.length * x := by
  rw [val_append]; simp [val]
theorem val_replicate (n : Nat) : val (List.replicate n 0) = 0 := by
  induction n with
  | zero => rfl
  | succ n ih => rw [List.replicate_succ, val_cons, ih]
theorem val_lt {xs : List Nat} (h : Wd xs) : val xs < bp xs.length := by
  induction xs with
  | nil => simp [val, bp]
  | cons x xs ih =>
    have := ih h.tail
    have hx := h.head
    rw [val_cons, List.length_cons, bp_succ]
    have : 18446744073709551616 * (val xs + 1) ≤ 18446744073709551616 * bp xs.length := Nat.mul_le_mul_left _ this
    omega
theorem val_pos_of_canon {xs : List Nat} (hc : Canon xs) (hn : xs ≠ []) : bp (xs.length - 1) ≤ val xs := by
  induction xs with
  | nil => exact absurd rfl hn
  | cons x xs ih =>
    cases xs with
    | nil =>
      have : x ≠ 0 := fun h => hc (by simp [h])
      simp [val, bp]; omega
    | cons y ys =>
      have hc' : Canon (y :: ys) := by intro h; exact hc (by simpa [List.getLast?_cons_cons] using h)
      have := ih hc' (by simp)
      simp only [List.length_cons, Nat.add_sub_cancel] at this ⊢
      rw [bp_succ, val_cons x]
      have : 18446744073709551616 * bp ys.length ≤ 18446744073709551616 * val (y :: ys) := Nat.mul_le_mul_left _ this
      omega
theorem canon_length_lt {xs ys : List Nat} (hy : Wd xs) (cy : Canon ys) (h : xs.length < ys.length) : val xs < val ys := by
  have h1 := val_lt hy
  have h2 := val_pos_of_canon cy (by intro e; rw [e] at h; simp at h)
  have h3 : bp xs.length ≤ bp (ys.length - 1) := bp_le (by omega)
  omega
theorem canon_nil_of_val {xs : List Nat} (c : Canon xs) (h : val xs = 0) : xs = [] := by
  by_cases e : xs = []
  · exact e
  · have := val_pos_of_canon c e; have := bp_pos (xs.length - 1); omega
theorem val_inj {xs ys : List Nat} (hx : Wd xs) (hy : Wd ys) (hl : xs.length = ys.length) (h : val xs = val ys) : xs = ys := by
  induction xs generalizing ys with
  | nil => cases ys with | nil => rfl | cons _ _ => simp at hl
  | cons x xs ih =>
    cases ys with
    | nil => simp at hl
    | cons y ys =>
      simp only [val_cons] at h
      have := hx.head; have := hy.head
      have e1 : x = y := by omega
      have e2 : val xs = val ys := by omega
      rw [e1, ih hx.tail hy.tail (by simpa using hl) e2]
theorem canon_length_eq {xs ys : List Nat} (hx : Wd xs) (hy : Wd ys) (cx : Canon xs) (cy : Canon ys) (h : val xs = val ys) : xs.length = ys.length := by
  rcases Nat.lt_trichotomy xs.length ys.length with h1 | h1 | h1
  · have := canon_length_lt hx cy h1; omega
  · exact h1
  · have := canon_length_lt hy cx h1; omega
theorem canon_inj {xs ys : List Nat} (hx : Wd xs) (hy : Wd ys) (cx : Canon xs) (cy : Canon ys) (h : val xs = val ys) : xs = ys :=
  val_inj hx hy (canon_length_eq hx hy cx cy h) h
theorem canon_nil : Canon [] := by simp [Canon]
/-- one more word at the lower end of the upper part: comparison from the upper end -/
theorem val_take_succ {xs : List Nat} {i : Nat} (h : i < xs.length) : val (xs.take (i + 1)) = val (xs.take i) + bp i * xs.getD i 0 := by
  rw [List.take_succ_eq_append_getElem h, val_snoc, List.length_take, Nat.min_eq_left (by omega)]
  simp [List.getD_eq_getElem?_getD, List.getElem?_eq_getElem h]
theorem val_take_drop (xs : List Nat) (i : Nat) (h : i ≤ xs.length) : val xs = val (xs.take i) + bp i * val (xs.drop i) := by
  have := val_append (xs.take i) (xs.drop i)
  rw [List.take_append_drop, List.length_take, Nat.min_eq_left h] at this
  exact this
theorem val_drop_succ {xs : List Nat} {i : Nat} (h : i < xs.length) : val (xs.drop i) = xs.getD i 0 + 18446744073709551616 * val (xs.drop (i + 1)) := by
  rw [List.drop_eq_getElem_cons h, val_cons]
  simp [List.getD_eq_getElem?_getD, List.getElem?_eq_getElem h]
theorem val_take_lt {xs : List Nat} (h : Wd xs) (i : Nat) : val (xs.take i) < bp i := by
  have := val_lt (h.take i)
  exact Nat.lt_of_lt_of_le this (bp_le (by simp; omega))
/-- decided at the word i, those above being the same -/
theorem cmp_at {xs ys : List Nat} (hx : Wd xs) (hl : xs.length = ys.length) {i : Nat} (hi : i < xs.length)
    (hd : xs.drop (i + 1) = ys.drop (i + 1)) (hlt : xs.getD i 0 < ys.getD i 0) : val xs < val ys := by
  have a := val_take_drop xs i (by omega)
  have b := val_take_drop ys i (by omega)
  rw [val_drop_succ hi] at a
  rw [val_drop_succ (xs := ys) (by omega)] at b
  rw [hd] at a
  have c := val_take_lt hx i
  have d : bp i * (xs.getD i 0 + 18446744073709551616 * val (ys.drop (i + 1)) + 1) ≤ bp i * (ys.getD i 0 + 18446744073709551616 * val (ys.drop (i + 1))) := Nat.mul_le_mul_left _ (by omega)
  rw [Nat.mul_add, Nat.mul_one] at d
  omega
theorem trim_step {xs : List Nat} (h : xs.getLast? = some 0) : val xs.dropLast = val xs := by
  have hn : xs ≠ [] := by intro e; rw [e] at h; simp at h
  have e : xs.dropLast ++ [0] = xs := by
    have := List.dropLast_concat_getLast hn
    rw [List.getLast?_eq_some_getLast hn] at h
    rw [Option.some.inj h] at this
    exact this
  have := val_snoc xs.dropLast 0
  rw [e] at this
  omega

theorem add_step {ys : List Nat} {i c A z b s c' : Nat} (hl : ys.length = i) (h : val ys + bp i * c = A) (e : z + b + c = s + 18446744073709551616 * c') :
    val (ys ++ [s]) + bp (i + 1) * c' = A + bp i * z + bp i * b := by
  subst hl
  rw [val_snoc, bp_succ]
  have e2 : bp ys.length * (z + b + c) = bp ys.length * (s + 18446744073709551616 * c') := by rw [e]
  simp only [Nat.mul_add] at e2
  rw [Nat.mul_assoc, Nat.mul_left_comm]
  omega
theorem mul_step {ys : List Nat} {i c A z b s c' m : Nat} (hl : ys.length = i) (h : val ys + bp i * c = A) (e : z + b * m + c = s + 18446744073709551616 * c') :
    val (ys ++ [s]) + bp (i + 1) * c' = A + bp i * z + bp i * b * m := by
  subst hl
  rw [val_snoc, bp_succ]
  have e2 : bp ys.length * (z + b * m + c) = bp ys.length * (s + 18446744073709551616 * c') := by rw [e]
  simp only [Nat.mul_add] at e2
  rw [Nat.mul_assoc, Nat.mul_left_comm, Nat.mul_assoc (bp ys.length) b m]
  omega
theorem sub_step {ys : List Nat} {i c A z b s c' m M : Nat} (hl : ys.length = i) (h : val ys + M = A + bp i * c) (e : z + 18446744073709551616 * c' = s + b * m + c) :
    val (ys ++ [s]) + (M + bp i * b * m) = A + bp i * z + bp (i + 1) * c' := by
  subst hl
  rw [val_snoc, bp_succ]
  have e2 : bp ys.length * (z + 18446744073709551616 * c') = bp ys.length * (s + b * m + c) := by rw [e]
  simp only [Nat.mul_add] at e2
  rw [Nat.mul_assoc 18446744073709551616, Nat.mul_left_comm 18446744073709551616, Nat.mul_assoc (bp ys.length) b m]
  omega
/-- the carry of a product and two words is a word -/
theorem carry_word {z b m c s c' : Nat} (hz : z < 18446744073709551616) (hb : b < 18446744073709551616) (hm : m < 18446744073709551616) (hc : c < 18446744073709551616)
    (e : z + b * m + c = s + 18446744073709551616 * c') : c' < 18446744073709551616 := by
  have h : b * m ≤ 18446744073709551615 * 18446744073709551615 := Nat.mul_le_mul (by omega) (by omega)
  omega
/-- a guess by the highest words is not too small -/
theorem guess_ge {D R q r1 r0 d1 P lo rlo : Nat} (hq : q * D ≤ R) (hD : D = d1 * P + lo) (hR : R = (r1 * 18446744073709551616 + r0) * P + rlo) (hlo : rlo < P) :
    q * d1 ≤ r1 * 18446744073709551616 + r0 := by
  subst hD hR
  refine Nat.lt_succ_iff.1 (Nat.lt_of_mul_lt_mul_right (a := P) ?_)
  have : q * (d1 * P + lo) = q * d1 * P + q * lo := by rw [Nat.mul_add, Nat.mul_assoc]
  rw [Nat.succ_mul]
  omega
/-- Newton's step does not fall below the root -/
theorem newton_ge {a x : Nat} (hx : 0 < x) : a < ((x + a / x) / 2 + 1) * ((x + a / x) / 2 + 1) := by
  have h1 : a < x * (a / x + 1) := by
    have := Nat.lt_mul_div_succ a hx
    simpa using this
  generalize a / x = q at *
  have h2 : x + q ≤ 2 * ((x + q) / 2) + 1 := by omega
  generalize (x + q) / 2 = n at *
  have h3 : x * (q + 1) ≤ (n + 1) * (n + 1) := by
    rcases Nat.le_total x (q + 1) with hle | hle
    · obtain ⟨t, ht⟩ : ∃ t, q + 1 = x + t := ⟨q + 1 - x, by omega⟩
      rw [ht]
      have h4 : 2 * x + t ≤ 2 * (n + 1) := by omega
      have h5 : x ≤ n + 1 := by omega
      obtain ⟨s, hs⟩ : ∃ s, n + 1 = x + s := ⟨n + 1 - x, by omega⟩
      rw [hs] at h4 ⊢
      have h6 : t ≤ 2 * s := by omega
      have h7 : x * t ≤ x * (2 * s) := Nat.mul_le_mul_left _ h6
      simp only [Nat.mul_add, Nat.add_mul]
      have e1 : x * (2 * s) = 2 * (x * s) := Nat.mul_left_comm _ _ _
      have e2 : s * x = x * s := Nat.mul_comm _ _
      omega
    · obtain ⟨t, ht⟩ : ∃ t, x = (q + 1) + t := ⟨x - (q + 1), by omega⟩
      obtain ⟨s, hs⟩ : ∃ s, n + 1 = (q + 1) + s := ⟨n + 1 - (q + 1), by omega⟩
      have h8 : t ≤ 2 * s := by omega
      clear h1 h2
      generalize q + 1 = r at *
      subst ht
      rw [hs]
      have h6 : t ≤ 2 * s := by omega
      have h7 : r * t ≤ r * (2 * s) := Nat.mul_le_mul_left _ h6
      simp only [Nat.mul_add, Nat.add_mul]
      have e1 : r * (2 * s) = 2 * (r * s) := Nat.mul_left_comm _ _ _
      have e2 : s * r = r * s := Nat.mul_comm _ _
      have e3 : t * r = r * t := Nat.mul_comm _ _
      omega
  omega
/-- where the step does not descend, the square is at most the number -/
theorem newton_stop {a x : Nat} (h : x ≤ (x + a / x) / 2) : x * x ≤ a := by
  have h1 : x ≤ a / x := by omega
  exact Nat.le_trans (Nat.mul_le_mul_left x h1) (Nat.mul_div_le a x)
end Go.Proofs.YtnbboheaheicnabGreatDoor.NM
