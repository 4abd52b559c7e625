/- The words of the contracts: worlds that have only drawn, memory that reads as words. -/
import Derived.Test.YtgjcbiobedhjaaaGreatDoorProg
import Derived.WalkKit
import Derived.Outline
import Derived.LoopTactic
import Derived.RegionTactic
import Derived.BigRegion
import Derived.Deep.QuietTactic
import Derived.BigQuiet
import Derived.Deep.Draws
import Derived.Lib.Hide
import Derived.Below
import Derived.Laws.AppendOwn
namespace Go.Proofs.YtgjcbiobedhjaaaGreatDoor.NM
/-- the value of words, the lowest one first -/
def val : List Nat → Nat
  | [] => 0
  | x :: xs => x + 18446744073709551616 * val xs
/-- all words are words -/
def Wd (xs : List Nat) : Prop := ∀ x ∈ xs, x < 18446744073709551616
/-- the last word is not 0 -/
def Canon (xs : List Nat) : Prop := xs.getLast? ≠ some 0
/-- 2^64 to the power n -/
def bp (n : Nat) : Nat := 18446744073709551616 ^ n

theorem bp_zero : bp 0 = 1 := rfl
theorem bp_succ (n : Nat) : bp (n + 1) = 18446744073709551616 * bp n := by unfold bp; rw [Nat.pow_succ, Nat.mul_comm]
theorem bp_add (m n : Nat) : bp (m + n) = bp m * bp n := Nat.pow_add _ _ _
theorem bp_pos (n : Nat) : 0 < bp n := Nat.pow_pos (by omega)
theorem bp_le {m n : Nat} (h : m ≤ n) : bp m ≤ bp n := Nat.pow_le_pow_right (by omega) h
theorem bp_lt {m n : Nat} (h : m < n) : bp m < bp n := Nat.pow_lt_pow_right (by omega) h

theorem Wd.nil : Wd [] := by intro x hx; cases hx
theorem Wd.cons {x : Nat} {xs : List Nat} (h : x < 18446744073709551616) (k : Wd xs) : Wd (x :: xs) := by
  intro y hy; cases hy with | head => exact h | tail _ hy => exact k y hy
theorem Wd.head {x : Nat} {xs : List Nat} (h : Wd (x :: xs)) : x < 18446744073709551616 := h x (List.mem_cons_self ..)
theorem Wd.tail {x : Nat} {xs : List Nat} (h : Wd (x :: xs)) : Wd xs := fun y hy => h y (List.mem_cons_of_mem _ hy)
theorem Wd.append {xs ys : List Nat} (h : Wd xs) (k : Wd ys) : Wd (xs ++ ys) := by
  intro y hy; rcases List.mem_append.1 hy with h1 | h1; exact h y h1; exact k y h1
theorem Wd.left {xs ys : List Nat} (h : Wd (xs ++ ys)) : Wd xs := fun y hy => h y (List.mem_append_left _ hy)
theorem Wd.right {xs ys : List Nat} (h : Wd (xs ++ ys)) : Wd ys := fun y hy => h y (List.mem_append_right _ hy)
theorem Wd.take {xs : List Nat} (h : Wd xs) (n : Nat) : Wd (xs.take n) := fun y hy => h y (List.mem_of_mem_take hy)
theorem Wd.drop {xs : List Nat} (h : Wd xs) (n : Nat) : Wd (xs.drop n) := fun y hy => h y (List.mem_of_mem_drop hy)
theorem Wd.get {xs : List Nat} (h : Wd xs) (i : Nat) (d : Nat) (hd : d < 18446744073709551616) : xs.getD i d < 18446744073709551616 := by
  by_cases hi : i < xs.length
  · rw [List.getD_eq_getElem?_getD, List.getElem?_eq_getElem hi]; exact h _ (List.getElem_mem hi)
  · rw [List.getD_eq_getElem?_getD, List.getElem?_eq_none (by omega)]; exact hd
theorem Wd.replicate (n : Nat) : Wd (List.replicate n 0) := by
  intro y hy; rw [(List.mem_replicate.1 hy).2]; omega

theorem val_nil : val [] = 0 := rfl
theorem val_cons (x : Nat) (xs : List Nat) : val (x :: xs) = x + 18446744073709551616 * val xs := rfl
theorem val_append (xs ys : List Nat) : val (xs ++ ys) = val xs + bp xs.length * val ys := by
  induction xs with
  | nil => simp [val, bp]
  | cons x xs ih => simp only [List.cons_append, val_cons, ih, List.length_cons, bp_succ, Nat.mul_add, Nat.mul_assoc]; omega
theorem val_snoc (xs : List Nat) (x : Nat) : val (xs ++ [x]) = val xs + bp xs.length * x := by
  rw [val_append]; simp [val]
theorem val_replicate (n : Nat) : val (List.replicate n 0) = 0 := by
  induction n with
  | zero => rfl
  | succ n ih => rw [List.replicate_succ, val_cons, ih]
theorem val_lt {xs : List Nat} (h : Wd xs) : val xs < bp xs.length := by
  induction xs with
  | nil => simp [val, bp]
  | cons x xs ih =>
    have := ih h.tail
    have hx := h.head
    rw [val_cons, List.length_cons, bp_succ]
    have : 18446744073709551616 * (val xs + 1) ≤ 18446744073709551616 * bp xs.length := Nat.mul_le_mul_left _ this
    omega
theorem val_pos_of_canon {xs : List Nat} (hc : Canon xs) (hn : xs ≠ []) : bp (xs.length - 1) ≤ val xs := by
  induction xs with
  | nil => exact absurd rfl hn
  | cons x xs ih =>
    cases xs with
    | nil =>
      have : x ≠ 0 := fun h => hc (by simp [h])
      simp [val, bp]; omega
    | cons y ys =>
      have hc' : Canon (y :: ys) := by intro h; exact hc (by simpa [List.getLast?_cons_cons] using h)
      have := ih hc' (by simp)
      simp only [List.length_cons, Nat.add_sub_cancel] at this ⊢
      rw [bp_succ, val_cons x]
      have : 18446744073709551616 * bp ys.length ≤ 18446744073709551616 * val (y :: ys) := Nat.mul_le_mul_left _ this
      omega
theorem canon_length_lt {xs ys : List Nat} (hy : Wd xs) (cy : Canon ys) (h : xs.length < ys.length) : val xs < val ys := by
  have h1 := val_lt hy
  have h2 := val_pos_of_canon cy (by intro e; rw [e] at h; simp at h)
  have h3 : bp xs.length ≤ bp (ys.length - 1) := bp_le (by omega)
  omega
theorem canon_nil_of_val {xs : List Nat} (c : Canon xs) (h : val xs = 0) : xs = [] := by
  by_cases e : xs = []
  · exact e
  · have := val_pos_of_canon c e; have := bp_pos (xs.length - 1); omega
theorem val_inj {xs ys : List Nat} (hx : Wd xs) (hy : Wd ys) (hl : xs.length = ys.length) (h : val xs = val ys) : xs = ys := by
  induction xs generalizing ys with
  | nil => cases ys with | nil => rfl | cons _ _ => simp at hl
  | cons x xs ih =>
    cases ys with
    | nil => simp at hl
    | cons y ys =>
      simp only [val_cons] at h
      have := hx.head; have := hy.head
      have e1 : x = y := by omega
      have e2 : val xs = val ys := by omega
      rw [e1, ih hx.tail hy.tail (by simpa using hl) e2]
theorem canon_length_eq {xs ys : List Nat} (hx : Wd xs) (hy : Wd ys) (cx : Canon xs) (cy : Canon ys) (h : val xs = val ys) : xs.length = ys.length := by
  rcases Nat.lt_trichotomy xs.length ys.length with h1 | h1 | h1
  · have := canon_length_lt hx cy h1; omega
  · exact h1
  · have := canon_length_lt hy cx h1; omega
theorem canon_inj {xs ys : List Nat} (hx : Wd xs) (hy : Wd ys) (cx : Canon xs) (cy : Canon ys) (h : val xs = val ys) : xs = ys :=
  val_inj hx hy (canon_length_eq hx hy cx cy h) h
theorem canon_nil : Canon [] := by simp [Canon]
/-- one more word at the lower end of the upper part: comparison from the upper end -/
theorem val_take_succ {xs : List Nat} {i : Nat} (h : i < xs.length) : val (xs.take (i + 1)) = val (xs.take i) + bp i * xs.getD i 0 := by
  rw [List.take_succ_eq_append_getElem h, val_snoc, List.length_take, Nat.min_eq_left (by omega)]
  simp [List.getD_eq_getElem?_getD, List.getElem?_eq_getElem h]
theorem val_take_drop (xs : List Nat) (i : Nat) (h : i ≤ xs.length) : val xs = val (xs.take i) + bp i * val (xs.drop i) := by
  have := val_append (xs.take i) (xs.drop i)
  rw [List.take_append_drop, List.length_take, Nat.min_eq_left h] at this
  exact this
theorem val_drop_succ {xs : List Nat} {i : Nat} (h : i < xs.length) : val (xs.drop i) = xs.getD i 0 + 18446744073709551616 * val (xs.drop (i + 1)) := by
  rw [List.drop_eq_getElem_cons h, val_cons]
  simp [List.getD_eq_getElem?_getD, List.getElem?_eq_getElem h]
theorem val_take_lt {xs : List Nat} (h : Wd xs) (i : Nat) : val (xs.take i) < bp i := by
  have := val_lt (h.take i)
  exact Nat.lt_of_lt_of_le this (bp_le (by simp; omega))
/-- decided at the word i, those above being the same -/
theorem cmp_at {xs ys : List Nat} (hx : Wd xs) (hl : xs.length = ys.length) {i : Nat} (hi : i < xs.length)
    (hd : xs.drop (i + 1) = ys.drop (i + 1)) (hlt : xs.getD i 0 < ys.getD i 0) : val xs < val ys := by
  have a := val_take_drop xs i (by omega)
  have b := val_take_drop ys i (by omega)
  rw [val_drop_succ hi] at a
  rw [val_drop_succ (xs := ys) (by omega)] at b
  rw [hd] at a
  have c := val_take_lt hx i
  have d : bp i * (xs.getD i 0 + 18446744073709551616 * val (ys.drop (i + 1)) + 1) ≤ bp i * (ys.getD i 0 + 18446744073709551616 * val (ys.drop (i + 1))) := Nat.mul_le_mul_left _ (by omega)
  rw [Nat.mul_add, Nat.mul_one] at d
  omega
theorem trim_step {xs : List Nat} (h : xs.getLast? = some 0) : val xs.dropLast = val xs := by
  have hn : xs ≠ [] := by intro e; rw [e] at h; simp at h
  have e : xs.dropLast ++ [0] = xs := by
    have := List.dropLast_concat_getLast hn
    rw [List.getLast?_eq_some_getLast hn] at h
    rw [Option.some.inj h] at this
    exact this
  have := val_snoc xs.dropLast 0
  rw [e] at this
  omega

theorem add_step {ys : List Nat} {i c A z b s c' : Nat} (hl : ys.length = i) (h : val ys + bp i * c = A) (e : z + b + c = s + 18446744073709551616 * c') :
    val (ys ++ [s]) + bp (i + 1) * c' = A + bp i * z + bp i * b := by
  subst hl
  rw [val_snoc, bp_succ]
  have e2 : bp ys.length * (z + b + c) = bp ys.length * (s + 18446744073709551616 * c') := by rw [e]
  simp only [Nat.mul_add] at e2
  rw [Nat.mul_assoc, Nat.mul_left_comm]
  omega
theorem mul_step {ys : List Nat} {i c A z b s c' m : Nat} (hl : ys.length = i) (h : val ys + bp i * c = A) (e : z + b * m + c = s + 18446744073709551616 * c') :
    val (ys ++ [s]) + bp (i + 1) * c' = A + bp i * z + bp i * b * m := by
  subst hl
  rw [val_snoc, bp_succ]
  have e2 : bp ys.length * (z + b * m + c) = bp ys.length * (s + 18446744073709551616 * c') := by rw [e]
  simp only [Nat.mul_add] at e2
  rw [Nat.mul_assoc, Nat.mul_left_comm, Nat.mul_assoc (bp ys.length) b m]
  omega
theorem sub_step {ys : List Nat} {i c A z b s c' m M : Nat} (hl : ys.length = i) (h : val ys + M = A + bp i * c) (e : z + 18446744073709551616 * c' = s + b * m + c) :
    val (ys ++ [s]) + (M + bp i * b * m) = A + bp i * z + bp (i + 1) * c' := by
  subst hl
  rw [val_snoc, bp_succ]
  have e2 : bp ys.length * (z + 18446744073709551616 * c') = bp ys.length * (s + b * m + c) := by rw [e]
  simp only [Nat.mul_add] at e2
  rw [Nat.mul_assoc 18446744073709551616, Nat.mul_left_comm 18446744073709551616, Nat.mul_assoc (bp ys.length) b m]
  omega
/-- the carry of a product and two words is a word -/
theorem carry_word {z b m c s c' : Nat} (hz : z < 18446744073709551616) (hb : b < 18446744073709551616) (hm : m < 18446744073709551616) (hc : c < 18446744073709551616)
    (e : z + b * m + c = s + 18446744073709551616 * c') : c' < 18446744073709551616 := by
  have h : b * m ≤ 18446744073709551615 * 18446744073709551615 := Nat.mul_le_mul (by omega) (by omega)
  omega
/-- a guess by the highest words is not too small -/
theorem guess_ge {D R q r1 r0 d1 P lo rlo : Nat} (hq : q * D ≤ R) (hD : D = d1 * P + lo) (hR : R = (r1 * 18446744073709551616 + r0) * P + rlo) (hlo : rlo < P) :
    q * d1 ≤ r1 * 18446744073709551616 + r0 := by
  subst hD hR
  refine Nat.lt_succ_iff.1 (Nat.lt_of_mul_lt_mul_right (a := P) ?_)
  have : q * (d1 * P + lo) = q * d1 * P + q * lo := by rw [Nat.mul_add, Nat.mul_assoc]
  rw [Nat.succ_mul]
  omega
/-- Newton's step does not fall below the root -/
theorem newton_ge {a x : Nat} (hx : 0 < x) : a < ((x + a / x) / 2 + 1) * ((x + a / x) / 2 + 1) := by
  have h1 : a < x * (a / x + 1) := by
    have := Nat.lt_mul_div_succ a hx
    simpa using this
  generalize a / x = q at *
  have h2 : x + q ≤ 2 * ((x + q) / 2) + 1 := by omega
  generalize (x + q) / 2 = n at *
  have h3 : x * (q + 1) ≤ (n + 1) * (n + 1) := by
    rcases Nat.le_total x (q + 1) with hle | hle
    · obtain ⟨t, ht⟩ : ∃ t, q + 1 = x + t := ⟨q + 1 - x, by omega⟩
      rw [ht]
      have h4 : 2 * x + t ≤ 2 * (n + 1) := by omega
      have h5 : x ≤ n + 1 := by omega
      obtain ⟨s, hs⟩ : ∃ s, n + 1 = x + s := ⟨n + 1 - x, by omega⟩
      rw [hs] at h4 ⊢
      have h6 : t ≤ 2 * s := by omega
      have h7 : x * t ≤ x * (2 * s) := Nat.mul_le_mul_left _ h6
      simp only [Nat.mul_add, Nat.add_mul]
      have e1 : x * (2 * s) = 2 * (x * s) := Nat.mul_left_comm _ _ _
      have e2 : s * x = x * s := Nat.mul_comm _ _
      omega
    · obtain ⟨t, ht⟩ : ∃ t, x = (q + 1) + t := ⟨x - (q + 1), by omega⟩
      obtain ⟨s, hs⟩ : ∃ s, n + 1 = (q + 1) + s := ⟨n + 1 - (q + 1), by omega⟩
      have h8 : t ≤ 2 * s := by omega
      clear h1 h2
      generalize q + 1 = r at *
      subst ht
      rw [hs]
      have h6 : t ≤ 2 * s := by omega
      have h7 : r * t ≤ r * (2 * s) := Nat.mul_le_mul_left _ h6
      simp only [Nat.mul_add, Nat.add_mul]
      have e1 : r * (2 * s) = 2 * (r * s) := Nat.mul_left_comm _ _ _
      have e2 : s * r = r * s := Nat.mul_comm _ _
      have e3 : t * r = r * t := Nat.mul_comm _ _
      omega
  omega
/-- where the step does not descend, the square is at most the number -/
theorem newton_stop {a x : Nat} (h : x ≤ (x + a / x) / 2) : x * x ≤ a := by
  have h1 : x ≤ a / x := by omega
  exact Nat.le_trans (Nat.mul_le_mul_left x h1) (Nat.mul_div_le a x)
end Go.Proofs.YtgjcbiobedhjaaaGreatDoor.NM
namespace Go.Proofs.YtgjcbiobedhjaaaGreatDoor
open Go.RowKit NM
/-- only draws have been taken -/
def Qt (w w' : World) : Prop := ∃ q, w' = w.drewN q
theorem Qt.refl (w : World) : Qt w w := ⟨0, rfl⟩
theorem Qt.drewN {w w' : World} (h : Qt w w') (n : Nat) : Qt w (w'.drewN n) := by obtain ⟨q, rfl⟩ := h; exact ⟨q + n, by simp [World.drewN, Nat.add_assoc]⟩
theorem Qt.drew {w w' : World} (h : Qt w w') : Qt w w'.drew := h.drewN 1
theorem Qt.trans {a b c : World} (h : Qt a b) (k : Qt b c) : Qt a c := by obtain ⟨q, rfl⟩ := k; exact h.drewN q
theorem Below.drewN {B : Nat} {a w : World} (h : Below B a w) (n : Nat) : Below B a (w.drewN n) := ⟨h.os, h.tape, h.output, h.size, h.block⟩
theorem Qt.below {w w' : World} (h : Qt w w') (B : Nat) : Below B w w' := by obtain ⟨q, rfl⟩ := h; exact Below.drewN (Below.refl _ _) q
/-- grown: all blocks that were there are as they were -/
def Gr (w w' : World) : Prop := Below w.heap.size w w'
theorem Gr.refl (w : World) : Gr w w := Below.refl _ _
theorem Gr.trans {a b c : World} (h : Gr a b) (k : Gr b c) : Gr a c := Below.trans h (Below.mono k h.size)
theorem Gr.drew {w w' : World} (h : Gr w w') : Gr w w'.drew := Below.drew h
theorem Gr.drewN {w w' : World} (h : Gr w w') (n : Nat) : Gr w (w'.drewN n) := Below.drewN h n
theorem Gr.qt {a b c : World} (h : Gr a b) (k : Qt b c) : Gr a c := by obtain ⟨q, rfl⟩ := k; exact h.drewN q
theorem Qt.gr {w w' : World} (h : Qt w w') : Gr w w' := h.below _
theorem Gr.alloc {w w' : World} (h : Gr w w') (o : Obj) : Gr w (w'.alloc o) := Below.alloc h h.size o
theorem Gr.cell {w w' : World} (h : Gr w w') {p : Addr} {v : Value} (hp : w.cell? p = some v) : w'.cell? p = some v :=
  (Below.cell h (World.block_lt_of_cell? w p hp)).trans hp
theorem Gr.block {w w' : World} (h : Gr w w') {k : Nat} {o : Obj} (hp : w.heap[k]? = some o) : w'.heap[k]? = some o :=
  (Below.block h k (Array.getElem?_eq_some_iff.1 hp).1).trans hp
theorem Gr.size {w w' : World} (h : Gr w w') : w.heap.size ≤ w'.heap.size := Below.size h

/-- a quiet call inside a region that draws: behind a variable world; behind a world that has drawn -/
theorem quiet1 {P : Program} {f : FuncId} {args : Array Value} {w : World} {n : Nat} {v : Value} (c : Calls P f args (w.drewN n) fun e w' => e = .returned v ∧ Qt (w.drewN n) w') :
    Calls P f args (w.drewN n) fun e w'' => e = .returned v ∧ ∃ m, w'' = w.drewN m := by
  refine c.mono ?_
  rintro e w' ⟨he, q, rfl⟩
  exact ⟨he, n + q, by simp [World.drewN, Nat.add_assoc]⟩
theorem quietN {P : Program} {f : FuncId} {args : Array Value} {w : World} {a n : Nat} {v : Value} (c : Calls P f args (w.drewN (a + n)) fun e w' => e = .returned v ∧ Qt (w.drewN (a + n)) w') :
    Calls P f args (w.drewN (a + n)) fun e w'' => e = .returned v ∧ ∃ m, w'' = w.drewN (a + m) := by
  refine c.mono ?_
  rintro e w' ⟨he, q, rfl⟩
  exact ⟨he, n + q, by simp [World.drewN, Nat.add_assoc]⟩
theorem ret_int (k : IntKind) {a b : Int} (h : a = b) : Ending.returned (.int k a) = .returned (.int k b) := by rw [h]

/-- the slice of n words at address p, of capacity cap, reads as xs -/
structure Sl (w : World) (p : Option Addr) (n cap : Nat) (xs : List Nat) : Prop where
  len : xs.length = n
  le : n ≤ cap
  small : cap ≤ 1000000
  rd : 0 < n → ∃ b off, p = some ⟨b, off, none⟩ ∧ ∀ i, i < n → w.cell? ⟨b, off + i, none⟩ = some (.int .u64 (xs.getD i 0 : Nat))
theorem Sl.nil (w : World) (p : Option Addr) (cap : Nat) (h : cap ≤ 1000000) : Sl w p 0 cap [] := ⟨rfl, Nat.zero_le _, h, fun h => absurd h (by omega)⟩
theorem Sl.gr {w w' : World} {p : Option Addr} {n cap : Nat} {xs : List Nat} (h : Sl w p n cap xs) (k : Gr w w') : Sl w' p n cap xs := by
  refine ⟨h.len, h.le, h.small, fun hn => ?_⟩
  obtain ⟨b, off, rfl, hc⟩ := h.rd hn
  exact ⟨b, off, rfl, fun i hi => k.cell (hc i hi)⟩
theorem Sl.take {w : World} {p : Option Addr} {n cap : Nat} {xs : List Nat} (h : Sl w p n cap xs) {m : Nat} (hm : m ≤ n) : Sl w p m cap (xs.take m) := by
  refine ⟨by rw [List.length_take, h.len]; omega, Nat.le_trans hm h.le, h.small, fun hn => ?_⟩
  obtain ⟨b, off, rfl, hc⟩ := h.rd (by omega)
  refine ⟨b, off, rfl, fun i hi => ?_⟩
  rw [hc i (by omega)]
  simp only [List.getD_eq_getElem?_getD, List.getElem?_take, if_pos (show i < m by omega)]
theorem Sl.cells {w : World} {b off n cap : Nat} {xs : List Nat} (h : Sl w (some ⟨b, off, none⟩) n cap xs) {i : Nat} (hi : i < n) : w.cell? ⟨b, off + i, none⟩ = some (.int .u64 (xs.getD i 0 : Nat)) := by
  obtain ⟨b', off', e, hc⟩ := h.rd (by omega)
  obtain ⟨rfl, rfl⟩ : b = b' ∧ off = off' := by simpa using e
  exact hc i hi
theorem Sl.at0 {w : World} {b n cap : Nat} {xs : List Nat} (h : Sl w (some ⟨b, 0, none⟩) n cap xs) {i : Nat} (hi : i < n) : w.cell? ⟨b, i, none⟩ = some (.int .u64 (xs.getD i 0 : Nat)) := by
  have := h.cells hi; rwa [Nat.zero_add] at this
theorem Sl.drop {w : World} {b off n cap : Nat} {xs : List Nat} (h : Sl w (some ⟨b, off, none⟩) n cap xs) {m : Nat} (hm : m ≤ n) : Sl w (some ⟨b, off + m, none⟩) (n - m) (cap - m) (xs.drop m) := by
  have := h.le; have := h.small
  refine ⟨by rw [List.length_drop, h.len], by omega, by omega, fun hn => ⟨b, off + m, rfl, fun i hi => ?_⟩⟩
  rw [show off + m + i = off + (m + i) by omega, h.cells (by omega)]
  simp only [List.getD_eq_getElem?_getD, List.getElem?_drop]
/-- words without a last one that is 0, of the value a -/
structure Nt (xs : List Nat) (a : Nat) : Prop where
  wd : Wd xs
  canon : Canon xs
  eq : val xs = a
/-- the value v is the natural number a: a slice of words, the last one not 0 -/
def NatV (w : World) (v : Value) (a : Nat) : Prop := ∃ p n cap xs, v = .slice p n cap ∧ Sl w p n cap xs ∧ Nt xs a
theorem NatV.gr {w w' : World} {v : Value} {a : Nat} (h : NatV w v a) (k : Gr w w') : NatV w' v a := by
  obtain ⟨p, n, cap, xs, h1, h2, h3⟩ := h
  exact ⟨p, n, cap, xs, h1, h2.gr k, h3⟩
theorem Nt.zero : Nt [] 0 := ⟨Wd.nil, canon_nil, rfl⟩
theorem NatV.zero (w : World) : NatV w (.slice none 0 0) 0 := ⟨none, 0, 0, [], rfl, Sl.nil _ _ _ (by omega), Nt.zero⟩
/-- a natural number is returned, as it stands in W -/
def RetNat (W : World) (e : Ending) (a : Nat) : Prop := ∃ v, e = .returned v ∧ NatV W v a
/-- words are returned that need not end -/
theorem Nt.pos {xs : List Nat} {a : Nat} (h : Nt xs a) (hn : 0 < xs.length) : bp (xs.length - 1) ≤ a := by
  rw [← h.eq]; exact val_pos_of_canon h.canon (by intro e; rw [e] at hn; simp at hn)
theorem Nt.lt {xs : List Nat} {a : Nat} (h : Nt xs a) : a < bp xs.length := by rw [← h.eq]; exact val_lt h.wd
theorem Nt.len_le {xs : List Nat} {a k : Nat} (h : Nt xs a) (ha : a < bp k) : xs.length ≤ k := by
  by_cases h0 : 0 < xs.length
  · have := h.pos h0
    by_cases hk : xs.length ≤ k
    · exact hk
    · have : bp k ≤ bp (xs.length - 1) := bp_le (by omega)
      omega
  · omega
theorem Nt.zero_of {xs : List Nat} {a : Nat} (h : Nt xs a) (h0 : xs.length = 0) : a = 0 := by
  have := h.lt; rw [h0] at this; simp [bp] at this; omega
theorem Nt.pos_of {xs : List Nat} {a : Nat} (h : Nt xs a) (h0 : 0 < xs.length) : 0 < a := by
  have := h.pos h0; have := bp_pos (xs.length - 1); omega
end Go.Proofs.YtgjcbiobedhjaaaGreatDoor
