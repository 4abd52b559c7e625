/- The words of the contracts: worlds that have only drawn, memory that reads as words. -/
import Derived.Test.YtnihclhhbegjhaaGreatDoorProg
import Derived.WalkKit
import Derived.Outline
import Derived.LoopTactic
import Derived.RegionTactic
import Derived.BigRegion
import Derived.Deep.QuietTactic
import Derived.BigQuiet
import Derived.Deep.Draws
import Derived.Lib.Hide
import Derived.Below
import Derived.Laws.AppendOwn
namespace Go.Proofs.YtnihclhhbegjhaaGreatDoor.NM
def val : List Nat → Nat
  | [] => 0
  | x :: xs => x + 18446744073709551616 * val xs
def Wd (xs : List Nat) : Prop := ∀ x ∈ xs, x < 18446744073709551616
def Canon (xs : List Nat) : Prop := xs.getLast? ≠ some 0
def bp (n : Nat) : Nat := 18446744073709551616 ^ n
theorem bp_succ (n : Nat) : bp (n + 1) = 18446744073709551616 * bp n := by unfold bp; rw [Nat.pow_succ, Nat.mul_comm]
theorem Wd.nil : Wd [] := by intro x hx; cases hx
theorem Wd.cons {x : Nat} {xs : List Nat} (h : x < 18446744073709551616) (k : Wd xs) : Wd (x :: xs) := by
  intro y hy; cases hy with | head => exact h | tail _ hy => exact k y hy
theorem Wd.head {x : Nat} {xs : List Nat} (h : Wd (x :: xs)) : x < 18446744073709551616 := h x (List.mem_cons_self ..)
theorem Wd.tail {x : Nat} {xs : List Nat} (h : Wd (x :: xs)) : Wd xs := fun y hy => h y (List.mem_cons_of_mem _ hy)
theorem Wd.append {xs ys : List Nat} (h : Wd xs) (k : Wd ys) : Wd (xs ++ ys) := by
  intro y hy; rcases List.mem_append.1 hy with h1 | h1; exact h y h1; exact k y h1
theorem Wd.left {xs ys : List Nat} (h : Wd (xs ++ ys)) : Wd xs := fun y hy => h y (List.mem_append_left _ hy)
theorem Wd.right {xs ys : List Nat} (h : Wd (xs ++ ys)) : Wd ys := fun y hy => h y (List.mem_append_right _ hy)
theorem Wd.take {xs : List Nat} (h : Wd xs) (n : Nat) : Wd (xs.take n) := fun y hy => h y (List.mem_of_mem_take hy)
theorem Wd.drop {xs : List Nat} (h : Wd xs) (n : Nat) : Wd (xs.drop n) := fun y hy => h y (List.mem_of_mem_drop hy)
theorem val_cons (x : Nat) (xs : List Nat) : val (x :: xs) = x + 18446744073709551616 * val xs := rfl
theorem val_lt {xs : List Nat} (h : Wd xs) : val xs < bp xs.length := by
  induction xs with
  | nil => simp [val, bp]
  | cons x xs ih =>
    have := ih h.tail
    have hx := h.head
    rw [val_cons, List.length_cons, bp_succ]
    have : 18446744073709551616 * (val xs + 1) ≤ 18446744073709551616 * bp xs.length := Nat.mul_le_mul_left _ this
    omega
theorem val_pos_of_canon {xs : List Nat} (hc : Canon xs) (hn : xs ≠ []) : bp (xs.length - 1) ≤ val xs := by
  induction xs with
  | nil => exact absurd rfl hn
  | cons x xs ih =>
    cases xs with
    | nil =>
      have : x ≠ 0 := fun h => hc (by simp [h])
      simp [val, bp]; omega
    | cons y ys =>
      have hc' : Canon (y :: ys) := by intro h; exact hc (by simpa [List.getLast?_cons_cons] using h)
      have := ih hc' (by simp)
      simp only [List.length_cons, Nat.add_sub_cancel] at this ⊢
      rw [bp_succ, val_cons x]
      have : 18446744073709551616 * bp ys.length ≤ 18446744073709551616 * val (y :: ys) := Nat.mul_le_mul_left _ this
      omega
theorem canon_nil : Canon [] := by simp [Canon]
end Go.Proofs.YtnihclhhbegjhaaGreatDoor.NM
namespace Go.Proofs.YtnihclhhbegjhaaGreatDoor
open Go.RowKit NM
theorem tz0 {α : Type} (l : List α) (i : Nat) (a : α) : l.toArray.setIfInBounds i a = (l.set i a).toArray := List.setIfInBounds_toArray ..
theorem tz1 {α : Type} (a b : α) (l : List α) : (a :: l).set 0 b = b :: l := List.set_cons_zero ..
theorem tz2 {α : Type} (a b : α) (l : List α) (n : Nat) : (a :: l).set (n + 1) b = a :: l.set n b := List.set_cons_succ ..
def Qt (w w' : World) : Prop := ∃ q, w' = w.drewN q
theorem Qt.refl (w : World) : Qt w w := ⟨0, rfl⟩
theorem Qt.drewN {w w' : World} (h : Qt w w') (n : Nat) : Qt w (w'.drewN n) := by obtain ⟨q, rfl⟩ := h; exact ⟨q + n, by simp [World.drewN, Nat.add_assoc]⟩
theorem Qt.drew {w w' : World} (h : Qt w w') : Qt w w'.drew := h.drewN 1
theorem Qt.trans {a b c : World} (h : Qt a b) (k : Qt b c) : Qt a c := by obtain ⟨q, rfl⟩ := k; exact h.drewN q
theorem Below.drewN {B : Nat} {a w : World} (h : Below B a w) (n : Nat) : Below B a (w.drewN n) := ⟨h.os, h.tape, h.output, h.size, h.block⟩
theorem Qt.below {w w' : World} (h : Qt w w') (B : Nat) : Below B w w' := by obtain ⟨q, rfl⟩ := h; exact Below.drewN (Below.refl _ _) q
def Gr (w w' : World) : Prop := Below w.heap.size w w'
theorem Gr.refl (w : World) : Gr w w := Below.refl _ _
theorem Gr.trans {a b c : World} (h : Gr a b) (k : Gr b c) : Gr a c := Below.trans h (Below.mono k h.size)
theorem Gr.drew {w w' : World} (h : Gr w w') : Gr w w'.drew := Below.drew h
theorem Gr.drewN {w w' : World} (h : Gr w w') (n : Nat) : Gr w (w'.drewN n) := Below.drewN h n
theorem Qt.gr {w w' : World} (h : Qt w w') : Gr w w' := h.below _
theorem Gr.alloc {w w' : World} (h : Gr w w') (o : Obj) : Gr w (w'.alloc o) := Below.alloc h h.size o
theorem Gr.cell {w w' : World} (h : Gr w w') {p : Addr} {v : Value} (hp : w.cell? p = some v) : w'.cell? p = some v :=
  (Below.cell h (World.block_lt_of_cell? w p hp)).trans hp
theorem Gr.block {w w' : World} (h : Gr w w') {k : Nat} {o : Obj} (hp : w.heap[k]? = some o) : w'.heap[k]? = some o :=
  (Below.block h k (Array.getElem?_eq_some_iff.1 hp).1).trans hp
theorem Gr.size {w w' : World} (h : Gr w w') : w.heap.size ≤ w'.heap.size := Below.size h
structure Sl (w : World) (p : Option Addr) (n cap : Nat) (xs : List Nat) : Prop where
  len : xs.length = n
  le : n ≤ cap
  small : cap ≤ 1000000
  rd : 0 < n → ∃ b off, p = some ⟨b, off, none⟩ ∧ ∀ i, i < n → w.cell? ⟨b, off + i, none⟩ = some (.int .u64 (xs.getD i 0 : Nat))
theorem Sl.nil (w : World) (p : Option Addr) (cap : Nat) (h : cap ≤ 1000000) : Sl w p 0 cap [] := ⟨rfl, Nat.zero_le _, h, fun h => absurd h (by omega)⟩
theorem Sl.gr {w w' : World} {p : Option Addr} {n cap : Nat} {xs : List Nat} (h : Sl w p n cap xs) (k : Gr w w') : Sl w' p n cap xs := by
  refine ⟨h.len, h.le, h.small, fun hn => ?_⟩
  obtain ⟨b, off, rfl, hc⟩ := h.rd hn
  exact ⟨b, off, rfl, fun i hi => k.cell (hc i hi)⟩
theorem Sl.take {w : World} {p : Option Addr} {n cap : Nat} {xs : List Nat} (h : Sl w p n cap xs) {m : Nat} (hm : m ≤ n) : Sl w p m cap (xs.take m) := by
  refine ⟨by rw [List.length_take, h.len]; omega, Nat.le_trans hm h.le, h.small, fun hn => ?_⟩
  obtain ⟨b, off, rfl, hc⟩ := h.rd (by omega)
  refine ⟨b, off, rfl, fun i hi => ?_⟩
  rw [hc i (by omega)]
  simp only [List.getD_eq_getElem?_getD, List.getElem?_take, if_pos (show i < m by omega)]
theorem Sl.cells {w : World} {b off n cap : Nat} {xs : List Nat} (h : Sl w (some ⟨b, off, none⟩) n cap xs) {i : Nat} (hi : i < n) : w.cell? ⟨b, off + i, none⟩ = some (.int .u64 (xs.getD i 0 : Nat)) := by
  obtain ⟨b', off', e, hc⟩ := h.rd (by omega)
  obtain ⟨rfl, rfl⟩ : b = b' ∧ off = off' := by simpa using e
  exact hc i hi
theorem Sl.drop {w : World} {b off n cap : Nat} {xs : List Nat} (h : Sl w (some ⟨b, off, none⟩) n cap xs) {m : Nat} (hm : m ≤ n) : Sl w (some ⟨b, off + m, none⟩) (n - m) (cap - m) (xs.drop m) := by
  have := h.le; have := h.small
  refine ⟨by rw [List.length_drop, h.len], by omega, by omega, fun hn => ⟨b, off + m, rfl, fun i hi => ?_⟩⟩
  rw [show off + m + i = off + (m + i) by omega, h.cells (by omega)]
  simp only [List.getD_eq_getElem?_getD, List.getElem?_drop]
structure Nt (xs : List Nat) (a : Nat) : Prop where
  wd : Wd xs
  canon : Canon xs
  eq : val xs = a
def NatV (w : World) (v : Value) (a : Nat) : Prop := ∃ p n cap xs, v = .slice p n cap ∧ Sl w p n cap xs ∧ Nt xs a
theorem NatV.gr {w w' : World} {v : Value} {a : Nat} (h : NatV w v a) (k : Gr w w') : NatV w' v a := by
  obtain ⟨p, n, cap, xs, h1, h2, h3⟩ := h
  exact ⟨p, n, cap, xs, h1, h2.gr k, h3⟩
theorem Nt.zero : Nt [] 0 := ⟨Wd.nil, canon_nil, rfl⟩
theorem NatV.zero (w : World) : NatV w (.slice none 0 0) 0 := ⟨none, 0, 0, [], rfl, Sl.nil _ _ _ (by omega), Nt.zero⟩
theorem Nt.pos {xs : List Nat} {a : Nat} (h : Nt xs a) (hn : 0 < xs.length) : bp (xs.length - 1) ≤ a := by
  rw [← h.eq]; exact val_pos_of_canon h.canon (by intro e; rw [e] at hn; simp at hn)
theorem Nt.lt {xs : List Nat} {a : Nat} (h : Nt xs a) : a < bp xs.length := by rw [← h.eq]; exact val_lt h.wd
end Go.Proofs.YtnihclhhbegjhaaGreatDoor
