/- The words of the contracts: worlds that have only drawn, memory that reads as words. -/
import Derived.Test.YtnbboheaheicnabGreatDoorProg
import Derived.Test.YtnbboheaheicnabGreatDoorNat
import Derived.WalkKit
import Derived.Outline
import Derived.LoopTactic
import Derived.RegionTactic
import Derived.BigRegion
import Derived.Deep.QuietTactic
import Derived.BigQuiet
import Derived.Deep.Draws
import Derived.Lib.Hide
import Derived.Below
import Derived.Laws.AppendOwn
namespace Go.Proofs.YtnbboheaheicnabGreatDoor
open Go.RowKit NM
/-- only draws have been taken -/
def Qt (w w' : World) : Prop := ∃ q, w' = w.drewN q
theorem Qt.refl (w : World) : Qt w w := ⟨0, rfl⟩
theorem Qt.drewN {w w' : World} (h : Qt w w') (n : Nat) : Qt w (w'.drewN n) := by obtain ⟨q, rfl⟩ := h; exact ⟨q + n, by simp [World.drewN, Nat.add_assoc]⟩
theorem Qt.drew {w w' : World} (h : Qt w w') : Qt w w'.drew := h.drewN 1
theorem Qt.trans {a b c : World} (h : Qt a b) (k : Qt b c) : Qt a c := by obtain ⟨q, rfl⟩ := k; exact h.drewN q
theorem Below.drewN {B : Nat} {a w : World} (h : Below B a w) (n : Nat) : Below B a (w.drewN n) := ⟨h.os, h.tape, h.output, h.size, h.block⟩
theorem Qt.below {w w' : World} (h : Qt w w') (B : Nat) : Below B w w' := by obtain ⟨q, rfl⟩ := h; exact Below.drewN (Below.refl _ _) q
/-- grown: all blocks that were there are as they were -/
def Gr (w w' : World) : Prop := Below w.heap.size w w'
theorem Gr.refl (w : World) : Gr w w := Below.refl _ _
theorem Gr.trans {a b c : World} (h : Gr a b) (k : Gr b c) : Gr a c := Below.trans h (Below.mono k h.size)
theorem Gr.drew {w w' : World} (h : Gr w w') : Gr w w'.drew := Below.drew h
theorem Gr.drewN {w w' : World} (h : Gr w w') (n : Nat) : Gr w (w'.drewN n) := Below.drewN h n
theorem Gr.qt {a b c : World} (h : Gr a b) (k : Qt b c) : Gr a c := by obtain ⟨q, rfl⟩ := k; exact h.drewN q
theorem Qt.gr {w w' : World} (h : Qt w w') : Gr w w' := h.below _
theorem Gr.alloc {w w' : World} (h : Gr w w') (o : Obj) : Gr w (w'.alloc o) := Below.alloc h h.size o
theorem Gr.cell {w w' : World} (h : Gr w w') {p : Addr} {v : Value} (hp : w.cell? p = some v) : w'.cell? p = some v :=
  (Below.cell h (World.block_lt_of_cell? w p hp)).trans hp
theorem Gr.block {w w' : World} (h : Gr w w') {k : Nat} {o : Obj} (hp : w.heap[k]? = some o) : w'.heap[k]? = some o :=
  (Below.block h k (Array.getElem?_eq_some_iff.1 hp).1).trans hp
theorem Gr.size {w w' : World} (h : Gr w w') : w.heap.size ≤ w'.heap.size := Below.size h

/-- a quiet call inside a region that draws: behind a variable world; behind a world that has drawn -/
theorem quiet1 {P : Program} {f : FuncId} {args : Array Value} {w : World} {n : Nat} {v : Value} (c : Calls P f args (w.drewN n) fun e w' => e = .returned v ∧ Qt (w.drewN n) w') :
    Calls P f args (w.drewN n) fun e w'' => e = .returned v ∧ ∃ m, w'' = w.drewN m := by
  refine c.mono ?_
  rintro e w' ⟨he, q, rfl⟩
  exact ⟨he, n + q, by simp [World.drewN, Nat.add_assoc]⟩
theorem quietN {P : Program} {f : FuncId} {args : Array Value} {w : World} {a n : Nat} {v : Value} (c : Calls P f args (w.drewN (a + n)) fun e w' => e = .returned v ∧ Qt (w.drewN (a + n)) w') :
    Calls P f args (w.drewN (a + n)) fun e w'' => e = .returned v ∧ ∃ m, w'' = w.drewN (a + m) := by
  refine c.mono ?_
  rintro e w' ⟨he, q, rfl⟩
  exact ⟨he, n + q, by simp [World.drewN, Nat.add_assoc]⟩
theorem ret_int (k : IntKind) {a b : Int} (h : a = b) : Ending.returned (.int k a) = .returned (.int k b) := by rw [h]

/-- the slice of n words at address p, of capacity cap, reads as xs -/
structure Sl (w : World) (p : Option Addr) (n cap : Nat) (xs : List Nat) : Prop where
  len : xs.length = n
  le : n ≤ cap
  small : cap ≤ 1000000
  rd : 0 < n → ∃ b off, p = some ⟨b, off, none⟩ ∧ ∀ i, i < n → w.cell? ⟨b, off + i, none⟩ = some (.int .u64 (xs.getD i 0 : Nat))
theorem Sl.nil (w : World) (p : Option Addr) (cap : Nat) (h : cap ≤ 1000000) : Sl w p 0 cap [] := ⟨rfl, Nat.zero_le _, h, fun h => absurd h (by omega)⟩
theorem Sl.gr {w w' : World} {p : Option Addr} {n cap : Nat} {xs : List Nat} (h : Sl w p n cap xs) (k : Gr w w') : Sl w' p n cap xs := by
  refine ⟨h.len, h.le, h.small, fun hn => ?_⟩
  obtain ⟨b, off, rfl, hc⟩ := h.rd hn
  exact ⟨b, off, rfl, fun i hi => k.cell (hc i hi)⟩
theorem Sl.take {w : World} {p : Option Addr} {n cap : Nat} {xs : List Nat} (h : Sl w p n cap xs) {m : Nat} (hm : m ≤ n) : Sl w p m cap (xs.take m) := by
  refine ⟨by rw [List.length_take, h.len]; omega, Nat.le_trans hm h.le, h.small, fun hn => ?_⟩
  obtain ⟨b, off, rfl, hc⟩ := h.rd (by omega)
  refine ⟨b, off, rfl, fun i hi => ?_⟩
  rw [hc i (by omega)]
  simp only [List.getD_eq_getElem?_getD, List.getElem?_take, if_pos (show i < m by omega)]
theorem Sl.cells {w : World} {b off n cap : Nat} {xs : List Nat} (h : Sl w (some ⟨b, off, none⟩) n cap xs) {i : Nat} (hi : i < n) : w.cell? ⟨b, off + i, none⟩ = some (.int .u64 (xs.getD i 0 : Nat)) := by
  obtain ⟨b', off', e, hc⟩ := h.rd (by omega)
  obtain ⟨rfl, rfl⟩ : b = b' ∧ off = off' := by simpa using e
  exact hc i hi
theorem Sl.at0 {w : World} {b n cap : Nat} {xs : List Nat} (h : Sl w (some ⟨b, 0, none⟩) n cap xs) {i : Nat} (hi : i < n) : w.cell? ⟨b, i, none⟩ = some (.int .u64 (xs.getD i 0 : Nat)) := by
  have := h.cells hi; rwa [Nat.zero_add] at this
theorem Sl.drop {w : World} {b off n cap : Nat} {xs : List Nat} (h : Sl w (some ⟨b, off, none⟩) n cap xs) {m : Nat} (hm : m ≤ n) : Sl w (some ⟨b, off + m, none⟩) (n - m) (cap - m) (xs.drop m) := by
  have := h.le; have := h.small
  refine ⟨by rw [List.length_drop, h.len], by omega, by omega, fun hn => ⟨b, off + m, rfl, fun i hi => ?_⟩⟩
  rw [show off + m + i = off + (m + i) by omega, h.cells (by omega)]
  simp only [List.getD_eq_getElem?_getD, List.getElem?_drop]
/-- words without a last one that is 0, of the value a -/
structure Nt (xs : List Nat) (a : Nat) : Prop where
  wd : Wd xs
  canon : Canon xs
  eq : val xs = a
/-- the value v is the natural number a: a slice of words, the last one not 0 -/
def NatV (w : World) (v : Value) (a : Nat) : Prop := ∃ p n cap xs, v = .slice p n cap ∧ Sl w p n cap xs ∧ Nt xs a
theorem NatV.gr {w w' : World} {v : Value} {a : Nat} (h : NatV w v a) (k : Gr w w') : NatV w' v a := by
  obtain ⟨p, n, cap, xs, h1, h2, h3⟩ := h
  exact ⟨p, n, cap, xs, h1, h2.gr k, h3⟩
theorem Nt.zero : Nt [] 0 := ⟨Wd.nil, canon_nil, rfl⟩
theorem NatV.zero (w : World) : NatV w (.slice none 0 0) 0 := ⟨none, 0, 0, [], rfl, Sl.nil _ _ _ (by omega), Nt.zero⟩
/-- a natural number is returned, as it stands in W -/
def RetNat (W : World) (e : Ending) (a : Nat) : Prop := ∃ v, e = .returned v ∧ NatV W v a
/-- words are returned that need not end -/
theorem Nt.pos {xs : List Nat} {a : Nat} (h : Nt xs a) (hn : 0 < xs.length) : bp (xs.length - 1) ≤ a := by
  rw [← h.eq]; exact val_pos_of_canon h.canon (by intro e; rw [e] at hn; simp at hn)
theorem Nt.lt {xs : List Nat} {a : Nat} (h : Nt xs a) : a < bp xs.length := by rw [← h.eq]; exact val_lt h.wd
theorem Nt.len_le {xs : List Nat} {a k : Nat} (h : Nt xs a) (ha : a < bp k) : xs.length ≤ k := by
  by_cases h0 : 0 < xs.length
  · have := h.pos h0
    by_cases hk : xs.length ≤ k
    · exact hk
    · have : bp k ≤ bp (xs.length - 1) := bp_le (by omega)
      omega
  · omega
theorem Nt.zero_of {xs : List Nat} {a : Nat} (h : Nt xs a) (h0 : xs.length = 0) : a = 0 := by
  have := h.lt; rw [h0] at this; simp [bp] at this; omega
theorem Nt.pos_of {xs : List Nat} {a : Nat} (h : Nt xs a) (h0 : 0 < xs.length) : 0 < a := by
  have := h.pos h0; have := bp_pos (xs.length - 1); omega
end Go.Proofs.YtnbboheaheicnabGreatDoor
