/- The slots of a bracket, and who has been seen. -/
import Derived.Test.YtekpcmgkpbfcjaaGreatDoorSeedB
namespace Go.Proofs.YtekpcmgkpbfcjaaGreatDoor
open Go.RowKit Go.Lib
def sumB (l : List Int) (m : Nat) : Bool := (List.range m).all fun i => Nat.beq (i % 2) 0 || decide ((l[i]?).getD 0 + (l[i - 1]?).getD 0 = m + 1)
theorem grow_facts {k : Nat} (h1 : 1 ≤ k) (h6 : k ≤ 6) : (growB k).Nodup ∧ sumB (growB k) (2 ^ k) = true := by
  have : k = 1 ∨ k = 2 ∨ k = 3 ∨ k = 4 ∨ k = 5 ∨ k = 6 := by omega
  rcases this with rfl | rfl | rfl | rfl | rfl | rfl
  · rw [grow1]; decide +kernel
  · rw [grow2]; decide +kernel
  · rw [grow3]; decide +kernel
  · rw [grow4]; decide +kernel
  · rw [grow5]; decide +kernel
  · rw [grow6]; decide +kernel
structure Slots (n : Int) (k : Nat) (B : List Int) : Prop where
  len : B.length = 2 ^ k
  low : ∀ (i : Nat) (x : Int), B[i]? = some x → 0 ≤ x
  high : ∀ (i : Nat) (x : Int), B[i]? = some x → x ≤ n
  dist : ∀ (i j : Nat) (x : Int), B[i]? = some x → B[j]? = some x → 0 < x → i = j
  sum : ∀ (i : Nat) (x y : Int), i % 2 = 1 → B[i]? = some x → B[i - 1]? = some y → 0 < x → 0 < y → x + y = ((2 ^ k : Nat) : Int) + 1
  all : ∀ s, 1 ≤ s → s ≤ n → s ∈ B
theorem zK_some {n : Int} {l : List Int} {i : Nat} {x : Int} (h : (zK n l)[i]? = some x) : ∃ s, l[i]? = some s ∧ x = if n < s then 0 else s := by
  rw [zK_get] at h
  cases he : l[i]? with
  | none => rw [he] at h; cases h
  | some s => rw [he] at h; simp at h; exact ⟨s, rfl, h.symm⟩
theorem slots {n : Int} {k : Nat} (h : Rnd n k) : Slots n k (zK n (growB k)) := by
  have hk := h.k
  have h2 := h.n2
  have h3 := h.low
  obtain ⟨hd, hs⟩ := grow_facts hk.1 hk.2
  have hp : ((2 ^ k : Nat) : Int) = 2 ^ k := by simp
  have hr := growB_range k
  refine ⟨by rw [zK_len, growB_len], ?_, ?_, ?_, ?_, ?_⟩
  · intro i x hx
    obtain ⟨s, h1, rfl⟩ := zK_some hx
    have := hr s (List.mem_iff_getElem?.2 ⟨i, h1⟩)
    split <;> omega
  · intro i x hx
    obtain ⟨s, h1, rfl⟩ := zK_some hx
    split <;> omega
  · intro i j x hx hy h0
    obtain ⟨s, h1, rfl⟩ := zK_some hx
    obtain ⟨t, h4, h5⟩ := zK_some hy
    have e : s = t := by
      split at h5 <;> rename_i q1 <;> (try simp only [q1, if_true] at h0) <;> split at h5 <;> simp_all
    subst e
    obtain ⟨hi, e1⟩ := List.getElem?_eq_some_iff.1 h1
    obtain ⟨hj, e2⟩ := List.getElem?_eq_some_iff.1 h4
    have hd' := List.pairwise_iff_getElem.1 hd
    rcases Nat.lt_trichotomy i j with q | q | q
    · exact absurd (e1.trans e2.symm) (hd' i j hi hj q)
    · exact q
    · exact absurd (e2.trans e1.symm) (hd' j i hj hi q)
  · intro i x y hi hx hy h0 h0'
    obtain ⟨s, h1, rfl⟩ := zK_some hx
    obtain ⟨t, h4, rfl⟩ := zK_some hy
    obtain ⟨hil, _⟩ := List.getElem?_eq_some_iff.1 h1
    rw [growB_len] at hil
    unfold sumB at hs
    have := List.all_eq_true.1 hs i (List.mem_range.2 hil)
    rw [h1, h4, hi] at this
    simp at this
    split at h0
    · omega
    · split at h0'
      · omega
      · rename_i q1 q2
        rw [if_neg q1, if_neg q2]
        omega
  · intro s h4 h5
    have := (pair_all (x := s) (y := s) hk.1 hk.2 (by omega) (by omega)).1
    obtain ⟨i, hi⟩ := List.mem_iff_getElem?.1 this
    exact List.mem_iff_getElem?.2 ⟨i, by rw [zK_get, hi]; simp; omega⟩
structure Seen (N : Nat) (B : List Int) (i : Nat) (cur : Array Value) : Prop where
  size : cur.size = N + 1
  zero : ∃ b, cur[0]? = some (.bool b)
  cell : ∀ s : Nat, 1 ≤ s → s ≤ N → cur[s]? = some (.bool (decide ((s : Int) ∈ B.take i)))
theorem Seen.start (N : Nat) (B : List Int) : Seen N B 0 (Array.replicate (N + 1) (.bool false)) :=
  ⟨by simp, ⟨false, by simp⟩, fun s h1 h2 => by simp [Array.getElem?_replicate]; omega⟩
theorem Seen.store {N : Nat} {B : List Int} {i m : Nat} {cur : Array Value} (h : Seen N B i cur) (hm : B[i]? = some (m : Int)) (hmN : m ≤ N) : Seen N B (i + 1) (cur.setIfInBounds m (.bool true)) := by
  obtain ⟨hi, e⟩ := List.getElem?_eq_some_iff.1 hm
  have hsz := h.size
  refine ⟨by simpa using hsz, ?_, fun s h1 h2 => ?_⟩
  · obtain ⟨b, hb⟩ := h.zero
    by_cases q : m = 0
    · subst q
      exact ⟨true, by rw [Array.getElem?_setIfInBounds, if_pos rfl, if_pos (by omega)]⟩
    · exact ⟨b, by rw [Array.getElem?_setIfInBounds, if_neg q]; exact hb⟩
  · rw [Array.getElem?_setIfInBounds, List.take_succ_eq_append_getElem hi, e]
    by_cases q : m = s
    · subst q
      rw [if_pos rfl, if_pos (by omega)]
      simp
    · rw [if_neg q, h.cell s h1 h2]
      have q' : ¬ ((s : Int) = m) := by omega
      simp [q']
theorem Seen.fresh {n : Int} {N : Nat} {k : Nat} {B : List Int} {i m : Nat} {cur : Array Value} (hs : Slots n k B) (h : Seen N B i cur) (hm : B[i]? = some (m : Int)) (hmN : m ≤ N) (h0 : 1 ≤ m) : cur[m]? = some (.bool false) := by
  rw [h.cell m h0 hmN]
  have : ¬ ((m : Int) ∈ B.take i) := fun hh => by
    obtain ⟨j, hj⟩ := List.mem_iff_getElem?.1 hh
    rw [List.getElem?_take] at hj
    split at hj
    · rename_i hji
      have := hs.dist i j m hm hj (by omega)
      omega
    · cases hj
  simp [this]
theorem Seen.done {n : Int} {N k : Nat} {B : List Int} {cur : Array Value} (hs : Slots n k B) (hN : n = N) (h : Seen N B (2 ^ k) cur) {s : Nat} (h1 : 1 ≤ s) (h2 : s ≤ N) : cur[s]? = some (.bool true) := by
  rw [h.cell s h1 h2, List.take_of_length_le (by rw [hs.len]; exact Nat.le_refl _)]
  have := hs.all s (by omega) (by omega)
  simp [this]
end Go.Proofs.YtekpcmgkpbfcjaaGreatDoor
