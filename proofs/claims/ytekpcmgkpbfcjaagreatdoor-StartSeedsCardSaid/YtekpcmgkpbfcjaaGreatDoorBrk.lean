/- start.bracket. -/
import Derived.Test.YtekpcmgkpbfcjaaGreatDoorSeedA
namespace Go.Proofs.YtekpcmgkpbfcjaaGreatDoor
open Go.RowKit Go.Lib
/-- the slots of twice as many -/
def dblK (L : Int) : List Int → List Int
  | [] => []
  | s :: l => s :: (2 * L + 1 - s) :: dblK L l
def growB : Nat → List Int
  | 0 => [1]
  | k + 1 => dblK (growB k).length (growB k)
theorem dblK_len (L : Int) : ∀ l, (dblK L l).length = 2 * l.length
  | [] => rfl
  | s :: l => by simp [dblK, dblK_len L l]; omega
theorem growB_len : ∀ k, (growB k).length = 2 ^ k
  | 0 => rfl
  | k + 1 => by rw [growB, dblK_len, growB_len k, Nat.pow_succ]; omega
theorem dblK_append (L : Int) : ∀ l r, dblK L (l ++ r) = dblK L l ++ dblK L r
  | [], r => rfl
  | s :: l, r => by simp [dblK, dblK_append L l r]
theorem dblK_take (L : Int) (l : List Int) (j : Nat) (x : Int) (h : l[j]? = some x) : dblK L (l.take (j + 1)) = dblK L (l.take j) ++ [x, 2 * L + 1 - x] := by
  obtain ⟨hj, rfl⟩ := List.getElem?_eq_some_iff.1 h
  rw [List.take_succ_eq_append_getElem hj, dblK_append]
  rfl
theorem growB_range : ∀ k x, x ∈ growB k → 1 ≤ x ∧ x ≤ 2 ^ k := by
  intro k
  induction k with
  | zero => intro x hx; simp [growB] at hx; subst hx; decide
  | succ k ih =>
    have key : ∀ l : List Int, (∀ x ∈ l, 1 ≤ x ∧ x ≤ 2 ^ k) → ∀ x ∈ dblK (2 ^ k : Nat) l, 1 ≤ x ∧ x ≤ 2 * 2 ^ k := by
      intro l
      induction l with
      | nil => intro _ x hx; cases hx
      | cons s l ih2 =>
        intro hl x hx
        have hs := hl s (by simp)
        simp only [dblK, List.mem_cons] at hx
        have e : ((2 ^ k : Nat) : Int) = 2 ^ k := by simp
        rcases hx with rfl | rfl | hx
        · omega
        · omega
        · exact ih2 (fun y hy => hl y (by simp [hy])) x hx
    intro x hx
    rw [growB, growB_len] at hx
    have := key _ ih x hx
    rw [Int.pow_succ]
    omega
/-- seeds that nobody has are 0 -/
def zK (n : Int) : List Int → List Int
  | [] => []
  | s :: l => (if n < s then 0 else s) :: zK n l
theorem zK_len (n : Int) : ∀ l, (zK n l).length = l.length
  | [] => rfl
  | s :: l => by simp [zK, zK_len n l]
theorem zK_append (n : Int) : ∀ l r, zK n (l ++ r) = zK n l ++ zK n r
  | [], r => rfl
  | s :: l, r => by simp [zK, zK_append n l r]
/-- the first i done -/
def zAt (n : Int) (xs : List Int) (i : Nat) : List Int := zK n (xs.take i) ++ xs.drop i
theorem zAt_get {n : Int} {xs : List Int} {i : Nat} {x : Int} (h : xs[i]? = some x) : (zAt n xs i)[i]? = some x := by
  obtain ⟨hj, rfl⟩ := List.getElem?_eq_some_iff.1 h
  have hl : (zK n (xs.take i)).length = i := by rw [zK_len]; simp; omega
  unfold zAt
  rw [List.getElem?_append_right (by omega), hl]
  simp
theorem zAt_step {n : Int} {xs : List Int} {i : Nat} {x : Int} (h : xs[i]? = some x) : zAt n xs (i + 1) = (zAt n xs i).set i (if n < x then 0 else x) := by
  obtain ⟨hj, rfl⟩ := List.getElem?_eq_some_iff.1 h
  have hl : (zK n (xs.take i)).length = i := by rw [zK_len]; simp; omega
  unfold zAt
  rw [List.take_succ_eq_append_getElem hj, zK_append, List.set_append_right _ _ (by omega), hl, Nat.sub_self, List.drop_eq_getElem_cons (i := i) hj, List.set_cons_zero, List.append_assoc]
  rfl
theorem set_same {l : List Int} {i : Nat} {x : Int} (h : l[i]? = some x) : l.set i x = l := by
  obtain ⟨hj, rfl⟩ := List.getElem?_eq_some_iff.1 h
  exact List.set_getElem_self hj
theorem ownsRow_base {w : World} {b b' : Nat} {e : TypeId} {s n : Nat} {v : Value} {xs : List Value} (h : w.ownsRow b e s v n xs) (hb : b' ≤ b) : w.ownsRow b' e s v n xs := by
  refine ⟨h.1, ?_⟩
  rcases h.2 with h | ⟨g, cap, cur, h1, h2, h3⟩
  · exact .inl h
  · exact .inr ⟨g, cap, cur, h1, by omega, h3⟩
theorem reads_pos {w : World} {base : Nat} {v : Value} {n : Nat} {xs : List Int} (h : w.ownsRow base 3 1 v n (ints xs)) (hn : 0 < n) : ∃ g cap, v = .slice (some ⟨g, 0, none⟩) n cap ∧ base ≤ g ∧ g < w.heap.size ∧ ∀ i x, xs[i]? = some x → w.cell? ⟨g, i, none⟩ = some (.int .i64 x) := by
  rcases h.2 with ⟨_, h0⟩ | ⟨g, cap, cur, rfl, hb, hg, _⟩
  · omega
  · refine ⟨g, cap, rfl, hb, (Array.getElem?_eq_some_iff.1 hg).1, fun i x hx => ?_⟩
    have := h.cells (g := g) rfl i (.int .i64 x) (by simp [ints, hx])
    rwa [show (⟨g, 0, none⟩ : Addr).add i = ⟨g, i, none⟩ by unfold Addr.add; split <;> simp_all] at this
set_option maxHeartbeats 1000000 in
set_option maxRecDepth 100000 in
theorem bracket_c (n : Int) (hn : 1 ≤ n ∧ n ≤ 64) (w : World) :
    Calls Tryz.prog 38 #[.int .i64 n] w fun x w' => ∃ v k, x = .returned v ∧ (n ≤ ((2 ^ k : Nat) : Int)) ∧ (((2 ^ k : Nat) : Int) < 2 * n) ∧ w'.ownsRow w.heap.size 3 1 v (2 ^ k) (ints (zK n (growB k))) ∧ Gr w w' := by
  obtain ⟨i0, hi, hz0, hz1, hz2⟩ := info_parts info3
  go_enter Tryz.func38, Tryz.ntmps38
  go_wp2_with fail
  go_loopg [3] 7 (fun gk v wr => ∃ (k : Nat) (u : Value), u = v ∧ gk + k = 7 ∧ (((2 ^ k : Nat) : Int) < 2 * n) ∧ wr.ownsRow w.heap.size 3 1 u (2 ^ k) (ints (growB k)) ∧ Below w.heap.size w wr)
  case atStart =>
    refine ⟨0, _, rfl, rfl, by simp; omega, ⟨rfl, .inr ⟨w.heap.size, 1, #[.int .i64 1], rfl, Nat.le_refl _, heap_alloc_new _ _, by decide, by decide, rfl, rfl⟩⟩, (Below.refl _ _).alloc (Nat.le_refl _) _⟩
  case round =>
    obtain ⟨k, u, rfl, hgk, hkn, hown, hnx⟩ := hrel
    obtain ⟨W1, rfl⟩ : ∃ W1, W1 = wr := ⟨_, rfl⟩
    have hpos : 0 < 2 ^ k := Nat.two_pow_pos k
    obtain ⟨g, cap, rfl, hbg, hgw, hcell⟩ := reads_pos hown hpos
    have hrow : ∃ cur, W1.heap[g]? = some (.cells cur 3 (0, 0)) ∧ 2 ^ k ≤ cap ∧ cap ≤ maxLen ∧ cur.size = cap * 1 ∧ cur.toList.take (2 ^ k * 1) = ints (growB k) := by
      rcases hown.2 with ⟨h, _⟩ | ⟨g', cap', cur, h1, _, h2⟩
      · simp at h
      · simp only [Value.slice.injEq, Option.some.injEq, Addr.mk.injEq, and_true] at h1
        obtain ⟨rfl, _, rfl⟩ := h1
        exact ⟨cur, h2⟩
    have hr := growB_range k
    have hlen := growB_len k
    have hdk : growB (k + 1) = dblK (2 ^ k : Nat) (growB k) := by rw [growB, hlen]
    have hp2 : 2 ^ (k + 1) = 2 ^ k * 2 := Nat.pow_succ ..
    have hpc : (2 : Int) ^ k = ((2 ^ k : Nat) : Int) := by simp
    rw [hpc] at hr
    have hk7 : 2 ^ k < 128 := by omega
    have hk6 : 2 ^ k < 64 → k < 6 := fun h => Nat.lt_of_not_le fun hh => absurd (Nat.pow_le_pow_right (show 0 < 2 by decide) hh) (by omega)
    generalize hLk : 2 ^ k = L at *
    generalize hG : growB k = xs at *
    by_cases hLn : (L : Int) < n
    · go_wp2_with fail
      go_loopw [4, 16] (fun nx i wr2 => ∃ (j : Nat) (u2 : Value), u2 = nx ∧ j ≤ L ∧ i = .int .i64 j ∧ wr2.ownsRow W1.heap.size 3 1 u2 (2 * j) (ints (dblK L (xs.take j))) ∧ Below W1.heap.size W1 wr2) (fun _ i _ => L - (intOf i).toNat)
      case atStart => exact ⟨0, _, rfl, Nat.zero_le _, rfl, World.ownsRow_nil _ _ _ _, Below.refl _ _⟩
      case round =>
        obtain ⟨j, u2, rfl, hj, rfl, hown2, hnx2⟩ := hrel
        have hsz2 := hnx2.size
        by_cases hjL : (j : Int) < L
        · have hjl : j < xs.length := by omega
          have hx : xs[j]? = some xs[j] := List.getElem?_eq_getElem hjl
          have hxr := hr xs[j] (List.getElem_mem hjl)
          have hc := Gr.cell (show Gr W1 wr from hnx2) (hcell j _ hx)
          have hd := dblK_take L xs j _ hx
          generalize xs[j] = x at *
          have HD := Lib.hid hd
          clear hd hx hcell hr
          go_wp2_with (first
            | (at_builtin; refine wpList_append_own _ rfl _ _ 25 rfl W1.heap.size 3 i0 (.int .i64 0) 1 8 Tryz.underlying25 hi hz0 hz1 hz2 rfl (by decide) _ _ _ rfl (hown2.alloc _) ⟨wr.heap.size, 0, none⟩ 2 2 [.int .i64 x, .int .i64 (2 * L + 1 - x)] rfl rfl (cell_two_new _ _ _ _) (by intro u hu; simp at hu; rcases hu with rfl | rfl <;> rfl) (by unfold maxLen; omega) (by omega) (by simp; omega) ?_; intro v1 w1 hown1 hgrow1 hnil1))
          go_roundw
          case rel =>
            exact ⟨j + 1, _, rfl, by omega, by go_num, by rw [HD.out]; simpa [ints, Nat.mul_add] using hown1, (hnx2.alloc hsz2 _).grown hgrow1 (by simp; omega) (fun q hq => (hown2.lt q hq).1)⟩
          case measure => simp [intOf]; omega
        · have hjj : j = L := by omega
          subst hjj
          go_wp2_with fail
          have hk5 := hk6 (by omega)
          go_roundg (gk - 1)
          case measure => omega
          case rel =>
            refine ⟨k + 1, _, rfl, by omega, by rw [hp2]; omega, ?_, (show Gr w wr from Gr.trans hnx hnx2)⟩
            rw [hdk, hp2, Nat.mul_comm]
            have := ownsRow_base hown2 hnx.size
            rwa [List.take_of_length_le (by omega)] at this
    · have hkeep : n ≤ (L : Int) ∧ (L : Int) < 2 * n := by omega
      obtain ⟨cur0, hr0, hcap, hmax, hcs, hct⟩ := hrow
      have hzl := fun i => zK_len n (xs.take i)
      go_wp2_with fail
      go_loopw [34] (fun ix wr => ∃ (i : Nat) (cur : Array Value), i ≤ L ∧ ix = .int .i64 i ∧ wr.heap[g]? = some (.cells cur 3 (0, 0)) ∧ cur.size = cap ∧ cur.toList.take L = ints (zAt n xs i) ∧ Below w.heap.size w wr) (fun ix _ => L - (intOf ix).toNat)
      case atStart => exact ⟨0, cur0, Nat.zero_le _, rfl, hr0, by omega, by simpa [zAt, zK] using hct, hnx⟩
      case round =>
        obtain ⟨i, cur, hiL, rfl, hgc, hcc, hct2, hnx2⟩ := hrel
        by_cases hlt : (i : Int) < L
        · have hil : i < xs.length := by omega
          have hx : xs[i]? = some xs[i] := List.getElem?_eq_getElem hil
          have hz := zAt_get (n := n) hx
          have hstep := zAt_step (n := n) hx
          have hcell2 : wr.cell? ⟨g, i, none⟩ = some (.int .i64 xs[i]) := by
            rw [cell_of_row wr g i cur 3 (0, 0) hgc]
            have : (cur.toList.take L)[i]? = some (.int .i64 xs[i]) := by rw [hct2]; simp [ints, hz]
            rw [List.getElem?_take, if_pos (by omega)] at this
            simpa using this
          have hfz : wr.frozen? ⟨g, i, none⟩ = false := frozen_of_row wr g i cur 3 hgc
          have hset := heap_setCell_same wr g i cur 3 (.int .i64 0) hgc
          have hsame : (zAt n xs i).set i xs[i] = zAt n xs i := set_same hz
          generalize xs[i] = x at *
          have HS := Lib.hid hset
          have HC := Lib.hid hgc
          have HT := Lib.hid hct2
          clear hset hgc hct2 hz hx hcell hr
          by_cases hxn : n < x
          · rw [if_pos hxn] at hstep
            have HZ := Lib.hid hstep
            clear hstep hsame
            go_wp2_with fail
            go_roundw
            case rel =>
              refine ⟨i + 1, _, by omega, by go_num, HS.out, by simpa using hcc, ?_, hnx2.setCell hbg _⟩
              rw [HZ.out]
              have e : (cur.setIfInBounds i (.int .i64 0)).toList.take L = (cur.toList.take L).set i (.int .i64 0) := by
                simp [List.take_set]
              rw [e, HT.out]
              simp [ints, List.map_set]
            case measure => simp [intOf]; omega
          · rw [if_neg hxn] at hstep
            rw [hsame] at hstep
            have hd : decide (n < x) = false := by simpa using hxn
            have HZ := Lib.hid hstep
            clear hstep hsame
            go_wp2_with fail
            go_roundw
            case rel => exact ⟨i + 1, cur, by omega, by go_num, HC.out, hcc, by rw [HZ.out]; exact HT.out, hnx2⟩
            case measure => simp [intOf]; omega
        · have hii : i = L := by omega
          subst hii
          go_wp2_with fail
          go_ret
          refine ⟨_, rfl, k, by rw [hpc]; exact hkeep.1, by rw [hpc]; exact hkeep.2, ?_, hnx2⟩
          rw [hLk, hG]
          have hzz : zAt n xs i = zK n xs := by
            unfold zAt
            rw [List.take_of_length_le (by omega), List.drop_of_length_le (by omega), List.append_nil]
          rw [hzz] at hct2
          exact ⟨by simp [ints, zK_len]; omega, .inr ⟨g, cap, cur, rfl, hbg, hgc, hcap, hmax, by omega, by simpa using hct2⟩⟩
end Go.Proofs.YtekpcmgkpbfcjaaGreatDoor
