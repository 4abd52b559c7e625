/- start.Bracket, Meet, slices.Index, bits.Len. -/
import Derived.Test.YtekpcmgkpbfcjaaGreatDoorBrk
import Derived.KernelRfl
namespace Go.Proofs.YtekpcmgkpbfcjaaGreatDoor
open Go.RowKit Go.Lib
set_option maxHeartbeats 1000000 in
set_option maxRecDepth 100000 in
theorem index_c (xs : List Int) (g c L r : Nat) (x : Int) (hL : xs.length = L) (hs : L ≤ 1000) (hr : xs[r]? = some x) (hf : ∀ j y, j < r → xs[j]? = some y → (x == y) = false) (w : World) (hc : ∀ i y, xs[i]? = some y → w.cell? ⟨g, i, none⟩ = some (.int .i64 y)) :
    Calls Tryz.prog 42 #[.slice (some ⟨g, 0, none⟩) L c, .int .i64 x] w fun e w' => e = .returned (.int .i64 r) ∧ Gr w w' := by
  have hrL : r < L := by
    obtain ⟨h, _⟩ := List.getElem?_eq_some_iff.1 hr
    omega
  have HC := Lib.hid hc
  have HF := Lib.hid hf
  have HR := Lib.hid hr
  have HL := Lib.hid hL
  clear hc hf hr hL
  go_enter Tryz.func42, Tryz.ntmps42
  go_wp2_with fail
  go_loopw [8] (fun i wr => ∃ k : Nat, k ≤ r ∧ i = .int .i64 k ∧ Gr w wr) (fun i _ => r - (intOf i).toNat)
  case atStart => exact ⟨0, Nat.zero_le _, rfl, Gr.refl _⟩
  case round =>
    obtain ⟨k, hk, rfl, hg⟩ := hrel
    have hkL : (k : Int) < L := by omega
    have hkl : k < xs.length := by have := HL.out; omega
    have hx : xs[k]? = some xs[k] := List.getElem?_eq_getElem hkl
    have hcell := hg.cell (HC.out k _ hx)
    by_cases hkr : k = r
    · subst hkr
      have he : xs[k] = x := by
        have h1 := HR.out
        rw [hx] at h1
        exact Option.some.inj h1
      rw [he] at hcell
      clear hx he
      go_wp2_with fail
      go_ret
      exact ⟨rfl, hg⟩
    · have hne := HF.out k _ (by omega) hx
      generalize xs[k] = y at *
      clear hx
      go_wp2_with fail
      go_roundw
      case rel => exact ⟨k + 1, by omega, by go_num, hg⟩
      case measure => simp [intOf]; omega
theorem bracketE_c (n : Int) (hn : 1 ≤ n ∧ n ≤ 64) (w : World) :
    Calls Tryz.prog 6 #[.int .i64 n] w fun x w' => ∃ v k, x = .returned (.tuple #[v, .int .i64 0]) ∧ (n ≤ ((2 ^ k : Nat) : Int)) ∧ (((2 ^ k : Nat) : Int) < 2 * n) ∧ w'.ownsRow w.heap.size 3 1 v (2 ^ k) (ints (zK n (growB k))) ∧ Gr w w' := by
  have HR : ∀ W, _ := fun W => range_c n 1 64 W
  rw [outE_zero.2 hn] at HR
  replace HR := Lib.hid HR
  have HB := Lib.hid (bracket_c n hn)
  go_enter Tryz.func6, Tryz.ntmps6
  go_wp2_with fail
  refine (HR.out _).mono ?_
  rintro e w4 ⟨rfl, rfl⟩
  go_wp2_with fail
  refine (HB.out _).mono ?_
  rintro e w4 ⟨v, k, rfl, h1, h2, h3, h4⟩
  go_wp2_with fail
  exact bodyPost_ret (v := .tuple #[v, .int .i64 0]) (by simp [results, Tryz.results6, go_sem]) rfl ⟨v, k, rfl, h1, h2, h3, h4⟩
theorem byte_getD (b : ByteArray) (i : Nat) (h : i < b.size) : b[i] = (b.data.toList[i]?).getD 0 := by
  have h' : i < b.data.toList.length := by simpa using h
  rw [List.getElem?_eq_getElem h']
  rfl
/-- how many digits to the base 2 -/
def bl (d : Int) : Int := if d < 1 then 0 else if d < 2 then 1 else if d < 4 then 2 else if d < 8 then 3 else if d < 16 then 4 else if d < 32 then 5 else 6
set_option maxHeartbeats 1000000 in
set_option maxRecDepth 100000 in
theorem len64_c (d : Int) (hd : 0 ≤ d ∧ d ≤ 63) (w : World) :
    Calls Tryz.prog 75 #[.int .u64 d] w fun e w' => e = .returned (.int .i64 (bl d)) ∧ w = w' := by
  obtain ⟨b, hb⟩ : ∃ b, b = bl d := ⟨_, rfl⟩
  rw [← hb]
  have HB := Lib.hid hb
  clear hb
  go_enter Tryz.func75, Tryz.ntmps75
  go_wp2_with fail
  go_ret
  refine ⟨?_, rfl⟩
  rw [HB.out]
  clear HB
  change Ending.returned (.int .i64 _) = Ending.returned (.int .i64 _)
  refine congrArg (fun z => Ending.returned (Value.int .i64 z)) ?_
  rw [byte_getD]
  have hc : d = 0 ∨ d = 1 ∨ d = 2 ∨ d = 3 ∨ d = 4 ∨ d = 5 ∨ d = 6 ∨ d = 7 ∨ d = 8 ∨ d = 9 ∨ d = 10 ∨ d = 11 ∨ d = 12 ∨ d = 13 ∨ d = 14 ∨ d = 15 ∨ d = 16 ∨ d = 17 ∨ d = 18 ∨ d = 19 ∨ d = 20 ∨ d = 21 ∨ d = 22 ∨ d = 23 ∨ d = 24 ∨ d = 25 ∨ d = 26 ∨ d = 27 ∨ d = 28 ∨ d = 29 ∨ d = 30 ∨ d = 31 ∨ d = 32 ∨ d = 33 ∨ d = 34 ∨ d = 35 ∨ d = 36 ∨ d = 37 ∨ d = 38 ∨ d = 39 ∨ d = 40 ∨ d = 41 ∨ d = 42 ∨ d = 43 ∨ d = 44 ∨ d = 45 ∨ d = 46 ∨ d = 47 ∨ d = 48 ∨ d = 49 ∨ d = 50 ∨ d = 51 ∨ d = 52 ∨ d = 53 ∨ d = 54 ∨ d = 55 ∨ d = 56 ∨ d = 57 ∨ d = 58 ∨ d = 59 ∨ d = 60 ∨ d = 61 ∨ d = 62 ∨ d = 63 := by omega
  rcases hc with rfl | rfl | rfl | rfl | rfl | rfl | rfl | rfl | rfl | rfl | rfl | rfl | rfl | rfl | rfl | rfl | rfl | rfl | rfl | rfl | rfl | rfl | rfl | rfl | rfl | rfl | rfl | rfl | rfl | rfl | rfl | rfl | rfl | rfl | rfl | rfl | rfl | rfl | rfl | rfl | rfl | rfl | rfl | rfl | rfl | rfl | rfl | rfl | rfl | rfl | rfl | rfl | rfl | rfl | rfl | rfl | rfl | rfl | rfl | rfl | rfl | rfl | rfl | rfl
  all_goals (clear hd; decide +kernel)
set_option maxRecDepth 100000 in
theorem len_c (d : Int) (hd : 0 ≤ d ∧ d ≤ 63) (w : World) :
    Calls Tryz.prog 41 #[.int .u64 d] w fun e w' => e = .returned (.int .i64 (bl d)) ∧ w = w' := by
  have HL := Lib.hid (fun W => len64_c d hd W)
  generalize bl d = b at *
  go_enter Tryz.func41, Tryz.ntmps41
  go_wp2_with fail
  refine (HL.out _).mono ?_
  rintro e w4 ⟨rfl, rfl⟩
  go_wp2_with fail
  go_ret
  exact ⟨rfl, rfl⟩
end Go.Proofs.YtekpcmgkpbfcjaaGreatDoor
