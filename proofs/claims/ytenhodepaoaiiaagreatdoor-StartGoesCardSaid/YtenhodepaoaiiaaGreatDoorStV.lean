/- Who goes on (chapter 6): the reference's Without and ShortResults of any limit; names in new slices; StartGoes. -/
import Derived.Test.YtenhodepaoaiiaaGreatDoorGStKa
import Derived.Test.YtenhodepaoaiiaaGreatDoorGStT
namespace Go.Proofs.YtenhodepaoaiiaaGreatDoor
open Go.RowKit Go.Lib
set_option linter.unusedSimpArgs false
set_option linter.unusedVariables false
set_option maxHeartbeats 4000000
set_option maxRecDepth 100000
theorem refWithout_c {xs : List RowR} {ns : List ByteArray} {p : Option Addr} {n c : Nat} {q : Option Addr} {l k0 : Nat} {w : World} (hx : RowsV w (.slice p n c) xs) (h1 : n < 20) (ho : WordsV w (.slice q l k0) ns) (h2 : l ≤ 1000) :
    Calls Tryz.prog 16 #[.slice p n c, .slice q l k0] w fun e w' => ∃ q l k, e = .returned (.slice q l k) ∧ RowsV w' (.slice q l k) (rest ns xs) ∧ Gr w w' := by
  obtain ⟨i0, hi, hz0, hz1, hz2⟩ := info_parts infoRes
  obtain ⟨hn, _, hh⟩ := hx.at
  have HHas := Lib.hid (fun W (g : Gr w W) s => hasWord_c (ho.gr g) h2 s)
  have HX := Lib.hid (fun k (h : k < n) => (show ∃ x, xs[k]? = some x from ⟨xs[k]'(by omega), List.getElem?_eq_getElem _⟩))
  have HFl := Lib.hid (fun k => (show (rest ns (xs.take k)).length < 20 from by have := rest_le ns (xs.take k); rw [List.length_take] at this; omega))
  have HH := Lib.hid hh
  have HN := Lib.hid hn
  clear hx hn ho hh
  go_enter Tryz.func16, Tryz.ntmps16
  go_wp2_with fail
  go_loopw [5, 6] (fun v i wr => ∃ k : Nat, k ≤ n ∧ i = .int .i64 k ∧ wr.ownsRow w.heap.size 42 3 v (rest ns (xs.take k)).length (rowCs (rest ns (xs.take k))) ∧ Gr w wr) (fun _ i _ => n - (intOf i).toNat)
  case atStart => exact ⟨0, Nat.zero_le _, rfl, World.ownsRow_nil _ _ _ _, Gr.refl _⟩
  case round =>
    obtain ⟨k, hk, rfl, hown, hnx⟩ := hrel
    have hsize := hnx.size
    by_cases hkN : k < n
    · obtain ⟨x, hx⟩ := HX.out k hkN
      obtain ⟨b, off, rfl, hc⟩ := HH.out (by omega)
      obtain ⟨c0, c1, c2, hv, _⟩ := (hc k x hx).gr hnx
      obtain ⟨⟨p', cap', hu, _⟩⟩ := hv
      rw [hu] at c2
      have HQ := Lib.hid (rest_take (ns := ns) hx)
      have HL := Lib.hid (HFl.out k)
      have HRc := Lib.hid (rowCs_len (rest ns (xs.take k)))
      have hi2 : (k : Int) < n := by omega
      have HCx := Lib.hid (HHas.out _ hnx x.nm)
      have HOW := Lib.hid hown
      cases hh : hasS ns x.nm
      · rw [hh] at HCx
        have HQ2 := Lib.hid (show rest ns (xs.take (k + 1)) = rest ns (xs.take k) ++ [x] from by
          have := HQ.out; rw [hh] at this; simpa using this)
        have HQ3 := Lib.hid (show rowCs (rest ns (xs.take k) ++ [x]) = rowCs (rest ns (xs.take k)) ++ [.string x.nm, .string x.st, .slice p' x.xs.length cap'] from by rw [rowCs_add]; unfold rowC; rw [hu])
        have HQ4 := Lib.hid (show (rest ns (xs.take k) ++ [x]).length = (rest ns (xs.take k)).length + 1 from by simp)
        have hl20 := HL.out
        clear hown hx hh hu hc
        generalize (rest ns (xs.take k)).length = z at *
        go_wp2_with (first
          | (refine HCx.out.mono ?_; rintro e w4 ⟨rfl, rfl⟩)
          | (at_builtin; refine wpList_append_own _ rfl _ _ 22 rfl w.heap.size 42 i0 (.agg #[.string ⟨#[]⟩, .string ⟨#[]⟩, .slice none 0 0]) 3 56 Tryz.underlying22 hi hz0 hz1 hz2 rfl (by decide) _ _ _ rfl (HOW.out.alloc _) ⟨wr.heap.size, 0, none⟩ 1 1 [.string x.nm, .string x.st, .slice p' x.xs.length cap'] rfl rfl (cell_three_sz _ _ (by simp) _ _ _ _) (by intro u hu; simp at hu; rcases hu with rfl | rfl | rfl <;> rfl) (by unfold maxLen; omega) (by omega) (by simp; omega) ?_; intro v1 w1 hown1 hgrow1 hnil1))
        go_roundw
        case rel =>
          exact ⟨k + 1, by omega, by go_num, by rw [HQ2.out, HQ3.out, HQ4.out]; exact hown1, Below.grown (hnx.alloc _) hgrow1 (by simp; omega) (fun j hj => (HOW.out.lt j hj).1)⟩
        case measure => simp [intOf]; omega
      · rw [hh] at HCx
        have HQ2 := Lib.hid (show rest ns (xs.take (k + 1)) = rest ns (xs.take k) from by
          have := HQ.out; rw [hh] at this; simpa using this)
        clear hown hx hh hu hc
        go_wp2_with (refine HCx.out.mono ?_; rintro e w4 ⟨rfl, rfl⟩)
        go_roundw
        case rel => exact ⟨k + 1, by omega, by go_num, by rw [HQ2.out]; exact HOW.out, hnx⟩
        case measure => simp [intOf]; omega
    · obtain rfl : k = n := by omega
      have hi2 : ¬ (k : Int) < k := by omega
      rw [List.take_of_length_le (by have := HN.out; omega)] at hown
      obtain ⟨p2, c2, rfl, hrows⟩ := rowsV_owns hown rfl (fun x hx => by
        have hmem : x ∈ xs := (List.mem_filter.1 hx).1
        obtain ⟨j, hj⟩ := List.mem_iff_getElem?.1 hmem
        have hjl := (List.getElem?_eq_some_iff.1 hj).1
        obtain ⟨b, off, _, hc⟩ := HH.out (by have := HN.out; omega)
        have := hc j x hj
        exact ⟨this.val.gr hnx, this.len⟩)
      clear hown
      go_wp2_with fail
      go_ret
      exact ⟨_, _, _, rfl, hrows, hnx⟩
theorem shortRs_lim {xs : List RowR} {p : Option Addr} {n c : Nat} {w : World} (m : Nat) (h : Rows0V w (.slice p n c) xs) :
    Calls Tryz.prog 6 #[.slice p n c, .int .i64 m] w fun e w' => ShoRet e xs ∧ w = w' := by
  obtain ⟨⟨p', c', e, hcap, hh⟩⟩ := h
  cases e
  by_cases h0 : 0 < xs.length
  · obtain ⟨b, off, rfl, hc⟩ := hh h0
    exact shortRs_pos xs _ b off c m w rfl (Nat.le_trans hcap.1 hcap.2) hc
  · have hz : xs = [] := List.length_eq_zero_iff.1 (by omega)
    subst hz
    refine (shortRs_nil p c m (by omega) w).mono ?_
    rintro e w' ⟨rfl, rfl⟩
    exact ⟨⟨true, rfl, fun _ x hx => by cases hx⟩, rfl⟩
theorem shortRs_mid (p : Option Addr) (n c m : Nat) (w : World) (h1 : m < n) (h2 : n ≤ 160) :
    Calls Tryz.prog 6 #[.slice p n c, .int .i64 m] w fun e w' => e = .returned (.bool false) ∧ w = w' := by
  have h3 : decide ((m : Int) < (n : Int)) = true := decide_eq_true (by omega)
  have h4 : decide ((n : Int) ≤ 160) = true := decide_eq_true (by omega)
  go_enter Tryz.func6, Tryz.ntmps6
  go_wp2_with fail
  go_ret
  exact ⟨rfl, rfl⟩
theorem refRes6_many (p : Option Addr) (n c : Nat) (w : World) (h : 160 < n) :
    Calls Tryz.prog 7 #[.slice p n c] w fun e w' => e = .returned (.int .i64 5) ∧ Gr w w' := by
  have h2 : decide ((160 : Int) < n) = true := decide_eq_true (by omega)
  go_enter Tryz.func7, Tryz.ntmps7
  go_wp2_with fail
  go_ret
  exact ⟨rfl, Gr.refl _⟩
/-- names in a slice that was made just now -/
theorem words_one (w : World) (s : ByteArray) (T : TypeId) : WordsV (w.alloc (.cells #[.string s] T)) (.slice (some ⟨w.heap.size, 0, none⟩) 1 1) [s] :=
  ⟨_, 1, rfl, ⟨Nat.le_refl _, by unfold maxLen; omega⟩, fun _ => ⟨_, 0, rfl, fun i t ht => by
    match i, ht with
    | 0, ht => simp at ht; subst ht; exact cell_new w #[.string s] T 0 (by simp)
    | i + 1, ht => simp at ht⟩⟩
theorem words_two (w : World) (s t : ByteArray) (T : TypeId) : WordsV (w.alloc (.cells #[.string s, .string t] T)) (.slice (some ⟨w.heap.size, 0, none⟩) 2 2) [s, t] :=
  ⟨_, 2, rfl, ⟨Nat.le_refl _, by unfold maxLen; omega⟩, fun _ => ⟨_, 0, rfl, fun i u hu => by
    match i, hu with
    | 0, hu => simp at hu; subst hu; exact cell_new w #[.string s, .string t] T 0 (by simp)
    | 1, hu => simp at hu; subst hu; exact cell_new w #[.string s, .string t] T 1 (by simp)
    | i + 2, hu => simp at hu⟩⟩
theorem dupR_mem {xs : List RowR} {i : Nat} {x : RowR} (h : xs[i]? = some x) : dupR xs xs.length x.nm = true := by
  unfold dupR
  rw [List.take_of_length_le (Nat.le_refl _), List.any_eq_true]
  exact ⟨x, List.mem_of_getElem? h, by simp⟩
theorem outOK_one {xs : List RowR} {i : Nat} {x : RowR} (h : xs[i]? = some x) : OutOK xs [x.nm] where
  has := fun s hs => by simp at hs; subst hs; exact dupR_mem h
  apart := fun j s hs => by
    match j, hs with
    | 0, hs => rfl
    | j + 1, hs => simp at hs
theorem outOK_two {xs : List RowR} {i j : Nat} {x y : RowR} (h : xs[i]? = some x) (h2 : xs[j]? = some y) (hne : (y.nm.toList == x.nm.toList) = false) : OutOK xs [x.nm, y.nm] where
  has := fun s hs => by simp at hs; rcases hs with e | e; { rw [e]; exact dupR_mem h }; { rw [e]; exact dupR_mem h2 }
  apart := fun j s hs => by
    match j, hs with
    | 0, hs => rfl
    | 1, hs => simp at hs; subst hs; simpa [hasS] using hne
    | j + 2, hs => simp at hs
theorem outOK_rest {xs : List RowR} {j : Nat} {s : ByteArray} {y : RowR} (h2 : xs[j]? = some y) (hne : (y.nm.toList == s.toList) = false) : OutOK (rest [s] xs) [y.nm] where
  has := fun t ht => by
    simp at ht; subst ht
    have : y ∈ rest [s] xs := List.mem_filter.2 ⟨List.mem_of_getElem? h2, by simp [hasS, hne]⟩
    obtain ⟨k, hk⟩ := List.mem_iff_getElem?.1 this
    exact dupR_mem hk
  apart := fun j s hs => by
    match j, hs with
    | 0, hs => rfl
    | j + 1, hs => simp at hs
end Go.Proofs.YtenhodepaoaiiaaGreatDoor
