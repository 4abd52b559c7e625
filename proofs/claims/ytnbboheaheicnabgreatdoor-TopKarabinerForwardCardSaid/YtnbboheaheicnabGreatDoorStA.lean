/- Who goes on (chapter 6): names among results; the first result with values; names among names. -/
import Derived.Test.YtnbboheaheicnabGreatDoorRkCDE
import Derived.Test.YtnbboheaheicnabGreatDoorThNG
namespace Go.Proofs.YtnbboheaheicnabGreatDoor
open Go.RowKit Go.Lib
set_option linter.unusedSimpArgs false
set_option linter.unusedVariables false
theorem sameH_c (y : RowR) (B : Nat) (nm : ByteArray) (p : Option Addr) (n cap : Nat) (hu : y.u = .slice p n cap) (w : World) (h : w.cell? ⟨B, 0, none⟩ = some (.string nm)) :
    Calls Tryz.prog 87 #[resV y.nm y.st y.u, .pointer (some ⟨B, 0, none⟩)] w fun e w' => e = .returned (.bool (y.nm.toList == nm.toList)) ∧ Gr w w' := by
  rw [hu]
  unfold resV
  obtain ⟨W, hW, g, a0, a1, a2⟩ := box3 w (.string y.nm) (.string y.st) (.slice p n cap) 33
  have hB := g.cell h
  rw [← hW] at hB
  have HG := Lib.hid (show Gr w (w.alloc (.cells #[.string y.nm, .string y.st, .slice p n cap] 33)) from (Gr.refl w).alloc _)
  clear hW h g a0 a1 a2 hu
  go_enter Tryz.func87, Tryz.ntmps87
  go_wp2_with fail
  go_ret
  exact ⟨rfl, HG.out⟩
set_option maxHeartbeats 1000000 in
set_option maxRecDepth 100000 in
theorem indexH_pos (xs : List RowR) (n b off cap B : Nat) (nm : ByteArray) (w : World) (hn : n ≤ xs.length) (h1 : n ≤ 1000) (hc : ∀ i x, xs[i]? = some x → RowAt w b (off + i * 3) x) (hB : w.cell? ⟨B, 0, none⟩ = some (.string nm)) :
    Calls Tryz.prog 41 #[.slice (some ⟨b, off, none⟩) n cap, .func (.func 87) #[] #[.pointer (some ⟨B, 0, none⟩)]] w fun e w' => e = .returned (.int .i64 (firstP (isNm nm) xs n 0)) ∧ Gr w w' := by
  have HC := Lib.hid hc
  have HN := Lib.hid hn
  have HE : Hid (firstP (isNm nm) xs n 0 = firstP (isNm nm) xs (n - 0) 0) := rfl
  clear hc hn
  go_enter Tryz.func41, Tryz.ntmps41
  go_wp2_with fail
  go_loopg [8] n (fun gk s8 wr => ∃ i : Nat, s8 = .int .i64 i ∧ gk + i = n ∧ Gr w wr ∧ Hid (firstP (isNm nm) xs (n - i) i = firstP (isNm nm) xs (n - 0) 0))
  case atStart => exact ⟨0, rfl, by omega, Gr.refl _, rfl⟩
  case round =>
    obtain ⟨i, rfl, hi, hg, HF⟩ := hrel
    by_cases hlt : i < n
    · obtain ⟨x, hx⟩ : ∃ x, xs[i]? = some x := ⟨xs[i]'(by have := HN.out; omega), List.getElem?_eq_getElem _⟩
      obtain ⟨c0, c1, c2, hv, _⟩ := (HC.out i x hx).gr hg
      obtain ⟨⟨p', cap', hu, _⟩⟩ := hv
      have hf := firstP_step (Q := (isNm nm)) hx hlt
      have hi2 : (i : Int) < n := by omega
      have HT := Lib.hid (sameH_c x B nm _ _ _ hu wr (hg.cell hB))
      rw [hu] at c2 HT
      clear hx
      try unfold resV at HT
      have e0 : (x.nm.toList == nm.toList) = (isNm nm) x := rfl
      rw [e0] at HT
      cases e1 : (isNm nm) x
      · rw [e1] at hf HT
        simp only [Bool.false_eq_true, if_false] at hf
        have HF2 := Lib.hid hf
        clear hf e1 e0
        go_wp2_with (refine HT.out.mono ?_; rintro e w4 ⟨rfl, hg2⟩)
        go_roundg (gk - 1)
        case measure => omega
        case rel => exact ⟨i + 1, by go_num, by omega, hg.trans hg2, by unfold Hid; rw [← HF2.out, HF.out]⟩
      · rw [e1] at hf HT
        simp only [if_true] at hf
        have HF2 := Lib.hid hf
        clear hf e1 e0
        go_wp2_with (refine HT.out.mono ?_; rintro e w4 ⟨rfl, hg2⟩)
        go_ret
        exact ⟨by rw [HE.out, ← HF.out, HF2.out]; rfl, hg.trans hg2⟩
    · have HE2 := Lib.hid (firstP_end (Q := (isNm nm)) (xs := xs) (i := i) (n := n) (by omega))
      have hi2 : (n : Int) ≤ i := by omega
      go_wp2_with fail
      go_ret
      exact ⟨by rw [HE.out, ← HF.out, HE2.out]; rfl, hg⟩
theorem containsH_pos (xs : List RowR) (n b off cap B : Nat) (nm : ByteArray) (w : World) (hn : n ≤ xs.length) (h1 : n ≤ 1000) (hc : ∀ i x, xs[i]? = some x → RowAt w b (off + i * 3) x) (hB : w.cell? ⟨B, 0, none⟩ = some (.string nm)) :
    Calls Tryz.prog 47 #[.slice (some ⟨b, off, none⟩) n cap, .func (.func 87) #[] #[.pointer (some ⟨B, 0, none⟩)]] w fun e w' => e = .returned (.bool (dupR xs n nm)) ∧ Gr w w' := by
  have HI := Lib.hid (indexH_pos xs n b off cap B nm w hn h1 hc hB)
  have HE : Hid (dupR xs n nm = decide (0 ≤ firstP (isNm nm) xs n 0)) := by
    unfold Hid dupR
    rw [firstP_any (isNm nm) xs n 0 (by omega), List.drop_zero]
    rfl
  clear hc hB
  generalize firstP (isNm nm) xs n 0 = z at *
  go_enter Tryz.func47, Tryz.ntmps47
  go_wp2_with fail
  refine HI.out.mono ?_
  rintro e w4 ⟨rfl, hg⟩
  go_wp2_with fail
  go_ret
  exact ⟨by rw [HE.out]; rfl, hg⟩
theorem hasResult_pos (xs : List RowR) (n b off cap : Nat) (nm : ByteArray) (w : World) (hn : n ≤ xs.length) (h1 : n ≤ 1000) (hc : ∀ i x, xs[i]? = some x → RowAt w b (off + i * 3) x) :
    Calls Tryz.prog 60 #[.slice (some ⟨b, off, none⟩) n cap, .string nm] w fun e w' => e = .returned (.bool (dupR xs n nm)) ∧ Gr w w' := by
  have HC := Lib.hid (fun B W (g : Gr w W) h => containsH_pos xs n b off cap B nm W hn h1 (fun i x hx => (hc i x hx).gr g) h)
  obtain ⟨W, hW, g, a0⟩ := box1 w (.string nm) 9
  have HW := Lib.hid hW
  generalize dupR xs n nm = d at *
  clear hW hc
  go_enter Tryz.func60, Tryz.ntmps60
  go_wp2_with fail
  rw [HW.out]
  generalize w.heap.size = B at *
  clear HW
  refine (HC.out B W g a0).mono ?_
  rintro e w4 ⟨rfl, hg⟩
  go_wp2_with fail
  go_ret
  exact ⟨rfl, g.trans hg⟩
theorem valued_c (c s : ByteArray) (v : Value) (hv : ∃ p n cap, v = .slice p n cap) (w : World) :
    Calls Tryz.prog 98 #[.agg #[.string c, .string s, v]] w fun e w' => e = .returned (.bool s.toList.isEmpty) ∧ Gr w w' := by
  obtain ⟨p, n, cap, rfl⟩ := hv
  cases h : s.toList.isEmpty
  all_goals
    have h2 := h
    have HE := Lib.hid h2
    go_enter Tryz.func98, Tryz.ntmps98
    go_wp2_with fail
    go_ret
    exact ⟨rfl, (Gr.refl w).alloc _⟩
set_option maxHeartbeats 1000000 in
set_option maxRecDepth 100000 in
theorem indexW_pos (xs : List RowR) (n b off cap : Nat) (w : World) (hn : n ≤ xs.length) (h1 : n ≤ 1000) (hc : ∀ i x, xs[i]? = some x → RowAt w b (off + i * 3) x) :
    Calls Tryz.prog 41 #[.slice (some ⟨b, off, none⟩) n cap, .func (.func 98) #[] #[]] w fun e w' => e = .returned (.int .i64 (firstP hasV xs n 0)) ∧ Gr w w' := by
  have HC := Lib.hid hc
  have HN := Lib.hid hn
  have HE : Hid (firstP hasV xs n 0 = firstP hasV xs (n - 0) 0) := rfl
  clear hc hn
  go_enter Tryz.func41, Tryz.ntmps41
  go_wp2_with fail
  go_loopg [8] n (fun gk s8 wr => ∃ i : Nat, s8 = .int .i64 i ∧ gk + i = n ∧ Gr w wr ∧ Hid (firstP hasV xs (n - i) i = firstP hasV xs (n - 0) 0))
  case atStart => exact ⟨0, rfl, by omega, Gr.refl _, rfl⟩
  case round =>
    obtain ⟨i, rfl, hi, hg, HF⟩ := hrel
    by_cases hlt : i < n
    · obtain ⟨x, hx⟩ : ∃ x, xs[i]? = some x := ⟨xs[i]'(by have := HN.out; omega), List.getElem?_eq_getElem _⟩
      obtain ⟨c0, c1, c2, hv, _⟩ := (HC.out i x hx).gr hg
      obtain ⟨⟨p', cap', hu, _⟩⟩ := hv
      have hf := firstP_step (Q := hasV) hx hlt
      have hi2 : (i : Int) < n := by omega
      have HT := Lib.hid (valued_c x.nm x.st x.u ⟨_, _, _, hu⟩ wr)
      rw [hu] at c2 HT
      clear hx
      try unfold resV at HT
      have e0 : x.st.toList.isEmpty = hasV x := rfl
      rw [e0] at HT
      cases e1 : hasV x
      · rw [e1] at hf HT
        simp only [Bool.false_eq_true, if_false] at hf
        have HF2 := Lib.hid hf
        clear hf e1 e0
        go_wp2_with (refine HT.out.mono ?_; rintro e w4 ⟨rfl, hg2⟩)
        go_roundg (gk - 1)
        case measure => omega
        case rel => exact ⟨i + 1, by go_num, by omega, hg.trans hg2, by unfold Hid; rw [← HF2.out, HF.out]⟩
      · rw [e1] at hf HT
        simp only [if_true] at hf
        have HF2 := Lib.hid hf
        clear hf e1 e0
        go_wp2_with (refine HT.out.mono ?_; rintro e w4 ⟨rfl, hg2⟩)
        go_ret
        exact ⟨by rw [HE.out, ← HF.out, HF2.out]; rfl, hg.trans hg2⟩
    · have HE2 := Lib.hid (firstP_end (Q := hasV) (xs := xs) (i := i) (n := n) (by omega))
      have hi2 : (n : Int) ≤ i := by omega
      go_wp2_with fail
      go_ret
      exact ⟨by rw [HE.out, ← HF.out, HE2.out]; rfl, hg⟩
/-- whether a name is among names -/
def hasS (ns : List ByteArray) (s : ByteArray) : Bool := ns.any fun t => s.toList == t.toList
/-- the first place of a name, from a place on -/
def findS (s : ByteArray) (ns : List ByteArray) : Nat → Nat → Int
  | 0, _ => -1
  | k + 1, i => match ns[i]? with
    | some t => if s.toList == t.toList then i else findS s ns k (i + 1)
    | none => -1
theorem findS_step {s : ByteArray} {ns : List ByteArray} {i n : Nat} {t : ByteArray} (h : ns[i]? = some t) (hi : i < n) : findS s ns (n - i) i = if s.toList == t.toList then (i : Int) else findS s ns (n - (i + 1)) (i + 1) := by
  obtain ⟨k, hk⟩ : ∃ k, n - i = k + 1 := ⟨n - i - 1, by omega⟩
  rw [hk, show n - (i + 1) = k by omega]
  simp only [findS, h]
theorem findS_any (s : ByteArray) (ns : List ByteArray) : ∀ (k i : Nat), i + k ≤ ns.length → decide (0 ≤ findS s ns k i) = hasS ((ns.drop i).take k) s
  | 0, i, h => by simp [findS, hasS]
  | k + 1, i, h => by
    have hi : i < ns.length := by omega
    have ih := findS_any s ns k (i + 1) (by omega)
    unfold hasS at *
    rw [List.drop_eq_getElem_cons hi, List.take_succ_cons, List.any_cons, ← ih]
    simp only [findS, List.getElem?_eq_getElem hi]
    cases s.toList == ns[i].toList <;> simp
set_option maxHeartbeats 1000000 in
set_option maxRecDepth 100000 in
theorem indexS_pos (ns : List ByteArray) (n b off cap : Nat) (s : ByteArray) (w : World) (hn : n ≤ ns.length) (h1 : n ≤ 1000) (hc : ∀ i t, ns[i]? = some t → w.cell? ⟨b, off + i, none⟩ = some (.string t)) :
    Calls Tryz.prog 62 #[.slice (some ⟨b, off, none⟩) n cap, .string s] w fun e w' => e = .returned (.int .i64 (findS s ns n 0)) ∧ w = w' := by
  have HC := Lib.hid hc
  have HX := Lib.hid (fun k (h : k < n) => (show ∃ x, ns[k]? = some x from ⟨ns[k]'(by omega), List.getElem?_eq_getElem _⟩))
  have HS := Lib.hid (fun i t (h : ns[i]? = some t) (hi : i < n) => findS_step (s := s) h hi)
  have HE : Hid (findS s ns 0 n = -1) := rfl
  clear hc hn
  generalize findS s ns = F at *
  go_enter Tryz.func62, Tryz.ntmps62
  go_wp2_with fail
  go_loopg [8] n (fun gk s8 wr => ∃ i : Nat, s8 = .int .i64 i ∧ gk + i = n ∧ wr = w ∧ Hid (F (n - i) i = F n 0))
  case atStart => exact ⟨0, rfl, by omega, rfl, by simp [Hid]⟩
  case round =>
    obtain ⟨i, rfl, hi, rfl, HF⟩ := hrel
    by_cases hlt : i < n
    · obtain ⟨t, ht⟩ := HX.out i hlt
      have c0 := HC.out i t ht
      have hst := HS.out i t ht hlt
      have hi2 : (i : Int) < n := by omega
      cases hh : (s.toList == t.toList)
      · rw [hh] at hst
        have HST := Lib.hid hst
        have hne : ¬ s.toList = t.toList := by simpa using hh
        clear hst ht
        go_wp2_with fail
        go_roundg (gk - 1)
        case measure => omega
        case rel => exact ⟨i + 1, by go_num, by omega, rfl, by have := HF.out; rw [HST.out] at this; simpa [Hid] using this⟩
      · rw [hh] at hst
        have HST := Lib.hid hst
        have hne : s.toList = t.toList := by simpa using hh
        clear hst ht
        go_wp2_with fail
        go_ret
        have q : F n 0 = i := by have := HF.out; rw [HST.out] at this; simpa using this.symm
        exact ⟨by rw [q]; rfl, rfl⟩
    · obtain rfl : i = n := by omega
      have := HF.out
      rw [Nat.sub_self, HE.out] at this
      have HT := Lib.hid this
      clear this
      go_wp2_with fail
      go_ret
      exact ⟨by rw [← HT.out]; rfl, rfl⟩
theorem containsS_pos (ns : List ByteArray) (n b off cap : Nat) (s : ByteArray) (w : World) (hn : n ≤ ns.length) (h1 : n ≤ 1000) (hc : ∀ i t, ns[i]? = some t → w.cell? ⟨b, off + i, none⟩ = some (.string t)) :
    Calls Tryz.prog 30 #[.slice (some ⟨b, off, none⟩) n cap, .string s] w fun e w' => e = .returned (.bool (hasS (ns.take n) s)) ∧ w = w' := by
  have HI := Lib.hid (indexS_pos ns n b off cap s w hn h1 hc)
  have HE : Hid (hasS (ns.take n) s = decide (0 ≤ findS s ns n 0)) := by
    unfold Hid; rw [findS_any s ns n 0 (by omega), List.drop_zero]
  clear hc
  generalize findS s ns n 0 = z at *
  go_enter Tryz.func30, Tryz.ntmps30
  go_wp2_with (refine HI.out.mono ?_; rintro e w4 ⟨rfl, rfl⟩)
  go_ret
  exact ⟨by rw [HE.out]; rfl, rfl⟩
theorem indexS_nil (p : Option Addr) (cap : Nat) (s : ByteArray) (w : World) :
    Calls Tryz.prog 62 #[.slice p 0 cap, .string s] w fun e w' => e = .returned (.int .i64 (-1)) ∧ w = w' := by
  go_enter Tryz.func62, Tryz.ntmps62
  go_wp2_with fail
  refine wp_loop_rounds 2 ?_
  rw [rounds_succ]
  go_wp2_with fail
  go_ret
  exact ⟨rfl, rfl⟩
theorem containsS_nil (p : Option Addr) (cap : Nat) (s : ByteArray) (w : World) :
    Calls Tryz.prog 30 #[.slice p 0 cap, .string s] w fun e w' => e = .returned (.bool false) ∧ w = w' := by
  have HI := Lib.hid (indexS_nil p cap s w)
  go_enter Tryz.func30, Tryz.ntmps30
  go_wp2_with (refine HI.out.mono ?_; rintro e w4 ⟨rfl, rfl⟩)
  go_ret
  exact ⟨rfl, rfl⟩
end Go.Proofs.YtnbboheaheicnabGreatDoor
