/- start.Meet. -/
import Derived.Test.YthfmgficbnmmnaaGreatDoorGNames
import Derived.BigQuiet
namespace Go.Proofs.YthfmgficbnmmnaaGreatDoor
open Go.RowKit Go.Lib
set_option linter.unusedSimpArgs false
set_option linter.unusedVariables false
/-- k is a number of rounds for n -/
structure Rnd (n : Int) (k : Nat) : Prop where
  n2 : 2 ≤ n
  n64 : n ≤ 64
  low : n ≤ ((2 ^ k : Nat) : Int)
  high : ((2 ^ k : Nat) : Int) < 2 * n
theorem Rnd.k {n : Int} {k : Nat} (h : Rnd n k) : 1 ≤ k ∧ k ≤ 6 := by
  obtain ⟨h1, h2, h3, h4⟩ := h
  constructor
  · rcases k with _ | k
    · simp at h3; omega
    · omega
  · apply Nat.le_of_not_lt
    intro h
    have := Nat.pow_le_pow_right (show 0 < 2 by decide) (show 7 ≤ k from h)
    omega
/-- what the two places are -/
structure Two (n x y : Int) (k : Nat) : Prop where
  r : Rnd n k
  x1 : 1 ≤ x
  xn : x ≤ n
  y1 : 1 ≤ y
  yn : y ≤ n
  ne : x ≠ y
theorem Two.at {n x y : Int} {k : Nat} (h : Two n x y k) : (∀ z, z = x ∨ z = y → (zK n (growB k))[posOf z (growB k)]? = some z ∧ posOf z (growB k) < 2 ^ k ∧ ∀ j u, j < posOf z (growB k) → (zK n (growB k))[j]? = some u → (z == u) = false) ∧ Pair k x y := by
  have hk := h.r.k
  have h3 := h.r.low
  have hp : ((2 ^ k : Nat) : Int) = 2 ^ k := by simp
  have hx := h.x1
  have hxn := h.xn
  have hy := h.y1
  have hyn := h.yn
  refine ⟨fun z hz => ?_, (pair_all hk.1 hk.2 (by omega) (by omega)).2 h.ne⟩
  have hz1 : 1 ≤ z ∧ z ≤ n := by rcases hz with rfl | rfl <;> constructor <;> assumption
  have hm := (pair_all (x := z) (y := z) hk.1 hk.2 (by omega) (by omega)).1
  obtain ⟨q1, q2⟩ := posOf_get hm
  refine ⟨by rw [zK_get, q1]; simp; omega, ?_, fun j u hj hu => ?_⟩
  · obtain ⟨hh, _⟩ := List.getElem?_eq_some_iff.1 q1
    rwa [growB_len] at hh
  · rw [zK_get] at hu
    cases he : (growB k)[j]? with
    | none => rw [he] at hu; cases hu
    | some s =>
      rw [he] at hu
      have := q2 j s hj he
      simp at hu ⊢
      split at hu <;> omega
end Go.Proofs.YthfmgficbnmmnaaGreatDoor
namespace Go.Proofs.YthfmgficbnmmnaaGreatDoor
open Go.RowKit Go.Lib
set_option linter.unusedSimpArgs false
set_option linter.unusedVariables false
/-- the first error, from a place on -/
def errG {α : Type} (E : Nat → α → Int) (xs : List α) : Nat → Nat → Int
  | 0, _ => 0
  | k + 1, i => match xs[i]? with
    | some x => if E i x = 0 then errG E xs k (i + 1) else E i x
    | none => 0
theorem errG_step {α : Type} {E : Nat → α → Int} {xs : List α} {n i : Nat} {x : α} (hi : i < n) (h : xs[i]? = some x) : errG E xs (n - i) i = if E i x = 0 then errG E xs (n - (i + 1)) (i + 1) else E i x := by
  obtain ⟨k, hk⟩ : ∃ k, n - i = k + 1 := ⟨n - i - 1, by omega⟩
  have hk2 : n - (i + 1) = k := by omega
  rw [hk, hk2]
  simp only [errG, h]
theorem errG_zero {α : Type} {E : Nat → α → Int} {xs : List α} : ∀ (k i : Nat), errG E xs k i = 0 → i + k ≤ xs.length → ∀ j x, i ≤ j → j < i + k → xs[j]? = some x → E j x = 0
  | 0, i, _, _, j, x, h1, h2, _ => by omega
  | k + 1, i, h, hl, j, x, h1, h2, hx => by
    have hi : i < xs.length := by omega
    simp only [errG, List.getElem?_eq_getElem hi] at h
    split at h
    · rename_i h0
      rcases Nat.lt_or_ge i j with h3 | h3
      · exact errG_zero k (i + 1) h (by omega) j x (by omega) (by omega) hx
      · obtain rfl : i = j := by omega
        rw [List.getElem?_eq_getElem hi] at hx
        simp only [Option.some.injEq] at hx
        rw [← hx]; exact h0
    · rename_i h0
      exact absurd h h0
/-- the error of a name -/
def nmE (s : ByteArray) : Int := if Nm s then 0 else 8
end Go.Proofs.YthfmgficbnmmnaaGreatDoor
namespace Go.Proofs.YthfmgficbnmmnaaGreatDoor
open Go.RowKit Go.Lib
set_option linter.unusedSimpArgs false
set_option linter.unusedVariables false
theorem grow_nodup {k : Nat} (h1 : 1 ≤ k) (h6 : k ≤ 6) : (growB k).Nodup := by
  have hc : k = 1 ∨ k = 2 ∨ k = 3 ∨ k = 4 ∨ k = 5 ∨ k = 6 := by omega
  rcases hc with rfl | rfl | rfl | rfl | rfl | rfl
  · rw [grow1]; decide +kernel
  · rw [grow2]; decide +kernel
  · rw [grow3]; decide +kernel
  · rw [grow4]; decide +kernel
  · rw [grow5]; decide +kernel
  · rw [grow6]; decide +kernel
/-- a seed stands at one place alone -/
theorem Two.only {n x y : Int} {k : Nat} (h : Two n x y k) {z : Int} (hz : z = x ∨ z = y) {j : Nat} (hj : (zK n (growB k))[j]? = some z) : j = posOf z (growB k) := by
  have hk := h.r.k
  have h1 := (h.at.1 z hz).1
  have hz1 : 1 ≤ z := by rcases hz with rfl | rfl; exact h.x1; exact h.y1
  have back : ∀ i, (zK n (growB k))[i]? = some z → (growB k)[i]? = some z := fun i hi => by
    rw [zK_get] at hi
    cases he : (growB k)[i]? with
    | none => rw [he] at hi; cases hi
    | some s =>
      rw [he] at hi
      simp at hi
      split at hi
      · omega
      · rw [hi]
  have a := back j hj
  have b := back _ h1
  exact (List.getElem?_inj (List.getElem?_eq_some_iff.1 a).1 (grow_nodup hk.1 hk.2)).1 (a.trans b.symm)
end Go.Proofs.YthfmgficbnmmnaaGreatDoor
namespace Go.Proofs.YthfmgficbnmmnaaGreatDoor
open Go.RowKit Go.Lib
set_option linter.unusedSimpArgs false
set_option linter.unusedVariables false
/-- the cell of a word -/
structure StrAt (w : World) (b off : Nat) (x : ByteArray) : Prop where
  nm : w.cell? ⟨b, off, none⟩ = some (.string x)
theorem StrAt.gr {w w' : World} {b off : Nat} {x : ByteArray} (h : StrAt w b off x) (k : Gr w w') : StrAt w' b off x := ⟨k.cell h.nm⟩
/-- the slice v reads as these words -/
structure StrAts (w : World) (v : Value) (xs : List ByteArray) : Prop where
  mk' ::
  out : ∃ p cap, v = .slice p xs.length cap ∧ (xs.length ≤ cap ∧ cap ≤ maxLen) ∧ (0 < xs.length → ∃ b off, p = some ⟨b, off, none⟩ ∧ ∀ i x, xs[i]? = some x → StrAt w b (off + i) x)
theorem StrAts.gr {w w' : World} {v : Value} {xs : List ByteArray} (h : StrAts w v xs) (k : Gr w w') : StrAts w' v xs := by
  obtain ⟨⟨p, cap, rfl, hcap, hh⟩⟩ := h
  refine ⟨p, cap, rfl, hcap, fun h0 => ?_⟩
  obtain ⟨b, off, h1, h2⟩ := hh h0
  exact ⟨b, off, h1, fun i x hx => (h2 i x hx).gr k⟩
end Go.Proofs.YthfmgficbnmmnaaGreatDoor
namespace Go.Proofs.YthfmgficbnmmnaaGreatDoor
open Go.RowKit Go.Lib
set_option linter.unusedSimpArgs false
set_option linter.unusedVariables false
/-- whether a name is among names -/
def hasS (ns : List ByteArray) (s : ByteArray) : Bool := ns.any fun t => s.toList == t.toList
/-- the first place of a name, from a place on -/
def findS (s : ByteArray) (ns : List ByteArray) : Nat → Nat → Int
  | 0, _ => -1
  | k + 1, i => match ns[i]? with
    | some t => if s.toList == t.toList then i else findS s ns k (i + 1)
    | none => -1
theorem findS_step {s : ByteArray} {ns : List ByteArray} {i n : Nat} {t : ByteArray} (h : ns[i]? = some t) (hi : i < n) : findS s ns (n - i) i = if s.toList == t.toList then (i : Int) else findS s ns (n - (i + 1)) (i + 1) := by
  obtain ⟨k, hk⟩ : ∃ k, n - i = k + 1 := ⟨n - i - 1, by omega⟩
  rw [hk, show n - (i + 1) = k by omega]
  simp only [findS, h]
theorem findS_any (s : ByteArray) (ns : List ByteArray) : ∀ (k i : Nat), i + k ≤ ns.length → decide (0 ≤ findS s ns k i) = hasS ((ns.drop i).take k) s
  | 0, i, h => by simp [findS, hasS]
  | k + 1, i, h => by
    have hi : i < ns.length := by omega
    have ih := findS_any s ns k (i + 1) (by omega)
    unfold hasS at *
    rw [List.drop_eq_getElem_cons hi, List.take_succ_cons, List.any_cons, ← ih]
    simp only [findS, List.getElem?_eq_getElem hi]
    cases s.toList == ns[i].toList <;> simp
set_option maxHeartbeats 1000000 in
set_option maxRecDepth 100000 in
theorem indexS_pos (ns : List ByteArray) (n b off cap : Nat) (s : ByteArray) (w : World) (hn : n ≤ ns.length) (h1 : n ≤ 1000) (hc : ∀ i t, ns[i]? = some t → w.cell? ⟨b, off + i, none⟩ = some (.string t)) :
    Calls Tryz.prog 127 #[.slice (some ⟨b, off, none⟩) n cap, .string s] w fun e w' => e = .returned (.int .i64 (findS s ns n 0)) ∧ w = w' := by
  have HC := Lib.hid hc
  have HX := Lib.hid (fun k (h : k < n) => (show ∃ x, ns[k]? = some x from ⟨ns[k]'(by omega), List.getElem?_eq_getElem _⟩))
  have HS := Lib.hid (fun i t (h : ns[i]? = some t) (hi : i < n) => findS_step (s := s) h hi)
  have HE : Hid (findS s ns 0 n = -1) := rfl
  clear hc hn
  generalize findS s ns = F at *
  go_enter Tryz.func127, Tryz.ntmps127
  go_wp2_with fail
  go_loopg [8] n (fun gk s8 wr => ∃ i : Nat, s8 = .int .i64 i ∧ gk + i = n ∧ wr = w ∧ Hid (F (n - i) i = F n 0))
  case atStart => exact ⟨0, rfl, by omega, rfl, by simp [Hid]⟩
  case round =>
    obtain ⟨i, rfl, hi, rfl, HF⟩ := hrel
    by_cases hlt : i < n
    · obtain ⟨t, ht⟩ := HX.out i hlt
      have c0 := HC.out i t ht
      have hst := HS.out i t ht hlt
      have hi2 : (i : Int) < n := by omega
      cases hh : (s.toList == t.toList)
      · rw [hh] at hst
        have HST := Lib.hid hst
        have hne : ¬ s.toList = t.toList := by simpa using hh
        clear hst ht
        go_wp2_with fail
        go_roundg (gk - 1)
        case measure => omega
        case rel => exact ⟨i + 1, by go_num, by omega, rfl, by have := HF.out; rw [HST.out] at this; simpa [Hid] using this⟩
      · rw [hh] at hst
        have HST := Lib.hid hst
        have hne : s.toList = t.toList := by simpa using hh
        clear hst ht
        go_wp2_with fail
        go_ret
        have q : F n 0 = i := by have := HF.out; rw [HST.out] at this; simpa using this.symm
        exact ⟨by rw [q]; rfl, rfl⟩
    · obtain rfl : i = n := by omega
      have := HF.out
      rw [Nat.sub_self, HE.out] at this
      have HT := Lib.hid this
      clear this
      go_wp2_with fail
      go_ret
      exact ⟨by rw [← HT.out]; rfl, rfl⟩
theorem containsS_pos (ns : List ByteArray) (n b off cap : Nat) (s : ByteArray) (w : World) (hn : n ≤ ns.length) (h1 : n ≤ 1000) (hc : ∀ i t, ns[i]? = some t → w.cell? ⟨b, off + i, none⟩ = some (.string t)) :
    Calls Tryz.prog 82 #[.slice (some ⟨b, off, none⟩) n cap, .string s] w fun e w' => e = .returned (.bool (hasS (ns.take n) s)) ∧ w = w' := by
  have HI := Lib.hid (indexS_pos ns n b off cap s w hn h1 hc)
  have HE : Hid (hasS (ns.take n) s = decide (0 ≤ findS s ns n 0)) := by
    unfold Hid; rw [findS_any s ns n 0 (by omega), List.drop_zero]
  clear hc
  generalize findS s ns n 0 = z at *
  go_enter Tryz.func82, Tryz.ntmps82
  go_wp2_with (refine HI.out.mono ?_; rintro e w4 ⟨rfl, rfl⟩)
  go_ret
  exact ⟨by rw [HE.out]; rfl, rfl⟩
theorem hasS_succ {ns : List ByteArray} {k : Nat} {t : ByteArray} (h : ns[k]? = some t) (s : ByteArray) : hasS (ns.take (k + 1)) s = (hasS (ns.take k) s || (s.toList == t.toList)) := by
  rw [List.take_add_one, h]; unfold hasS; simp
theorem hasS_le {ns : List ByteArray} {s : ByteArray} {j n : Nat} (hj : j ≤ n) (h : hasS (ns.take j) s = true) : hasS (ns.take n) s = true := by
  unfold hasS at *
  rw [List.any_eq_true] at *
  obtain ⟨t, ht, he⟩ := h
  exact ⟨t, (List.take_subset_take_left ns hj) ht, he⟩
set_option maxHeartbeats 1000000 in
set_option maxRecDepth 100000 in
theorem hasWordT_c (ns : List ByteArray) (q : Option Addr) (n c : Nat) (s : ByteArray) (w : World) (hn : n ≤ ns.length) (h1 : n ≤ 1000) (hh : 0 < n → ∃ b off, q = some ⟨b, off, none⟩ ∧ ∀ i t, ns[i]? = some t → w.cell? ⟨b, off + i, none⟩ = some (.string t)) :
    Calls Tryz.prog 23 #[.slice q n c, .string s] w fun e w' => e = .returned (.bool (hasS (ns.take n) s)) ∧ w = w' := by
  have HS := Lib.hid (fun k (h : k < n) => (show ∃ x, ns[k]? = some x from ⟨ns[k]'(by omega), List.getElem?_eq_getElem _⟩))
  have HH := Lib.hid hh
  have HL := Lib.hid (fun j (h : hasS (ns.take j) s = true) (hj : j ≤ n) => hasS_le hj h)
  clear hh hn
  go_enter Tryz.func23, Tryz.ntmps23
  go_wp2_with fail
  go_loopg [5] n (fun gk s5 wr => ∃ i : Nat, s5 = .int .i64 i ∧ gk + i = n ∧ wr = w ∧ Hid (hasS (ns.take i) s = false))
  case atStart => exact ⟨0, rfl, by omega, rfl, by simp [Hid, hasS]⟩
  case round =>
    obtain ⟨i, rfl, hi, rfl, HF⟩ := hrel
    by_cases hlt : i < n
    · obtain ⟨t, ht⟩ := HS.out i hlt
      obtain ⟨b, off, rfl, hc⟩ := HH.out (by omega)
      have c0 := hc i t ht
      have hst := hasS_succ ht s
      rw [HF.out, Bool.false_or] at hst
      have hi2 : (i : Int) < n := by omega
      clear ht hc
      by_cases hne : t.toList = s.toList
      · have hb : (s.toList == t.toList) = true := by rw [hne]; simp
        have hb2 : (t.toList == s.toList) = true := by rw [hne]; simp
        rw [hb] at hst
        have HQ : Hid (hasS (ns.take n) s = true) := HL.out _ hst (by omega)
        clear hst hb
        go_wp2_with fail
        go_ret
        exact ⟨by rw [HQ.out]; rfl, rfl⟩
      · have hb : (s.toList == t.toList) = false := beq_eq_false_iff_ne.2 (fun e => hne e.symm)
        have hb2 : (t.toList == s.toList) = false := beq_eq_false_iff_ne.2 hne
        rw [hb] at hst
        have HST := Lib.hid hst
        clear hst hb
        go_wp2_with fail
        go_roundg (gk - 1)
        case measure => omega
        case rel => exact ⟨i + 1, by go_num, by omega, rfl, HST⟩
    · obtain rfl : i = n := by omega
      have HQ : Hid (hasS (ns.take i) s = false) := HF
      go_wp2_with fail
      go_ret
      exact ⟨by rw [HQ.out]; rfl, rfl⟩
end Go.Proofs.YthfmgficbnmmnaaGreatDoor
namespace Go.Proofs.YthfmgficbnmmnaaGreatDoor
open Go.RowKit Go.Lib
set_option linter.unusedSimpArgs false
set_option linter.unusedVariables false
end Go.Proofs.YthfmgficbnmmnaaGreatDoor
namespace Go.Proofs.YthfmgficbnmmnaaGreatDoor
open Go.RowKit Go.Lib
set_option linter.unusedSimpArgs false
set_option linter.unusedVariables false
/-- the error of a name in a list -/
def strE (xs : List ByteArray) (i : Nat) (x : ByteArray) : Int := firstE [nmE x, if hasS (xs.take i) x then 9 else 0]
end Go.Proofs.YthfmgficbnmmnaaGreatDoor
namespace Go.Proofs.YthfmgficbnmmnaaGreatDoor
open Go.RowKit Go.Lib
set_option linter.unusedSimpArgs false
set_option linter.unusedVariables false
set_option maxHeartbeats 4000000 in
set_option maxRecDepth 100000 in
theorem twiceS_c (ns : List ByteArray) (n b off cap j : Nat) (s : ByteArray) (w : World) (hn : ns.length = n) (h1 : n ≤ 160) (hcap : n ≤ cap) (hmx : cap ≤ maxLen) (hs : ns[j]? = some s) (hc : ∀ i t, ns[i]? = some t → w.cell? ⟨b, off + i, none⟩ = some (.string t)) :
    Calls Tryz.prog 96 #[.slice (some ⟨b, off, none⟩) n cap, .int .i64 j] w fun e w' => e = .returned (.int .i64 (if hasS (ns.take j) s = true then 9 else 0)) ∧ Gr w w' := by
  have hjn := (List.getElem?_eq_some_iff.1 hs).1
  have HC := Lib.hid (fun (W : World) (g : Gr w W) => containsS_pos ns j b off cap s W (by omega) (by omega) (fun i t ht => g.cell (hc i t ht)))
  generalize hasS (ns.take j) s = tB at *
  have H9 := Lib.hid (fun (W : World) => if_c tB 9 W)
  generalize (if tB = true then (9 : Int) else 0) = e9 at *
  have hs0 := hc j s hs
  have hj1 : (j : Int) ≤ cap := by omega
  have hj0 : (0 : Int) ≤ j := by omega
  have hj2 : (j : Int) < n := by omega
  clear hc hs hn
  go_enter Tryz.func96, Tryz.ntmps96
  go_wp2_with fail
  have g := (Gr.refl w).drew
  have c0 := g.cell hs0
  refine wp_region_held_drew (S := (fun w' => w'.cell? ⟨b, off + j, none⟩ = some (.string s))) (by kernel_rfl) c0 (fun hHeld => ?_)
  generalize w.drew = V at *
  refine wpAnyH_take (i := 0) (v := (.slice (some ⟨b, off, none⟩) n cap)) (op_at rfl) (by kernel_rfl) (by kernel_rfl) (by kernel_rfl) (fun _ _ _ h => h) (Or.inl ⟨rfl, fun w hSw => ?_⟩) (by assumption) ?_
  · (try dsimp only at hSw); go_simp; try with_reducible rfl
  (try simp only [Act.put, List.setIfInBounds_toArray, List.set_cons_zero, List.set_cons_succ])
  refine wpAnyH_take (i := 1) (v := (.int .i64 j)) (op_at rfl) (by kernel_rfl) (by kernel_rfl) (by kernel_rfl) (fun _ _ _ h => h) (Or.inl ⟨rfl, fun w hSw => ?_⟩) (by assumption) ?_
  · (try dsimp only at hSw); go_simp; try with_reducible rfl
  (try simp only [Act.put, List.setIfInBounds_toArray, List.set_cons_zero, List.set_cons_succ])
  refine wpAnyH_take (i := 2) (v := (.slice (some ⟨b, off, none⟩) j cap)) (op_at rfl) (by kernel_rfl) (by kernel_rfl) (by kernel_rfl) (fun _ _ _ h => h) (Or.inl ⟨rfl, fun w hSw => ?_⟩) (by assumption) ?_
  · (try dsimp only at hSw); go_simp; try with_reducible rfl
  (try simp only [Act.put, List.setIfInBounds_toArray, List.set_cons_zero, List.set_cons_succ])
  refine wpAnyH_take (i := 3) (v := (.slice (some ⟨b, off, none⟩) n cap)) (op_at rfl) (by kernel_rfl) (by kernel_rfl) (by kernel_rfl) (fun _ _ _ h => h) (Or.inl ⟨rfl, fun w hSw => ?_⟩) (by assumption) ?_
  · (try dsimp only at hSw); go_simp; try with_reducible rfl
  (try simp only [Act.put, List.setIfInBounds_toArray, List.set_cons_zero, List.set_cons_succ])
  refine wpAnyH_take (i := 4) (v := (.int .i64 j)) (op_at rfl) (by kernel_rfl) (by kernel_rfl) (by kernel_rfl) (fun _ _ _ h => h) (Or.inl ⟨rfl, fun w hSw => ?_⟩) (by assumption) ?_
  · (try dsimp only at hSw); go_simp; try with_reducible rfl
  (try simp only [Act.put, List.setIfInBounds_toArray, List.set_cons_zero, List.set_cons_succ])
  refine wpAnyH_take (i := 5) (v := (.pointer (some ⟨b, off + j, none⟩))) (op_at rfl) (by kernel_rfl) (by kernel_rfl) (by kernel_rfl) (fun _ _ _ h => h) (Or.inl ⟨rfl, fun w hSw => ?_⟩) (by assumption) ?_
  · (try dsimp only at hSw); go_simp; try with_reducible rfl
  (try simp only [Act.put, List.setIfInBounds_toArray, List.set_cons_zero, List.set_cons_succ])
  refine wpAnyH_take (i := 6) (v := (.string s)) (op_at rfl) (by kernel_rfl) (by kernel_rfl) (by kernel_rfl) (fun _ _ _ h => h) (Or.inl ⟨rfl, fun w hSw => ?_⟩) (by assumption) ?_
  · (try dsimp only at hSw); go_simp; try with_reducible rfl
  (try simp only [Act.put, List.setIfInBounds_toArray, List.set_cons_zero, List.set_cons_succ])
  refine wpAnyH_ready (rs := [7]) (by kernel_rfl) (by simp) (AllReadyH.cons (op_at rfl) (fun K hK => ?_) AllReadyH.nil)
  go_simp
  (refine (HC.out _ g).mono ?_; rintro e w' ⟨rfl, rfl⟩)
  go_wp2_with fail
  refine hK.out _ _ c0 (fun hHeld => ?_)
  clear hK K
  (try simp only [Act.put, List.setIfInBounds_toArray, List.set_cons_zero, List.set_cons_succ])
  refine wpAnyH_ready (rs := [8]) (by kernel_rfl) (by simp) (AllReadyH.cons (op_at rfl) (fun K hK => ?_) AllReadyH.nil)
  go_simp
  (refine (H9.out _).mono ?_; rintro e w' ⟨rfl, rfl⟩)
  go_wp2_with fail
  refine hK.out _ _ c0 (fun hHeld => ?_)
  clear hK K
  (try simp only [Act.put, List.setIfInBounds_toArray, List.set_cons_zero, List.set_cons_succ])
  refine wpAnyH_take (i := 9) (v := (.int .i64 e9)) (op_at rfl) (by kernel_rfl) (by kernel_rfl) (by kernel_rfl) (fun _ _ _ h => h) (Or.inl ⟨rfl, fun w hSw => ?_⟩) (by assumption) ?_
  · (try dsimp only at hSw); go_simp; try with_reducible rfl
  (try simp only [Act.put, List.setIfInBounds_toArray, List.set_cons_zero, List.set_cons_succ])
  refine wpAnyH_done (by kernel_rfl) ?_ _
  go_wp2_with fail
  go_ret
  exact ⟨rfl, g⟩
theorem nmE_not (nm : ByteArray) : nmE nm = if (!decide (Nm nm)) then 8 else 0 := by
  unfold nmE
  by_cases h : Nm nm <;> simp [h]
set_option maxHeartbeats 4000000 in
set_option maxRecDepth 100000 in
theorem oneNm_c (xs : List ByteArray) (i n b off cap B : Nat) (x : ByteArray) (w : World) (hn : xs.length = n) (h1 : n ≤ 160) (hcap : n ≤ cap) (hmx : cap ≤ maxLen) (hc : ∀ i x, xs[i]? = some x → StrAt w b (off + i) x) (hx : xs[i]? = some x)
    (hC : w.cell? ⟨B, 0, none⟩ = some (.slice (some ⟨b, off, none⟩) n cap)) :
    Calls Tryz.prog 94 #[.int .i64 i, .string x, .pointer (some ⟨B, 0, none⟩)] w fun e w' => e = .returned (.int .i64 (strE xs i x)) ∧ Gr w w' := by
  have hR : firstE [nmE x, if hasS (xs.take i) x then 9 else 0] = strE xs i x := rfl
  have HN := Lib.hid (fun W (g : Gr w W) => isName_c x W)
  have HT := Lib.hid (fun W (g : Gr w W) => twiceS_c xs n b off cap i x W hn h1 hcap hmx hx (fun i t ht => g.cell (hc i t ht).nm))
  obtain ⟨e2, he2⟩ : ∃ z, z = (if hasS (xs.take i) x = true then (9 : Int) else 0) := ⟨_, rfl⟩
  rw [← he2] at HT
  rw [show (if hasS (xs.take i) x then (9 : Int) else 0) = e2 from he2.symm, nmE_not] at hR
  generalize decide (Nm x) = nb at *
  obtain ⟨e1, he1, H1⟩ := if_e (!nb) 8
  rw [← he1] at hR
  have hF := first_pair e1 e2
  rw [hR] at hF
  generalize strE xs i x = err at *
  have HF := Lib.hid hF
  replace H1 := Lib.hid H1
  have g := (Gr.refl w).drew
  have a0 := g.cell hC
  clear hc hx hR he1 he2 hF hC hn
  go_enter Tryz.func94, Tryz.ntmps94
  go_wp2_with fail
  refine wp_region_held_drew (S := (fun w' => w'.cell? ⟨B, 0, none⟩ = some (.slice (some ⟨b, off, none⟩) n cap))) (by kernel_rfl) a0 (fun hHeld => ?_)
  generalize w.drew = V at *
  refine wpAnyH_take (i := 0) (v := (.string x)) (op_at rfl) (by kernel_rfl) (by kernel_rfl) (by kernel_rfl) (fun _ _ _ h => h) (Or.inl ⟨rfl, fun w hSw => ?_⟩) (by assumption) ?_
  · (try dsimp only at hSw); go_simp; try with_reducible rfl
  (try simp only [Act.put, List.setIfInBounds_toArray, List.set_cons_zero, List.set_cons_succ])
  refine wpAnyH_take (i := 4) (v := (.slice (some ⟨b, off, none⟩) n cap)) (op_at rfl) (by kernel_rfl) (by kernel_rfl) (by kernel_rfl) (fun _ _ _ h => h) (Or.inl ⟨rfl, fun w hSw => ?_⟩) (by assumption) ?_
  · (try dsimp only at hSw); go_simp; try with_reducible rfl
  (try simp only [Act.put, List.setIfInBounds_toArray, List.set_cons_zero, List.set_cons_succ])
  refine wpAnyH_take (i := 5) (v := (.int .i64 (i : Int))) (op_at rfl) (by kernel_rfl) (by kernel_rfl) (by kernel_rfl) (fun _ _ _ h => h) (Or.inl ⟨rfl, fun w hSw => ?_⟩) (by assumption) ?_
  · (try dsimp only at hSw); go_simp; try with_reducible rfl
  (try simp only [Act.put, List.setIfInBounds_toArray, List.set_cons_zero, List.set_cons_succ])
  refine wpAnyH_ready (rs := [1]) (by kernel_rfl) (by simp) (AllReadyH.cons (op_at rfl) (fun K hK => ?_) AllReadyH.nil)
  go_simp
  (refine (HN.out _ g).mono ?_; rintro e W1 ⟨rfl, hg⟩; replace a0 := hg.cell a0; replace g := g.trans hg; clear hg)
  go_wp2_with fail
  refine hK.out _ _ a0 (fun hHeld => ?_)
  clear hK K
  (try simp only [Act.put, List.setIfInBounds_toArray, List.set_cons_zero, List.set_cons_succ])
  refine wpAnyH_take (i := 2) (v := (.bool (!nb))) (op_at rfl) (by kernel_rfl) (by kernel_rfl) (by kernel_rfl) (fun _ _ _ h => h) (Or.inl ⟨rfl, fun w hSw => ?_⟩) (by assumption) ?_
  · (try dsimp only at hSw); go_simp; try with_reducible rfl
  (try simp only [Act.put, List.setIfInBounds_toArray, List.set_cons_zero, List.set_cons_succ])
  refine wpAnyH_ready (rs := [3]) (by kernel_rfl) (by simp) (AllReadyH.cons (op_at rfl) (fun K hK => ?_) AllReadyH.nil)
  go_simp
  (refine (H1.out _).mono ?_; rintro e w' ⟨rfl, rfl⟩)
  go_wp2_with fail
  refine hK.out _ _ a0 (fun hHeld => ?_)
  clear hK K
  (try simp only [Act.put, List.setIfInBounds_toArray, List.set_cons_zero, List.set_cons_succ])
  refine wpAnyH_ready (rs := [6]) (by kernel_rfl) (by simp) (AllReadyH.cons (op_at rfl) (fun K hK => ?_) AllReadyH.nil)
  go_simp
  (refine (HT.out _ g).mono ?_; rintro e W2 ⟨rfl, hg⟩; replace a0 := hg.cell a0; replace g := g.trans hg; clear hg)
  go_wp2_with fail
  refine hK.out _ _ a0 (fun hHeld => ?_)
  clear hK K
  (try simp only [Act.put, List.setIfInBounds_toArray, List.set_cons_zero, List.set_cons_succ])
  refine wpAnyH_ready (rs := [7]) (by kernel_rfl) (by simp) (AllReadyH.cons (op_at rfl) (fun K hK => ?_) AllReadyH.nil)
  go_simp
  obtain ⟨WW, hWW, gW, s0, s1⟩ := box2 W2 (.int .i64 e1) (.int .i64 e2) 31
  rw [hWW]
  clear hWW
  replace a0 := gW.cell a0
  replace g := g.trans gW
  refine hK.out _ _ a0 (fun hHeld => ?_)
  clear hK K
  (try simp only [Act.put, List.setIfInBounds_toArray, List.set_cons_zero, List.set_cons_succ])
  refine wpAnyH_ready (rs := [8]) (by kernel_rfl) (by simp) (AllReadyH.cons (op_at rfl) (fun K hK => ?_) AllReadyH.nil)
  go_simp
  (refine (HF.out _ _ WW s0 s1).mono ?_; rintro e w8 ⟨rfl, rfl⟩)
  go_wp2_with fail
  refine hK.out _ _ a0 (fun hHeld => ?_)
  clear hK K
  (try simp only [Act.put, List.setIfInBounds_toArray, List.set_cons_zero, List.set_cons_succ])
  refine wpAnyH_take (i := 9) (v := (.int .i64 err)) (op_at rfl) (by kernel_rfl) (by kernel_rfl) (by kernel_rfl) (fun _ _ _ h => h) (Or.inl ⟨rfl, fun w hSw => ?_⟩) (by assumption) ?_
  · (try dsimp only at hSw); go_simp; try with_reducible rfl
  (try simp only [Act.put, List.setIfInBounds_toArray, List.set_cons_zero, List.set_cons_succ])
  refine wpAnyH_done (by kernel_rfl) ?_ _
  go_wp2_with fail
  go_ret
  exact ⟨rfl, g⟩
set_option maxHeartbeats 1000000 in
set_option maxRecDepth 100000 in
theorem findNm6_pos (E : Nat → ByteArray → Int) (xs : List ByteArray) (n b off cap L : Nat) (w : World) (hn : xs.length = n) (h1 : n ≤ 1000) (hcap : n ≤ cap) (hmx : cap ≤ maxLen)
    (hc : ∀ i x, xs[i]? = some x → StrAt w b (off + i) x) (ho : ∀ (i : Nat) (x : ByteArray) (W : World), i < n → xs[i]? = some x → Gr w W → Calls Tryz.prog 94 #[.int .i64 i, .string x, .pointer (some ⟨L, 0, none⟩)] W fun e w' => e = .returned (.int .i64 (E i x)) ∧ Gr W w') (hL : w.cell? ⟨L, 0, none⟩ = some (.slice (some ⟨b, off, none⟩) n cap)) :
    Calls Tryz.prog 131 #[.slice (some ⟨b, off, none⟩) n cap, .func (.func 94) #[] #[.pointer (some ⟨L, 0, none⟩)]] w fun e w' => (∃ i : Int, e = .returned (.tuple #[.int .i64 i, .int .i64 (errG E xs n 0)])) ∧ Gr w w' := by
  have HC := Lib.hid hc
  have HN := Lib.hid hn
  have HO := Lib.hid ho
  clear hc hL hn ho
  go_enter Tryz.func131, Tryz.ntmps131
  go_wp2_with fail
  go_loopg [11] n (fun gk s11 wr => ∃ i : Nat, s11 = .int .i64 i ∧ gk + i = n ∧ Gr w wr ∧ Hid (errG E xs (n - i) i = errG E xs n 0))
  case atStart => exact ⟨0, rfl, by omega, Gr.refl _, rfl⟩
  case round =>
    obtain ⟨i, rfl, hi, hg, HF⟩ := hrel
    by_cases hlt : i < n
    · obtain ⟨x, hx⟩ : ∃ x, xs[i]? = some x := ⟨xs[i]'(by have := HN.out; omega), List.getElem?_eq_getElem _⟩
      obtain ⟨c0⟩ := (HC.out i x hx).gr hg
      have hf := errG_step (E := E) hlt hx
      have hi2 : (i : Int) < n := by omega
      have hT := fun W hg2 => HO.out i x W hlt hx hg2
      clear hx
      have gW := hg
      by_cases h0 : E i x = 0
      · rw [h0] at hT hf
        rw [if_pos rfl] at hf
        have HT := Lib.hid hT
        have HF2 := Lib.hid hf
        clear hT hf h0
        go_wp2_with fail
        refine (HT.out _ gW).mono ?_
        rintro e w4 ⟨rfl, hg2⟩
        go_wp2_with fail
        go_roundg (gk - 1)
        case measure => omega
        case rel => exact ⟨i + 1, by go_num, by omega, gW.trans hg2, by unfold Hid; rw [← HF2.out, HF.out]⟩
      · rw [if_neg h0] at hf
        generalize E i x = z at *
        have q1 : (z == 0) = false := by simpa using h0
        have q2 : (z != 0) = true := by simpa [bne] using q1
        have HT := Lib.hid hT
        have HF2 := Lib.hid hf
        clear hT hf
        go_wp2_with fail
        refine (HT.out _ gW).mono ?_
        rintro e w4 ⟨rfl, hg2⟩
        go_wp2_with fail
        exact bodyPost_ret (v := .tuple #[.int .i64 i, .int .i64 z]) (by simp [results, Tryz.results131, go_sem]) rfl ⟨⟨i, by rw [← HF.out, HF2.out]⟩, gW.trans hg2⟩
    · have hin : i = n := by omega
      have HE2 : Hid (errG E xs (n - i) i = 0) := by unfold Hid; rw [hin, Nat.sub_self]; rfl
      have hi2 : (n : Int) ≤ i := by omega
      clear hin
      go_wp2_with fail
      exact bodyPost_ret (v := .tuple #[.int .i64 0, .int .i64 0]) (by simp [results, Tryz.results131, go_sem]) rfl ⟨⟨0, by rw [← HF.out, HE2.out]⟩, hg⟩
theorem eachNm6_pos (E : Nat → ByteArray → Int) (xs : List ByteArray) (n b off cap L : Nat) (w : World) (hn : xs.length = n) (h1 : n ≤ 1000) (hcap : n ≤ cap) (hmx : cap ≤ maxLen)
    (hc : ∀ i x, xs[i]? = some x → StrAt w b (off + i) x) (ho : ∀ (i : Nat) (x : ByteArray) (W : World), i < n → xs[i]? = some x → Gr w W → Calls Tryz.prog 94 #[.int .i64 i, .string x, .pointer (some ⟨L, 0, none⟩)] W fun e w' => e = .returned (.int .i64 (E i x)) ∧ Gr W w') (hL : w.cell? ⟨L, 0, none⟩ = some (.slice (some ⟨b, off, none⟩) n cap)) :
    Calls Tryz.prog 93 #[.slice (some ⟨b, off, none⟩) n cap, .func (.func 94) #[] #[.pointer (some ⟨L, 0, none⟩)]] w fun e w' => e = .returned (.int .i64 (errG E xs n 0)) ∧ Gr w w' := by
  have HF := Lib.hid (findNm6_pos E xs n b off cap L w hn h1 hcap hmx hc ho hL)
  generalize errG E xs n 0 = z at *
  clear hc hL hn ho
  go_enter Tryz.func93, Tryz.ntmps93
  go_wp2_with fail
  refine HF.out.mono ?_
  rintro e w4 ⟨⟨i, rfl⟩, hg⟩
  go_wp2_with fail
  go_ret
  exact ⟨rfl, hg⟩
/-- the error of the names of a bracket -/
def namesE (xs : List ByteArray) : Int := if xs.length = 0 then 12 else if 64 < xs.length then 5 else errG (strE xs) xs xs.length 0
set_option maxHeartbeats 4000000 in
set_option maxRecDepth 100000 in
theorem checkNm6_c (xs : List ByteArray) (v : Value) (w : World) (hv : StrAts w v xs) :
    Calls Tryz.prog 54 #[v] w fun e w' => e = .returned (.int .i64 (namesE xs)) ∧ Gr w w' := by
  obtain ⟨⟨p, cap, rfl, ⟨hcap, hmx⟩, hh⟩⟩ := hv
  obtain ⟨W, hW, g, l0⟩ := box1 w (.slice p xs.length cap) 48
  have HW := Lib.hid hW
  rcases Nat.eq_zero_or_pos xs.length with h0 | h0
  · have HE : Hid (namesE xs = 12) := by unfold Hid namesE; rw [if_pos h0]
    clear hW hh l0
    rw [h0] at HW ⊢
    go_enter Tryz.func54, Tryz.ntmps54
    go_wp2_with fail
    go_ret
    exact ⟨by rw [HE.out]; rfl, by rw [HW.out]; exact g⟩
  have hz : ((xs.length : Int) == 0) = false := beq_eq_false_iff_ne.2 (by omega)
  rcases Nat.lt_or_ge 64 xs.length with hl | hl
  · have HE : Hid (namesE xs = 5) := by unfold Hid namesE; rw [if_neg (by omega), if_pos hl]
    have hl2 : decide ((64 : Int) < (xs.length : Int)) = true := decide_eq_true (by omega)
    have hl3 : ¬ (xs.length : Int) = 0 := by omega
    clear hW hh l0
    generalize xs.length = n at *
    go_enter Tryz.func54, Tryz.ntmps54
    go_wp2_with fail
    go_ret
    exact ⟨by rw [HE.out]; rfl, by rw [HW.out]; exact g⟩
  · have HE : Hid (namesE xs = errG (strE xs) xs xs.length 0) := by unfold Hid namesE; rw [if_neg (by omega), if_neg (by omega)]
    have hl2 : decide ((64 : Int) < (xs.length : Int)) = false := decide_eq_false (by omega)
    have hl3 : ¬ (xs.length : Int) = 0 := by omega
    have HK : Hid (∀ W2, Gr W W2 → Calls Tryz.prog 93 #[.slice p xs.length cap, .func (.func 94) #[] #[.pointer (some ⟨w.heap.size, 0, none⟩)]] W2 fun e w' => e = .returned (.int .i64 (errG (strE xs) xs xs.length 0)) ∧ Gr W2 w') := by
      intro W2 g2
      obtain ⟨b, off, rfl, hc⟩ := hh h0
      exact eachNm6_pos (strE xs) xs xs.length b off cap w.heap.size W2 rfl (by omega) hcap hmx (fun i x hx => (hc i x hx).gr (g.trans g2)) (fun i x W3 hi hx hg => oneNm_c xs i xs.length b off cap w.heap.size x W3 rfl (by omega) hcap hmx (fun i x hx => (hc i x hx).gr ((g.trans g2).trans hg)) hx ((g2.trans hg).cell l0)) (g2.cell l0)
    rw [HE.out]
    generalize errG (strE xs) xs xs.length 0 = z at *
    clear hW hh HE
    generalize xs.length = n at *
    go_enter Tryz.func54, Tryz.ntmps54
    go_wp2_with fail
    rw [HW.out]
    refine (HK.out _ (Gr.refl _)).mono ?_
    rintro e w4 ⟨rfl, hg⟩
    go_wp2_with fail
    go_ret
    exact ⟨rfl, g.trans hg⟩
end Go.Proofs.YthfmgficbnmmnaaGreatDoor
namespace Go.Proofs.YthfmgficbnmmnaaGreatDoor
open Go.RowKit Go.Lib
set_option linter.unusedSimpArgs false
set_option linter.unusedVariables false
theorem hasS_not {a : List ByteArray} {i : Nat} {x : ByteArray} (h : ∀ (j : Nat) (z : ByteArray), j < i → a[j]? = some z → (z.toList == x.toList) = false) : hasS (a.take i) x = false := by
  unfold hasS
  rw [List.any_eq_false]
  intro z hz
  obtain ⟨j, hj⟩ := List.mem_iff_getElem?.1 hz
  rw [List.getElem?_take] at hj
  split at hj
  · rename_i hji
    have := h j z hji hj
    first
      | (rw [this]; simp)
      | (have e := this; rw [Bool.beq_comm] at e; rw [e]; simp)
      | (simp at this ⊢; exact this)
      | (simp at this ⊢; exact fun q => this q.symm)
  · cases hj
theorem hasS_yes {a : List ByteArray} {i k : Nat} {x z : ByteArray} (hk : k < i) (hz : a[k]? = some z) (h : (z.toList == x.toList) = true) : hasS (a.take i) x = true := by
  unfold hasS
  rw [List.any_eq_true]
  refine ⟨z, List.mem_iff_getElem?.2 ⟨k, by rw [List.getElem?_take, if_pos hk]; exact hz⟩, ?_⟩
  first
    | exact h
    | (rw [Bool.beq_comm]; exact h)
    | (simp at h ⊢; exact h)
    | (simp at h ⊢; exact h.symm)
set_option maxHeartbeats 4000000 in
set_option maxRecDepth 100000 in
theorem refNm6_c (xs : List ByteArray) (v : Value) (w : World) (hv : StrAts w v xs) :
    Calls Tryz.prog 18 #[v] w fun e w' => e = .returned (.int .i64 (namesE xs)) ∧ Gr w w' := by
  obtain ⟨⟨p, cap, rfl, _, hh⟩⟩ := hv
  obtain ⟨m, hm⟩ : ∃ m, m = xs.length := ⟨_, rfl⟩
  have HH := Lib.hid hh
  rw [← hm] at HH ⊢
  have HL := Lib.hid hm
  clear hh
  rcases Nat.eq_zero_or_pos m with h0 | h0
  · have HE : Hid (namesE xs = 12) := by unfold Hid namesE; rw [if_pos (by omega)]
    subst h0
    clear hm
    go_enter Tryz.func18, Tryz.ntmps18
    go_wp2_with fail
    go_ret
    exact ⟨by rw [HE.out]; rfl, Gr.refl _⟩
  have hz : ((m : Int) == 0) = false := beq_eq_false_iff_ne.2 (by omega)
  have hz0 : ¬ (m : Int) = 0 := by omega
  by_cases hl : 64 < m
  · have HE : Hid (namesE xs = 5) := by unfold Hid namesE; rw [if_neg (by omega), if_pos (by omega)]
    have hl2 : (64 : Int) < (m : Int) := by omega
    clear hm
    go_enter Tryz.func18, Tryz.ntmps18
    go_wp2_with fail
    go_ret
    exact ⟨by rw [HE.out]; rfl, Gr.refl _⟩
  have HE : Hid (namesE xs = errG (strE xs) xs m 0) := by unfold Hid namesE; rw [if_neg (by omega), if_neg (by omega), ← hm]
  have hl2 : ¬ (64 : Int) < (m : Int) := by omega
  have HNM := Lib.hid (fun (s : ByteArray) W => refIsName_c s W)
  clear hm
  go_enter Tryz.func18, Tryz.ntmps18
  go_wp2_with fail
  go_loopg [3, 4] m (fun gk s3 s4 wr => ∃ i : Nat, s3 = .int .i64 (i : Int) ∧ gk + i = m ∧ Hid (Gr w wr) ∧ Hid (errG (strE xs) xs (m - i) i = errG (strE xs) xs m 0))
  case atStart => exact ⟨0, rfl, by omega, Gr.refl _, rfl⟩
  case round =>
    obtain ⟨i, rfl, hgk, HG, HF⟩ := hrel
    obtain ⟨GK, rfl⟩ : ∃ G, G = gk := ⟨gk, rfl⟩
    by_cases hlt : i < m
    · obtain ⟨x, hx⟩ : ∃ x, xs[i]? = some x := ⟨xs[i]'(by have := HL.out; omega), List.getElem?_eq_getElem _⟩
      obtain ⟨b, off, rfl, hc⟩ := HH.out (by omega)
      have c0 := HG.out.cell (hc i x hx).nm
      have hii : (i : Int) < m := by omega
      have hst := errG_step (E := strE xs) hlt hx
      rw [HF.out] at hst
      have HC := Lib.hid hc
      have HX := Lib.hid hx
      have HNx := Lib.hid (HNM.out x)
      by_cases hn : Nm x
      case neg =>
        have n1 : decide (Nm x) = false := decide_eq_false hn
        rw [n1] at HNx
        have HR : Hid (errG (strE xs) xs m 0 = 8) := by
          unfold Hid
          have e1 : strE xs i x = 8 := by unfold strE nmE; rw [if_neg hn]; rfl
          rw [hst, e1, if_neg (by decide)]
        clear hst hc hx hn n1
        go_wp2_with fail
        refine (HNx.out _).mono ?_
        rintro e w9 ⟨rfl, rfl⟩
        go_wp2_with fail
        go_ret
        exact ⟨by rw [HE.out, HR.out]; rfl, HG.out⟩
      have n1 : decide (Nm x) = true := decide_eq_true hn
      rw [n1] at HNx
      have he1 : strE xs i x = if hasS (xs.take i) x then 9 else 0 := by unfold strE nmE; rw [if_pos hn]; cases hasS (xs.take i) x <;> rfl
      rw [he1] at hst
      have HST := Lib.hid hst
      clear hst hc hx he1 hn n1
      go_wp2_with fail
      refine (HNx.out _).mono ?_
      rintro e w9 ⟨rfl, rfl⟩
      go_wp2_with fail
      go_loopg [4] i (fun gk s4 wr => ∃ k : Nat, s4 = .int .i64 (k : Int) ∧ gk + k = i ∧ Hid (Gr w wr) ∧ Hid (∀ (j : Nat) (z : ByteArray), j < k → xs[j]? = some z → (z.toList == x.toList) = false))
      case atStart => exact ⟨0, rfl, by omega, HG.out, fun j z h => absurd h (by omega)⟩
      case round =>
        clear c0 HG
        obtain ⟨k, rfl, hgk2, HG, HN⟩ := hrel
        by_cases hki : k < i
        · obtain ⟨y, hy⟩ : ∃ y, xs[k]? = some y := ⟨xs[k]'(by have := HL.out; omega), List.getElem?_eq_getElem _⟩
          have c0 := HG.out.cell (HC.out i x HX.out).nm
          have c1 := HG.out.cell (HC.out k y hy).nm
          have hkk : (k : Int) < i := by omega
          have hkm : (k : Int) < m := by omega
          cases hb : (y.toList == x.toList)
          · have hb' : (x.toList == y.toList) = false := by rw [← hb]; exact Bool.beq_comm
            have HN2 : Hid (∀ (j : Nat) (z : ByteArray), j < k + 1 → xs[j]? = some z → (z.toList == x.toList) = false) := fun j z hj hz => by
              by_cases e : j = k
              · subst e
                rw [hy] at hz
                cases hz
                exact hb
              · exact HN.out j z (by omega) hz
            clear hy
            go_wp2_with fail
            go_big_quiet (fail)
            go_wp2_with fail
            go_roundg (gk - 1)
            case measure => omega
            case rel => exact ⟨k + 1, by go_num, by omega, HG.out.drewN _, HN2.out⟩
          · have hb' : (x.toList == y.toList) = true := by rw [← hb]; exact Bool.beq_comm
            have HR : Hid (errG (strE xs) xs m 0 = 9) := by
              unfold Hid
              rw [HST.out, hasS_yes hki hy hb]
              rfl
            clear hy
            go_wp2_with fail
            go_big_quiet (fail)
            go_wp2_with fail
            go_ret
            exact ⟨by rw [HE.out, HR.out]; rfl, HG.out.drewN _⟩
        · obtain rfl : k = i := by omega
          have hkk : (k : Int) ≤ k := by omega
          have HF2 : Hid (errG (strE xs) xs (m - (k + 1)) (k + 1) = errG (strE xs) xs m 0) := by
            unfold Hid
            rw [HST.out, hasS_not HN.out]
            rfl
          go_wp2_with fail
          go_roundg (GK - 1)
          case measure => omega
          case rel => exact ⟨k + 1, by go_num, by omega, HG.out, HF2.out⟩
    · obtain rfl : i = m := by omega
      have hii : (i : Int) ≤ i := by omega
      have HR : Hid (errG (strE xs) xs i 0 = 0) := by
        unfold Hid
        rw [← HF.out, Nat.sub_self]
        rfl
      go_wp2_with fail
      go_ret
      exact ⟨by rw [HE.out, HR.out]; rfl, HG.out⟩
end Go.Proofs.YthfmgficbnmmnaaGreatDoor
namespace Go.Proofs.YthfmgficbnmmnaaGreatDoor
open Go.RowKit Go.Lib
set_option linter.unusedSimpArgs false
set_option linter.unusedVariables false
/-- who wins from the beginning -/
def walkW (a b : ByteArray) : Int := if a.toList = [] then (if b.toList = [] then 3 else 2) else if b.toList = [] then 1 else 0
/-- a race of two names -/
structure RaR where
  a : ByteArray
  b : ByteArray
  w : Int
def raV (r : RaR) : Value := .agg #[.string r.a, .string r.b, .int .i64 r.w]
def raC (r : RaR) : List Value := [.string r.a, .string r.b, .int .i64 r.w]
def raCs (l : List RaR) : List Value := l.flatMap raC
/-- the race of two names at its beginning -/
def raB (a b : ByteArray) : RaR := ⟨a, b, walkW a b⟩
set_option maxRecDepth 100000 in
theorem walk_c (a b : ByteArray) (w : World) : Calls Tryz.prog 59 #[.string a, .string b] w fun e w' => e = .returned (.int .i64 (walkW a b)) ∧ w = w' := by
  have HE : Hid (walkW a b = if a.toList = [] then (if b.toList = [] then 3 else 2) else if b.toList = [] then 1 else 0) := rfl
  have HA : (a.toList = [] ∧ a.toList.isEmpty = true) ∨ (¬ a.toList = [] ∧ a.toList.isEmpty = false) := by cases a.toList <;> simp
  have HB : (b.toList = [] ∧ b.toList.isEmpty = true) ∨ (¬ b.toList = [] ∧ b.toList.isEmpty = false) := by cases b.toList <;> simp
  rcases HA with ⟨ha, ha2⟩ | ⟨ha, ha2⟩ <;> rcases HB with ⟨hb, hb2⟩ | ⟨hb, hb2⟩
  all_goals
    simp only [ha, hb, if_true, if_false] at HE
    go_enter Tryz.func59, Tryz.ntmps59
    go_wp2_with fail
    go_ret
    exact ⟨by rw [HE.out]; rfl, rfl⟩
set_option maxHeartbeats 4000000 in
set_option maxRecDepth 100000 in
theorem raceOf_c (a b : ByteArray) (w : World) : Calls Tryz.prog 55 #[.string a, .string b] w fun e w' => e = .returned (raV (raB a b)) ∧ Gr w w' := by
  have HE : Hid (walkW a b = if a.toList = [] then (if b.toList = [] then 3 else 2) else if b.toList = [] then 1 else 0) := rfl
  unfold raV raB
  have HA : (a.toList = [] ∧ a.toList.isEmpty = true) ∨ (¬ a.toList = [] ∧ a.toList.isEmpty = false) := by cases a.toList <;> simp
  have HB : (b.toList = [] ∧ b.toList.isEmpty = true) ∨ (¬ b.toList = [] ∧ b.toList.isEmpty = false) := by cases b.toList <;> simp
  rcases HA with ⟨ha, ha2⟩ | ⟨ha, ha2⟩ <;> rcases HB with ⟨hb, hb2⟩ | ⟨hb, hb2⟩
  all_goals
    simp only [ha, hb, if_true, if_false] at HE
    go_enter Tryz.func55, Tryz.ntmps55
    go_wp2_with fail
    first
      | (obtain ⟨W1, hW1, g1, z0, z1, z2⟩ := box3 w (.string a) (.string b) (.int .i64 3) 55; rw [hW1]; have g2 := (Gr.refl W1).alloc (.cells #[.string a, .string b, .int .i64 3] 55); replace z0 := g2.cell z0; replace z1 := g2.cell z1; replace z2 := g2.cell z2; exact bodyPost_ret (v := .agg #[.string a, .string b, .int .i64 3]) (by simp [results, Tryz.results55, go_sem, z0, z1, z2]) rfl ⟨by rw [HE.out], g1.trans g2⟩)
      | (obtain ⟨W1, hW1, g1, z0, z1, z2⟩ := box3 w (.string a) (.string b) (.int .i64 2) 55; rw [hW1]; have g2 := (Gr.refl W1).alloc (.cells #[.string a, .string b, .int .i64 2] 55); replace z0 := g2.cell z0; replace z1 := g2.cell z1; replace z2 := g2.cell z2; exact bodyPost_ret (v := .agg #[.string a, .string b, .int .i64 2]) (by simp [results, Tryz.results55, go_sem, z0, z1, z2]) rfl ⟨by rw [HE.out], g1.trans g2⟩)
      | (obtain ⟨W1, hW1, g1, z0, z1, z2⟩ := box3 w (.string a) (.string b) (.int .i64 1) 55; rw [hW1]; have g2 := (Gr.refl W1).alloc (.cells #[.string a, .string b, .int .i64 1] 55); replace z0 := g2.cell z0; replace z1 := g2.cell z1; replace z2 := g2.cell z2; exact bodyPost_ret (v := .agg #[.string a, .string b, .int .i64 1]) (by simp [results, Tryz.results55, go_sem, z0, z1, z2]) rfl ⟨by rw [HE.out], g1.trans g2⟩)
      | (obtain ⟨W1, hW1, g1, z0, z1, z2⟩ := box3 w (.string a) (.string b) (.int .i64 0) 55; rw [hW1]; have g2 := (Gr.refl W1).alloc (.cells #[.string a, .string b, .int .i64 0] 55); replace z0 := g2.cell z0; replace z1 := g2.cell z1; replace z2 := g2.cell z2; exact bodyPost_ret (v := .agg #[.string a, .string b, .int .i64 0]) (by simp [results, Tryz.results55, go_sem, z0, z1, z2]) rfl ⟨by rw [HE.out], g1.trans g2⟩)
/-- the name of a seed -/
def nmS (ns : List ByteArray) (s : Int) : ByteArray := if s = 0 then ⟨#[]⟩ else ns.getD (s.toNat - 1) ⟨#[]⟩
set_option maxRecDepth 100000 in
theorem seedIn_c (ns : List ByteArray) (v : Value) (s : Int) (w : World) (hv : StrAts w v ns) (h0 : 0 ≤ s) (h1 : s ≤ ns.length) (h2 : ns.length ≤ 1000) :
    Calls Tryz.prog 58 #[v, .int .i64 s] w fun e w' => e = .returned (.string (nmS ns s)) ∧ w = w' := by
  obtain ⟨⟨p, cap, rfl, _, hh⟩⟩ := hv
  by_cases hs : s = 0
  · have HE : Hid (nmS ns s = ⟨#[]⟩) := by unfold Hid nmS; rw [if_pos hs]
    have z1 : (s == 0) = true := by simpa using hs
    clear hh
    go_enter Tryz.func58, Tryz.ntmps58
    go_wp2_with fail
    go_ret
    exact ⟨by rw [HE.out]; rfl, rfl⟩
  · obtain ⟨k, rfl⟩ : ∃ k : Nat, s = ((k + 1 : Nat) : Int) := ⟨s.toNat - 1, by omega⟩
    have hk : k < ns.length := by omega
    obtain ⟨x, hx⟩ : ∃ x, ns[k]? = some x := ⟨ns[k], List.getElem?_eq_getElem hk⟩
    have HE : Hid (nmS ns ((k + 1 : Nat) : Int) = x) := by
      unfold Hid nmS
      rw [if_neg hs]
      simp [List.getD_eq_getElem?_getD, hx]
    obtain ⟨b, off, rfl, hc⟩ := hh (by omega)
    have c0 := (hc k x hx).nm
    have z1 : (((k + 1 : Nat) : Int) == 0) = false := beq_eq_false_iff_ne.2 hs
    have e1 : ((k + 1 : Nat) : Int) - 1 = (k : Int) := by omega
    have e2 : (k : Int) < (ns.length : Int) := by omega
    generalize ((k + 1 : Nat) : Int) = s at *
    clear hc hx h0 h1
    generalize ns.length = n at *
    go_enter Tryz.func58, Tryz.ntmps58
    go_wp2_with fail
    go_ret
    exact ⟨by rw [HE.out]; rfl, rfl⟩
end Go.Proofs.YthfmgficbnmmnaaGreatDoor
