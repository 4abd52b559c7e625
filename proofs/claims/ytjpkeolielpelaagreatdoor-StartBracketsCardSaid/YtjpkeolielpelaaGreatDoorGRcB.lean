/- The reference's Meet; Bracket and Meet with their errors. -/
import Derived.Test.YtjpkeolielpelaaGreatDoorGIsA
import Derived.Test.YtjpkeolielpelaaGreatDoorGNames
import Derived.BigQuiet
namespace Go.Proofs.YtjpkeolielpelaaGreatDoor
open Go.RowKit Go.Lib
set_option linter.unusedSimpArgs false
set_option linter.unusedVariables false
/-- how often two places are halved until they are the same -/
def rndN : Nat → Nat → Nat → Nat
  | 0, _, _ => 0
  | f + 1, x, y => if x = y then 0 else rndN f (x / 2) (y / 2) + 1
theorem xor_all : ((List.range 64).all fun p => (List.range 64).all fun q => decide (bl (bits BinOp.xor .i64 (p : Int) (q : Int)) = (rndN 7 p q : Int))) = true := by decide +kernel
theorem xor_rnd {p q : Nat} (hp : p < 64) (hq : q < 64) : bl (bits BinOp.xor .i64 (p : Int) (q : Int)) = (rndN 7 p q : Int) := by
  have h1 := List.all_eq_true.1 xor_all p (List.mem_range.2 hp)
  have h2 := List.all_eq_true.1 h1 q (List.mem_range.2 hq)
  exact of_decide_eq_true h2
theorem grow_nodup {k : Nat} (h1 : 1 ≤ k) (h6 : k ≤ 6) : (growB k).Nodup := by
  have hc : k = 1 ∨ k = 2 ∨ k = 3 ∨ k = 4 ∨ k = 5 ∨ k = 6 := by omega
  rcases hc with rfl | rfl | rfl | rfl | rfl | rfl
  · rw [grow1]; decide +kernel
  · rw [grow2]; decide +kernel
  · rw [grow3]; decide +kernel
  · rw [grow4]; decide +kernel
  · rw [grow5]; decide +kernel
  · rw [grow6]; decide +kernel
/-- a seed stands at one place alone -/
theorem Two.only {n x y : Int} {k : Nat} (h : Two n x y k) {z : Int} (hz : z = x ∨ z = y) {j : Nat} (hj : (zK n (growB k))[j]? = some z) : j = posOf z (growB k) := by
  have hk := h.r.k
  have h1 := (h.at.1 z hz).1
  have hz1 : 1 ≤ z := by rcases hz with rfl | rfl; exact h.x1; exact h.y1
  have back : ∀ i, (zK n (growB k))[i]? = some z → (growB k)[i]? = some z := fun i hi => by
    rw [zK_get] at hi
    cases he : (growB k)[i]? with
    | none => rw [he] at hi; cases hi
    | some s =>
      rw [he] at hi
      simp at hi
      split at hi
      · omega
      · rw [hi]
  have a := back j hj
  have b := back _ h1
  exact (List.getElem?_inj (List.getElem?_eq_some_iff.1 a).1 (grow_nodup hk.1 hk.2)).1 (a.trans b.symm)
set_option maxHeartbeats 4000000 in
set_option maxRecDepth 100000 in
theorem refMeet_c (n x y : Int) (k : Nat) (h : Two n x y k) (w : World) :
    Calls Tryz.prog 14 #[.int .i64 n, .int .i64 x, .int .i64 y] w fun e w' => e = .returned (.int .i64 (mtK (growB k) x y)) ∧ Gr w w' := by
  have hr1 := h.r.n2
  have hr2 := h.r.n64
  have HB := Lib.hid (refBracket_c n ⟨by omega, by omega⟩)
  obtain ⟨ha, hp⟩ := h.at
  have hX := ha x (.inl rfl)
  have hY := ha y (.inr rfl)
  have HOX := Lib.hid (fun j (hj : (zK n (growB k))[j]? = some x) => h.only (.inl rfl) hj)
  have HOY := Lib.hid (fun j (hj : (zK n (growB k))[j]? = some y) => h.only (.inr rfl) hj)
  have hk6 := h.r.k.2
  have h64 : 2 ^ k ≤ 64 := Nat.pow_le_pow_right (show 0 < 2 by decide) hk6
  have HM : Hid (mtK (growB k) x y = (rndN 7 (posOf x (growB k)) (posOf y (growB k)) : Int)) := xor_rnd (by omega) (by omega)
  have HRN := Lib.hid h.r
  have hne : x ≠ y := h.ne
  clear ha hp h
  rw [HM.out]
  clear HM
  generalize posOf x (growB k) = px at *
  generalize posOf y (growB k) = py at *
  have HX := Lib.hid hX.1
  have HY := Lib.hid hY.1
  have hpx := hX.2.1
  have hpy := hY.2.1
  clear hX hY
  go_enter Tryz.func14, Tryz.ntmps14
  go_wp2_with fail
  refine (HB.out _).mono ?_
  rintro e W1 ⟨v, j, rfl, h1, h2, h3, hg⟩
  have hkj := pow_one h1 h2 HRN.out.low HRN.out.high
  subst hkj
  obtain ⟨g1, cap, rfl, hbg, hgw, hcell⟩ := reads_pos h3 (Nat.two_pow_pos _)
  have HC := Lib.hid hcell
  have HZ : Hid ((zK n (growB j)).length = 2 ^ j) := by unfold Hid; rw [zK_len, growB_len]
  have HG := Lib.hid hg
  clear h1 h2 h3 hcell hg
  generalize 2 ^ j = L at *
  generalize zK n (growB j) = xs at *
  go_wp2_with fail
  go_loopg [8, 9, 10] L (fun gk s8 s9 s10 wr => ∃ i : Nat, s10 = .int .i64 (i : Int) ∧ gk + i = L ∧ s8 = .int .i64 ((if px < i then px else 0 : Nat) : Int) ∧ s9 = .int .i64 ((if py < i then py else 0 : Nat) : Int) ∧ Gr W1 wr)
  case atStart => exact ⟨0, rfl, by omega, rfl, rfl, Gr.refl _⟩
  case round =>
    obtain ⟨i, rfl, hgk, rfl, rfl, hg⟩ := hrel
    by_cases hlt : i < L
    · obtain ⟨z, hz⟩ : ∃ z, xs[i]? = some z := ⟨xs[i]'(by have := HZ.out; omega), List.getElem?_eq_getElem _⟩
      have f0 := hg.cell (HC.out i z hz)
      have hii : (i : Int) < L := by omega
      by_cases e1 : z = x
      · have e2 : i = px := HOX.out i (by rw [← e1]; exact hz)
        have e3 : i ≠ py := fun q => by
          have h9 := HY.out
          rw [← q, hz] at h9
          cases h9
          exact hne e1.symm
        have z1 : (z == x) = true := by simpa using e1
        have z2 : (z == y) = false := by rw [e1]; simpa using hne
        have q1 : (if px < i + 1 then px else 0 : Nat) = i := by rw [if_pos (by omega)]; exact e2.symm
        have q2 : (if py < i + 1 then py else 0 : Nat) = (if py < i then py else 0 : Nat) := by by_cases h : py < i <;> simp [h] <;> omega
        have HQ1 := Lib.hid q1
        have HQ2 := Lib.hid q2
        generalize (if px < i then px else 0 : Nat) = a at *
        generalize (if py < i then py else 0 : Nat) = b at *
        clear hz q1 q2 e1 e2 e3
        go_wp2_with fail
        go_roundg (gk - 1)
        case measure => omega
        case rel => exact ⟨i + 1, by go_num, by omega, by rw [HQ1.out], by rw [HQ2.out], hg⟩
      · have e2 : i ≠ px := fun q => by
          have h9 := HX.out
          rw [← q, hz] at h9
          cases h9
          exact e1 rfl
        have z1 : (z == x) = false := by simpa using e1
        have q1 : (if px < i + 1 then px else 0 : Nat) = (if px < i then px else 0 : Nat) := by by_cases h : px < i <;> simp [h] <;> omega
        have HQ1 := Lib.hid q1
        by_cases e3 : z = y
        · have e4 : i = py := HOY.out i (by rw [← e3]; exact hz)
          have z2 : (z == y) = true := by simpa using e3
          have q2 : (if py < i + 1 then py else 0 : Nat) = i := by rw [if_pos (by omega)]; exact e4.symm
          have HQ2 := Lib.hid q2
          generalize (if px < i then px else 0 : Nat) = a at *
          generalize (if py < i then py else 0 : Nat) = b at *
          clear hz q1 q2 e1 e2 e3 e4
          go_wp2_with fail
          go_roundg (gk - 1)
          case measure => omega
          case rel => exact ⟨i + 1, by go_num, by omega, by rw [HQ1.out], by rw [HQ2.out], hg⟩
        · have e4 : i ≠ py := fun q => by
            have h9 := HY.out
            rw [← q, hz] at h9
            cases h9
            exact e3 rfl
          have z2 : (z == y) = false := by simpa using e3
          have q2 : (if py < i + 1 then py else 0 : Nat) = (if py < i then py else 0 : Nat) := by by_cases h : py < i <;> simp [h] <;> omega
          have HQ2 := Lib.hid q2
          generalize (if px < i then px else 0 : Nat) = a at *
          generalize (if py < i then py else 0 : Nat) = b at *
          clear hz q1 q2 e1 e2 e3 e4
          go_wp2_with fail
          go_roundg (gk - 1)
          case measure => omega
          case rel => exact ⟨i + 1, by go_num, by omega, by rw [HQ1.out], by rw [HQ2.out], hg⟩
    · obtain rfl : i = L := by omega
      have hii : (i : Int) ≤ i := by omega
      rw [if_pos hpx, if_pos hpy]
      have HGW := Lib.hid (HG.out.trans hg)
      clear hg
      go_wp2_with fail
      go_loopg [8, 9, 11] 7 (fun gk s8 s9 s11 wr => ∃ a b r : Nat, s8 = .int .i64 (a : Int) ∧ s9 = .int .i64 (b : Int) ∧ s11 = .int .i64 (r : Int) ∧ a < 2 ^ gk ∧ b < 2 ^ gk ∧ r + gk ≤ 7 ∧ Hid (r + rndN gk a b = rndN 7 px py) ∧ Hid (Gr w wr))
      case atStart => exact ⟨px, py, 0, rfl, rfl, rfl, by omega, by omega, by omega, by simp [Hid], HGW.out⟩
      case round =>
        obtain ⟨a, b, r, rfl, rfl, rfl, ha, hb, hr7, HR, HG2⟩ := hrel
        by_cases hab : a = b
        · subst hab
          have hE : Hid (rndN 7 px py = r) := by
            unfold Hid
            rw [← HR.out]
            cases gk <;> simp [rndN]
          have z1 : ((a : Int) != (a : Int)) = false := by simp
          clear ha hb
          go_wp2_with fail
          go_ret
          exact ⟨by rw [hE.out]; rfl, HG2.out⟩
        · obtain ⟨f, rfl⟩ : ∃ f, gk = f + 1 := by
            cases gk with
            | zero => simp at ha hb; omega
            | succ f => exact ⟨f, rfl⟩
          have hR2 : Hid (r + 1 + rndN f (a / 2) (b / 2) = rndN 7 px py) := by
            unfold Hid
            rw [← HR.out]
            show _ = r + (if a = b then 0 else rndN f (a / 2) (b / 2) + 1)
            rw [if_neg hab]
            omega
          have ha2 : a / 2 < 2 ^ f := by rw [Nat.pow_succ] at ha; omega
          have hb2 : b / 2 < 2 ^ f := by rw [Nat.pow_succ] at hb; omega
          have t1 : Int.tdiv (a : Int) 2 = ((a / 2 : Nat) : Int) := by rw [Int.tdiv_eq_ediv_of_nonneg (Int.natCast_nonneg _)]; rfl
          have t2 : Int.tdiv (b : Int) 2 = ((b / 2 : Nat) : Int) := by rw [Int.tdiv_eq_ediv_of_nonneg (Int.natCast_nonneg _)]; rfl
          have hp7 : 2 ^ f ≤ 64 := Nat.pow_le_pow_right (show 0 < 2 by decide) (show f ≤ 6 by omega)
          have z1 : ((a : Int) != (b : Int)) = true := bne_iff_ne.2 (by omega)
          have HA2 := Lib.hid (And.intro ha2 hb2)
          have ha3 : a / 2 ≤ 64 := by omega
          have hb3 : b / 2 ≤ 64 := by omega
          generalize a / 2 = a2 at *
          generalize b / 2 = b2 at *
          have w1 : IntKind.i64.wrap (a2 : Int) = (a2 : Int) := by rw [IntKind.wrap_i64]; omega
          have w2 : IntKind.i64.wrap (b2 : Int) = (b2 : Int) := by rw [IntKind.wrap_i64]; omega
          clear ha hb ha2 hb2 hp7
          go_wp2_with fail
          go_roundg f
          case measure => omega
          case rel => exact ⟨a2, b2, r + 1, rfl, rfl, by go_num, HA2.out.1, HA2.out.2, by omega, hR2.out, HG2.out⟩
theorem bracket_bad (n : Int) (h : outE n 1 64 ≠ 0) (w : World) :
    Calls Tryz.prog 6 #[.int .i64 n] w fun e w' => e = .returned (.tuple #[.slice none 0 0, .int .i64 (outE n 1 64)]) ∧ Gr w w' := by
  obtain ⟨z, hz, HR0⟩ := range_e n 1 64
  rw [← hz] at h ⊢
  have HR := Lib.hid HR0
  have z1 : (z != 0) = true := bne_iff_ne.2 h
  clear hz HR0 h
  go_enter Tryz.func6, Tryz.ntmps6
  go_wp2_with fail
  refine (HR.out _).mono ?_
  rintro e w4 ⟨rfl, rfl⟩
  go_wp2_with fail
  exact bodyPost_ret (v := .tuple #[.slice none 0 0, .int .i64 z]) (by simp [results, Tryz.results6, go_sem]) rfl ⟨rfl, Gr.refl _⟩
end Go.Proofs.YtjpkeolielpelaaGreatDoor
namespace Go.Proofs.YtjpkeolielpelaaGreatDoor
open Go.RowKit Go.Lib
set_option linter.unusedSimpArgs false
set_option linter.unusedVariables false
/-- the cell of a word -/
structure StrAt (w : World) (b off : Nat) (x : ByteArray) : Prop where
  nm : w.cell? ⟨b, off, none⟩ = some (.string x)
theorem StrAt.gr {w w' : World} {b off : Nat} {x : ByteArray} (h : StrAt w b off x) (k : Gr w w') : StrAt w' b off x := ⟨k.cell h.nm⟩
/-- the slice v reads as these words -/
structure StrAts (w : World) (v : Value) (xs : List ByteArray) : Prop where
  mk' ::
  out : ∃ p cap, v = .slice p xs.length cap ∧ (xs.length ≤ cap ∧ cap ≤ maxLen) ∧ (0 < xs.length → ∃ b off, p = some ⟨b, off, none⟩ ∧ ∀ i x, xs[i]? = some x → StrAt w b (off + i) x)
theorem StrAts.gr {w w' : World} {v : Value} {xs : List ByteArray} (h : StrAts w v xs) (k : Gr w w') : StrAts w' v xs := by
  obtain ⟨⟨p, cap, rfl, hcap, hh⟩⟩ := h
  refine ⟨p, cap, rfl, hcap, fun h0 => ?_⟩
  obtain ⟨b, off, h1, h2⟩ := hh h0
  exact ⟨b, off, h1, fun i x hx => (h2 i x hx).gr k⟩
end Go.Proofs.YtjpkeolielpelaaGreatDoor
namespace Go.Proofs.YtjpkeolielpelaaGreatDoor
open Go.RowKit Go.Lib
set_option linter.unusedSimpArgs false
set_option linter.unusedVariables false
/-- whether a name is among names -/
def hasS (ns : List ByteArray) (s : ByteArray) : Bool := ns.any fun t => s.toList == t.toList
/-- the first place of a name, from a place on -/
def findS (s : ByteArray) (ns : List ByteArray) : Nat → Nat → Int
  | 0, _ => -1
  | k + 1, i => match ns[i]? with
    | some t => if s.toList == t.toList then i else findS s ns k (i + 1)
    | none => -1
theorem findS_step {s : ByteArray} {ns : List ByteArray} {i n : Nat} {t : ByteArray} (h : ns[i]? = some t) (hi : i < n) : findS s ns (n - i) i = if s.toList == t.toList then (i : Int) else findS s ns (n - (i + 1)) (i + 1) := by
  obtain ⟨k, hk⟩ : ∃ k, n - i = k + 1 := ⟨n - i - 1, by omega⟩
  rw [hk, show n - (i + 1) = k by omega]
  simp only [findS, h]
theorem findS_any (s : ByteArray) (ns : List ByteArray) : ∀ (k i : Nat), i + k ≤ ns.length → decide (0 ≤ findS s ns k i) = hasS ((ns.drop i).take k) s
  | 0, i, h => by simp [findS, hasS]
  | k + 1, i, h => by
    have hi : i < ns.length := by omega
    have ih := findS_any s ns k (i + 1) (by omega)
    unfold hasS at *
    rw [List.drop_eq_getElem_cons hi, List.take_succ_cons, List.any_cons, ← ih]
    simp only [findS, List.getElem?_eq_getElem hi]
    cases s.toList == ns[i].toList <;> simp
set_option maxHeartbeats 1000000 in
set_option maxRecDepth 100000 in
theorem indexS_pos (ns : List ByteArray) (n b off cap : Nat) (s : ByteArray) (w : World) (hn : n ≤ ns.length) (h1 : n ≤ 1000) (hc : ∀ i t, ns[i]? = some t → w.cell? ⟨b, off + i, none⟩ = some (.string t)) :
    Calls Tryz.prog 121 #[.slice (some ⟨b, off, none⟩) n cap, .string s] w fun e w' => e = .returned (.int .i64 (findS s ns n 0)) ∧ w = w' := by
  have HC := Lib.hid hc
  have HX := Lib.hid (fun k (h : k < n) => (show ∃ x, ns[k]? = some x from ⟨ns[k]'(by omega), List.getElem?_eq_getElem _⟩))
  have HS := Lib.hid (fun i t (h : ns[i]? = some t) (hi : i < n) => findS_step (s := s) h hi)
  have HE : Hid (findS s ns 0 n = -1) := rfl
  clear hc hn
  generalize findS s ns = F at *
  go_enter Tryz.func121, Tryz.ntmps121
  go_wp2_with fail
  go_loopg [8] n (fun gk s8 wr => ∃ i : Nat, s8 = .int .i64 i ∧ gk + i = n ∧ wr = w ∧ Hid (F (n - i) i = F n 0))
  case atStart => exact ⟨0, rfl, by omega, rfl, by simp [Hid]⟩
  case round =>
    obtain ⟨i, rfl, hi, rfl, HF⟩ := hrel
    by_cases hlt : i < n
    · obtain ⟨t, ht⟩ := HX.out i hlt
      have c0 := HC.out i t ht
      have hst := HS.out i t ht hlt
      have hi2 : (i : Int) < n := by omega
      cases hh : (s.toList == t.toList)
      · rw [hh] at hst
        have HST := Lib.hid hst
        have hne : ¬ s.toList = t.toList := by simpa using hh
        clear hst ht
        go_wp2_with fail
        go_roundg (gk - 1)
        case measure => omega
        case rel => exact ⟨i + 1, by go_num, by omega, rfl, by have := HF.out; rw [HST.out] at this; simpa [Hid] using this⟩
      · rw [hh] at hst
        have HST := Lib.hid hst
        have hne : s.toList = t.toList := by simpa using hh
        clear hst ht
        go_wp2_with fail
        go_ret
        have q : F n 0 = i := by have := HF.out; rw [HST.out] at this; simpa using this.symm
        exact ⟨by rw [q]; rfl, rfl⟩
    · obtain rfl : i = n := by omega
      have := HF.out
      rw [Nat.sub_self, HE.out] at this
      have HT := Lib.hid this
      clear this
      go_wp2_with fail
      go_ret
      exact ⟨by rw [← HT.out]; rfl, rfl⟩
theorem containsS_pos (ns : List ByteArray) (n b off cap : Nat) (s : ByteArray) (w : World) (hn : n ≤ ns.length) (h1 : n ≤ 1000) (hc : ∀ i t, ns[i]? = some t → w.cell? ⟨b, off + i, none⟩ = some (.string t)) :
    Calls Tryz.prog 81 #[.slice (some ⟨b, off, none⟩) n cap, .string s] w fun e w' => e = .returned (.bool (hasS (ns.take n) s)) ∧ w = w' := by
  have HI := Lib.hid (indexS_pos ns n b off cap s w hn h1 hc)
  have HE : Hid (hasS (ns.take n) s = decide (0 ≤ findS s ns n 0)) := by
    unfold Hid; rw [findS_any s ns n 0 (by omega), List.drop_zero]
  clear hc
  generalize findS s ns n 0 = z at *
  go_enter Tryz.func81, Tryz.ntmps81
  go_wp2_with (refine HI.out.mono ?_; rintro e w4 ⟨rfl, rfl⟩)
  go_ret
  exact ⟨by rw [HE.out]; rfl, rfl⟩
theorem indexS_nil (p : Option Addr) (cap : Nat) (s : ByteArray) (w : World) :
    Calls Tryz.prog 121 #[.slice p 0 cap, .string s] w fun e w' => e = .returned (.int .i64 (-1)) ∧ w = w' := by
  go_enter Tryz.func121, Tryz.ntmps121
  go_wp2_with fail
  refine wp_loop_rounds 2 ?_
  rw [rounds_succ]
  go_wp2_with fail
  go_ret
  exact ⟨rfl, rfl⟩
theorem containsS_nil (p : Option Addr) (cap : Nat) (s : ByteArray) (w : World) :
    Calls Tryz.prog 81 #[.slice p 0 cap, .string s] w fun e w' => e = .returned (.bool false) ∧ w = w' := by
  have HI := Lib.hid (indexS_nil p cap s w)
  go_enter Tryz.func81, Tryz.ntmps81
  go_wp2_with (refine HI.out.mono ?_; rintro e w4 ⟨rfl, rfl⟩)
  go_ret
  exact ⟨rfl, rfl⟩
theorem hasS_succ {ns : List ByteArray} {k : Nat} {t : ByteArray} (h : ns[k]? = some t) (s : ByteArray) : hasS (ns.take (k + 1)) s = (hasS (ns.take k) s || (s.toList == t.toList)) := by
  rw [List.take_add_one, h]; unfold hasS; simp
theorem hasS_le {ns : List ByteArray} {s : ByteArray} {j n : Nat} (hj : j ≤ n) (h : hasS (ns.take j) s = true) : hasS (ns.take n) s = true := by
  unfold hasS at *
  rw [List.any_eq_true] at *
  obtain ⟨t, ht, he⟩ := h
  exact ⟨t, (List.take_subset_take_left ns hj) ht, he⟩
set_option maxHeartbeats 1000000 in
set_option maxRecDepth 100000 in
theorem hasWordT_c (ns : List ByteArray) (q : Option Addr) (n c : Nat) (s : ByteArray) (w : World) (hn : n ≤ ns.length) (h1 : n ≤ 1000) (hh : 0 < n → ∃ b off, q = some ⟨b, off, none⟩ ∧ ∀ i t, ns[i]? = some t → w.cell? ⟨b, off + i, none⟩ = some (.string t)) :
    Calls Tryz.prog 56 #[.slice q n c, .string s] w fun e w' => e = .returned (.bool (hasS (ns.take n) s)) ∧ w = w' := by
  have HS := Lib.hid (fun k (h : k < n) => (show ∃ x, ns[k]? = some x from ⟨ns[k]'(by omega), List.getElem?_eq_getElem _⟩))
  have HH := Lib.hid hh
  have HL := Lib.hid (fun j (h : hasS (ns.take j) s = true) (hj : j ≤ n) => hasS_le hj h)
  clear hh hn
  go_enter Tryz.func56, Tryz.ntmps56
  go_wp2_with fail
  go_loopg [5] n (fun gk s5 wr => ∃ i : Nat, s5 = .int .i64 i ∧ gk + i = n ∧ wr = w ∧ Hid (hasS (ns.take i) s = false))
  case atStart => exact ⟨0, rfl, by omega, rfl, by simp [Hid, hasS]⟩
  case round =>
    obtain ⟨i, rfl, hi, rfl, HF⟩ := hrel
    by_cases hlt : i < n
    · obtain ⟨t, ht⟩ := HS.out i hlt
      obtain ⟨b, off, rfl, hc⟩ := HH.out (by omega)
      have c0 := hc i t ht
      have hst := hasS_succ ht s
      rw [HF.out, Bool.false_or] at hst
      have hi2 : (i : Int) < n := by omega
      clear ht hc
      by_cases hne : t.toList = s.toList
      · have hb : (s.toList == t.toList) = true := by rw [hne]; simp
        have hb2 : (t.toList == s.toList) = true := by rw [hne]; simp
        rw [hb] at hst
        have HQ : Hid (hasS (ns.take n) s = true) := HL.out _ hst (by omega)
        clear hst hb
        go_wp2_with fail
        go_ret
        exact ⟨by rw [HQ.out]; rfl, rfl⟩
      · have hb : (s.toList == t.toList) = false := beq_eq_false_iff_ne.2 (fun e => hne e.symm)
        have hb2 : (t.toList == s.toList) = false := beq_eq_false_iff_ne.2 hne
        rw [hb] at hst
        have HST := Lib.hid hst
        clear hst hb
        go_wp2_with fail
        go_roundg (gk - 1)
        case measure => omega
        case rel => exact ⟨i + 1, by go_num, by omega, rfl, HST⟩
    · obtain rfl : i = n := by omega
      have HQ : Hid (hasS (ns.take i) s = false) := HF
      go_wp2_with fail
      go_ret
      exact ⟨by rw [HQ.out]; rfl, rfl⟩
end Go.Proofs.YtjpkeolielpelaaGreatDoor
namespace Go.Proofs.YtjpkeolielpelaaGreatDoor
open Go.RowKit Go.Lib
set_option linter.unusedSimpArgs false
set_option linter.unusedVariables false
theorem dupN_succ {α : Type} (f : α → ByteArray) {xs : List α} {k : Nat} {y : α} (h : xs[k]? = some y) (nm : ByteArray) : dupN f xs (k + 1) nm = (dupN f xs k nm || ((f y).toList == nm.toList)) := by
  unfold dupN
  rw [List.take_add_one, h]
  simp
theorem dupN_le {α : Type} (f : α → ByteArray) {xs : List α} {k i : Nat} (hk : k ≤ i) {nm : ByteArray} (h : dupN f xs k nm = true) : dupN f xs i nm = true := by
  unfold dupN at *
  simp only [List.any_eq_true] at *
  obtain ⟨y, hy, e⟩ := h
  exact ⟨y, List.take_subset_take_left _ hk hy, e⟩
end Go.Proofs.YtjpkeolielpelaaGreatDoor
namespace Go.Proofs.YtjpkeolielpelaaGreatDoor
open Go.RowKit Go.Lib
set_option linter.unusedSimpArgs false
set_option linter.unusedVariables false
/-- the error of a name in a list -/
def strE (xs : List ByteArray) (i : Nat) (x : ByteArray) : Int := firstE [nmE x, if hasS (xs.take i) x then 9 else 0]
theorem strE_eq (xs : List ByteArray) (i : Nat) (x : ByteArray) : strE xs i x = if (!decide (Nm x)) = true then 8 else if hasS (xs.take i) x = true then 9 else 0 := by
  unfold strE nmE
  by_cases q0 : Nm x <;> cases hasS (xs.take i) x <;> simp [firstE, q0]
end Go.Proofs.YtjpkeolielpelaaGreatDoor
namespace Go.Proofs.YtjpkeolielpelaaGreatDoor
open Go.RowKit Go.Lib
set_option linter.unusedSimpArgs false
set_option linter.unusedVariables false
set_option maxHeartbeats 4000000 in
set_option maxRecDepth 100000 in
theorem twiceS_c (ns : List ByteArray) (n b off cap j : Nat) (s : ByteArray) (w : World) (hn : ns.length = n) (h1 : n ≤ 160) (hcap : n ≤ cap) (hmx : cap ≤ maxLen) (hs : ns[j]? = some s) (hc : ∀ i t, ns[i]? = some t → w.cell? ⟨b, off + i, none⟩ = some (.string t)) :
    Calls Tryz.prog 92 #[.slice (some ⟨b, off, none⟩) n cap, .int .i64 j] w fun e w' => e = .returned (.int .i64 (if hasS (ns.take j) s = true then 9 else 0)) ∧ Gr w w' := by
  have hjn := (List.getElem?_eq_some_iff.1 hs).1
  have HC := Lib.hid (fun (W : World) (g : Gr w W) => containsS_pos ns j b off cap s W (by omega) (by omega) (fun i t ht => g.cell (hc i t ht)))
  generalize hasS (ns.take j) s = tB at *
  have H9 := Lib.hid (fun (W : World) => if_c tB 9 W)
  generalize (if tB = true then (9 : Int) else 0) = e9 at *
  have hs0 := hc j s hs
  have hj1 : (j : Int) ≤ cap := by omega
  have hj0 : (0 : Int) ≤ j := by omega
  have hj2 : (j : Int) < n := by omega
  clear hc hs hn
  go_enter Tryz.func92, Tryz.ntmps92
  go_wp2_with fail
  have g := (Gr.refl w).drew
  have c0 := g.cell hs0
  refine wp_region_held_drew (S := (fun w' => w'.cell? ⟨b, off + j, none⟩ = some (.string s))) (by kernel_rfl) c0 (fun hHeld => ?_)
  generalize w.drew = V at *
  refine wpAnyH_take (i := 0) (v := (.slice (some ⟨b, off, none⟩) n cap)) (op_at rfl) (by kernel_rfl) (by kernel_rfl) (by kernel_rfl) (fun _ _ _ h => h) (Or.inl ⟨rfl, fun w hSw => ?_⟩) (by assumption) ?_
  · (try dsimp only at hSw); go_simp; try with_reducible rfl
  (try simp only [Act.put, List.setIfInBounds_toArray, List.set_cons_zero, List.set_cons_succ])
  refine wpAnyH_take (i := 1) (v := (.int .i64 j)) (op_at rfl) (by kernel_rfl) (by kernel_rfl) (by kernel_rfl) (fun _ _ _ h => h) (Or.inl ⟨rfl, fun w hSw => ?_⟩) (by assumption) ?_
  · (try dsimp only at hSw); go_simp; try with_reducible rfl
  (try simp only [Act.put, List.setIfInBounds_toArray, List.set_cons_zero, List.set_cons_succ])
  refine wpAnyH_take (i := 2) (v := (.slice (some ⟨b, off, none⟩) j cap)) (op_at rfl) (by kernel_rfl) (by kernel_rfl) (by kernel_rfl) (fun _ _ _ h => h) (Or.inl ⟨rfl, fun w hSw => ?_⟩) (by assumption) ?_
  · (try dsimp only at hSw); go_simp; try with_reducible rfl
  (try simp only [Act.put, List.setIfInBounds_toArray, List.set_cons_zero, List.set_cons_succ])
  refine wpAnyH_take (i := 3) (v := (.slice (some ⟨b, off, none⟩) n cap)) (op_at rfl) (by kernel_rfl) (by kernel_rfl) (by kernel_rfl) (fun _ _ _ h => h) (Or.inl ⟨rfl, fun w hSw => ?_⟩) (by assumption) ?_
  · (try dsimp only at hSw); go_simp; try with_reducible rfl
  (try simp only [Act.put, List.setIfInBounds_toArray, List.set_cons_zero, List.set_cons_succ])
  refine wpAnyH_take (i := 4) (v := (.int .i64 j)) (op_at rfl) (by kernel_rfl) (by kernel_rfl) (by kernel_rfl) (fun _ _ _ h => h) (Or.inl ⟨rfl, fun w hSw => ?_⟩) (by assumption) ?_
  · (try dsimp only at hSw); go_simp; try with_reducible rfl
  (try simp only [Act.put, List.setIfInBounds_toArray, List.set_cons_zero, List.set_cons_succ])
  refine wpAnyH_take (i := 5) (v := (.pointer (some ⟨b, off + j, none⟩))) (op_at rfl) (by kernel_rfl) (by kernel_rfl) (by kernel_rfl) (fun _ _ _ h => h) (Or.inl ⟨rfl, fun w hSw => ?_⟩) (by assumption) ?_
  · (try dsimp only at hSw); go_simp; try with_reducible rfl
  (try simp only [Act.put, List.setIfInBounds_toArray, List.set_cons_zero, List.set_cons_succ])
  refine wpAnyH_take (i := 6) (v := (.string s)) (op_at rfl) (by kernel_rfl) (by kernel_rfl) (by kernel_rfl) (fun _ _ _ h => h) (Or.inl ⟨rfl, fun w hSw => ?_⟩) (by assumption) ?_
  · (try dsimp only at hSw); go_simp; try with_reducible rfl
  (try simp only [Act.put, List.setIfInBounds_toArray, List.set_cons_zero, List.set_cons_succ])
  refine wpAnyH_ready (rs := [7]) (by kernel_rfl) (by simp) (AllReadyH.cons (op_at rfl) (fun K hK => ?_) AllReadyH.nil)
  go_simp
  (refine (HC.out _ g).mono ?_; rintro e w' ⟨rfl, rfl⟩)
  go_wp2_with fail
  refine hK.out _ _ c0 (fun hHeld => ?_)
  clear hK K
  (try simp only [Act.put, List.setIfInBounds_toArray, List.set_cons_zero, List.set_cons_succ])
  refine wpAnyH_ready (rs := [8]) (by kernel_rfl) (by simp) (AllReadyH.cons (op_at rfl) (fun K hK => ?_) AllReadyH.nil)
  go_simp
  (refine (H9.out _).mono ?_; rintro e w' ⟨rfl, rfl⟩)
  go_wp2_with fail
  refine hK.out _ _ c0 (fun hHeld => ?_)
  clear hK K
  (try simp only [Act.put, List.setIfInBounds_toArray, List.set_cons_zero, List.set_cons_succ])
  refine wpAnyH_take (i := 9) (v := (.int .i64 e9)) (op_at rfl) (by kernel_rfl) (by kernel_rfl) (by kernel_rfl) (fun _ _ _ h => h) (Or.inl ⟨rfl, fun w hSw => ?_⟩) (by assumption) ?_
  · (try dsimp only at hSw); go_simp; try with_reducible rfl
  (try simp only [Act.put, List.setIfInBounds_toArray, List.set_cons_zero, List.set_cons_succ])
  refine wpAnyH_done (by kernel_rfl) ?_ _
  go_wp2_with fail
  go_ret
  exact ⟨rfl, g⟩
theorem nmE_not (nm : ByteArray) : nmE nm = if (!decide (Nm nm)) then 8 else 0 := by
  unfold nmE
  by_cases h : Nm nm <;> simp [h]
set_option maxHeartbeats 4000000 in
set_option maxRecDepth 100000 in
theorem oneNm_c (xs : List ByteArray) (i n b off cap B : Nat) (x : ByteArray) (w : World) (hn : xs.length = n) (h1 : n ≤ 160) (hcap : n ≤ cap) (hmx : cap ≤ maxLen) (hc : ∀ i x, xs[i]? = some x → StrAt w b (off + i) x) (hx : xs[i]? = some x)
    (hC : w.cell? ⟨B, 0, none⟩ = some (.slice (some ⟨b, off, none⟩) n cap)) :
    Calls Tryz.prog 90 #[.int .i64 i, .string x, .pointer (some ⟨B, 0, none⟩)] w fun e w' => e = .returned (.int .i64 (strE xs i x)) ∧ Gr w w' := by
  have hR : firstE [nmE x, if hasS (xs.take i) x then 9 else 0] = strE xs i x := rfl
  have HN := Lib.hid (fun W (g : Gr w W) => isName_c x W)
  have HT := Lib.hid (fun W (g : Gr w W) => twiceS_c xs n b off cap i x W hn h1 hcap hmx hx (fun i t ht => g.cell (hc i t ht).nm))
  obtain ⟨e2, he2⟩ : ∃ z, z = (if hasS (xs.take i) x = true then (9 : Int) else 0) := ⟨_, rfl⟩
  rw [← he2] at HT
  rw [show (if hasS (xs.take i) x then (9 : Int) else 0) = e2 from he2.symm, nmE_not] at hR
  generalize decide (Nm x) = nb at *
  obtain ⟨e1, he1, H1⟩ := if_e (!nb) 8
  rw [← he1] at hR
  have hF := first_pair e1 e2
  rw [hR] at hF
  generalize strE xs i x = err at *
  have HF := Lib.hid hF
  replace H1 := Lib.hid H1
  have g := (Gr.refl w).drew
  have a0 := g.cell hC
  clear hc hx hR he1 he2 hF hC hn
  go_enter Tryz.func90, Tryz.ntmps90
  go_wp2_with fail
  refine wp_region_held_drew (S := (fun w' => w'.cell? ⟨B, 0, none⟩ = some (.slice (some ⟨b, off, none⟩) n cap))) (by kernel_rfl) a0 (fun hHeld => ?_)
  generalize w.drew = V at *
  refine wpAnyH_take (i := 0) (v := (.string x)) (op_at rfl) (by kernel_rfl) (by kernel_rfl) (by kernel_rfl) (fun _ _ _ h => h) (Or.inl ⟨rfl, fun w hSw => ?_⟩) (by assumption) ?_
  · (try dsimp only at hSw); go_simp; try with_reducible rfl
  (try simp only [Act.put, List.setIfInBounds_toArray, List.set_cons_zero, List.set_cons_succ])
  refine wpAnyH_take (i := 4) (v := (.slice (some ⟨b, off, none⟩) n cap)) (op_at rfl) (by kernel_rfl) (by kernel_rfl) (by kernel_rfl) (fun _ _ _ h => h) (Or.inl ⟨rfl, fun w hSw => ?_⟩) (by assumption) ?_
  · (try dsimp only at hSw); go_simp; try with_reducible rfl
  (try simp only [Act.put, List.setIfInBounds_toArray, List.set_cons_zero, List.set_cons_succ])
  refine wpAnyH_take (i := 5) (v := (.int .i64 (i : Int))) (op_at rfl) (by kernel_rfl) (by kernel_rfl) (by kernel_rfl) (fun _ _ _ h => h) (Or.inl ⟨rfl, fun w hSw => ?_⟩) (by assumption) ?_
  · (try dsimp only at hSw); go_simp; try with_reducible rfl
  (try simp only [Act.put, List.setIfInBounds_toArray, List.set_cons_zero, List.set_cons_succ])
  refine wpAnyH_ready (rs := [1]) (by kernel_rfl) (by simp) (AllReadyH.cons (op_at rfl) (fun K hK => ?_) AllReadyH.nil)
  go_simp
  (refine (HN.out _ g).mono ?_; rintro e W1 ⟨rfl, hg⟩; replace a0 := hg.cell a0; replace g := g.trans hg; clear hg)
  go_wp2_with fail
  refine hK.out _ _ a0 (fun hHeld => ?_)
  clear hK K
  (try simp only [Act.put, List.setIfInBounds_toArray, List.set_cons_zero, List.set_cons_succ])
  refine wpAnyH_take (i := 2) (v := (.bool (!nb))) (op_at rfl) (by kernel_rfl) (by kernel_rfl) (by kernel_rfl) (fun _ _ _ h => h) (Or.inl ⟨rfl, fun w hSw => ?_⟩) (by assumption) ?_
  · (try dsimp only at hSw); go_simp; try with_reducible rfl
  (try simp only [Act.put, List.setIfInBounds_toArray, List.set_cons_zero, List.set_cons_succ])
  refine wpAnyH_ready (rs := [3]) (by kernel_rfl) (by simp) (AllReadyH.cons (op_at rfl) (fun K hK => ?_) AllReadyH.nil)
  go_simp
  (refine (H1.out _).mono ?_; rintro e w' ⟨rfl, rfl⟩)
  go_wp2_with fail
  refine hK.out _ _ a0 (fun hHeld => ?_)
  clear hK K
  (try simp only [Act.put, List.setIfInBounds_toArray, List.set_cons_zero, List.set_cons_succ])
  refine wpAnyH_ready (rs := [6]) (by kernel_rfl) (by simp) (AllReadyH.cons (op_at rfl) (fun K hK => ?_) AllReadyH.nil)
  go_simp
  (refine (HT.out _ g).mono ?_; rintro e W2 ⟨rfl, hg⟩; replace a0 := hg.cell a0; replace g := g.trans hg; clear hg)
  go_wp2_with fail
  refine hK.out _ _ a0 (fun hHeld => ?_)
  clear hK K
  (try simp only [Act.put, List.setIfInBounds_toArray, List.set_cons_zero, List.set_cons_succ])
  refine wpAnyH_ready (rs := [7]) (by kernel_rfl) (by simp) (AllReadyH.cons (op_at rfl) (fun K hK => ?_) AllReadyH.nil)
  go_simp
  obtain ⟨WW, hWW, gW, s0, s1⟩ := box2 W2 (.int .i64 e1) (.int .i64 e2) 26
  rw [hWW]
  clear hWW
  replace a0 := gW.cell a0
  replace g := g.trans gW
  refine hK.out _ _ a0 (fun hHeld => ?_)
  clear hK K
  (try simp only [Act.put, List.setIfInBounds_toArray, List.set_cons_zero, List.set_cons_succ])
  refine wpAnyH_ready (rs := [8]) (by kernel_rfl) (by simp) (AllReadyH.cons (op_at rfl) (fun K hK => ?_) AllReadyH.nil)
  go_simp
  (refine (HF.out _ _ WW s0 s1).mono ?_; rintro e w8 ⟨rfl, rfl⟩)
  go_wp2_with fail
  refine hK.out _ _ a0 (fun hHeld => ?_)
  clear hK K
  (try simp only [Act.put, List.setIfInBounds_toArray, List.set_cons_zero, List.set_cons_succ])
  refine wpAnyH_take (i := 9) (v := (.int .i64 err)) (op_at rfl) (by kernel_rfl) (by kernel_rfl) (by kernel_rfl) (fun _ _ _ h => h) (Or.inl ⟨rfl, fun w hSw => ?_⟩) (by assumption) ?_
  · (try dsimp only at hSw); go_simp; try with_reducible rfl
  (try simp only [Act.put, List.setIfInBounds_toArray, List.set_cons_zero, List.set_cons_succ])
  refine wpAnyH_done (by kernel_rfl) ?_ _
  go_wp2_with fail
  go_ret
  exact ⟨rfl, g⟩
set_option maxHeartbeats 1000000 in
set_option maxRecDepth 100000 in
theorem findNm6_pos (E : Nat → ByteArray → Int) (xs : List ByteArray) (n b off cap L : Nat) (w : World) (hn : xs.length = n) (h1 : n ≤ 1000) (hcap : n ≤ cap) (hmx : cap ≤ maxLen)
    (hc : ∀ i x, xs[i]? = some x → StrAt w b (off + i) x) (ho : ∀ (i : Nat) (x : ByteArray) (W : World), i < n → xs[i]? = some x → Gr w W → Calls Tryz.prog 90 #[.int .i64 i, .string x, .pointer (some ⟨L, 0, none⟩)] W fun e w' => e = .returned (.int .i64 (E i x)) ∧ Gr W w') (hL : w.cell? ⟨L, 0, none⟩ = some (.slice (some ⟨b, off, none⟩) n cap)) :
    Calls Tryz.prog 130 #[.slice (some ⟨b, off, none⟩) n cap, .func (.func 90) #[] #[.pointer (some ⟨L, 0, none⟩)]] w fun e w' => (∃ i : Int, e = .returned (.tuple #[.int .i64 i, .int .i64 (errG E xs n 0)])) ∧ Gr w w' := by
  have HC := Lib.hid hc
  have HN := Lib.hid hn
  have HO := Lib.hid ho
  clear hc hL hn ho
  go_enter Tryz.func130, Tryz.ntmps130
  go_wp2_with fail
  go_loopg [11] n (fun gk s11 wr => ∃ i : Nat, s11 = .int .i64 i ∧ gk + i = n ∧ Gr w wr ∧ Hid (errG E xs (n - i) i = errG E xs n 0))
  case atStart => exact ⟨0, rfl, by omega, Gr.refl _, rfl⟩
  case round =>
    obtain ⟨i, rfl, hi, hg, HF⟩ := hrel
    by_cases hlt : i < n
    · obtain ⟨x, hx⟩ : ∃ x, xs[i]? = some x := ⟨xs[i]'(by have := HN.out; omega), List.getElem?_eq_getElem _⟩
      obtain ⟨c0⟩ := (HC.out i x hx).gr hg
      have hf := errG_step (E := E) hlt hx
      have hi2 : (i : Int) < n := by omega
      have hT := fun W hg2 => HO.out i x W hlt hx hg2
      clear hx
      have gW := hg
      by_cases h0 : E i x = 0
      · rw [h0] at hT hf
        rw [if_pos rfl] at hf
        have HT := Lib.hid hT
        have HF2 := Lib.hid hf
        clear hT hf h0
        go_wp2_with fail
        refine (HT.out _ gW).mono ?_
        rintro e w4 ⟨rfl, hg2⟩
        go_wp2_with fail
        go_roundg (gk - 1)
        case measure => omega
        case rel => exact ⟨i + 1, by go_num, by omega, gW.trans hg2, by unfold Hid; rw [← HF2.out, HF.out]⟩
      · rw [if_neg h0] at hf
        generalize E i x = z at *
        have q1 : (z == 0) = false := by simpa using h0
        have q2 : (z != 0) = true := by simpa [bne] using q1
        have HT := Lib.hid hT
        have HF2 := Lib.hid hf
        clear hT hf
        go_wp2_with fail
        refine (HT.out _ gW).mono ?_
        rintro e w4 ⟨rfl, hg2⟩
        go_wp2_with fail
        exact bodyPost_ret (v := .tuple #[.int .i64 i, .int .i64 z]) (by simp [results, Tryz.results130, go_sem]) rfl ⟨⟨i, by rw [← HF.out, HF2.out]⟩, gW.trans hg2⟩
    · have hin : i = n := by omega
      have HE2 : Hid (errG E xs (n - i) i = 0) := by unfold Hid; rw [hin, Nat.sub_self]; rfl
      have hi2 : (n : Int) ≤ i := by omega
      clear hin
      go_wp2_with fail
      exact bodyPost_ret (v := .tuple #[.int .i64 0, .int .i64 0]) (by simp [results, Tryz.results130, go_sem]) rfl ⟨⟨0, by rw [← HF.out, HE2.out]⟩, hg⟩
theorem eachNm6_pos (E : Nat → ByteArray → Int) (xs : List ByteArray) (n b off cap L : Nat) (w : World) (hn : xs.length = n) (h1 : n ≤ 1000) (hcap : n ≤ cap) (hmx : cap ≤ maxLen)
    (hc : ∀ i x, xs[i]? = some x → StrAt w b (off + i) x) (ho : ∀ (i : Nat) (x : ByteArray) (W : World), i < n → xs[i]? = some x → Gr w W → Calls Tryz.prog 90 #[.int .i64 i, .string x, .pointer (some ⟨L, 0, none⟩)] W fun e w' => e = .returned (.int .i64 (E i x)) ∧ Gr W w') (hL : w.cell? ⟨L, 0, none⟩ = some (.slice (some ⟨b, off, none⟩) n cap)) :
    Calls Tryz.prog 89 #[.slice (some ⟨b, off, none⟩) n cap, .func (.func 90) #[] #[.pointer (some ⟨L, 0, none⟩)]] w fun e w' => e = .returned (.int .i64 (errG E xs n 0)) ∧ Gr w w' := by
  have HF := Lib.hid (findNm6_pos E xs n b off cap L w hn h1 hcap hmx hc ho hL)
  generalize errG E xs n 0 = z at *
  clear hc hL hn ho
  go_enter Tryz.func89, Tryz.ntmps89
  go_wp2_with fail
  refine HF.out.mono ?_
  rintro e w4 ⟨⟨i, rfl⟩, hg⟩
  go_wp2_with fail
  go_ret
  exact ⟨rfl, hg⟩
theorem findNm6_nil (p : Option Addr) (cap L : Nat) (w : World) :
    Calls Tryz.prog 130 #[.slice p 0 cap, .func (.func 90) #[] #[.pointer (some ⟨L, 0, none⟩)]] w fun e w' => (∃ i : Int, e = .returned (.tuple #[.int .i64 i, .int .i64 0])) ∧ w = w' := by
  go_enter Tryz.func130, Tryz.ntmps130
  go_wp2_with fail
  refine wp_loop_rounds 2 ?_
  rw [rounds_succ]
  go_wp2_with fail
  exact bodyPost_ret (v := .tuple #[.int .i64 0, .int .i64 0]) (by simp [results, Tryz.results130, go_sem]) rfl ⟨⟨0, rfl⟩, rfl⟩
theorem eachNm6_nil (p : Option Addr) (cap L : Nat) (w : World) :
    Calls Tryz.prog 89 #[.slice p 0 cap, .func (.func 90) #[] #[.pointer (some ⟨L, 0, none⟩)]] w fun e w' => e = .returned (.int .i64 0) ∧ w = w' := by
  have HF := Lib.hid (findNm6_nil p cap L w)
  go_enter Tryz.func89, Tryz.ntmps89
  go_wp2_with fail
  refine HF.out.mono ?_
  rintro e w4 ⟨⟨i, rfl⟩, rfl⟩
  go_wp2_with fail
  go_ret
  exact ⟨rfl, rfl⟩
/-- the error of the names of a bracket -/
def namesE (xs : List ByteArray) : Int := if xs.length = 0 then 12 else if 64 < xs.length then 5 else errG (strE xs) xs xs.length 0
set_option maxHeartbeats 4000000 in
set_option maxRecDepth 100000 in
theorem checkNm6_c (xs : List ByteArray) (v : Value) (w : World) (hv : StrAts w v xs) :
    Calls Tryz.prog 50 #[v] w fun e w' => e = .returned (.int .i64 (namesE xs)) ∧ Gr w w' := by
  obtain ⟨⟨p, cap, rfl, ⟨hcap, hmx⟩, hh⟩⟩ := hv
  obtain ⟨W, hW, g, l0⟩ := box1 w (.slice p xs.length cap) 23
  have HW := Lib.hid hW
  rcases Nat.eq_zero_or_pos xs.length with h0 | h0
  · have HE : Hid (namesE xs = 12) := by unfold Hid namesE; rw [if_pos h0]
    clear hW hh l0
    rw [h0] at HW ⊢
    go_enter Tryz.func50, Tryz.ntmps50
    go_wp2_with fail
    go_ret
    exact ⟨by rw [HE.out]; rfl, by rw [HW.out]; exact g⟩
  have hz : ((xs.length : Int) == 0) = false := beq_eq_false_iff_ne.2 (by omega)
  rcases Nat.lt_or_ge 64 xs.length with hl | hl
  · have HE : Hid (namesE xs = 5) := by unfold Hid namesE; rw [if_neg (by omega), if_pos hl]
    have hl2 : decide ((64 : Int) < (xs.length : Int)) = true := decide_eq_true (by omega)
    have hl3 : ¬ (xs.length : Int) = 0 := by omega
    clear hW hh l0
    generalize xs.length = n at *
    go_enter Tryz.func50, Tryz.ntmps50
    go_wp2_with fail
    go_ret
    exact ⟨by rw [HE.out]; rfl, by rw [HW.out]; exact g⟩
  · have HE : Hid (namesE xs = errG (strE xs) xs xs.length 0) := by unfold Hid namesE; rw [if_neg (by omega), if_neg (by omega)]
    have hl2 : decide ((64 : Int) < (xs.length : Int)) = false := decide_eq_false (by omega)
    have hl3 : ¬ (xs.length : Int) = 0 := by omega
    have HK : Hid (∀ W2, Gr W W2 → Calls Tryz.prog 89 #[.slice p xs.length cap, .func (.func 90) #[] #[.pointer (some ⟨w.heap.size, 0, none⟩)]] W2 fun e w' => e = .returned (.int .i64 (errG (strE xs) xs xs.length 0)) ∧ Gr W2 w') := by
      intro W2 g2
      obtain ⟨b, off, rfl, hc⟩ := hh h0
      exact eachNm6_pos (strE xs) xs xs.length b off cap w.heap.size W2 rfl (by omega) hcap hmx (fun i x hx => (hc i x hx).gr (g.trans g2)) (fun i x W3 hi hx hg => oneNm_c xs i xs.length b off cap w.heap.size x W3 rfl (by omega) hcap hmx (fun i x hx => (hc i x hx).gr ((g.trans g2).trans hg)) hx ((g2.trans hg).cell l0)) (g2.cell l0)
    rw [HE.out]
    generalize errG (strE xs) xs xs.length 0 = z at *
    clear hW hh HE
    generalize xs.length = n at *
    go_enter Tryz.func50, Tryz.ntmps50
    go_wp2_with fail
    rw [HW.out]
    refine (HK.out _ (Gr.refl _)).mono ?_
    rintro e w4 ⟨rfl, hg⟩
    go_wp2_with fail
    go_ret
    exact ⟨rfl, g.trans hg⟩
end Go.Proofs.YtjpkeolielpelaaGreatDoor
namespace Go.Proofs.YtjpkeolielpelaaGreatDoor
open Go.RowKit Go.Lib
set_option linter.unusedSimpArgs false
set_option linter.unusedVariables false
theorem hasS_not {a : List ByteArray} {i : Nat} {x : ByteArray} (h : ∀ (j : Nat) (z : ByteArray), j < i → a[j]? = some z → (z.toList == x.toList) = false) : hasS (a.take i) x = false := by
  unfold hasS
  rw [List.any_eq_false]
  intro z hz
  obtain ⟨j, hj⟩ := List.mem_iff_getElem?.1 hz
  rw [List.getElem?_take] at hj
  split at hj
  · rename_i hji
    have := h j z hji hj
    first
      | (rw [this]; simp)
      | (have e := this; rw [Bool.beq_comm] at e; rw [e]; simp)
      | (simp at this ⊢; exact this)
      | (simp at this ⊢; exact fun q => this q.symm)
  · cases hj
theorem hasS_yes {a : List ByteArray} {i k : Nat} {x z : ByteArray} (hk : k < i) (hz : a[k]? = some z) (h : (z.toList == x.toList) = true) : hasS (a.take i) x = true := by
  unfold hasS
  rw [List.any_eq_true]
  refine ⟨z, List.mem_iff_getElem?.2 ⟨k, by rw [List.getElem?_take, if_pos hk]; exact hz⟩, ?_⟩
  first
    | exact h
    | (rw [Bool.beq_comm]; exact h)
    | (simp at h ⊢; exact h)
    | (simp at h ⊢; exact h.symm)
set_option maxHeartbeats 4000000 in
set_option maxRecDepth 100000 in
theorem refNm6_c (xs : List ByteArray) (v : Value) (w : World) (hv : StrAts w v xs) :
    Calls Tryz.prog 16 #[v] w fun e w' => e = .returned (.int .i64 (namesE xs)) ∧ Gr w w' := by
  obtain ⟨⟨p, cap, rfl, _, hh⟩⟩ := hv
  obtain ⟨m, hm⟩ : ∃ m, m = xs.length := ⟨_, rfl⟩
  have HH := Lib.hid hh
  rw [← hm] at HH ⊢
  have HL := Lib.hid hm
  clear hh
  rcases Nat.eq_zero_or_pos m with h0 | h0
  · have HE : Hid (namesE xs = 12) := by unfold Hid namesE; rw [if_pos (by omega)]
    subst h0
    clear hm
    go_enter Tryz.func16, Tryz.ntmps16
    go_wp2_with fail
    go_ret
    exact ⟨by rw [HE.out]; rfl, Gr.refl _⟩
  have hz : ((m : Int) == 0) = false := beq_eq_false_iff_ne.2 (by omega)
  have hz0 : ¬ (m : Int) = 0 := by omega
  by_cases hl : 64 < m
  · have HE : Hid (namesE xs = 5) := by unfold Hid namesE; rw [if_neg (by omega), if_pos (by omega)]
    have hl2 : (64 : Int) < (m : Int) := by omega
    clear hm
    go_enter Tryz.func16, Tryz.ntmps16
    go_wp2_with fail
    go_ret
    exact ⟨by rw [HE.out]; rfl, Gr.refl _⟩
  have HE : Hid (namesE xs = errG (strE xs) xs m 0) := by unfold Hid namesE; rw [if_neg (by omega), if_neg (by omega), ← hm]
  have hl2 : ¬ (64 : Int) < (m : Int) := by omega
  have HNM := Lib.hid (fun (s : ByteArray) W => refIsName_c s W)
  clear hm
  go_enter Tryz.func16, Tryz.ntmps16
  go_wp2_with fail
  go_loopg [3, 4] m (fun gk s3 s4 wr => ∃ i : Nat, s3 = .int .i64 (i : Int) ∧ gk + i = m ∧ Hid (Gr w wr) ∧ Hid (errG (strE xs) xs (m - i) i = errG (strE xs) xs m 0))
  case atStart => exact ⟨0, rfl, by omega, Gr.refl _, rfl⟩
  case round =>
    obtain ⟨i, rfl, hgk, HG, HF⟩ := hrel
    obtain ⟨GK, rfl⟩ : ∃ G, G = gk := ⟨gk, rfl⟩
    by_cases hlt : i < m
    · obtain ⟨x, hx⟩ : ∃ x, xs[i]? = some x := ⟨xs[i]'(by have := HL.out; omega), List.getElem?_eq_getElem _⟩
      obtain ⟨b, off, rfl, hc⟩ := HH.out (by omega)
      have c0 := HG.out.cell (hc i x hx).nm
      have hii : (i : Int) < m := by omega
      have hst := errG_step (E := strE xs) hlt hx
      rw [HF.out] at hst
      have HC := Lib.hid hc
      have HX := Lib.hid hx
      have HNx := Lib.hid (HNM.out x)
      by_cases hn : Nm x
      case neg =>
        have n1 : decide (Nm x) = false := decide_eq_false hn
        rw [n1] at HNx
        have HR : Hid (errG (strE xs) xs m 0 = 8) := by
          unfold Hid
          have e1 : strE xs i x = 8 := by unfold strE nmE; rw [if_neg hn]; rfl
          rw [hst, e1, if_neg (by decide)]
        clear hst hc hx hn n1
        go_wp2_with fail
        refine (HNx.out _).mono ?_
        rintro e w9 ⟨rfl, rfl⟩
        go_wp2_with fail
        go_ret
        exact ⟨by rw [HE.out, HR.out]; rfl, HG.out⟩
      have n1 : decide (Nm x) = true := decide_eq_true hn
      rw [n1] at HNx
      have he1 : strE xs i x = if hasS (xs.take i) x then 9 else 0 := by unfold strE nmE; rw [if_pos hn]; cases hasS (xs.take i) x <;> rfl
      rw [he1] at hst
      have HST := Lib.hid hst
      clear hst hc hx he1 hn n1
      go_wp2_with fail
      refine (HNx.out _).mono ?_
      rintro e w9 ⟨rfl, rfl⟩
      go_wp2_with fail
      go_loopg [4] i (fun gk s4 wr => ∃ k : Nat, s4 = .int .i64 (k : Int) ∧ gk + k = i ∧ Hid (Gr w wr) ∧ Hid (∀ (j : Nat) (z : ByteArray), j < k → xs[j]? = some z → (z.toList == x.toList) = false))
      case atStart => exact ⟨0, rfl, by omega, HG.out, fun j z h => absurd h (by omega)⟩
      case round =>
        clear c0 HG
        obtain ⟨k, rfl, hgk2, HG, HN⟩ := hrel
        by_cases hki : k < i
        · obtain ⟨y, hy⟩ : ∃ y, xs[k]? = some y := ⟨xs[k]'(by have := HL.out; omega), List.getElem?_eq_getElem _⟩
          have c0 := HG.out.cell (HC.out i x HX.out).nm
          have c1 := HG.out.cell (HC.out k y hy).nm
          have hkk : (k : Int) < i := by omega
          have hkm : (k : Int) < m := by omega
          cases hb : (y.toList == x.toList)
          · have hb' : (x.toList == y.toList) = false := by rw [← hb]; exact Bool.beq_comm
            have HN2 : Hid (∀ (j : Nat) (z : ByteArray), j < k + 1 → xs[j]? = some z → (z.toList == x.toList) = false) := fun j z hj hz => by
              by_cases e : j = k
              · subst e
                rw [hy] at hz
                cases hz
                exact hb
              · exact HN.out j z (by omega) hz
            clear hy
            go_wp2_with fail
            go_big_quiet (fail)
            go_wp2_with fail
            go_roundg (gk - 1)
            case measure => omega
            case rel => exact ⟨k + 1, by go_num, by omega, HG.out.drewN _, HN2.out⟩
          · have hb' : (x.toList == y.toList) = true := by rw [← hb]; exact Bool.beq_comm
            have HR : Hid (errG (strE xs) xs m 0 = 9) := by
              unfold Hid
              rw [HST.out, hasS_yes hki hy hb]
              rfl
            clear hy
            go_wp2_with fail
            go_big_quiet (fail)
            go_wp2_with fail
            go_ret
            exact ⟨by rw [HE.out, HR.out]; rfl, HG.out.drewN _⟩
        · obtain rfl : k = i := by omega
          have hkk : (k : Int) ≤ k := by omega
          have HF2 : Hid (errG (strE xs) xs (m - (k + 1)) (k + 1) = errG (strE xs) xs m 0) := by
            unfold Hid
            rw [HST.out, hasS_not HN.out]
            rfl
          go_wp2_with fail
          go_roundg (GK - 1)
          case measure => omega
          case rel => exact ⟨k + 1, by go_num, by omega, HG.out, HF2.out⟩
    · obtain rfl : i = m := by omega
      have hii : (i : Int) ≤ i := by omega
      have HR : Hid (errG (strE xs) xs i 0 = 0) := by
        unfold Hid
        rw [← HF.out, Nat.sub_self]
        rfl
      go_wp2_with fail
      go_ret
      exact ⟨by rw [HE.out, HR.out]; rfl, HG.out⟩
theorem nil_str : (⟨#[]⟩ : ByteArray).toList = [] := by rw [ByteArray.toList_eq]
end Go.Proofs.YtjpkeolielpelaaGreatDoor
