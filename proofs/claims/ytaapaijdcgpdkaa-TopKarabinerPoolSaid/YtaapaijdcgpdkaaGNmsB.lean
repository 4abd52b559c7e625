/- Names among names: slices.Index, Contains; the reference's HasWord. -/
import Derived.Test.YtaapaijdcgpdkaaGChecks
import Derived.Test.YtaapaijdcgpdkaaGMbA
import Derived.Test.YtaapaijdcgpdkaaNmsA
import Derived.Test.YtaapaijdcgpdkaaTsA
namespace Go.Proofs.Ytaapaijdcgpdkaa
open Go.RowKit Go.Lib
set_option linter.unusedSimpArgs false
set_option linter.unusedVariables false
/-- whether a name is among names -/
def hasS (ns : List ByteArray) (s : ByteArray) : Bool := ns.any fun t => s.toList == t.toList
/-- the first place of a name, from a place on -/
def findS (s : ByteArray) (ns : List ByteArray) : Nat → Nat → Int
  | 0, _ => -1
  | k + 1, i => match ns[i]? with
    | some t => if s.toList == t.toList then i else findS s ns k (i + 1)
    | none => -1
theorem findS_step {s : ByteArray} {ns : List ByteArray} {i n : Nat} {t : ByteArray} (h : ns[i]? = some t) (hi : i < n) : findS s ns (n - i) i = if s.toList == t.toList then (i : Int) else findS s ns (n - (i + 1)) (i + 1) := by
  obtain ⟨k, hk⟩ : ∃ k, n - i = k + 1 := ⟨n - i - 1, by omega⟩
  rw [hk, show n - (i + 1) = k by omega]
  simp only [findS, h]
theorem findS_any (s : ByteArray) (ns : List ByteArray) : ∀ (k i : Nat), i + k ≤ ns.length → decide (0 ≤ findS s ns k i) = hasS ((ns.drop i).take k) s
  | 0, i, h => by simp [findS, hasS]
  | k + 1, i, h => by
    have hi : i < ns.length := by omega
    have ih := findS_any s ns k (i + 1) (by omega)
    unfold hasS at *
    rw [List.drop_eq_getElem_cons hi, List.take_succ_cons, List.any_cons, ← ih]
    simp only [findS, List.getElem?_eq_getElem hi]
    cases s.toList == ns[i].toList <;> simp
set_option maxHeartbeats 1000000 in
set_option maxRecDepth 100000 in
theorem indexS_pos (ns : List ByteArray) (n b off cap : Nat) (s : ByteArray) (w : World) (hn : n ≤ ns.length) (h1 : n ≤ 1000) (hc : ∀ i t, ns[i]? = some t → w.cell? ⟨b, off + i, none⟩ = some (.string t)) :
    Calls Try.prog 58 #[.slice (some ⟨b, off, none⟩) n cap, .string s] w fun e w' => e = .returned (.int .i64 (findS s ns n 0)) ∧ w = w' := by
  have HC := Lib.hid hc
  have HX := Lib.hid (fun k (h : k < n) => (show ∃ x, ns[k]? = some x from ⟨ns[k]'(by omega), List.getElem?_eq_getElem _⟩))
  have HS := Lib.hid (fun i t (h : ns[i]? = some t) (hi : i < n) => findS_step (s := s) h hi)
  have HE : Hid (findS s ns 0 n = -1) := rfl
  clear hc hn
  generalize findS s ns = F at *
  go_enter Try.func58, Try.ntmps58
  go_wp2_with fail
  go_loopg [8] n (fun gk s8 wr => ∃ i : Nat, s8 = .int .i64 i ∧ gk + i = n ∧ wr = w ∧ Hid (F (n - i) i = F n 0))
  case atStart => exact ⟨0, rfl, by omega, rfl, by simp [Hid]⟩
  case round =>
    obtain ⟨i, rfl, hi, rfl, HF⟩ := hrel
    by_cases hlt : i < n
    · obtain ⟨t, ht⟩ := HX.out i hlt
      have c0 := HC.out i t ht
      have hst := HS.out i t ht hlt
      have hi2 : (i : Int) < n := by omega
      cases hh : (s.toList == t.toList)
      · rw [hh] at hst
        have HST := Lib.hid hst
        have hne : ¬ s.toList = t.toList := by simpa using hh
        clear hst ht
        go_wp2_with fail
        go_roundg (gk - 1)
        case measure => omega
        case rel => exact ⟨i + 1, by go_num, by omega, rfl, by have := HF.out; rw [HST.out] at this; simpa [Hid] using this⟩
      · rw [hh] at hst
        have HST := Lib.hid hst
        have hne : s.toList = t.toList := by simpa using hh
        clear hst ht
        go_wp2_with fail
        go_ret
        have q : F n 0 = i := by have := HF.out; rw [HST.out] at this; simpa using this.symm
        exact ⟨by rw [q]; rfl, rfl⟩
    · obtain rfl : i = n := by omega
      have := HF.out
      rw [Nat.sub_self, HE.out] at this
      have HT := Lib.hid this
      clear this
      go_wp2_with fail
      go_ret
      exact ⟨by rw [← HT.out]; rfl, rfl⟩
theorem containsS_pos (ns : List ByteArray) (n b off cap : Nat) (s : ByteArray) (w : World) (hn : n ≤ ns.length) (h1 : n ≤ 1000) (hc : ∀ i t, ns[i]? = some t → w.cell? ⟨b, off + i, none⟩ = some (.string t)) :
    Calls Try.prog 40 #[.slice (some ⟨b, off, none⟩) n cap, .string s] w fun e w' => e = .returned (.bool (hasS (ns.take n) s)) ∧ w = w' := by
  have HI := Lib.hid (indexS_pos ns n b off cap s w hn h1 hc)
  have HE : Hid (hasS (ns.take n) s = decide (0 ≤ findS s ns n 0)) := by
    unfold Hid; rw [findS_any s ns n 0 (by omega), List.drop_zero]
  clear hc
  generalize findS s ns n 0 = z at *
  go_enter Try.func40, Try.ntmps40
  go_wp2_with (refine HI.out.mono ?_; rintro e w4 ⟨rfl, rfl⟩)
  go_ret
  exact ⟨by rw [HE.out]; rfl, rfl⟩
theorem indexS_nil (p : Option Addr) (cap : Nat) (s : ByteArray) (w : World) :
    Calls Try.prog 58 #[.slice p 0 cap, .string s] w fun e w' => e = .returned (.int .i64 (-1)) ∧ w = w' := by
  go_enter Try.func58, Try.ntmps58
  go_wp2_with fail
  refine wp_loop_rounds 2 ?_
  rw [rounds_succ]
  go_wp2_with fail
  go_ret
  exact ⟨rfl, rfl⟩
theorem containsS_nil (p : Option Addr) (cap : Nat) (s : ByteArray) (w : World) :
    Calls Try.prog 40 #[.slice p 0 cap, .string s] w fun e w' => e = .returned (.bool false) ∧ w = w' := by
  have HI := Lib.hid (indexS_nil p cap s w)
  go_enter Try.func40, Try.ntmps40
  go_wp2_with (refine HI.out.mono ?_; rintro e w4 ⟨rfl, rfl⟩)
  go_ret
  exact ⟨rfl, rfl⟩
theorem hasS_succ {ns : List ByteArray} {k : Nat} {t : ByteArray} (h : ns[k]? = some t) (s : ByteArray) : hasS (ns.take (k + 1)) s = (hasS (ns.take k) s || (s.toList == t.toList)) := by
  rw [List.take_add_one, h]; unfold hasS; simp
theorem hasS_le {ns : List ByteArray} {s : ByteArray} {j n : Nat} (hj : j ≤ n) (h : hasS (ns.take j) s = true) : hasS (ns.take n) s = true := by
  unfold hasS at *
  rw [List.any_eq_true] at *
  obtain ⟨t, ht, he⟩ := h
  exact ⟨t, (List.take_subset_take_left ns hj) ht, he⟩
set_option maxHeartbeats 1000000 in
set_option maxRecDepth 100000 in
theorem hasWordT_c (ns : List ByteArray) (q : Option Addr) (n c : Nat) (s : ByteArray) (w : World) (hn : n ≤ ns.length) (h1 : n ≤ 1000) (hh : 0 < n → ∃ b off, q = some ⟨b, off, none⟩ ∧ ∀ i t, ns[i]? = some t → w.cell? ⟨b, off + i, none⟩ = some (.string t)) :
    Calls Try.prog 12 #[.slice q n c, .string s] w fun e w' => e = .returned (.bool (hasS (ns.take n) s)) ∧ w = w' := by
  have HS := Lib.hid (fun k (h : k < n) => (show ∃ x, ns[k]? = some x from ⟨ns[k]'(by omega), List.getElem?_eq_getElem _⟩))
  have HH := Lib.hid hh
  have HL := Lib.hid (fun j (h : hasS (ns.take j) s = true) (hj : j ≤ n) => hasS_le hj h)
  clear hh hn
  go_enter Try.func12, Try.ntmps12
  go_wp2_with fail
  go_loopg [5] n (fun gk s5 wr => ∃ i : Nat, s5 = .int .i64 i ∧ gk + i = n ∧ wr = w ∧ Hid (hasS (ns.take i) s = false))
  case atStart => exact ⟨0, rfl, by omega, rfl, by simp [Hid, hasS]⟩
  case round =>
    obtain ⟨i, rfl, hi, rfl, HF⟩ := hrel
    by_cases hlt : i < n
    · obtain ⟨t, ht⟩ := HS.out i hlt
      obtain ⟨b, off, rfl, hc⟩ := HH.out (by omega)
      have c0 := hc i t ht
      have hst := hasS_succ ht s
      rw [HF.out, Bool.false_or] at hst
      have hi2 : (i : Int) < n := by omega
      clear ht hc
      by_cases hne : t.toList = s.toList
      · have hb : (s.toList == t.toList) = true := by rw [hne]; simp
        have hb2 : (t.toList == s.toList) = true := by rw [hne]; simp
        rw [hb] at hst
        have HQ : Hid (hasS (ns.take n) s = true) := HL.out _ hst (by omega)
        clear hst hb
        go_wp2_with fail
        go_ret
        exact ⟨by rw [HQ.out]; rfl, rfl⟩
      · have hb : (s.toList == t.toList) = false := beq_eq_false_iff_ne.2 (fun e => hne e.symm)
        have hb2 : (t.toList == s.toList) = false := beq_eq_false_iff_ne.2 hne
        rw [hb] at hst
        have HST := Lib.hid hst
        clear hst hb
        go_wp2_with fail
        go_roundg (gk - 1)
        case measure => omega
        case rel => exact ⟨i + 1, by go_num, by omega, rfl, HST⟩
    · obtain rfl : i = n := by omega
      have HQ : Hid (hasS (ns.take i) s = false) := HF
      go_wp2_with fail
      go_ret
      exact ⟨by rw [HQ.out]; rfl, rfl⟩
end Go.Proofs.Ytaapaijdcgpdkaa
namespace Go.Proofs.Ytaapaijdcgpdkaa
open Go.RowKit Go.Lib
set_option linter.unusedSimpArgs false
set_option linter.unusedVariables false
theorem refOutside_c (n l h : Int) (w : World) :
    Calls Try.prog 17 #[.int .i64 n, .int .i64 l, .int .i64 h] w fun e w' => e = .returned (.bool (outB n l h)) ∧ w = w' := by
  have HE : Hid (outB n l h = (decide (n < l) || decide (h < n))) := rfl
  cases h1 : decide (n < l) <;> cases h2 : decide (h < n)
  all_goals
    rw [h1, h2] at HE
    go_enter Try.func17, Try.ntmps17
    go_wp2_with fail
    go_ret
    exact ⟨by rw [HE.out]; rfl, rfl⟩
theorem dupN_succ {α : Type} (f : α → ByteArray) {xs : List α} {k : Nat} {y : α} (h : xs[k]? = some y) (nm : ByteArray) : dupN f xs (k + 1) nm = (dupN f xs k nm || ((f y).toList == nm.toList)) := by
  unfold dupN
  rw [List.take_add_one, h]
  simp
theorem dupN_le {α : Type} (f : α → ByteArray) {xs : List α} {k i : Nat} (hk : k ≤ i) {nm : ByteArray} (h : dupN f xs k nm = true) : dupN f xs i nm = true := by
  unfold dupN at *
  simp only [List.any_eq_true] at *
  obtain ⟨y, hy, e⟩ := h
  exact ⟨y, List.take_subset_take_left _ hk hy, e⟩
end Go.Proofs.Ytaapaijdcgpdkaa
namespace Go.Proofs.Ytaapaijdcgpdkaa
open Go.RowKit Go.Lib
set_option linter.unusedSimpArgs false
set_option linter.unusedVariables false
/-- the error of a name in a list -/
def strE (xs : List ByteArray) (i : Nat) (x : ByteArray) : Int := firstE [nmE x, if hasS (xs.take i) x then 9 else 0]
set_option maxHeartbeats 1000000 in
set_option maxRecDepth 100000 in
theorem oneStr_c (xs : List ByteArray) (i b off cap : Nat) (x : ByteArray) (w : World) (hi : i ≤ xs.length) (h1 : xs.length ≤ 1000) (hc : ∀ i x, xs[i]? = some x → StrAt w b (off + i) x) :
    Calls Try.prog 37 #[.slice (some ⟨b, off, none⟩) i cap, .string x] w fun e w' => e = .returned (.int .i64 (strE xs i x)) ∧ Gr w w' := by
  have hR : strE xs i x = firstE [nmE x, if hasS (xs.take i) x then 9 else 0] := rfl
  have HH := Lib.hid (fun W (g : Gr w W) => containsS_pos xs i b off cap x W hi (by omega) (fun j y hy => ((hc j y hy).gr g).nm))
  generalize hasS (xs.take i) x = dd at *
  obtain ⟨e1, h1', H1⟩ := name_e x
  obtain ⟨e2, h2', H2⟩ := if_e dd 9
  rw [← h1', ← h2'] at hR
  have hF := first_pair e1 e2
  rw [← hR] at hF
  generalize strE xs i x = err at *
  replace H1 := Lib.hid H1
  replace H2 := Lib.hid H2
  have HF := Lib.hid hF
  clear hF hR h1' h2' hc
  go_enter Try.func37, Try.ntmps37
  go_wp2_with fail
  refine (H1.out _).mono ?_
  rintro e W1 ⟨rfl, hg⟩
  go_wp2_with fail
  refine (HH.out _ hg).mono ?_
  rintro e W2 ⟨rfl, rfl⟩
  go_wp2_with fail
  refine (H2.out _).mono ?_
  rintro e W2 ⟨rfl, rfl⟩
  go_wp2_with fail
  obtain ⟨WW, hWW, gW, s0, s1⟩ := box2 W1 (.int .i64 e1) (.int .i64 e2) 35
  rw [hWW]
  refine (HF.out _ _ WW s0 s1).mono ?_
  rintro e W8 ⟨rfl, rfl⟩
  go_wp2_with fail
  go_ret
  exact ⟨rfl, hg.trans gW⟩
theorem checkNms_c (xs : List ByteArray) (m : Nat) (v : Value) (w : World) (hm : m ≤ 1000) (hv : StrAts w v xs) :
    Calls Try.prog 23 #[v, .int .i64 m] w fun e w' => e = .returned (.int .i64 (listE m (strE xs) xs)) ∧ Gr w w' := by
  have HL := Lib.hid (listStr_c (strE xs) xs m v w hm hv (fun p b off cap hp hl i x W hi hx hg => by
    obtain ⟨⟨p', cap', h1, h2, h3⟩⟩ := hv
    obtain ⟨b', off', h4, h5⟩ := h3 (by omega)
    rw [hp] at h1
    subst h4
    simp only [Value.slice.injEq, Option.some.injEq, Addr.mk.injEq, and_true] at h1
    obtain ⟨⟨rfl, rfl⟩, _, _⟩ := h1
    exact oneStr_c xs i b off cap x W (by omega) (by omega) (fun j y hy => (h5 j y hy).gr hg)))
  generalize listE m (strE xs) xs = z at *
  obtain ⟨p, n, cap, rfl⟩ : ∃ p n cap, v = .slice p n cap := by
    obtain ⟨⟨p, cap, rfl, _⟩⟩ := hv
    exact ⟨p, _, cap, rfl⟩
  clear hv
  go_enter Try.func23, Try.ntmps23
  go_wp2_with fail
  refine HL.out.mono ?_
  rintro e w4 ⟨rfl, hg⟩
  go_wp2_with fail
  go_ret
  exact ⟨rfl, hg⟩
theorem strE_eq (xs : List ByteArray) (i : Nat) (x : ByteArray) : strE xs i x = if (!decide (Nm x)) = true then 8 else if hasS (xs.take i) x = true then 9 else 0 := by
  unfold strE nmE
  by_cases q0 : Nm x <;> cases hasS (xs.take i) x <;> simp [firstE, q0]
set_option maxHeartbeats 1000000 in
set_option maxRecDepth 100000 in
theorem refNms_pos (xs : List ByteArray) (n b off cap : Nat) (w : World) (hn : xs.length = n) (h1 : n ≤ 1000) (hcap : n ≤ cap) (hc : ∀ i x, xs[i]? = some x → StrAt w b (off + i) x) :
    Calls Try.prog 15 #[.slice (some ⟨b, off, none⟩) n cap] w fun e w' => e = .returned (.int .i64 (errG (strE xs) xs n 0)) ∧ Gr w w' := by
  have HC := Lib.hid hc
  have HN := Lib.hid hn
  clear hc hn
  go_enter Try.func15, Try.ntmps15
  go_wp2_with fail
  go_loopg [3] n (fun gk s3 wr => ∃ i : Nat, s3 = .int .i64 i ∧ gk + i = n ∧ Gr w wr ∧ Hid (errG (strE xs) xs (n - i) i = errG (strE xs) xs n 0))
  case atStart => exact ⟨0, rfl, by omega, Gr.refl _, by simp [Hid]⟩
  case round =>
    obtain ⟨i, rfl, hi, hg, HF⟩ := hrel
    by_cases hlt : i < n
    · obtain ⟨x, hx⟩ : ∃ x, xs[i]? = some x := ⟨xs[i]'(by have := HN.out; omega), List.getElem?_eq_getElem _⟩
      obtain ⟨c0⟩ := (HC.out i x hx).gr hg
      have hf := errG_step (E := strE xs) hlt hx
      rw [strE_eq] at hf
      have hi2 : (i : Int) < n := by omega
      have hi3 : (i : Int) ≤ cap := by omega
      have hi4 : (0 : Int) ≤ i := by omega
      have hN0 := fun W => refIsName_c x W
      have HO := Lib.hid (fun W (g : Gr wr W) => hasWordT_c xs (some ⟨b, off, none⟩) i cap x W (by have := HN.out; omega) (by omega) (fun _ => ⟨b, off, rfl, fun j y hy => ((HC.out j y hy).gr (hg.trans g)).nm⟩))
      clear hx
      generalize decide (Nm x) = n0 at hf hN0
      generalize hasS (xs.take i) x = dd at hf HO
      replace hN0 := Lib.hid hN0
      have HF0 := Lib.hid hf
      clear hf
      cases n0
      · have HF1 := HF0.out
        simp only [Bool.not_true, Bool.not_false, if_true, show ¬ (8 : Int) = 0 by decide, if_false] at HF1
        have HF2 := Lib.hid HF1
        clear HF1 HF0
        go_wp2_with fail
        refine (hN0.out _).mono ?_
        rintro e w4 ⟨rfl, rfl⟩
        go_wp2_with fail
        go_ret
        exact ⟨by rw [← HF.out, HF2.out]; rfl, hg⟩
      have HF1 := HF0.out
      simp only [Bool.not_true, Bool.false_eq_true, if_false] at HF1
      have HF2 := Lib.hid HF1
      clear HF1 HF0
      go_wp2_with fail
      refine (hN0.out _).mono ?_
      rintro e w4 ⟨rfl, rfl⟩
      go_wp2_with fail
      have g9 := (Gr.refl wr).drew
      replace c0 := g9.cell c0
      have hg9 := hg.trans g9
      refine wp_region_held_drew (S := (fun w' => w'.cell? ⟨b, off + i, none⟩ = some (.string x))) (by kernel_rfl) c0 (fun hHeld => ?_)
      generalize wr.drew = V at *
      refine wpAnyH_take (i := 0) (v := (.slice (some ⟨b, off, none⟩) n cap)) (op_at rfl) (by kernel_rfl) (by kernel_rfl) (by kernel_rfl) (fun _ _ _ h => h) (Or.inl ⟨rfl, fun w hSw => ?_⟩) (by assumption) ?_
      · (try dsimp only at hSw); go_simp; try with_reducible rfl
      (try simp only [Act.put, List.setIfInBounds_toArray, List.set_cons_zero, List.set_cons_succ])
      refine wpAnyH_take (i := 1) (v := (.int .i64 i)) (op_at rfl) (by kernel_rfl) (by kernel_rfl) (by kernel_rfl) (fun _ _ _ h => h) (Or.inl ⟨rfl, fun w hSw => ?_⟩) (by assumption) ?_
      · (try dsimp only at hSw); go_simp; try with_reducible rfl
      (try simp only [Act.put, List.setIfInBounds_toArray, List.set_cons_zero, List.set_cons_succ])
      refine wpAnyH_take (i := 2) (v := (.slice (some ⟨b, off, none⟩) i cap)) (op_at rfl) (by kernel_rfl) (by kernel_rfl) (by kernel_rfl) (fun _ _ _ h => h) (Or.inl ⟨rfl, fun w hSw => ?_⟩) (by assumption) ?_
      · (try dsimp only at hSw); go_simp; try with_reducible rfl
      (try simp only [Act.put, List.setIfInBounds_toArray, List.set_cons_zero, List.set_cons_succ])
      refine wpAnyH_take (i := 3) (v := (.slice (some ⟨b, off, none⟩) n cap)) (op_at rfl) (by kernel_rfl) (by kernel_rfl) (by kernel_rfl) (fun _ _ _ h => h) (Or.inl ⟨rfl, fun w hSw => ?_⟩) (by assumption) ?_
      · (try dsimp only at hSw); go_simp; try with_reducible rfl
      (try simp only [Act.put, List.setIfInBounds_toArray, List.set_cons_zero, List.set_cons_succ])
      refine wpAnyH_take (i := 4) (v := (.int .i64 i)) (op_at rfl) (by kernel_rfl) (by kernel_rfl) (by kernel_rfl) (fun _ _ _ h => h) (Or.inl ⟨rfl, fun w hSw => ?_⟩) (by assumption) ?_
      · (try dsimp only at hSw); go_simp; try with_reducible rfl
      (try simp only [Act.put, List.setIfInBounds_toArray, List.set_cons_zero, List.set_cons_succ])
      refine wpAnyH_take (i := 5) (v := (.pointer (some ⟨b, off + i, none⟩))) (op_at rfl) (by kernel_rfl) (by kernel_rfl) (by kernel_rfl) (fun _ _ _ h => h) (Or.inl ⟨rfl, fun w hSw => ?_⟩) (by assumption) ?_
      · (try dsimp only at hSw); go_simp; try with_reducible rfl
      (try simp only [Act.put, List.setIfInBounds_toArray, List.set_cons_zero, List.set_cons_succ])
      refine wpAnyH_take (i := 6) (v := (.string x)) (op_at rfl) (by kernel_rfl) (by kernel_rfl) (by kernel_rfl) (fun _ _ _ h => h) (Or.inl ⟨rfl, fun w hSw => ?_⟩) (by assumption) ?_
      · (try dsimp only at hSw); go_simp; try with_reducible rfl
      (try simp only [Act.put, List.setIfInBounds_toArray, List.set_cons_zero, List.set_cons_succ])
      refine wpAnyH_ready (rs := [7]) (by kernel_rfl) (by simp) (AllReadyH.cons (op_at rfl) (fun K hK => ?_) AllReadyH.nil)
      go_simp
      (refine (HO.out _ g9).mono ?_; rintro e w' ⟨rfl, rfl⟩)
      go_wp2_with fail
      refine hK.out _ _ c0 (fun hHeld => ?_)
      clear hK K
      (try simp only [Act.put, List.setIfInBounds_toArray, List.set_cons_zero, List.set_cons_succ])
      refine wpAnyH_done (by kernel_rfl) ?_ _
      cases dd
      · have HF3 := HF2.out
        simp only [Bool.false_eq_true, if_false, if_true] at HF3
        have HF4 := Lib.hid HF3
        clear HF3 HF2
        go_wp2_with fail
        go_roundg (gk - 1)
        case measure => omega
        case rel => exact ⟨i + 1, by go_num, by omega, hg9, by unfold Hid; rw [← HF4.out, HF.out]⟩
      · have HF3 := HF2.out
        simp only [if_true, show ¬ (9 : Int) = 0 by decide, if_false] at HF3
        have HF4 := Lib.hid HF3
        clear HF3 HF2
        go_wp2_with fail
        go_ret
        exact ⟨by rw [← HF.out, HF4.out]; rfl, hg9⟩
    · have hin : i = n := by omega
      have HE2 : Hid (errG (strE xs) xs (n - i) i = 0) := by unfold Hid; rw [hin, Nat.sub_self]; rfl
      have hi2 : (n : Int) ≤ i := by omega
      clear hin
      go_wp2_with fail
      go_ret
      exact ⟨by rw [← HF.out, HE2.out]; rfl, hg⟩
end Go.Proofs.Ytaapaijdcgpdkaa
namespace Go.Proofs.Ytaapaijdcgpdkaa
open Go.RowKit Go.Lib
set_option linter.unusedSimpArgs false
set_option linter.unusedVariables false
/-- the last day of a test that Q has, or what was before -/
def lastZ (Q : TstR → Bool) : List TstR → Int → Int
  | [], m => m
  | x :: r, m => lastZ Q r (if Q x then max m x.dy else m)
def lastQ (nm : ByteArray) (a b : Int) (x : TstR) : Bool := (x.nm.toList == nm.toList) && (decide (a ≤ x.dy) && decide (x.dy ≤ b))
def lastT (xs : List TstR) (nm : ByteArray) (a b : Int) : Int := lastZ (lastQ nm a b) xs (-1)
theorem lastZ_add (Q : TstR → Bool) (x : TstR) : ∀ (l : List TstR) (m : Int), lastZ Q (l ++ [x]) m = if Q x then max (lastZ Q l m) x.dy else lastZ Q l m
  | [], m => rfl
  | y :: l, m => by simp only [List.cons_append, lastZ]; exact lastZ_add Q x l _
theorem lastZ_take (Q : TstR → Bool) {xs : List TstR} {i : Nat} {x : TstR} (h : xs[i]? = some x) (m : Int) : lastZ Q (xs.take (i + 1)) m = if Q x then max (lastZ Q (xs.take i) m) x.dy else lastZ Q (xs.take i) m := by
  rw [List.take_add_one, h]
  exact lastZ_add Q x _ m
/-- words as cells -/
def strC (ns : List ByteArray) : List Value := ns.map fun s => .string s
theorem strC_add (ns : List ByteArray) (s : ByteArray) : strC (ns ++ [s]) = strC ns ++ [.string s] := by simp [strC]
theorem strAts_of_owns {w : World} {base : Nat} {v : Value} {ns : List ByteArray} {T : TypeId} {n : Nat} (hn : ns.length = n) (h : w.ownsRow base T 1 v n (strC ns)) : StrAts w v ns := by
  subst hn
  rcases h.2 with ⟨rfl, h0⟩ | ⟨g, cap, cur, rfl, _, _, hle, hmx, _, _⟩
  · exact ⟨none, 0, by rw [h0], ⟨by omega, by unfold maxLen; omega⟩, fun h => by omega⟩
  · refine ⟨some ⟨g, 0, none⟩, cap, rfl, ⟨hle, hmx⟩, fun _ => ⟨g, 0, rfl, fun i x hx => ?_⟩⟩
    have e : ∀ j, (⟨g, 0, none⟩ : Addr).add j = ⟨g, j, none⟩ := fun j => by unfold Addr.add; split <;> simp_all
    have c0 := h.cells (g := g) rfl i (.string x) (by simp [strC, hx])
    rw [e] at c0
    exact ⟨by simpa using c0⟩
theorem infoStrN : (Try.prog.info? 9).map (fun i => (i.zero, i.size, i.bytes)) = some (some (.string ⟨#[]⟩), 1, 16) := by kernel_rfl
/-- the names without a test on the days before -/
def lateL (xs : List TstR) (ds d : Int) (cs : List ByteArray) : List ByteArray := cs.filter fun s => decide (lastT xs s (d - ds) d < 0)
theorem lateL_take {xs : List TstR} {ds d : Int} {cs : List ByteArray} {k : Nat} {s : ByteArray} (h : cs[k]? = some s) : lateL xs ds d (cs.take (k + 1)) = lateL xs ds d (cs.take k) ++ (if decide (lastT xs s (d - ds) d < 0) then [s] else []) := by
  unfold lateL
  rw [List.take_add_one, h, List.filter_append]
  congr 1
  simp only [Option.toList_some, List.filter_cons, List.filter_nil]
theorem lateL_len (xs : List TstR) (ds d : Int) (cs : List ByteArray) : (lateL xs ds d cs).length ≤ cs.length := List.length_filter_le _ _
end Go.Proofs.Ytaapaijdcgpdkaa
