/- The reference's Find and CheckRound. -/
import Derived.Test.YtnbboheaheicnaaGreatDoorRkCDE
import Derived.Test.YtnbboheaheicnaaGreatDoorGrB
import Derived.Test.YtnbboheaheicnaaGreatDoorCmpG2
import Derived.Test.YtnbboheaheicnaaGreatDoorThNG
namespace Go.Proofs.YtnbboheaheicnaaGreatDoor
open Go.RowKit Go.Lib
set_option linter.unusedSimpArgs false
set_option linter.unusedVariables false
set_option maxHeartbeats 1000000 in
set_option maxRecDepth 100000 in
theorem refFind_pos (xs : List RowR) (n b off cap : Nat) (nm : ByteArray) (w : World) (hn : n ≤ xs.length) (h1 : n ≤ 1000) (hc : ∀ i x, xs[i]? = some x → RowAt w b (off + i * 3) x) :
    Calls Tryz.prog 37 #[.slice (some ⟨b, off, none⟩) n cap, .string nm] w fun e w' => e = .returned (.int .i64 (firstP (isNm nm) xs n 0)) ∧ w = w' := by
  have HC := Lib.hid hc
  have HX := Lib.hid (fun k (h : k < n) => (show ∃ x, xs[k]? = some x from ⟨xs[k]'(by omega), List.getElem?_eq_getElem _⟩))
  have HS := Lib.hid (fun i x (h : xs[i]? = some x) (hi : i < n) => firstP_step (Q := isNm nm) h hi)
  have HE := Lib.hid (fun i (h : n ≤ i) => firstP_end (Q := isNm nm) (xs := xs) h)
  have HQ : Hid (∀ x : RowR, isNm nm x = (x.nm.toList == nm.toList)) := fun x => rfl
  clear hc hn
  generalize firstP (isNm nm) xs = F at *
  go_enter Tryz.func37, Tryz.ntmps37
  go_wp2_with fail
  go_loopg [5] n (fun gk s5 wr => ∃ i : Nat, s5 = .int .i64 i ∧ gk + i = n ∧ wr = w ∧ Hid (F (n - i) i = F n 0))
  case atStart => exact ⟨0, rfl, by omega, rfl, by simp [Hid]⟩
  case round =>
    obtain ⟨i, rfl, hi, rfl, HF⟩ := hrel
    by_cases hlt : i < n
    · obtain ⟨x, hx⟩ := HX.out i hlt
      obtain ⟨c0, c1, c2, hv, _⟩ := HC.out i x hx
      have hst := HS.out i x hx hlt
      have hi2 : (i : Int) < n := by omega
      rw [HQ.out] at hst
      cases hh : (x.nm.toList == nm.toList)
      · rw [hh] at hst
        have HST := Lib.hid hst
        have hne : ¬ x.nm.toList = nm.toList := by simpa using hh
        clear hst hx
        go_wp2_with fail
        go_roundg (gk - 1)
        case measure => omega
        case rel => exact ⟨i + 1, by go_num, by omega, rfl, by have := HF.out; rw [HST.out] at this; simpa [Hid] using this⟩
      · rw [hh] at hst
        have HST := Lib.hid hst
        have hne : x.nm.toList = nm.toList := by simpa using hh
        clear hst hx
        go_wp2_with fail
        go_ret
        have q : F n 0 = i := by have := HF.out; rw [HST.out] at this; simpa using this.symm
        exact ⟨by rw [q]; rfl, rfl⟩
    · obtain rfl : i = n := by omega
      have := HF.out
      rw [HE.out i (Nat.le_refl _)] at this
      have HT := Lib.hid this
      clear this
      go_wp2_with fail
      go_ret
      exact ⟨by rw [← HT.out]; rfl, rfl⟩
theorem fitB_same (x : RowR) : fitB x.st x.st x.xs x.xs = true := by unfold fitB; simp
/-- what the reference holds: the number of values of the first result with values, once it has been met -/
def zOf (xs : List RowR) (fz : Int) (i : Nat) : Int := if 0 ≤ fz ∧ fz < i then (match xs[fz.toNat]? with | some f => (f.xs.length : Int) | none => -1) else -1
theorem firstP_spec (Q : RowR → Bool) (xs : List RowR) : ∀ (k i : Nat), i + k ≤ xs.length →
    (firstP Q xs k i = -1 ∧ ∀ (j : Nat) (x : RowR), i ≤ j → j < i + k → xs[j]? = some x → Q x = false) ∨
    (∃ f : Nat, firstP Q xs k i = f ∧ i ≤ f ∧ f < i + k ∧ (∃ x, xs[f]? = some x ∧ Q x = true) ∧ ∀ (j : Nat) (x : RowR), i ≤ j → j < f → xs[j]? = some x → Q x = false)
  | 0, i, h => .inl ⟨rfl, fun j x h1 h2 => by omega⟩
  | k + 1, i, h => by
    have hi : i < xs.length := by omega
    have hx := List.getElem?_eq_getElem hi
    generalize xs[i] = x at hx
    simp only [firstP, hx]
    cases hq : Q x
    · rw [if_neg (by simp)]
      rcases firstP_spec Q xs k (i + 1) (by omega) with ⟨e, hh⟩ | ⟨f, e, h1, h2, h3, h4⟩
      · refine .inl ⟨e, fun j y hj1 hj2 hy => ?_⟩
        by_cases hji : j = i
        · subst hji; rw [hx] at hy; cases hy; exact hq
        · exact hh j y (by omega) (by omega) hy
      · refine .inr ⟨f, e, by omega, by omega, h3, fun j y hj1 hj2 hy => ?_⟩
        by_cases hji : j = i
        · subst hji; rw [hx] at hy; cases hy; exact hq
        · exact h4 j y (by omega) hj2 hy
    · rw [if_pos rfl]
      exact .inr ⟨i, rfl, Nat.le_refl _, by omega, ⟨x, hx, hq⟩, fun j y h1 h2 => by omega⟩
/-- the reference's and the program's error of a result behind the first two tests -/
theorem row_third {xs : List RowR} {i : Nat} {x : RowR} (hx : xs[i]? = some x) :
    (hasV x = false → (if (if decide (0 ≤ firstV xs) then !fitFirst xs (firstV xs) x else false) then (2 : Int) else 0) = 0 ∧ zOf xs (firstV xs) (i + 1) = zOf xs (firstV xs) i) ∧
    (hasV x = true → zOf xs (firstV xs) i = -1 → (if (if decide (0 ≤ firstV xs) then !fitFirst xs (firstV xs) x else false) then (2 : Int) else 0) = 0 ∧ zOf xs (firstV xs) (i + 1) = x.xs.length) ∧
    (hasV x = true → zOf xs (firstV xs) i ≠ -1 → (if (if decide (0 ≤ firstV xs) then !fitFirst xs (firstV xs) x else false) then (2 : Int) else 0) = (if (x.xs.length : Int) = zOf xs (firstV xs) i then 0 else 2) ∧ zOf xs (firstV xs) (i + 1) = zOf xs (firstV xs) i ∧ 0 ≤ zOf xs (firstV xs) i) := by
  have hil := (List.getElem?_eq_some_iff.1 hx).1
  rcases firstP_spec hasV xs xs.length 0 (by omega) with ⟨e, hh⟩ | ⟨f, e, h1, h2, ⟨y, hy, hq⟩, h4⟩
  · have e' : firstV xs = -1 := e
    have hv := hh i x (by omega) (by omega) hx
    rw [e']
    refine ⟨fun _ => ⟨by simp, by unfold zOf; simp⟩, fun h => (by rw [hv] at h; cases h), fun h => (by rw [hv] at h; cases h)⟩
  · have e' : firstV xs = f := e
    rw [e']
    have hfit : fitFirst xs (f : Int) x = fitB y.st x.st y.xs x.xs := by unfold fitFirst; rw [Int.toNat_natCast, hy]
    have h0 : decide ((0 : Int) ≤ f) = true := by simp
    have hz : ∀ j : Nat, zOf xs (f : Int) j = if f < j then (y.xs.length : Int) else -1 := fun j => by
      unfold zOf
      rw [Int.toNat_natCast, hy]
      by_cases hj : f < j
      · rw [if_pos ⟨by omega, by omega⟩, if_pos hj]
      · rw [if_neg (by omega), if_neg hj]
    have hys : y.st.toList.isEmpty = true := hq
    rw [h0, hfit, hz, hz]
    refine ⟨fun hv => ?_, fun hv hzz => ?_, fun hv hzz => ?_⟩
    · have hxs : x.st.toList.isEmpty = false := hv
      have hne : f ≠ i := fun e => by subst e; rw [hx] at hy; cases hy; rw [hv] at hq; cases hq
      refine ⟨by unfold fitB; rw [hxs]; simp, ?_⟩
      by_cases hj : f < i
      · rw [if_pos hj, if_pos (by omega)]
      · rw [if_neg hj, if_neg (by omega)]
    · have hxs : x.st.toList.isEmpty = true := hv
      have hnlt : ¬ f < i := fun hj => by rw [if_pos hj] at hzz; omega
      have hfi : f = i := by
        rcases Nat.lt_or_ge i f with h | h
        · have := h4 i x (by omega) h hx
          rw [hv] at this; cases this
        · omega
      subst hfi
      rw [hx] at hy
      cases hy
      refine ⟨by rw [fitB_same]; simp, by rw [if_pos (show f < f + 1 by omega)]⟩
    · have hxs : x.st.toList.isEmpty = true := hv
      by_cases hj : f < i
      · rw [if_pos hj, if_pos (show f < i + 1 by omega)]
        refine ⟨?_, rfl, by omega⟩
        unfold fitB
        rw [hys, hxs]
        by_cases hl : x.xs.length = y.xs.length
        · simp [hl]
        · have hl2 : ¬ y.xs.length = x.xs.length := fun e => hl e.symm
          have hl3 : ¬ (x.xs.length : Int) = y.xs.length := by omega
          have hl4 : ¬ (y.xs.length : Int) = x.xs.length := by omega
          simp [hl, hl2, hl3, hl4]
      · rw [if_neg hj] at hzz
        exact absurd rfl hzz
set_option maxHeartbeats 2000000 in
set_option maxRecDepth 100000 in
theorem refRound_pos (xs : List RowR) (n b off cap : Nat) (w : World) (hn : xs.length = n) (h1 : n ≤ 160) (hcap : n ≤ cap) (hmx : cap ≤ maxLen) (hc : ∀ i x, xs[i]? = some x → RowAt w b (off + i * 3) x) :
    Calls Tryz.prog 10 #[.slice (some ⟨b, off, none⟩) n cap] w fun e w' => e = .returned (.int .i64 (rowFrom xs (firstV xs) n 0)) ∧ Gr w w' := by
  have HC := Lib.hid hc
  have HX := Lib.hid (fun k (h : k < n) => (show ∃ x, xs[k]? = some x from ⟨xs[k]'(by omega), List.getElem?_eq_getElem _⟩))
  have HS := Lib.hid (fun i x (hi : i < n) (h : xs[i]? = some x) => rowFrom_step (fz := firstV xs) hi h)
  have HR := Lib.hid (fun i x => (show rowE xs (firstV xs) i x = firstE [resE x.nm x.st x.xs, if dupR xs i x.nm then 9 else 0, if (if decide (0 ≤ firstV xs) then !fitFirst xs (firstV xs) x else false) then 2 else 0] from rfl))
  have HT := Lib.hid (fun i x (h : xs[i]? = some x) => row_third h)
  have HD := Lib.hid (fun (i : Nat) (nm : ByteArray) (h : i ≤ n) => (show decide (0 ≤ firstP (isNm nm) xs i 0) = dupR xs i nm from by rw [firstP_any (isNm nm) xs i 0 (by omega)]; rfl))
  have HF := Lib.hid (fun (i cap : Nat) (nm : ByteArray) (W : World) (g : Gr w W) (hi : i ≤ n) => refFind_pos xs i b off cap nm W (by omega) (by omega) (fun i x hx => (hc i x hx).gr g))
  have HK := Lib.hid (fun (x : RowR) (W : World) (hv : IntsV W x.u x.xs) => refCheck_c x.nm x.st x.u x.xs W hv)
  have HZ : Hid (zOf xs (firstV xs) 0 = -1) := by unfold Hid zOf; rw [if_neg (by omega)]
  have HE : Hid (rowFrom xs (firstV xs) 0 n = 0) := rfl
  have hz2 : decide ((160 : Int) < n) = false := decide_eq_false (by omega)
  clear hc
  generalize zOf xs (firstV xs) = zz at *
  generalize (fun i x => rowE xs (firstV xs) i x) = EE at *
  clear hn
  go_enter Tryz.func10, Tryz.ntmps10
  go_wp2_with fail
  go_loopg [3, 4] n (fun gk s3 s4 wr => ∃ i : Nat, s4 = .int .i64 i ∧ s3 = .int .i64 (zz i) ∧ gk + i = n ∧ Gr w wr ∧ Hid (rowFrom xs (firstV xs) (n - i) i = rowFrom xs (firstV xs) n 0))
  case atStart => exact ⟨0, rfl, by rw [HZ.out], by omega, Gr.refl _, by simp [Hid]⟩
  case round =>
    obtain ⟨i, rfl, rfl, hi, hnx, HFr⟩ := hrel
    by_cases hlt : i < n
    · obtain ⟨x, hx⟩ := HX.out i hlt
      obtain ⟨c0, c1, c2, hv, _⟩ := (HC.out i x hx).gr hnx
      have hst := HS.out i x hlt hx
      have hi2 : (i : Int) < n := by omega
      have hKx := HK.out x wr hv
      have hrx := HR.out i x
      have hT := HT.out i x hx
      have hdx := HD.out i x.nm (by omega)
      obtain ⟨⟨pu, cu, hu, _⟩⟩ := id hv
      unfold resV at hKx
      rw [hu] at c2 hKx
      generalize (if (if decide (0 ≤ firstV xs) then !fitFirst xs (firstV xs) x else false) then (2 : Int) else 0) = e3 at *
      generalize resE x.nm x.st x.xs = e1 at *
      by_cases he1 : e1 = 0
      · subst he1
        generalize hfp : firstP (isNm x.nm) xs i 0 = fp at *
        cases hdd : dupR xs i x.nm
        · rw [hdd] at hdx hrx
          have hrx2 : rowE xs (firstV xs) i x = e3 := by rw [hrx]; simp only [firstE]; by_cases h3 : e3 = 0 <;> simp [h3]
          have HFq := Lib.hid (fun (cap : Nat) (W : World) (g : Gr wr W) => HF.out i cap x.nm W (hnx.trans g) (by omega))
          rw [hfp] at HFq
          have HKX := Lib.hid hKx
          rw [hrx2] at hst
          have HST := Lib.hid hst
          clear hst hrx hrx2 hKx hfp hdd hx
          cases hh : hasV x
          · have hst3 : x.st.toList.isEmpty = false := hh
            obtain ⟨h3, hzz⟩ := hT.1 hh
            have HFz := Lib.hid (show rowFrom xs (firstV xs) (n - (i + 1)) (i + 1) = rowFrom xs (firstV xs) n 0 from by rw [← HFr.out, HST.out, if_pos h3])
            have HZZ := Lib.hid hzz
            clear hT hh h3 hzz HST
            go_wp2_with (refine HKX.out.mono ?_; rintro e wq ⟨rfl, gq⟩; have d0 := gq.cell c0; have d1 := gq.cell c1; have d2 := gq.cell c2)
            go_quiet ((go_at_call 37; with_reducible exact quietE (HFq.out _ _ (gq.drewN _))))
            go_wp2_with fail
            go_roundg (gk - 1)
            case measure => omega
            case rel => exact ⟨i + 1, by go_num, by rw [HZZ.out], by omega, (hnx.trans gq).drewN _, HFz⟩
          · have hst3 : x.st.toList.isEmpty = true := hh
            by_cases hzz : zz i = -1
            · obtain ⟨h3, hz1⟩ := hT.2.1 hh hzz
              have HFz := Lib.hid (show rowFrom xs (firstV xs) (n - (i + 1)) (i + 1) = rowFrom xs (firstV xs) n 0 from by rw [← HFr.out, HST.out, if_pos h3])
              have HZZ := Lib.hid hz1
              rw [hzz]
              clear hT hh h3 hz1 HST hzz
              go_wp2_with (refine HKX.out.mono ?_; rintro e wq ⟨rfl, gq⟩; have d0 := gq.cell c0; have d1 := gq.cell c1; have d2 := gq.cell c2)
              go_quiet ((go_at_call 37; with_reducible exact quietE (HFq.out _ _ (gq.drewN _))))
              go_wp2_with fail
              go_roundg (gk - 1)
              case measure => omega
              case rel => exact ⟨i + 1, by go_num, by rw [HZZ.out], by omega, (hnx.trans gq).drewN _, HFz⟩
            · obtain ⟨h3, hz1, hz0⟩ := hT.2.2 hh hzz
              have HZZ := Lib.hid hz1
              by_cases hl : (x.xs.length : Int) = zz i
              · rw [if_pos hl] at h3
                have HFz := Lib.hid (show rowFrom xs (firstV xs) (n - (i + 1)) (i + 1) = rowFrom xs (firstV xs) n 0 from by rw [← HFr.out, HST.out, if_pos h3])
                clear hT hh h3 hz1 HST hzz
                generalize zz i = z at *
                go_wp2_with (refine HKX.out.mono ?_; rintro e wq ⟨rfl, gq⟩; have d0 := gq.cell c0; have d1 := gq.cell c1; have d2 := gq.cell c2)
                go_quiet ((go_at_call 37; with_reducible exact quietE (HFq.out _ _ (gq.drewN _))))
                go_wp2_with fail
                go_roundg (gk - 1)
                case measure => omega
                case rel => exact ⟨i + 1, by go_num, by rw [HZZ.out], by omega, (hnx.trans gq).drewN _, HFz⟩
              · rw [if_neg hl] at h3
                have HFF : Hid (rowFrom xs (firstV xs) n 0 = 2) := by unfold Hid; rw [← HFr.out, HST.out, h3]; rfl
                clear hT hh h3 hz1 HST hzz HZZ
                generalize zz i = z at *
                go_wp2_with (refine HKX.out.mono ?_; rintro e wq ⟨rfl, gq⟩; have d0 := gq.cell c0; have d1 := gq.cell c1; have d2 := gq.cell c2)
                go_quiet ((go_at_call 37; with_reducible exact quietE (HFq.out _ _ (gq.drewN _))))
                go_wp2_with fail
                go_ret
                exact ⟨by rw [HFF.out]; rfl, (hnx.trans gq).drewN _⟩
        · have hrx2 : rowE xs (firstV xs) i x = 9 := by rw [hrx, hdd]; simp [firstE]
          rw [hdd] at hdx
          have HFq := Lib.hid (fun (cap : Nat) (W : World) (g : Gr wr W) => HF.out i cap x.nm W (hnx.trans g) (by omega))
          rw [hfp] at HFq
          have HKX := Lib.hid hKx
          rw [hrx2, if_neg (by omega)] at hst
          have HFF : Hid (rowFrom xs (firstV xs) n 0 = 9) := by unfold Hid; rw [← HFr.out, hst]
          clear hst hrx hrx2 hT hKx hfp hdd hx
          go_wp2_with (refine HKX.out.mono ?_; rintro e wq ⟨rfl, gq⟩; have d0 := gq.cell c0; have d1 := gq.cell c1; have d2 := gq.cell c2)
          go_quiet ((go_at_call 37; with_reducible exact quietE (HFq.out _ _ (gq.drewN _))))
          go_wp2_with fail
          go_ret
          exact ⟨by rw [HFF.out]; rfl, (hnx.trans gq).drewN _⟩
      · have hz1 : rowE xs (firstV xs) i x = e1 := by rw [hrx]; simp [firstE, he1]
        rw [hz1, if_neg he1] at hst
        have HKX := Lib.hid hKx
        have HFF : Hid (rowFrom xs (firstV xs) n 0 = e1) := by unfold Hid; rw [← HFr.out, hst]
        clear hst hrx hT hdx hKx hz1 hx
        go_wp2_with (refine HKX.out.mono ?_; rintro e wq ⟨rfl, gq⟩)
        go_ret
        exact ⟨by rw [HFF.out]; rfl, hnx.trans gq⟩
    · obtain rfl : i = n := by omega
      have hT := HFr.out
      rw [Nat.sub_self, HE.out] at hT
      have HT2 := Lib.hid hT
      clear hT
      go_wp2_with fail
      go_ret
      exact ⟨by rw [← HT2.out]; rfl, hnx⟩
end Go.Proofs.YtnbboheaheicnaaGreatDoor
namespace Go.Proofs.YtnbboheaheicnaaGreatDoor
open Go.RowKit Go.Lib
set_option linter.unusedSimpArgs false
set_option linter.unusedVariables false
/-- the three cells of a result at a place, and its values, however many -/
structure Row0 (w : World) (b off : Nat) (x : RowR) : Prop where
  nm : w.cell? ⟨b, off, none⟩ = some (.string x.nm)
  st : w.cell? ⟨b, off + 1, none⟩ = some (.string x.st)
  u : w.cell? ⟨b, off + 2, none⟩ = some x.u
  val : IntsV w x.u x.xs
theorem Row0.at {w : World} {b off : Nat} {x : RowR} (h : Row0 w b off x) (hl : x.xs.length ≤ 1000) : RowAt w b off x := ⟨h.nm, h.st, h.u, h.val, hl⟩
theorem Row0.gr {w w' : World} {b off : Nat} {x : RowR} (h : Row0 w b off x) (k : Gr w w') : Row0 w' b off x := ⟨k.cell h.nm, k.cell h.st, k.cell h.u, h.val.gr k⟩
/-- all results are short -/
def AllShort (xs : List RowR) : Prop := ∀ x ∈ xs, ShortR x.nm x.st x.xs.length true
/-- what Short returns -/
structure ShRet (e : Ending) (xs : List RowR) (n : Nat) (m : Int) : Prop where
  out : ∃ r, e = .returned (.bool r) ∧ (r = true ↔ ((n : Int) ≤ m ∨ (160 < n ∧ n ≤ 162)) ∧ AllShort xs)
theorem shortR_not {c s : ByteArray} {n : Nat} (h : ShortR c s n false) : ¬ ShortR c s n true := fun k => by
  cases k with
  | yes a b c => cases h <;> omega
set_option maxHeartbeats 1000000 in
set_option maxRecDepth 100000 in
theorem shortL_pos (xs : List RowR) (n b off cap : Nat) (m : Int) (hm160 : m ≤ 160) (w : World) (hn : xs.length = n) (hnm : n ≤ maxLen) (hc : ∀ i x, xs[i]? = some x → Row0 w b (off + i * 3) x) :
    Calls Tryz.prog 5 #[.slice (some ⟨b, off, none⟩) n cap, .int .i64 m] w fun e w' => ShRet e xs n m ∧ w = w' := by
  have HX := Lib.hid (fun k (h : k < n) => (show ∃ x, xs[k]? = some x from ⟨xs[k]'(by omega), List.getElem?_eq_getElem _⟩))
  have HC := Lib.hid hc
  have HN := Lib.hid hn
  unfold maxLen at hnm
  clear hc hn
  by_cases hlong : (m < n ∧ (n : Int) ≤ 160) ∨ (162 : Int) < n
  · have hd1 : (m < n ∧ (n : Int) ≤ 160) ∨ (¬ (m < n ∧ (n : Int) ≤ 160) ∧ (162 : Int) < n) := by omega
    rcases hd1 with ⟨h1, h2⟩ | ⟨h1, h2⟩
    · go_enter Tryz.func5, Tryz.ntmps5
      go_wp2_with fail
      go_ret
      exact ⟨⟨false, rfl, fun h => (by cases h), fun h => (by omega)⟩, rfl⟩
    · by_cases h3 : m < n
      · have h4 : ¬ (n : Int) ≤ 160 := by omega
        go_enter Tryz.func5, Tryz.ntmps5
        go_wp2_with fail
        go_ret
        exact ⟨⟨false, rfl, fun h => (by cases h), fun h => (by omega)⟩, rfl⟩
      · go_enter Tryz.func5, Tryz.ntmps5
        go_wp2_with fail
        go_ret
        exact ⟨⟨false, rfl, fun h => (by cases h), fun h => (by omega)⟩, rfl⟩
  · have hfine : (n : Int) ≤ m ∨ (160 < n ∧ n ≤ 162) := by omega
    have HFi := Lib.hid hfine
    have hA : decide (m < (n : Int)) = true ∧ decide ((n : Int) ≤ 160) = false ∧ decide ((162 : Int) < n) = false ∨ decide (m < (n : Int)) = false ∧ decide ((162 : Int) < n) = false := by
      by_cases h1 : m < (n : Int)
      · exact .inl ⟨decide_eq_true h1, decide_eq_false (by omega), decide_eq_false (by omega)⟩
      · exact .inr ⟨decide_eq_false h1, decide_eq_false (by omega)⟩
    clear hfine
    rcases hA with ⟨h1, h2, h3⟩ | ⟨h1, h3⟩
    all_goals
      go_enter Tryz.func5, Tryz.ntmps5
      go_wp2_with fail
      go_loopg [5] n (fun gk s5 wr => ∃ i : Nat, s5 = .int .i64 i ∧ gk + i = n ∧ wr = w ∧ Hid (∀ (j : Nat) (x : RowR), j < i → xs[j]? = some x → ShortR x.nm x.st x.xs.length true))
      case atStart => exact ⟨0, rfl, by omega, rfl, fun j x h => absurd h (Nat.not_lt_zero _)⟩
      case round =>
        obtain ⟨i, rfl, hi, rfl, HF⟩ := hrel
        by_cases hlt : i < n
        · obtain ⟨x, hx⟩ := HX.out i hlt
          obtain ⟨c0, c1, c2, hv⟩ := HC.out i x hx
          obtain ⟨⟨pu, cu, hu, _⟩⟩ := hv
          rw [hu] at c2
          obtain ⟨r, hr⟩ := shortR x.nm x.st x.xs.length
          have hi2 : (i : Int) < n := by omega
          have HNX := Lib.hid (fun (h : ShortR x.nm x.st x.xs.length true) (j : Nat) (y : RowR) (hj : j < i + 1) (hy : xs[j]? = some y) => (show ShortR y.nm y.st y.xs.length true from by
            by_cases hji : j = i
            · subst hji; rw [hx] at hy; cases hy; exact h
            · exact HF.out j y (by omega) hy))
          have HM := Lib.hid (List.mem_of_getElem? hx)
          clear hx hu
          cases hr with
          | name h =>
            go_wp2_with fail
            go_ret
            exact ⟨⟨false, rfl, fun h => (by cases h), fun k => absurd (k.2 x HM.out) (shortR_not (.name h))⟩, rfl⟩
          | state h h2 =>
            go_wp2_with fail
            go_ret
            exact ⟨⟨false, rfl, fun h => (by cases h), fun k => absurd (k.2 x HM.out) (shortR_not (.state h h2))⟩, rfl⟩
          | values h h2 h3 =>
            go_wp2_with fail
            go_ret
            exact ⟨⟨false, rfl, fun h => (by cases h), fun k => absurd (k.2 x HM.out) (shortR_not (.values h h2 h3))⟩, rfl⟩
          | yes h h2 h3 =>
            go_wp2_with fail
            go_roundg (gk - 1)
            case measure => omega
            case rel => exact ⟨i + 1, by go_num, by omega, rfl, fun j y hj hy => HNX.out (.yes h h2 h3) j y hj hy⟩
        · obtain rfl : i = n := by omega
          go_wp2_with fail
          go_ret
          refine ⟨⟨true, rfl, fun _ => ⟨HFi.out, fun x hx => ?_⟩, fun _ => rfl⟩, rfl⟩
          obtain ⟨j, hj⟩ := List.mem_iff_getElem?.1 hx
          have := (List.getElem?_eq_some_iff.1 hj).1
          have hN := HN.out
          exact HF.out j x (by omega) hj
/-- Short's answer, once and for all -/
theorem short_val (xs : List RowR) (n b off cap : Nat) (m : Int) (hm160 : m ≤ 160) (w : World) (hn : xs.length = n) (hnm : n ≤ maxLen) (hc : ∀ i x, xs[i]? = some x → Row0 w b (off + i * 3) x) :
    ∃ r : Bool, (r = true ↔ ((n : Int) ≤ m ∨ (160 < n ∧ n ≤ 162)) ∧ AllShort xs) ∧ ∀ W, Gr w W → Calls Tryz.prog 5 #[.slice (some ⟨b, off, none⟩) n cap, .int .i64 m] W fun e w' => e = .returned (.bool r) ∧ W = w' := by
  classical
  refine ⟨decide (((n : Int) ≤ m ∨ (160 < n ∧ n ≤ 162)) ∧ AllShort xs), by simp, fun W g => ?_⟩
  refine (shortL_pos xs n b off cap m hm160 W hn hnm (fun i x hx => (hc i x hx).gr g)).mono ?_
  rintro e w' ⟨⟨r, rfl, hr⟩, rfl⟩
  refine ⟨?_, rfl⟩
  congr 2
  rw [Bool.eq_iff_iff, hr]
  simp
theorem short_nil (p : Option Addr) (cap : Nat) (m : Int) (hm : 0 ≤ m) (w : World) :
    Calls Tryz.prog 5 #[.slice p 0 cap, .int .i64 m] w fun e w' => e = .returned (.bool true) ∧ w = w' := by
  have h1 : decide (m < (0 : Int)) = false := decide_eq_false (by omega)
  go_enter Tryz.func5, Tryz.ntmps5
  go_wp2_with fail
  refine wp_loop_rounds 2 ?_
  rw [rounds_succ]
  go_wp2_with fail
  go_ret
  exact ⟨rfl, rfl⟩
set_option maxHeartbeats 1000000 in
set_option maxRecDepth 100000 in
theorem sameWords_pos (ns : List ByteArray) (n b b2 cap cap2 : Nat) (w : World) (hn : ns.length = n) (h1 : n ≤ 1000) (ha : ∀ i s, ns[i]? = some s → w.cell? ⟨b, i, none⟩ = some (.string s)) (hb : ∀ i s, ns[i]? = some s → w.cell? ⟨b2, i, none⟩ = some (.string s)) :
    Calls Tryz.prog 14 #[.slice (some ⟨b, 0, none⟩) n cap, .slice (some ⟨b2, 0, none⟩) n cap2] w fun e w' => e = .returned (.bool true) ∧ Gr w w' := by
  have HX := Lib.hid (fun k (h : k < n) => (show ∃ x, ns[k]? = some x from ⟨ns[k]'(by omega), List.getElem?_eq_getElem _⟩))
  have HA := Lib.hid ha
  have HB := Lib.hid hb
  clear ha hb hn
  go_enter Tryz.func14, Tryz.ntmps14
  go_wp2_with fail
  go_loopg [5] n (fun gk s5 wr => ∃ i : Nat, s5 = .int .i64 i ∧ gk + i = n ∧ Gr w wr)
  case atStart => exact ⟨0, rfl, by omega, Gr.refl _⟩
  case round =>
    obtain ⟨i, rfl, hi, hnx⟩ := hrel
    by_cases hlt : i < n
    · obtain ⟨x, hx⟩ := HX.out i hlt
      have c0 := hnx.cell (HA.out i x hx)
      have c1 := hnx.cell (HB.out i x hx)
      have hi2 : (i : Int) < n := by omega
      clear hx
      go_wp2_with fail
      go_quiet (fail)
      go_wp2_with fail
      go_roundg (gk - 1)
      case measure => omega
      case rel => exact ⟨i + 1, by go_num, by omega, hnx.drewN _⟩
    · obtain rfl : i = n := by omega
      go_wp2_with fail
      go_ret
      exact ⟨rfl, hnx⟩
theorem sameWords_nil (p p2 : Option Addr) (cap cap2 : Nat) (w : World) :
    Calls Tryz.prog 14 #[.slice p 0 cap, .slice p2 0 cap2] w fun e w' => e = .returned (.bool true) ∧ Gr w w' := by
  go_enter Tryz.func14, Tryz.ntmps14
  go_wp2_with fail
  refine wp_loop_rounds 2 ?_
  rw [rounds_succ]
  go_wp2_with fail
  go_ret
  exact ⟨rfl, Gr.refl _⟩
theorem sameWords_c {v v2 : Value} {ns : List ByteArray} {w : World} (h : StrsV w v ns) (h2 : StrsV w v2 ns) (hs : ns.length ≤ 1000) :
    Calls Tryz.prog 14 #[v, v2] w fun e w' => e = .returned (.bool true) ∧ Gr w w' := by
  obtain ⟨⟨p, cap, rfl, _, ha⟩⟩ := h
  obtain ⟨⟨p2, cap2, rfl, _, hb⟩⟩ := h2
  rcases ha with ⟨rfl, rfl, rfl⟩ | ⟨g, rfl, a⟩
  · exact sameWords_nil _ p2 _ cap2 w
  · rcases hb with ⟨rfl, rfl, rfl⟩ | ⟨g2, rfl, b⟩
    · exact sameWords_nil _ _ cap _ w
    · exact sameWords_pos ns _ g g2 cap cap2 w rfl hs a b
end Go.Proofs.YtnbboheaheicnaaGreatDoor
