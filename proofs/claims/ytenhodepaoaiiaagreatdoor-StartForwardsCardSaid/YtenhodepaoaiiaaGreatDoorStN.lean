/- Who goes on (chapter 6): the reference's CheckResults, exactly. -/
import Derived.Test.YtenhodepaoaiiaaGreatDoorGLaid
namespace Go.Proofs.YtenhodepaoaiiaaGreatDoor
open Go.RowKit Go.Lib
set_option linter.unusedSimpArgs false
set_option linter.unusedVariables false
/-- whether a result doesn't fit the first one with values -/
def thirdE (xs : List RowR) (x : RowR) : Int := if (if decide (0 ≤ firstV xs) then !fitFirst xs (firstV xs) x else false) then (2 : Int) else 0
/-- the error of a result of a list of results that go on -/
def rowG (xs : List RowR) (i : Nat) (x : RowR) : Int := if decide (Nm x.nm) = true then (if dupR xs i x.nm = true then 9 else if formE x.st x.xs = 0 then thirdE xs x else formE x.st x.xs) else 8
def rowsG (xs : List RowR) : Nat → Nat → Int
  | 0, _ => 0
  | k + 1, i => match xs[i]? with
    | some x => if rowG xs i x = 0 then rowsG xs k (i + 1) else rowG xs i x
    | none => 0
theorem rowsG_step {xs : List RowR} {n i : Nat} {x : RowR} (hi : i < n) (h : xs[i]? = some x) : rowsG xs (n - i) i = if rowG xs i x = 0 then rowsG xs (n - (i + 1)) (i + 1) else rowG xs i x := by
  obtain ⟨k, hk⟩ : ∃ k, n - i = k + 1 := ⟨n - i - 1, by omega⟩
  have hk2 : n - (i + 1) = k := by omega
  rw [hk, hk2]
  simp only [rowsG, h]
theorem rowG_rowE {xs : List RowR} {i : Nat} {x : RowR} : rowG xs i x = 0 ↔ rowE xs (firstV xs) i x = 0 := by
  rw [rowE_parts, resE_form]
  unfold rowG thirdE
  cases decide (Nm x.nm) <;> cases dupR xs i x.nm <;> by_cases hf : formE x.st x.xs = 0 <;> simp [hf]
theorem rowsG_zero {xs : List RowR} : ∀ (k i : Nat), rowsG xs k i = 0 ↔ rowFrom xs (firstV xs) k i = 0
  | 0, i => by simp [rowsG, rowFrom]
  | k + 1, i => by
    simp only [rowsG, rowFrom]
    cases hx : xs[i]? with
    | none => simp
    | some x =>
      by_cases h : rowG xs i x = 0
      · have h2 := rowG_rowE.1 h
        simp only [h, h2, if_true]
        exact rowsG_zero k (i + 1)
      · have h2 : ¬ rowE xs (firstV xs) i x = 0 := fun e => h (rowG_rowE.2 e)
        simp only [h, h2, if_false]
/-- the error of a list of results that go on -/
def listG (xs : List RowR) : Int := if 160 < xs.length then 5 else rowsG xs xs.length 0
theorem listG_valid {xs : List RowR} (h : listG xs = 0) : ValidB (xs.map bare) ∧ xs.length ≤ 160 := by
  unfold listG at h
  by_cases h1 : 160 < xs.length
  · rw [if_pos h1] at h; omega
  · rw [if_neg h1] at h
    exact ⟨valid_of_zero ((rowsG_zero _ _).1 h), by omega⟩
set_option maxHeartbeats 4000000 in
set_option maxRecDepth 100000 in
theorem refRes6_c {xs : List RowR} {p : Option Addr} {N c : Nat} {w : World} (hx : RowsV w (.slice p N c) xs) (h1 : N ≤ 160) :
    Calls Tryz.prog 7 #[.slice p N c] w fun e w' => e = .returned (.int .i64 (rowsG xs N 0)) ∧ Gr w w' := by
  obtain ⟨hN, _, hh⟩ := hx.at
  have HX := Lib.hid (fun k (h : k < N) => (show ∃ x, xs[k]? = some x from ⟨xs[k]'(by omega), List.getElem?_eq_getElem _⟩))
  have HH := Lib.hid hh
  have HS := Lib.hid (fun i x (hi : i < N) (h : xs[i]? = some x) => rowsG_step hi h)
  have HR := Lib.hid (fun i x => (show rowG xs i x = if decide (Nm x.nm) = true then (if dupR xs i x.nm = true then 9 else if formE x.st x.xs = 0 then thirdE xs x else formE x.st x.xs) else 8 from rfl))
  have HT := Lib.hid (fun i x (h : xs[i]? = some x) => (show (hasV x = false → thirdE xs x = 0 ∧ zOf xs (firstV xs) (i + 1) = zOf xs (firstV xs) i) ∧ (hasV x = true → zOf xs (firstV xs) i = -1 → thirdE xs x = 0 ∧ zOf xs (firstV xs) (i + 1) = x.xs.length) ∧ (hasV x = true → zOf xs (firstV xs) i ≠ -1 → thirdE xs x = (if (x.xs.length : Int) = zOf xs (firstV xs) i then 0 else 2) ∧ zOf xs (firstV xs) (i + 1) = zOf xs (firstV xs) i ∧ 0 ≤ zOf xs (firstV xs) i) from row_third h))
  have HZ : Hid (zOf xs (firstV xs) 0 = -1) := by unfold Hid zOf; rw [if_neg (by omega)]
  have HE : Hid (rowsG xs 0 N = 0) := rfl
  have hz2 : decide ((160 : Int) < N) = false := decide_eq_false (by omega)
  have HDle := Lib.hid (fun (k i : Nat) (s : ByteArray) (h : k ≤ i) (hd : dupR xs k s = true) => (show dupR xs i s = true from by
    unfold dupR at *
    rw [List.any_eq_true] at *
    obtain ⟨t, ht, he⟩ := hd
    exact ⟨t, (List.take_subset_take_left xs h) ht, he⟩))
  generalize zOf xs (firstV xs) = zz at *
  generalize hrg : rowsG xs = R at *
  clear hh hN hx hrg
  go_enter Tryz.func7, Tryz.ntmps7
  go_wp2_with fail
  go_loopg [3, 4] N (fun gk s3 s4 wr => ∃ i : Nat, s4 = .int .i64 i ∧ s3 = .int .i64 (zz i) ∧ gk + i = N ∧ Gr w wr ∧ Hid (R (N - i) i = R N 0))
  case atStart => exact ⟨0, rfl, by rw [HZ.out], by omega, Gr.refl _, by simp [Hid]⟩
  case round =>
    obtain ⟨i, rfl, rfl, hi, hg, HF⟩ := hrel
    obtain ⟨gO, rfl⟩ : ∃ q, q = gk := ⟨gk, rfl⟩
    by_cases hlt : i < N
    · obtain ⟨x, hx⟩ := HX.out i hlt
      obtain ⟨b, off, rfl, hc⟩ := HH.out (by omega)
      have HRx := Lib.hid (hc i x hx)
      have HC := Lib.hid hc
      have c0 := (HRx.out.gr hg).nm
      have hi2 : (i : Int) < N := by omega
      have hN := Lib.hid (fun W => refIsName_c x.nm W)
      have hst := HS.out i x hlt hx
      have hrx := HR.out i x
      have HTx := Lib.hid (HT.out i x hx)
      clear hx hc
      cases e1 : decide (Nm x.nm)
      · rw [e1] at hN hrx
        rw [if_neg (by decide)] at hrx
        rw [hrx, if_neg (by decide)] at hst
        have HQ : Hid (R N 0 = 8) := by unfold Hid; rw [← HF.out, hst]
        clear hst hrx e1
        go_wp2_with fail
        refine (hN.out _).mono ?_
        rintro e w4 ⟨rfl, rfl⟩
        go_wp2_with fail
        go_ret
        exact ⟨by rw [HQ.out]; rfl, hg⟩
      · rw [e1] at hN hrx
        rw [if_pos rfl] at hrx
        have HRX := Lib.hid hrx
        have HST := Lib.hid hst
        clear e1 hrx hst
        go_wp2_with fail
        refine (hN.out _).mono ?_
        rintro e w4 ⟨rfl, rfl⟩
        go_wp2_with fail
        go_loopg [5] i (fun g2 s5 wr2 => ∃ k : Nat, s5 = .int .i64 k ∧ g2 + k = i ∧ Gr w wr2 ∧ Hid (dupR xs k x.nm = false))
        case atStart => exact ⟨0, rfl, by omega, hg, by simp [Hid, dupR]⟩
        case round =>
          obtain ⟨k, rfl, hk, hg2, HD⟩ := hrel
          obtain ⟨c0, c1, c2, hv, hvl⟩ := HRx.out.gr hg2
          obtain ⟨⟨pu, cu, hu, _⟩⟩ := id hv
          rw [hu] at c2
          by_cases hlk : k < i
          · obtain ⟨y, hy⟩ := HX.out k (by omega)
            have d0 := ((HC.out k y hy).gr hg2).nm
            have hk2 : (k : Int) < i := by omega
            have hk3 : (k : Int) < N := by omega
            have hdp := dupR_step hy x.nm
            rw [HD.out, Bool.false_or] at hdp
            clear hy hu hv
            cases e2 : (y.nm.toList == x.nm.toList)
            · rw [e2] at hdp
              have HD2 := Lib.hid hdp
              clear hdp
              go_wp2_with fail
              go_big_quiet (fail)
              go_wp2_with fail
              go_roundg (gk - 1)
              case measure => omega
              case rel => exact ⟨k + 1, by go_num, by omega, hg2.drewN _, HD2⟩
            · rw [e2] at hdp
              have HQ : Hid (R N 0 = 9) := by
                have := HRX.out
                rw [HDle.out (k + 1) i x.nm (by omega) hdp, if_pos rfl] at this
                unfold Hid; rw [← HF.out, HST.out, this, if_neg (by decide)]
              clear hdp
              go_wp2_with fail
              go_big_quiet (fail)
              go_wp2_with fail
              go_ret
              exact ⟨by rw [HQ.out]; rfl, hg2.drewN _⟩
          · have hk2 : ¬ (k : Int) < i := by omega
            have hki : k = i := by omega
            have hrx := HRX.out
            rw [← hki, HD.out, if_neg (by decide), hki] at hrx
            have HK := Lib.hid (refOne6_c x.nm x.st x.u x.xs _ hv)
            rw [hu] at HK
            have hT := HTx.out
            clear hu hv HD HRX
            generalize formE x.st x.xs = z6 at *
            generalize thirdE xs x = e3 at *
            generalize x.xs.length = xl at *
            go_wp2_with fail
            refine HK.out.mono ?_
            rintro e wq ⟨rfl, gq⟩
            replace c0 := gq.cell c0
            replace c1 := gq.cell c1
            replace c2 := gq.cell c2
            have hg3 := hg2.trans gq
            clear gq HK
            by_cases h6 : z6 = 0
            · rw [if_pos h6] at hrx
              have h60 : (z6 != 0) = false := by rw [h6]; rfl
              clear h6
              cases hE : x.st.toList.isEmpty
              · have hE2 : ¬ x.st.toList = [] := by intro e; rw [e] at hE; cases hE
                obtain ⟨h3, hzz⟩ := hT.1 hE
                have HFz := Lib.hid (show R (N - (i + 1)) (i + 1) = R N 0 from by rw [← HF.out, HST.out, hrx, if_pos h3])
                have HZZ := Lib.hid hzz
                clear hT hrx h3 hzz
                go_wp2_with fail
                go_roundg (gO - 1)
                case measure => omega
                case rel => exact ⟨i + 1, by go_num, by rw [HZZ.out], by omega, hg3, HFz⟩
              · have hE2 : x.st.toList = [] := by simpa using hE
                by_cases hzz : zz i = -1
                · obtain ⟨h3, hz1⟩ := hT.2.1 hE hzz
                  have HFz := Lib.hid (show R (N - (i + 1)) (i + 1) = R N 0 from by rw [← HF.out, HST.out, hrx, if_pos h3])
                  have HZZ := Lib.hid hz1
                  rw [hzz]
                  clear hT hrx h3 hz1 hzz
                  go_wp2_with fail
                  go_roundg (gO - 1)
                  case measure => omega
                  case rel => exact ⟨i + 1, by go_num, by rw [HZZ.out], by omega, hg3, HFz⟩
                · obtain ⟨h3, hz1, hz0⟩ := hT.2.2 hE hzz
                  have HZZ := Lib.hid hz1
                  by_cases hl : (xl : Int) = zz i
                  · rw [if_pos hl] at h3
                    have HFz := Lib.hid (show R (N - (i + 1)) (i + 1) = R N 0 from by rw [← HF.out, HST.out, hrx, if_pos h3])
                    clear hT hrx h3 hz1 hzz
                    generalize zz i = z at *
                    have h0 : decide (z < 0) = false := decide_eq_false (by omega)
                    have h2 : ((xl : Int) != z) = false := by rw [hl]; simp
                    go_wp2_with fail
                    go_roundg (gO - 1)
                    case measure => omega
                    case rel => exact ⟨i + 1, by go_num, by rw [HZZ.out], by omega, hg3, HFz⟩
                  · rw [if_neg hl] at h3
                    have HQ : Hid (R N 0 = 2) := by unfold Hid; rw [← HF.out, HST.out, hrx, h3, if_neg (by decide)]
                    clear hT hrx h3 hz1 hzz HZZ
                    generalize zz i = z at *
                    have h0 : decide (z < 0) = false := decide_eq_false (by omega)
                    have h2 : ((xl : Int) != z) = true := bne_iff_ne.2 hl
                    go_wp2_with fail
                    go_ret
                    exact ⟨by rw [HQ.out]; rfl, hg3⟩
            · rw [if_neg h6] at hrx
              have HQ : Hid (R N 0 = z6) := by unfold Hid; rw [← HF.out, HST.out, hrx, if_neg h6]
              have h7 : (z6 != 0) = true := bne_iff_ne.2 h6
              clear hrx hT
              go_wp2_with fail
              go_ret
              exact ⟨by rw [HQ.out]; rfl, hg3⟩
    · have hin : i = N := by omega
      have hi2 : ¬ (i : Int) < N := by omega
      have HQ : Hid (R N 0 = 0) := by unfold Hid; rw [← HF.out, hin, Nat.sub_self]; exact HE.out
      go_wp2_with fail
      go_ret
      exact ⟨by rw [HQ.out]; rfl, hg⟩
end Go.Proofs.YtenhodepaoaiiaaGreatDoor
