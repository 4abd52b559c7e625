/- Members: Lapse and Licensed, the program's. -/
import Derived.Test.YtmlmbgifkmkmgaaGreatMbYf
import Derived.Test.YtmlmbgifkmkmgaaGreatMbF
namespace Go.Proofs.YtmlmbgifkmkmgaaGreat
open Go.RowKit Go.Lib
set_option linter.unusedSimpArgs false
set_option linter.unusedVariables false
theorem lic_range {xs : List CatR} (h : listE 256 (licE xs) xs = 0) : xs.length ≤ 256 ∧ ∀ y ∈ xs, 0 ≤ y.lo ∧ y.lo ≤ y.hi ∧ y.hi ≤ 99999 := by
  unfold listE at h
  split at h
  · cases h
  · rename_i hl
    refine ⟨by omega, fun x hm => ?_⟩
    obtain ⟨i, hi, hx⟩ := List.mem_iff_getElem.1 hm
    have h0 := errG_zero xs.length 0 h (by omega) i x (by omega) (by omega) (by rw [List.getElem?_eq_getElem hi, hx])
    unfold licE at h0
    have h1 := firstE_zero h0 (outE x.lo 0 99999) (by simp)
    have h2 := firstE_zero h0 (outE x.hi 0 99999) (by simp)
    have h3 := firstE_zero h0 (if decide (x.hi < x.lo) then 11 else 0) (by simp)
    rw [outE_zero] at h1 h2
    have h6 : ¬ x.hi < x.lo := by
      intro h7
      rw [if_pos (by simpa using h7)] at h3
      cases h3
    omega
/-- the errors of Lapse and of Licensed; the day of lapse -/
def lapE (xs : List CatR) (nm : ByteArray) (d : Int) : Int := firstE [listE 256 (licE xs) xs, nmE nm, outE d 0 99999]
def licdE (xs : List CatR) (nm : ByteArray) (d t : Int) : Int := firstE [listE 256 (licE xs) xs, nmE nm, outE d 0 99999, outE t 0 99999, if decide (t < d) then 11 else 0]
def lapD (xs : List CatR) (nm : ByteArray) (d : Int) : Int := lapseZ (holdsB (mineL nm xs)) 100001 d
theorem lapE_zero {xs : List CatR} {nm : ByteArray} {d : Int} (h : lapE xs nm d = 0) : listE 256 (licE xs) xs = 0 ∧ nmE nm = 0 ∧ 0 ≤ d ∧ d ≤ 99999 := by
  unfold lapE at h
  have h1 := firstE_zero h (outE d 0 99999) (by simp)
  rw [outE_zero] at h1
  exact ⟨firstE_zero h _ (by simp), firstE_zero h _ (by simp), h1.1, h1.2⟩
theorem lap_of_licd {xs : List CatR} {nm : ByteArray} {d t : Int} (h : licdE xs nm d t = 0) : lapE xs nm d = 0 := by
  unfold licdE at h
  unfold lapE firstE firstE firstE firstE
  rw [firstE_zero h (listE 256 (licE xs) xs) (by simp), firstE_zero h (nmE nm) (by simp), firstE_zero h (outE d 0 99999) (by simp)]
  rfl
theorem lapseOf_ok {v : Value} {xs : List CatR} {w : World} (nm : ByteArray) (d : Int) (h : CatAts w v xs) (h0 : lapE xs nm d = 0) :
    Calls Tryz.prog 68 #[v, .string nm, .int .i64 d] w fun e w' => e = .returned (.int .i64 (lapD xs nm d)) ∧ Gr w w' := by
  obtain ⟨h1, _, h2, h3⟩ := lapE_zero h0
  obtain ⟨h4, h5⟩ := lic_range h1
  exact lapseOf_c nm d h (by omega) h2 (by omega) (fun y hy => (h5 y hy).2.2)
set_option maxHeartbeats 1000000 in
set_option maxRecDepth 100000 in
theorem lapse_c {v : Value} {xs : List CatR} {w : World} (nm : ByteArray) (d : Int) (h : CatAts w v xs) :
    Calls Tryz.prog 31 #[v, .string nm, .int .i64 d] w fun e w' => e = .returned (.tuple #[.int .i64 (if lapE xs nm d = 0 then lapD xs nm d else 0), .int .i64 (lapE xs nm d)]) ∧ Gr w w' := by
  have hR : lapE xs nm d = firstE [listE 256 (licE xs) xs, nmE nm, outE d 0 99999] := rfl
  have HK := Lib.hid (fun W (g : Gr w W) => checkLics_c xs _ W (h.gr g))
  have HL := Lib.hid (fun (h0 : lapE xs nm d = 0) W (g : Gr w W) => lapseOf_ok nm d (h.gr g) h0)
  obtain ⟨e2, h2', H2⟩ := name_e nm
  obtain ⟨e3, h3', H3⟩ := day_e d
  generalize listE 256 (licE xs) xs = e1 at *
  rw [← h2', ← h3'] at hR
  have hF := first_three e1 e2 e3
  rw [← hR] at hF
  generalize lapD xs nm d = D at *
  generalize lapE xs nm d = err at *
  replace H2 := Lib.hid H2
  replace H3 := Lib.hid H3
  have HF := Lib.hid hF
  obtain ⟨p, n, cap, rfl⟩ : ∃ p n cap, v = .slice p n cap := by
    obtain ⟨⟨p, cap, rfl, _⟩⟩ := h
    exact ⟨p, _, cap, rfl⟩
  clear hF hR h2' h3' h
  have g0 := Gr.refl w
  go_enter Tryz.func31, Tryz.ntmps31
  go_wp2_with fail
  refine (HK.out _ g0).mono ?_
  rintro e W1 ⟨rfl, hg⟩
  have g := g0.trans hg
  clear hg
  go_wp2_with fail
  refine (H2.out _).mono ?_
  rintro e W2 ⟨rfl, hg⟩
  replace g := g.trans hg
  clear hg
  go_wp2_with fail
  refine (H3.out _).mono ?_
  rintro e W3 ⟨rfl, rfl⟩
  go_wp2_with fail
  obtain ⟨WW, hWW, gW, s0, s1, s2⟩ := box3 W2 (.int .i64 e1) (.int .i64 e2) (.int .i64 e3) 30
  rw [hWW]
  clear hWW
  replace g := g.trans gW
  refine (HF.out _ _ WW s0 s1 s2).mono ?_
  rintro e W8 ⟨rfl, rfl⟩
  by_cases hz : err = 0
  · subst hz
    go_wp2_with fail
    refine (HL.out (by trivial) _ g).mono ?_
    rintro e W9 ⟨rfl, hg⟩
    go_wp2_with fail
    exact bodyPost_ret (v := .tuple #[.int .i64 D, .int .i64 0]) (by simp [results, Tryz.results31, go_sem]) rfl ⟨rfl, g.trans hg⟩
  · have q1 : (err == 0) = false := by simpa using hz
    have q2 : (err != 0) = true := by simpa [bne] using q1
    go_wp2_with fail
    exact bodyPost_ret (v := .tuple #[.int .i64 0, .int .i64 err]) (by simp [results, Tryz.results31, go_sem]) rfl ⟨rfl, g⟩
set_option maxHeartbeats 1000000 in
set_option maxRecDepth 100000 in
theorem licensed_c {v : Value} {xs : List CatR} {w : World} (nm : ByteArray) (d t : Int) (h : CatAts w v xs) :
    Calls Tryz.prog 30 #[v, .string nm, .int .i64 d, .int .i64 t] w fun e w' => e = .returned (.tuple #[.bool (if licdE xs nm d t = 0 then decide (t < lapD xs nm d) else false), .int .i64 (licdE xs nm d t)]) ∧ Gr w w' := by
  have hR : licdE xs nm d t = firstE [listE 256 (licE xs) xs, nmE nm, outE d 0 99999, outE t 0 99999, if decide (t < d) then 11 else 0] := rfl
  have HK := Lib.hid (fun W (g : Gr w W) => checkLics_c xs _ W (h.gr g))
  have HL := Lib.hid (fun (h0 : licdE xs nm d t = 0) W (g : Gr w W) => lapseOf_ok nm d (h.gr g) (lap_of_licd h0))
  obtain ⟨e2, h2', H2⟩ := name_e nm
  obtain ⟨e3, h3', H3⟩ := day_e d
  obtain ⟨e4, h4', H4⟩ := day_e t
  obtain ⟨e5, h5', H5⟩ := if_e (decide (t < d)) 11
  generalize listE 256 (licE xs) xs = e1 at *
  rw [← h2', ← h3', ← h4', ← h5'] at hR
  have hF := fst5 e1 e2 e3 e4 e5
  rw [← hR] at hF
  generalize lapD xs nm d = D at *
  generalize licdE xs nm d t = err at *
  replace H2 := Lib.hid H2
  replace H3 := Lib.hid H3
  replace H4 := Lib.hid H4
  replace H5 := Lib.hid H5
  have HF := Lib.hid hF
  obtain ⟨p, n, cap, rfl⟩ : ∃ p n cap, v = .slice p n cap := by
    obtain ⟨⟨p, cap, rfl, _⟩⟩ := h
    exact ⟨p, _, cap, rfl⟩
  clear hF hR h2' h3' h4' h5' h
  have g0 := Gr.refl w
  go_enter Tryz.func30, Tryz.ntmps30
  go_wp2_with fail
  refine (HK.out _ g0).mono ?_
  rintro e W1 ⟨rfl, hg⟩
  have g := g0.trans hg
  clear hg
  go_wp2_with fail
  refine (H2.out _).mono ?_
  rintro e W2 ⟨rfl, hg⟩
  replace g := g.trans hg
  clear hg
  go_wp2_with fail
  refine (H3.out _).mono ?_
  rintro e W3 ⟨rfl, rfl⟩
  go_wp2_with fail
  refine (H4.out _).mono ?_
  rintro e W3 ⟨rfl, rfl⟩
  go_wp2_with fail
  refine (H5.out _).mono ?_
  rintro e W3 ⟨rfl, rfl⟩
  go_wp2_with fail
  obtain ⟨WW, hWW, gW, s0, s1, s2, s3, s4⟩ := bx5 W2 (.int .i64 e1) (.int .i64 e2) (.int .i64 e3) (.int .i64 e4) (.int .i64 e5) 30
  rw [hWW]
  clear hWW
  replace g := g.trans gW
  refine (HF.out _ _ WW s0 s1 s2 s3 s4).mono ?_
  rintro e W8 ⟨rfl, rfl⟩
  by_cases hz : err = 0
  · subst hz
    go_wp2_with fail
    refine (HL.out (by trivial) _ g).mono ?_
    rintro e W9 ⟨rfl, hg⟩
    go_wp2_with fail
    exact bodyPost_ret (v := .tuple #[.bool (decide (t < D)), .int .i64 0]) (by simp [results, Tryz.results30, go_sem]) rfl ⟨rfl, g.trans hg⟩
  · have q1 : (err == 0) = false := by simpa using hz
    have q2 : (err != 0) = true := by simpa [bne] using q1
    go_wp2_with fail
    exact bodyPost_ret (v := .tuple #[.bool false, .int .i64 err]) (by simp [results, Tryz.results30, go_sem]) rfl ⟨rfl, g⟩
end Go.Proofs.YtmlmbgifkmkmgaaGreat
