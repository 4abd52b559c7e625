/- Starters, as the reference checks them. -/
import Derived.Test.YtlcbdgmclhdofaaGreatDoorGLsA
import Derived.Shelf.SlSortCmp.Kit1
import Derived.Sort.Grow
import Derived.Test.YtlcbdgmclhdofaaGreatDoorGOpN
import Derived.Test.YtlcbdgmclhdofaaGreatDoorNamesB
namespace Go.Proofs.YtlcbdgmclhdofaaGreatDoor
open Go.RowKit Go.Lib
set_option linter.unusedSimpArgs false
set_option linter.unusedVariables false
theorem outside6_c (n l h : Int) (w : World) :
    Calls Tryz.prog 14 #[.int .i64 n, .int .i64 l, .int .i64 h] w fun e w' => e = .returned (.int .i64 (if outB n l h = true then 3 else 0)) ∧ w = w' := by
  have HE : Hid (outB n l h = (decide (n < l) || decide (h < n))) := rfl
  obtain ⟨z, hz⟩ : ∃ z, z = (if outB n l h = true then (3 : Int) else 0) := ⟨_, rfl⟩
  rw [← hz]
  have HZ := Lib.hid hz
  clear hz
  cases h1 : decide (n < l) <;> cases h2 : decide (h < n)
  all_goals
    rw [h1, h2] at HE
    go_enter Tryz.func14, Tryz.ntmps14
    go_wp2_with fail
    go_ret
    exact ⟨by rw [HZ.out, HE.out]; rfl, rfl⟩
theorem entE_eq (xs : List EntR) (i : Nat) (x : EntR) : entE xs i x = if (!decide (Nm x.nm)) = true then 8 else if dupN (fun y : EntR => y.nm) xs i x.nm = true then 9 else if (!decide (Nm x.na)) = true then 8 else if outB x.sd 0 999999999 = true then 3 else 0 := by
  unfold entE nmE outE
  by_cases q0 : Nm x.nm <;> by_cases q1 : Nm x.na <;> cases dupN (fun y : EntR => y.nm) xs i x.nm <;> cases outB x.sd 0 999999999 <;> simp [firstE, q0, q1]
set_option maxHeartbeats 1000000 in
set_option maxRecDepth 100000 in
theorem refEnts_pos (xs : List EntR) (n b off cap : Nat) (w : World) (hn : xs.length = n) (h1 : n ≤ 160) (hc : ∀ i x, xs[i]? = some x → EntAt w b (off + i * 3) x) :
    Calls Tryz.prog 9 #[.slice (some ⟨b, off, none⟩) n cap] w fun e w' => e = .returned (.int .i64 (errG (entE xs) xs n 0)) ∧ Gr w w' := by
  have HC := Lib.hid hc
  have HN := Lib.hid hn
  clear hc hn
  have hz2 : decide ((160 : Int) < n) = false := by simp; omega
  go_enter Tryz.func9, Tryz.ntmps9
  go_wp2_with fail
  go_loopg [3] n (fun gk s3 wr => ∃ i : Nat, s3 = .int .i64 i ∧ gk + i = n ∧ Gr w wr ∧ Hid (errG (entE xs) xs (n - i) i = errG (entE xs) xs n 0))
  case atStart => exact ⟨0, rfl, by omega, Gr.refl _, by simp [Hid]⟩
  case round =>
    obtain ⟨i, rfl, hi, hg, HF⟩ := hrel
    obtain ⟨gO, rfl⟩ : ∃ q, q = gk := ⟨gk, rfl⟩
    by_cases hlt : i < n
    · obtain ⟨x, hx⟩ : ∃ x, xs[i]? = some x := ⟨xs[i]'(by have := HN.out; omega), List.getElem?_eq_getElem _⟩
      have hcell := HC.out i x hx
      obtain ⟨c0, c1, c2⟩ := hcell.gr hg
      have hf := errG_step (E := entE xs) hlt hx
      rw [entE_eq] at hf
      have hi2 : (i : Int) < n := by omega
      have hN0 := fun W => refIsName_c x.nm W
      have hN1 := fun W => refIsName_c x.na W
      have hO := fun W => outside6_c x.sd 0 999999999 W
      clear hx hcell
      generalize decide (Nm x.nm) = n0 at hf hN0
      generalize decide (Nm x.na) = n1 at hf hN1
      generalize outB x.sd 0 999999999 = o0 at hf hO
      replace hN0 := Lib.hid hN0
      replace hN1 := Lib.hid hN1
      have HF0 := Lib.hid hf
      clear hf
      cases n0
      · have HF1 := HF0.out
        simp only [Bool.not_false, if_true, show ¬ (8 : Int) = 0 by decide, if_false] at HF1
        have HF2 := Lib.hid HF1
        clear HF1 HF0 hO
        go_wp2_with fail
        refine (hN0.out _).mono ?_
        rintro e w4 ⟨rfl, rfl⟩
        go_wp2_with fail
        go_ret
        exact ⟨by rw [← HF.out, HF2.out]; rfl, hg⟩
      have HF1 := HF0.out
      simp only [Bool.not_true, Bool.false_eq_true, if_false] at HF1
      have HF2 := Lib.hid HF1
      clear HF1 HF0
      replace hO := Lib.hid hO
      go_wp2_with fail
      refine (hN0.out _).mono ?_
      rintro e w4 ⟨rfl, rfl⟩
      go_wp2_with fail
      go_loopg [4] i (fun g2 s5 wr2 => ∃ k : Nat, s5 = .int .i64 k ∧ g2 + k = i ∧ Gr wr wr2 ∧ Hid (dupN (fun y : EntR => y.nm) xs k x.nm = false))
      case atStart => exact ⟨0, rfl, by omega, Gr.refl _, by simp [Hid, dupN]⟩
      case round =>
        obtain ⟨k, rfl, hk, hg2, HD⟩ := hrel
        replace c0 := hg2.cell c0
        replace c1 := hg2.cell c1
        replace c2 := hg2.cell c2
        replace hg := hg.trans hg2
        by_cases hlk : k < i
        · obtain ⟨y, hy⟩ : ∃ y, xs[k]? = some y := ⟨xs[k]'(by have := HN.out; omega), List.getElem?_eq_getElem _⟩
          have d0 := ((HC.out k y hy).gr hg).nm
          have hk2 : (k : Int) < i := by omega
          have hk3 : (k : Int) < n := by omega
          have hdp := dupN_succ (fun y : EntR => y.nm) hy x.nm
          rw [HD.out, Bool.false_or] at hdp
          clear hy
          cases e2 : (y.nm.toList == x.nm.toList)
          · simp only [e2] at hdp
            have HD2 := Lib.hid hdp
            clear hdp
            go_wp2_with fail
            go_big_quiet (fail)
            go_wp2_with fail
            go_roundg (gk - 1)
            case measure => omega
            case rel => exact ⟨k + 1, by go_num, by omega, hg2.drewN _, HD2⟩
          · simp only [e2] at hdp
            have HD2 := Lib.hid (dupN_le (fun y : EntR => y.nm) (i := i) (by omega) hdp)
            clear hdp
            rw [if_pos HD2.out, if_neg (by decide)] at HF2
            go_wp2_with fail
            go_big_quiet (fail)
            go_wp2_with fail
            go_ret
            exact ⟨by rw [← HF.out, HF2.out]; rfl, hg.drewN _⟩
        · have hki : k = i := by omega
          subst hki
          have HF3 := HF2.out
          rw [HD.out] at HF3
          simp only [Bool.false_eq_true, if_false] at HF3
          have hnk : ¬ (k : Int) < k := by omega
          clear HF2
          cases n1 <;> cases o0
          all_goals
            simp only [Bool.not_true, Bool.not_false, Bool.false_eq_true, if_true, if_false, show ¬ (8 : Int) = 0 by decide, show ¬ (3 : Int) = 0 by decide] at HF3
            have HF2 := Lib.hid HF3
            clear HF3
            have HO2 := hO.out
            simp only [Bool.false_eq_true, if_true, if_false] at HO2
            replace HO2 := Lib.hid HO2
            go_wp2_with fail
            refine (hN1.out _).mono ?_
            rintro e w4 ⟨rfl, rfl⟩
            go_wp2_with fail
            try (refine (HO2.out _).mono ?_; rintro e w4 ⟨rfl, rfl⟩; go_wp2_with fail)
            first
              | (go_ret
                 exact ⟨by rw [← HF.out, HF2.out]; rfl, hg⟩)
              | (go_roundg (gO - 1)
                 case measure => omega
                 case rel => exact ⟨k + 1, by go_num, by omega, hg, by unfold Hid; rw [← HF2.out, HF.out]⟩)
    · have hin : i = n := by omega
      have HE2 : Hid (errG (entE xs) xs (n - i) i = 0) := by unfold Hid; rw [hin, Nat.sub_self]; rfl
      have hi2 : (n : Int) ≤ i := by omega
      clear hin
      go_wp2_with fail
      go_ret
      exact ⟨by rw [← HF.out, HE2.out]; rfl, hg⟩
theorem refEnts_c {v : Value} {xs : List EntR} {w : World} (h : EntAts w v xs) :
    Calls Tryz.prog 9 #[v] w fun e w' => e = .returned (.int .i64 (listE 160 (entE xs) xs)) ∧ Gr w w' := by
  obtain ⟨⟨p, cap, rfl, _, hh⟩⟩ := h
  rcases Nat.lt_or_ge 160 xs.length with hl | hl
  · have HE : Hid (listE 160 (entE xs) xs = 5) := by unfold Hid listE; rw [if_pos hl]
    have hz2 : decide ((160 : Int) < xs.length) = true := decide_eq_true (by omega)
    clear hh
    go_enter Tryz.func9, Tryz.ntmps9
    go_wp2_with fail
    go_ret
    exact ⟨by rw [HE.out]; rfl, Gr.refl _⟩
  · have HE : listE 160 (entE xs) xs = errG (entE xs) xs xs.length 0 := by unfold listE; rw [if_neg (by omega)]
    rw [HE]
    rcases Nat.eq_zero_or_pos xs.length with h0 | h0
    · have hx : xs = [] := List.eq_nil_of_length_eq_zero h0
      subst hx
      go_enter Tryz.func9, Tryz.ntmps9
      go_wp2_with fail
      refine wp_loop_rounds 2 ?_
      rw [rounds_succ]
      go_wp2_with fail
      go_ret
      exact ⟨rfl, Gr.refl _⟩
    · obtain ⟨b, off, rfl, hc⟩ := hh h0
      exact refEnts_pos xs _ b off cap w rfl hl hc
end Go.Proofs.YtlcbdgmclhdofaaGreatDoor
namespace Go.Proofs.YtlcbdgmclhdofaaGreatDoor
open Go.RowKit Go.Lib
set_option linter.unusedSimpArgs false
set_option linter.unusedVariables false
variable {Mx : Nat}
/-- -1, 0 or 1 -/
def cmpY (a b : Int) : Int := if decide (a < b) then -1 else if decide (b < a) then 1 else 0
theorem isNaNY_c (x : Int) (w : World) :
    Calls Tryz.prog 101 #[.int .i64 x] w fun e w' => e = .returned (.bool false) ∧ w = w' := by
  go_enter Tryz.func101, Tryz.ntmps101
  go_wp2_with fail
  go_ret
  exact ⟨by simp, rfl⟩
theorem cmpYInt_c (x y : Int) (w : World) :
    Calls Tryz.prog 64 #[.int .i64 x, .int .i64 y] w fun e w' => e = .returned (.int .i64 (cmpY x y)) ∧ w = w' := by
  have HX := Lib.hid (fun W => isNaNY_c x W)
  have HY := Lib.hid (fun W => isNaNY_c y W)
  have HE : Hid (cmpY x y = if decide (x < y) then -1 else if decide (y < x) then 1 else 0) := rfl
  cases h1 : decide (x < y) <;> cases h2 : decide (y < x)
  all_goals
    rw [h1, h2] at HE
    go_enter Tryz.func64, Tryz.ntmps64
    go_wp2_with fail
    repeat (first
      | (with_reducible refine (HX.out _).mono ?_; rintro e w4 ⟨rfl, rfl⟩; go_wp2_with fail)
      | (with_reducible refine (HY.out _).mono ?_; rintro e w4 ⟨rfl, rfl⟩; go_wp2_with fail))
    go_ret
    exact ⟨by rw [HE.out]; rfl, rfl⟩
theorem cmpY_lt (a b : Int) : cmpY a b < 0 ↔ a < b := by
  unfold cmpY
  by_cases h1 : a < b
  · simp [h1]
  · by_cases h2 : b < a <;> simp [h1, h2]
def cmpK (key : Fin (Mx + 1) → Int) (a b : Fin (Mx + 1)) : Int := cmpY (key a) (key b)
theorem lt_cmpK (key : Fin (Mx + 1) → Int) (a b : Fin (Mx + 1)) : ltOf (cmpK key) a b = decide (key a < key b) := by
  unfold ltOf
  exact decide_eq_decide.2 (cmpY_lt _ _)
theorem swo_cmpK (key : Fin (Mx + 1) → Int) : Go.Sort.SWO (ltOf (cmpK key)) where
  irrefl x := by rw [lt_cmpK]; simp
  trans x y z h1 h2 := by rw [lt_cmpK, decide_eq_true_eq] at *; omega
  ntrans x y z h1 h2 := by rw [lt_cmpK, decide_eq_false_iff_not] at *; omega
def encN (s : Fin (Mx + 1)) : Value := .int .i64 (s.val : Int)
open Go.Sort Go.Shelf in
/-- what the library's insertion sort does -/
structure InsNOK : Prop where
  some : ∀ (Mx : Nat) (m : Fin (Mx + 1) → Int) (cb : Array Value) (blk off cap a b : Nat) (d0 d : Array (Fin (Mx + 1))) (w0 w : World), CmpLays1 Tryz.prog 93 cb encN (cmpK m) blk off d0.size w0 → Row1 encN w0 blk off d0 → d0.size = d.size → SW encN w0 blk off d w → a ≤ b → b ≤ d.size → d.size < 4611686018427387904 →
    Calls Tryz.prog 152 #[.slice (some ⟨blk, off, none⟩) d.size cap, .int .i64 a, .int .i64 b, .func (.func 93) #[] cb] w fun e w' =>
      e = .returned (.tuple #[]) ∧ SW encN w0 blk off (Sort.insertionSort (ltOf (cmpK m)) d a b) w'
open Go.Sort Go.Shelf in
set_option maxHeartbeats 1000000 in
set_option maxRecDepth 100000 in
theorem stableI_c (I : InsNOK) (m : Fin (Mx + 1) → Int) (cb : Array Value) (blk off cap : Nat) (d : Array (Fin (Mx + 1))) (w0 w : World) (hl : CmpLays1 Tryz.prog 93 cb encN (cmpK m) blk off d.size w0) (hR : Row1 encN w0 blk off d) (hS : SW encN w0 blk off d w) (hn : d.size < 20) :
    Calls Tryz.prog 130 #[.slice (some ⟨blk, off, none⟩) d.size cap, .int .i64 d.size, .func (.func 93) #[] cb] w fun e w' =>
      e = .returned (.tuple #[]) ∧ SW encN w0 blk off (Sort.insertionSort (ltOf (cmpK m)) d 0 d.size) w' := by
  have HI := Lib.hid (I.some _ m cb blk off cap 0 d.size d d w0 w hl hR rfl hS (by omega) (by omega) (by omega))
  clear hl hR hS I
  generalize Sort.insertionSort (ltOf (cmpK m)) d 0 d.size = dd at *
  generalize hnn : d.size = n at *
  have h1 : ¬ ((20 : Int) ≤ (n : Int)) := by omega
  have h2 : ¬ ((20 : Int) < (n : Int)) := by omega
  have h1' : (decide ((20 : Int) ≤ (n : Int))) = false := decide_eq_false h1
  have h2' : (decide ((20 : Int) < (n : Int))) = false := decide_eq_false h2
  clear hnn
  go_enter Tryz.func130, Tryz.ntmps130
  go_wp2_with fail
  go_loopg [7, 8] 0 (fun gk s7 s8 wr => gk = 0 ∧ s7 = .int .i64 0 ∧ s8 = .int .i64 20 ∧ wr = w)
  case atStart => exact ⟨rfl, rfl, rfl, rfl⟩
  case round =>
    obtain ⟨rfl, rfl, rfl, rfl⟩ := hrel
    rw [Int.natCast_zero] at HI
    go_wp2_with (refine HI.out.mono ?_; rintro e w4 ⟨rfl, HW⟩)
    go_loopg [6, 7, 8, 9] 0 (fun gk s6 s7 s8 s9 wr => gk = 0 ∧ s6 = .int .i64 20 ∧ s7 = .int .i64 0 ∧ wr = w4)
    case atStart => exact ⟨rfl, rfl, rfl, rfl⟩
    case round =>
      obtain ⟨rfl, rfl, rfl, rfl⟩ := hrel
      go_wp2_with fail
      go_end0
      exact ⟨rfl, HW⟩
open Go.Sort Go.Shelf in
set_option maxHeartbeats 1000000 in
set_option maxRecDepth 100000 in
theorem sortII_c (I : InsNOK) (m : Fin (Mx + 1) → Int) (cb : Array Value) (blk off cap : Nat) (d : Array (Fin (Mx + 1))) (w0 w : World) (hl : CmpLays1 Tryz.prog 93 cb encN (cmpK m) blk off d.size w0) (hR : Row1 encN w0 blk off d) (hS : SW encN w0 blk off d w) (hn : d.size < 20) :
    Calls Tryz.prog 92 #[.slice (some ⟨blk, off, none⟩) d.size cap, .func (.func 93) #[] cb] w fun e w' =>
      e = .returned (.tuple #[]) ∧ SW encN w0 blk off (Sort.insertionSort (ltOf (cmpK m)) d 0 d.size) w' := by
  have HI := Lib.hid (stableI_c I m cb blk off cap d w0 w hl hR hS hn)
  clear hl hR hS I hn
  generalize Sort.insertionSort (ltOf (cmpK m)) d 0 d.size = dd at *
  generalize d.size = n at *
  go_enter Tryz.func92, Tryz.ntmps92
  go_wp2_with (refine HI.out.mono ?_; rintro e w4 ⟨rfl, HW⟩)
  go_end0
  exact ⟨rfl, HW⟩
theorem insI_0 (p : Option Addr) (cap : Nat) (f : Value) (w : World) :
    Calls Tryz.prog 152 #[.slice p 0 cap, .int .i64 0, .int .i64 0, f] w fun e w' => e = .returned (.tuple #[]) ∧ w' = w := by
  go_enter Tryz.func152, Tryz.ntmps152
  go_wp2_with fail
  refine wp_loop_rounds 2 ?_
  rw [rounds_succ]
  go_wp2_with fail
  go_end0
  exact ⟨rfl, rfl⟩
theorem stableI_0 (p : Option Addr) (cap : Nat) (f : Value) (w : World) :
    Calls Tryz.prog 130 #[.slice p 0 cap, .int .i64 0, f] w fun e w' => e = .returned (.tuple #[]) ∧ w' = w := by
  have HI := Lib.hid (insI_0 p cap f)
  go_enter Tryz.func130, Tryz.ntmps130
  go_wp2_with fail
  refine wp_loop_rounds 2 ?_
  rw [rounds_succ]
  go_wp2_with (refine (HI.out _).mono ?_; rintro e w4 ⟨rfl, rfl⟩)
  refine wp_loop_rounds 2 ?_
  rw [rounds_succ]
  go_wp2_with fail
  go_end0
  exact ⟨rfl, rfl⟩
theorem sortII_0 (p : Option Addr) (cap : Nat) (f : Value) (w : World) :
    Calls Tryz.prog 92 #[.slice p 0 cap, f] w fun e w' => e = .returned (.tuple #[]) ∧ w' = w := by
  have HI := Lib.hid (stableI_0 p cap f)
  go_enter Tryz.func92, Tryz.ntmps92
  go_wp2_with (refine (HI.out _).mono ?_; rintro e w4 ⟨rfl, rfl⟩)
  go_end0
  exact ⟨rfl, rfl⟩
end Go.Proofs.YtlcbdgmclhdofaaGreatDoor
namespace Go.Proofs.YtlcbdgmclhdofaaGreatDoor
open Go.RowKit Go.Lib
set_option linter.unusedSimpArgs false
set_option linter.unusedVariables false
/-- the place of a state -/
def gradeZ (l : List UInt8) : Int := if l = [] then 0 else if l = [100, 110, 115] then 1 else if l = [100, 110, 102] then 2 else if l = [100, 115, 113] then 3 else -1
inductive Grade (l : List UInt8) : Prop where
  | none (h : l = [])
  | dns (h : l = [100, 110, 115])
  | dnf (h : l = [100, 110, 102])
  | dsq (h : l = [100, 115, 113])
  | other (h0 : l.isEmpty = false) (h1 : (l == [100, 110, 115]) = false) (h2 : (l == [100, 110, 102]) = false) (h3 : (l == [100, 115, 113]) = false)
theorem grade_of (l : List UInt8) : Grade l := by
  by_cases h0 : l = []
  · exact .none h0
  by_cases h1 : l = [100, 110, 115]
  · exact .dns h1
  by_cases h2 : l = [100, 110, 102]
  · exact .dnf h2
  by_cases h3 : l = [100, 115, 113]
  · exact .dsq h3
  exact .other (by cases l with | nil => exact absurd rfl h0 | cons _ _ => rfl) (by simpa using h1) (by simpa using h2) (by simpa using h3)
theorem gradeZ_other {l : List UInt8} (h0 : l.isEmpty = false) (h1 : (l == [100, 110, 115]) = false) (h2 : (l == [100, 110, 102]) = false) (h3 : (l == [100, 115, 113]) = false) : gradeZ l = -1 := by
  unfold gradeZ
  rw [if_neg (by intro e; rw [e] at h0; cases h0), if_neg (by simpa using h1), if_neg (by simpa using h2), if_neg (by simpa using h3)]
theorem beq_flip {a b : List UInt8} (h : (a == b) = false) : (b == a) = false := by
  cases hh : b == a with
  | false => rfl
  | true => rw [eq_of_beq hh] at h; simp at h
end Go.Proofs.YtlcbdgmclhdofaaGreatDoor
namespace Go.Proofs.YtlcbdgmclhdofaaGreatDoor
open Go.RowKit Go.Lib
set_option linter.unusedSimpArgs false
set_option linter.unusedVariables false
/-- the error of values -/
def valsE (xs : List Int) : Int := firstE (xs.map fun n => outE n (-999999999) 999999999)
theorem valsE_drop {xs : List Int} {k : Nat} {x : Int} (h : xs[k]? = some x) : valsE (xs.drop k) = if outE x (-999999999) 999999999 = 0 then valsE (xs.drop (k + 1)) else outE x (-999999999) 999999999 := by
  unfold valsE
  rw [List.map_drop, List.map_drop]
  exact firstE_drop (by rw [List.getElem?_map, h]; rfl)
end Go.Proofs.YtlcbdgmclhdofaaGreatDoor
namespace Go.Proofs.YtlcbdgmclhdofaaGreatDoor
open Go.RowKit Go.Lib
set_option linter.unusedSimpArgs false
set_option linter.unusedVariables false
/-- the error of a result -/
def resE (c s : ByteArray) (xs : List Int) : Int :=
  firstE [if !decide (Nm c) then 8 else 0, if gradeZ s.toList == -1 then 13 else 0, if !s.toList.isEmpty && decide (0 < xs.length) then 1 else 0, if decide ((8 : Int) < xs.length) then 5 else 0, valsE xs]
/-- a result's value -/
def resV (c s : ByteArray) (v : Value) : Value := .agg #[.string c, .string s, v]
end Go.Proofs.YtlcbdgmclhdofaaGreatDoor
namespace Go.Proofs.YtlcbdgmclhdofaaGreatDoor
open Go.RowKit Go.Lib
set_option linter.unusedSimpArgs false
set_option linter.unusedVariables false
/-- -1, 0 or 1 -/
def cmpZ (a b : Int) : Int := if decide (a < b) then -1 else if decide (b < a) then 1 else 0
theorem cmpZ_self (a : Int) : cmpZ a a = 0 := by unfold cmpZ; simp
theorem cmpZ_zero {a b : Int} (h : cmpZ a b = 0) : a = b := by
  unfold cmpZ at h
  split at h
  · cases h
  split at h
  · cases h
  · rename_i h1 h2
    simp at h1 h2; omega
theorem isNaN_c (x : Int) (w : World) :
    Calls Tryz.prog 101 #[.int .i64 x] w fun e w' => e = .returned (.bool false) ∧ w = w' := by
  go_enter Tryz.func101, Tryz.ntmps101
  go_wp2_with fail
  go_ret
  exact ⟨by simp, rfl⟩
theorem cmpInt_c (x y : Int) (w : World) :
    Calls Tryz.prog 64 #[.int .i64 x, .int .i64 y] w fun e w' => e = .returned (.int .i64 (cmpZ x y)) ∧ w = w' := by
  have HX := Lib.hid (fun W => isNaN_c x W)
  have HY := Lib.hid (fun W => isNaN_c y W)
  have HE : Hid (cmpZ x y = if decide (x < y) then -1 else if decide (y < x) then 1 else 0) := rfl
  cases h1 : decide (x < y) <;> cases h2 : decide (y < x)
  all_goals
    rw [h1, h2] at HE
    go_enter Tryz.func64, Tryz.ntmps64
    go_wp2_with fail
    repeat (first
      | (with_reducible refine (HX.out _).mono ?_; rintro e w4 ⟨rfl, rfl⟩; go_wp2_with fail)
      | (with_reducible refine (HY.out _).mono ?_; rintro e w4 ⟨rfl, rfl⟩; go_wp2_with fail))
    go_ret
    exact ⟨by rw [HE.out]; rfl, rfl⟩
set_option maxRecDepth 100000 in
theorem or_c (x y : Int) (b cap : Nat) (w : World) (hx : w.cell? ⟨b, 0, none⟩ = some (.int .i64 x)) (hy : w.cell? ⟨b, 1, none⟩ = some (.int .i64 y)) :
    Calls Tryz.prog 129 #[.slice (some ⟨b, 0, none⟩) 2 cap] w fun e w' => e = .returned (.int .i64 (firstE [x, y])) ∧ Gr w w' := by
  have HE : Hid (firstE [x, y] = if x = 0 then (if y = 0 then 0 else y) else x) := rfl
  go_enter Tryz.func129, Tryz.ntmps129
  go_wp2_with fail
  refine wp_loop_rounds 3 ?_
  rw [rounds_succ]
  by_cases h1 : x = 0
  · subst h1
    rw [if_pos rfl] at HE
    go_wp2_with fail
    rw [rounds_succ]
    by_cases h2 : y = 0
    · subst h2
      go_wp2_with fail
      rw [rounds_succ]
      go_wp2_with fail
      go_ret
      exact ⟨by rw [HE.out]; rfl, Gr.refl _⟩
    · have hd : (y == 0) = false := by simpa using h2
      have hd2 : (y != 0) = true := by simpa [bne] using hd
      rw [if_neg h2] at HE
      clear h2
      go_wp2_with fail
      go_ret
      exact ⟨by rw [HE.out]; rfl, Gr.refl _⟩
  · have hd : (x == 0) = false := by simpa using h1
    have hd2 : (x != 0) = true := by simpa [bne] using hd
    rw [if_neg h1] at HE
    clear h1
    go_wp2_with fail
    go_ret
    exact ⟨by rw [HE.out]; rfl, Gr.refl _⟩
/-- lists, one against the other -/
def cmpL : List Int → List Int → Int
  | [], [] => 0
  | [], _ :: _ => -1
  | _ :: _, [] => 1
  | x :: xs, y :: ys => if cmpZ x y = 0 then cmpL xs ys else cmpZ x y
theorem cmpL_drop {xs ys : List Int} {k : Nat} {x y : Int} (hx : xs[k]? = some x) (hy : ys[k]? = some y) : cmpL (xs.drop k) (ys.drop k) = if cmpZ x y = 0 then cmpL (xs.drop (k + 1)) (ys.drop (k + 1)) else cmpZ x y := by
  obtain ⟨h1, rfl⟩ := List.getElem?_eq_some_iff.1 hx
  obtain ⟨h2, rfl⟩ := List.getElem?_eq_some_iff.1 hy
  rw [List.drop_eq_getElem_cons h1, List.drop_eq_getElem_cons h2]; rfl
theorem cmpL_more {xs ys : List Int} {k : Nat} (hx : k < xs.length) (hy : ys.length ≤ k) : cmpL (xs.drop k) (ys.drop k) = 1 := by
  rw [List.drop_eq_getElem_cons hx, List.drop_of_length_le hy]; rfl
theorem cmpL_end {xs ys : List Int} {k : Nat} (hx : xs.length ≤ k) : cmpL (xs.drop k) (ys.drop k) = if decide (k < ys.length) then -1 else 0 := by
  rw [List.drop_of_length_le hx]
  by_cases h : k < ys.length
  · rw [List.drop_eq_getElem_cons h, decide_eq_true h]; rfl
  · rw [List.drop_of_length_le (by omega), decide_eq_false h]; rfl
end Go.Proofs.YtlcbdgmclhdofaaGreatDoor
