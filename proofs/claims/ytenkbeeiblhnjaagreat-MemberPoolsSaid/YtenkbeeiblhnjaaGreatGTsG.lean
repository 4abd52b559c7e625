/- Members: Late. -/
import Derived.Test.YtenkbeeiblhnjaaGreatGMapM
import Derived.Test.YtenkbeeiblhnjaaGreatGDrC
import Derived.Shelf.SlSortCmp.Kit1
import Derived.Sort.Grow
namespace Go.Proofs.YtenkbeeiblhnjaaGreat
open Go.RowKit Go.Lib
set_option linter.unusedSimpArgs false
set_option linter.unusedVariables false
def lateE (cs : List ByteArray) (xs : List TstR) (ds d : Int) : Int := firstE [listE 160 (strE cs) cs, listE 256 (tstE xs) xs, outE ds 0 99999, outE d 0 99999]
theorem tst_range {xs : List TstR} (h : listE 256 (tstE xs) xs = 0) : xs.length ≤ 256 ∧ ∀ y ∈ xs, 0 ≤ y.dy ∧ y.dy ≤ 99999 := by
  unfold listE at h
  split at h
  · cases h
  · rename_i hl
    refine ⟨by omega, fun x hm => ?_⟩
    obtain ⟨i, hi, hx⟩ := List.mem_iff_getElem.1 hm
    have h0 := errG_zero xs.length 0 h (by omega) i x (by omega) (by omega) (by rw [List.getElem?_eq_getElem hi, hx])
    unfold tstE at h0
    exact outE_zero.1 (firstE_zero h0 (outE x.dy 0 99999) (by simp))
theorem str_len {cs : List ByteArray} (h : listE 160 (strE cs) cs = 0) : cs.length ≤ 160 := by
  unfold listE at h
  split at h
  · cases h
  · omega
theorem lateE_zero {cs : List ByteArray} {xs : List TstR} {ds d : Int} (h : lateE cs xs ds d = 0) : listE 160 (strE cs) cs = 0 ∧ listE 256 (tstE xs) xs = 0 ∧ (0 ≤ ds ∧ ds ≤ 99999) ∧ 0 ≤ d ∧ d ≤ 99999 := by
  unfold lateE at h
  exact ⟨firstE_zero h _ (by simp), firstE_zero h _ (by simp), outE_zero.1 (firstE_zero h (outE ds 0 99999) (by simp)), outE_zero.1 (firstE_zero h (outE d 0 99999) (by simp))⟩
theorem late_iff {xs : List TstR} (h : ∀ x ∈ xs, 0 ≤ x.dy) (s : ByteArray) (ds d : Int) : decide (lastT xs s (d - ds) d < 0) = (decide (lastZ (lastD d s) xs (-1) < 0) || decide (lastZ (lastD d s) xs (-1) < d - ds)) := by
  have := last_span s (d - ds) d xs (-1) (-1) h (.inl ⟨by omega, .inl (by omega)⟩)
  unfold lastT
  rw [← Bool.decide_or]
  apply decide_eq_decide.2
  omega
theorem lastZ_ge (Q : TstR → Bool) : ∀ (l : List TstR) (m : Int), m ≤ lastZ Q l m
  | [], m => Int.le_refl _
  | y :: l, m => by
    have := lastZ_ge Q l (if Q y then max m y.dy else m)
    simp only [lastZ]
    split at this <;> simp_all <;> omega
set_option maxHeartbeats 2000000 in
set_option maxRecDepth 100000 in
theorem late_good {vc v : Value} {cs : List ByteArray} {xs : List TstR} {w : World} (ds d : Int) (hcs : StrAts w vc cs) (h : TstAts w v xs) (h0 : lateE cs xs ds d = 0) :
    Calls Tryz.prog 14 #[vc, v, .int .i64 ds, .int .i64 d] w fun e w' => ∃ u, e = .returned (.tuple #[u, .int .i64 0]) ∧ StrAts w' u (lateL xs ds d cs) ∧ Gr w w' := by
  obtain ⟨i0, hi, hz0, hz1, hz2⟩ := info_parts infoStrN
  obtain ⟨z1, z2, ⟨q1, q2⟩, q3, q4⟩ := lateE_zero h0
  have hcl := str_len z1
  obtain ⟨htl, htr⟩ := tst_range z2
  have HC := Lib.hid (fun W (g : Gr w W) => checkNms_c cs 160 _ W (by omega) (hcs.gr g))
  have HT := Lib.hid (fun W (g : Gr w W) => checkTsts_c xs _ W (h.gr g))
  have HL := Lib.hid (fun W (g : Gr w W) => lastTests_c d (hcs.gr g) (h.gr g) (by omega) (by omega))
  obtain ⟨e3, h3', H3⟩ := day_e ds
  obtain ⟨e4, h4', H4⟩ := day_e d
  rw [outE_zero.2 ⟨q1, q2⟩] at h3'
  rw [outE_zero.2 ⟨q3, q4⟩] at h4'
  subst h3' h4'
  have HF := Lib.hid (first_four 0 0 0 0)
  rw [show firstE [0, 0, 0, 0] = 0 by simp [firstE]] at HF
  rw [z1] at HC
  rw [z2] at HT
  replace H3 := Lib.hid H3
  replace H4 := Lib.hid H4
  have HI := Lib.hid (fun s => late_iff (fun x hx => (htr x hx).1) s ds d)
  have HLM := Lib.hid (fun s (hs : s ∈ cs) => look_last (xs := xs) (d := d) hs)
  have HGE := Lib.hid (fun s => lastZ_ge (lastD d s) xs (-1))
  obtain ⟨pt, nt, capt, rfl⟩ : ∃ p n cap, v = .slice p n cap := by
    obtain ⟨⟨p, cap, rfl, _⟩⟩ := h
    exact ⟨p, _, cap, rfl⟩
  obtain ⟨⟨p, cap, rfl, _, hh⟩⟩ := hcs
  obtain ⟨n, hn⟩ : ∃ n, n = cs.length := ⟨_, rfl⟩
  rw [← hn] at hcl hh ⊢
  rw [← hn] at HC HL
  have HN := Lib.hid hn
  have HH := Lib.hid hh
  have g0 := Gr.refl w
  clear hn hh h h0 z1 z2 htl htr
  go_enter Tryz.func14, Tryz.ntmps14
  go_wp2_with fail
  refine (HC.out _ g0).mono ?_
  rintro e W1 ⟨rfl, hg⟩
  have g := g0.trans hg
  clear hg g0
  go_wp2_with fail
  refine (HT.out _ g).mono ?_
  rintro e W2 ⟨rfl, hg⟩
  replace g := g.trans hg
  clear hg
  go_wp2_with fail
  refine (H3.out _).mono ?_
  rintro e W3 ⟨rfl, rfl⟩
  go_wp2_with fail
  refine (H4.out _).mono ?_
  rintro e W3 ⟨rfl, rfl⟩
  go_wp2_with fail
  obtain ⟨WW, hWW, gW, s0, s1, s2, s3⟩ := box4 W2 (.int .i64 0) (.int .i64 0) (.int .i64 0) (.int .i64 0) 32
  rw [hWW]
  clear hWW
  replace g := g.trans gW
  refine (HF.out _ _ WW s0 s1 s2 s3).mono ?_
  rintro e W8 ⟨rfl, rfl⟩
  go_wp2_with fail
  refine (HL.out _ g).mono ?_
  rintro e W9 ⟨rfl, hmap, hg⟩
  replace g := g.trans hg
  clear hg gW s0 s1 s2 s3
  generalize WW.heap.size = G at *
  go_wp2_with fail
  go_loopw [12, 14, 34] (fun bv nv iv wr => ∃ i : Nat, i ≤ n ∧ iv = .int .i64 i ∧ wr.ownsRow W9.heap.size 9 1 bv (lateL xs ds d (cs.take i)).length (strC (lateL xs ds d (cs.take i))) ∧ Gr W9 wr) (fun _ _ iv _ => n - (intOf iv).toNat)
  case atStart => exact ⟨0, Nat.zero_le _, rfl, World.ownsRow_nil _ _ _ _, Gr.refl _⟩
  case round =>
    obtain ⟨i, hi', rfl, hown, hg⟩ := hrel
    have hgw := g.trans hg
    have hsz := hg.size
    by_cases hlt : i < n
    · obtain ⟨x, hx⟩ : ∃ x, cs[i]? = some x := ⟨cs[i]'(by have := HN.out; omega), List.getElem?_eq_getElem _⟩
      obtain ⟨b, off, rfl, hc⟩ := HH.out (by omega)
      obtain ⟨c0⟩ := (hc i x hx).gr hgw
      have hst := lateL_take (xs := xs) (ds := ds) (d := d) hx
      rw [HI.out x] at hst
      have hle : (lateL xs ds d (cs.take i)).length ≤ i := Nat.le_trans (lateL_len _ _ _ _) (by rw [List.length_take]; omega)
      have hi2 : (i : Int) < n := by omega
      have hlook := map_look (hmap.gr hg) x
      rw [HLM.out x (List.mem_of_getElem? hx), Option.getD_some] at hlook
      have hge := HGE.out x
      generalize lastZ (lastD d x) xs (-1) = z at *
      generalize lateL xs ds d (cs.take i) = L at *
      clear hx hc
      have hz1' : (z == -1) = decide (z < 0) := by
        by_cases hq : z = -1
        · subst hq; rfl
        · rw [beq_eq_false_iff_ne.2 hq, decide_eq_false (by omega)]
      have HLn : Hid ((strC L).length = L.length) := by simp [Hid, strC]
      cases hzz : decide (z < 0) <;> cases hz2' : decide (z < d - ds)
      case false.false =>
        rw [hzz, hz2'] at hst
        rw [hzz] at hz1'
        simp only [Bool.or_self, Bool.false_eq_true, if_false, List.append_nil] at hst
        have HST := Lib.hid hst
        clear hst
        go_wp2_with fail
        go_roundw
        case rel => exact ⟨i + 1, by omega, by go_num, by rw [HST.out]; exact hown, hg⟩
        case measure => simp [intOf]; omega
      all_goals
        rw [hzz, hz2'] at hst
        rw [hzz] at hz1'
        simp only [Bool.or_true, Bool.true_or, Bool.or_false, Bool.false_or, if_true] at hst
        have HST := Lib.hid hst
        clear hst
        go_wp2_with (first
          | (at_builtin; refine wpList_append_own _ rfl _ _ 22 rfl W9.heap.size 9 i0 (.string ⟨#[]⟩) 1 16 Tryz.underlying22 hi hz0 hz1 hz2 rfl (by decide) _ _ _ rfl (hown.alloc _) ⟨wr.heap.size, 0, none⟩ 1 1 [.string x] rfl rfl (cell_one_new _ _ _) (by intro u hu; simp at hu; subst hu; rfl) (by unfold maxLen; omega) (by omega) (by simp; omega) ?_; intro v1 w1 hown1 hgrow1 hnil1))
        go_roundw
        case rel => exact ⟨i + 1, by omega, by go_num, by rw [HST.out, strC_add]; simpa using hown1, Below.grown (hg.alloc _) hgrow1 (by simp; omega) (fun j hj => (hown.lt j hj).1)⟩
        case measure => simp [intOf]; omega
    · obtain rfl : i = n := by omega
      rw [List.take_of_length_le (by have := HN.out; omega)] at hown
      go_wp2_with fail
      exact bodyPost_ret (v := .tuple #[_, .int .i64 0]) (by simp [results, Tryz.results14, go_sem]) rfl ⟨_, rfl, strAts_of_owns rfl hown, hgw⟩
set_option maxHeartbeats 2000000 in
set_option maxRecDepth 100000 in
theorem late_bad {vc v : Value} {cs : List ByteArray} {xs : List TstR} {w : World} (ds d : Int) (hcs : StrAts w vc cs) (h : TstAts w v xs) (h0 : lateE cs xs ds d ≠ 0) :
    Calls Tryz.prog 14 #[vc, v, .int .i64 ds, .int .i64 d] w fun e w' => e = .returned (.tuple #[.slice none 0 0, .int .i64 (lateE cs xs ds d)]) ∧ Gr w w' := by
  have hR : lateE cs xs ds d = firstE [listE 160 (strE cs) cs, listE 256 (tstE xs) xs, outE ds 0 99999, outE d 0 99999] := rfl
  have HC := Lib.hid (fun W (g : Gr w W) => checkNms_c cs 160 _ W (by omega) (hcs.gr g))
  have HT := Lib.hid (fun W (g : Gr w W) => checkTsts_c xs _ W (h.gr g))
  obtain ⟨e3, h3', H3⟩ := day_e ds
  obtain ⟨e4, h4', H4⟩ := day_e d
  generalize listE 160 (strE cs) cs = e1 at *
  generalize listE 256 (tstE xs) xs = e2 at *
  rw [← h3', ← h4'] at hR
  have hF := first_four e1 e2 e3 e4
  rw [← hR] at hF
  generalize lateE cs xs ds d = err at *
  have HF := Lib.hid hF
  replace H3 := Lib.hid H3
  replace H4 := Lib.hid H4
  have q1 : (err == 0) = false := by simpa using h0
  have q2 : (err != 0) = true := by simpa [bne] using q1
  obtain ⟨pt, nt, capt, rfl⟩ : ∃ p n cap, v = .slice p n cap := by
    obtain ⟨⟨p, cap, rfl, _⟩⟩ := h
    exact ⟨p, _, cap, rfl⟩
  obtain ⟨p, n, cap, rfl⟩ : ∃ p n cap, vc = .slice p n cap := by
    obtain ⟨⟨p, cap, rfl, _⟩⟩ := hcs
    exact ⟨p, _, cap, rfl⟩
  have g0 := Gr.refl w
  clear hF hR h3' h4' h hcs
  go_enter Tryz.func14, Tryz.ntmps14
  go_wp2_with fail
  refine (HC.out _ g0).mono ?_
  rintro e W1 ⟨rfl, hg⟩
  have g := g0.trans hg
  clear hg g0
  go_wp2_with fail
  refine (HT.out _ g).mono ?_
  rintro e W2 ⟨rfl, hg⟩
  replace g := g.trans hg
  clear hg
  go_wp2_with fail
  refine (H3.out _).mono ?_
  rintro e W3 ⟨rfl, rfl⟩
  go_wp2_with fail
  refine (H4.out _).mono ?_
  rintro e W3 ⟨rfl, rfl⟩
  go_wp2_with fail
  obtain ⟨WW, hWW, gW, s0, s1, s2, s3⟩ := box4 W2 (.int .i64 e1) (.int .i64 e2) (.int .i64 e3) (.int .i64 e4) 32
  rw [hWW]
  clear hWW
  replace g := g.trans gW
  refine (HF.out _ _ WW s0 s1 s2 s3).mono ?_
  rintro e W8 ⟨rfl, rfl⟩
  go_wp2_with fail
  exact bodyPost_ret (v := .tuple #[.slice none 0 0, .int .i64 err]) (by simp [results, Tryz.results14, go_sem]) rfl ⟨rfl, g⟩
end Go.Proofs.YtenkbeeiblhnjaaGreat
namespace Go.Proofs.YtenkbeeiblhnjaaGreat
open Go.RowKit Go.Lib
set_option linter.unusedSimpArgs false
set_option linter.unusedVariables false
/-- -1, 0 or 1 -/
def cmpY (a b : Int) : Int := if decide (a < b) then -1 else if decide (b < a) then 1 else 0
theorem isNaNY_c (x : Int) (w : World) :
    Calls Tryz.prog 102 #[.int .i64 x] w fun e w' => e = .returned (.bool false) ∧ w = w' := by
  go_enter Tryz.func102, Tryz.ntmps102
  go_wp2_with fail
  go_ret
  exact ⟨by simp, rfl⟩
theorem cmpYInt_c (x y : Int) (w : World) :
    Calls Tryz.prog 61 #[.int .i64 x, .int .i64 y] w fun e w' => e = .returned (.int .i64 (cmpY x y)) ∧ w = w' := by
  have HX := Lib.hid (fun W => isNaNY_c x W)
  have HY := Lib.hid (fun W => isNaNY_c y W)
  have HE : Hid (cmpY x y = if decide (x < y) then -1 else if decide (y < x) then 1 else 0) := rfl
  cases h1 : decide (x < y) <;> cases h2 : decide (y < x)
  all_goals
    rw [h1, h2] at HE
    go_enter Tryz.func61, Tryz.ntmps61
    go_wp2_with fail
    repeat (first
      | (with_reducible refine (HX.out _).mono ?_; rintro e w4 ⟨rfl, rfl⟩; go_wp2_with fail)
      | (with_reducible refine (HY.out _).mono ?_; rintro e w4 ⟨rfl, rfl⟩; go_wp2_with fail))
    go_ret
    exact ⟨by rw [HE.out]; rfl, rfl⟩
theorem cmpY_lt (a b : Int) : cmpY a b < 0 ↔ a < b := by
  unfold cmpY
  by_cases h1 : a < b
  · simp [h1]
  · by_cases h2 : b < a <;> simp [h1, h2]
def dayM (m : List (ByteArray × Int)) (s : ByteArray) : Int := (lookM m s).getD 0
def cmpM (m : List (ByteArray × Int)) (a b : ByteArray) : Int := cmpY (dayM m a) (dayM m b)
theorem lt_cmpM (m : List (ByteArray × Int)) (a b : ByteArray) : ltOf (cmpM m) a b = decide (dayM m a < dayM m b) := by
  unfold ltOf
  exact decide_eq_decide.2 (cmpY_lt _ _)
theorem swo_cmpM (m : List (ByteArray × Int)) : Go.Sort.SWO (ltOf (cmpM m)) where
  irrefl x := by rw [lt_cmpM]; simp
  trans x y z h1 h2 := by rw [lt_cmpM, decide_eq_true_eq] at *; omega
  ntrans x y z h1 h2 := by rw [lt_cmpM, decide_eq_false_iff_not] at *; omega
set_option maxHeartbeats 1000000 in
set_option maxRecDepth 100000 in
theorem poolCmp_c (m : List (ByteArray × Int)) (T g : Nat) (a b : ByteArray) (w : World) (hT : w.cell? ⟨T, 0, none⟩ = some (.map (some g))) (hm : MapAt w g m) :
    Calls Tryz.prog 60 #[.string a, .string b, .pointer (some ⟨T, 0, none⟩)] w fun e w' => e = .returned (.int .i64 (cmpM m a b)) ∧ w = w' := by
  have h1 := map_look hm a
  have h2 := map_look hm b
  have HC := Lib.hid (fun W => cmpYInt_c (dayM m a) (dayM m b) W)
  have HE : Hid (cmpM m a b = cmpY (dayM m a) (dayM m b)) := rfl
  rw [show (lookM m a).getD 0 = dayM m a from rfl] at h1
  rw [show (lookM m b).getD 0 = dayM m b from rfl] at h2
  generalize dayM m a = x at *
  generalize dayM m b = y at *
  generalize cmpY x y = z at *
  clear hm
  go_enter Tryz.func60, Tryz.ntmps60
  go_wp2_with fail
  refine (HC.out _).mono ?_
  rintro e w4 ⟨rfl, rfl⟩
  go_wp2_with fail
  go_ret
  exact ⟨by rw [HE.out]; rfl, rfl⟩
def encS (s : ByteArray) : Value := .string s
open Go.Sort Go.Shelf in
/-- what the library's insertion sort does -/
structure InsSOK : Prop where
  some : ∀ (m : List (ByteArray × Int)) (cb : Array Value) (blk off cap a b : Nat) (d0 d : Array ByteArray) (w0 w : World), CmpLays1 Tryz.prog 60 cb encS (cmpM m) blk off d0.size w0 → Row1 encS w0 blk off d0 → d0.size = d.size → SW encS w0 blk off d w → a ≤ b → b ≤ d.size → d.size < 4611686018427387904 →
    Calls Tryz.prog 137 #[.slice (some ⟨blk, off, none⟩) d.size cap, .int .i64 a, .int .i64 b, .func (.func 60) #[] cb] w fun e w' =>
      e = .returned (.tuple #[]) ∧ SW encS w0 blk off (Sort.insertionSort (ltOf (cmpM m)) d a b) w'
open Go.Sort Go.Shelf in
set_option maxHeartbeats 1000000 in
set_option maxRecDepth 100000 in
theorem stableS_c (I : InsSOK) (m : List (ByteArray × Int)) (cb : Array Value) (blk off cap : Nat) (d : Array ByteArray) (w0 w : World) (hl : CmpLays1 Tryz.prog 60 cb encS (cmpM m) blk off d.size w0) (hR : Row1 encS w0 blk off d) (hS : SW encS w0 blk off d w) (hn : d.size < 20) :
    Calls Tryz.prog 101 #[.slice (some ⟨blk, off, none⟩) d.size cap, .int .i64 d.size, .func (.func 60) #[] cb] w fun e w' =>
      e = .returned (.tuple #[]) ∧ SW encS w0 blk off (Sort.insertionSort (ltOf (cmpM m)) d 0 d.size) w' := by
  have HI := Lib.hid (I.some m cb blk off cap 0 d.size d d w0 w hl hR rfl hS (by omega) (by omega) (by omega))
  clear hl hR hS I
  generalize Sort.insertionSort (ltOf (cmpM m)) d 0 d.size = dd at *
  generalize hnn : d.size = n at *
  have h1 : ¬ ((20 : Int) ≤ (n : Int)) := by omega
  have h2 : ¬ ((20 : Int) < (n : Int)) := by omega
  have h1' : (decide ((20 : Int) ≤ (n : Int))) = false := decide_eq_false h1
  have h2' : (decide ((20 : Int) < (n : Int))) = false := decide_eq_false h2
  clear hnn
  go_enter Tryz.func101, Tryz.ntmps101
  go_wp2_with fail
  go_loopg [7, 8] 0 (fun gk s7 s8 wr => gk = 0 ∧ s7 = .int .i64 0 ∧ s8 = .int .i64 20 ∧ wr = w)
  case atStart => exact ⟨rfl, rfl, rfl, rfl⟩
  case round =>
    obtain ⟨rfl, rfl, rfl, rfl⟩ := hrel
    rw [Int.natCast_zero] at HI
    go_wp2_with (refine HI.out.mono ?_; rintro e w4 ⟨rfl, HW⟩)
    go_loopg [6, 7, 8, 9] 0 (fun gk s6 s7 s8 s9 wr => gk = 0 ∧ s6 = .int .i64 20 ∧ s7 = .int .i64 0 ∧ wr = w4)
    case atStart => exact ⟨rfl, rfl, rfl, rfl⟩
    case round =>
      obtain ⟨rfl, rfl, rfl, rfl⟩ := hrel
      go_wp2_with fail
      go_end0
      exact ⟨rfl, HW⟩
open Go.Sort Go.Shelf in
set_option maxHeartbeats 1000000 in
set_option maxRecDepth 100000 in
theorem sortSS_c (I : InsSOK) (m : List (ByteArray × Int)) (cb : Array Value) (blk off cap : Nat) (d : Array ByteArray) (w0 w : World) (hl : CmpLays1 Tryz.prog 60 cb encS (cmpM m) blk off d.size w0) (hR : Row1 encS w0 blk off d) (hS : SW encS w0 blk off d w) (hn : d.size < 20) :
    Calls Tryz.prog 59 #[.slice (some ⟨blk, off, none⟩) d.size cap, .func (.func 60) #[] cb] w fun e w' =>
      e = .returned (.tuple #[]) ∧ SW encS w0 blk off (Sort.insertionSort (ltOf (cmpM m)) d 0 d.size) w' := by
  have HI := Lib.hid (stableS_c I m cb blk off cap d w0 w hl hR hS hn)
  clear hl hR hS I hn
  generalize Sort.insertionSort (ltOf (cmpM m)) d 0 d.size = dd at *
  generalize d.size = n at *
  go_enter Tryz.func59, Tryz.ntmps59
  go_wp2_with (refine HI.out.mono ?_; rintro e w4 ⟨rfl, HW⟩)
  go_end0
  exact ⟨rfl, HW⟩
theorem insS_0 (p : Option Addr) (cap : Nat) (f : Value) (w : World) :
    Calls Tryz.prog 137 #[.slice p 0 cap, .int .i64 0, .int .i64 0, f] w fun e w' => e = .returned (.tuple #[]) ∧ w' = w := by
  go_enter Tryz.func137, Tryz.ntmps137
  go_wp2_with fail
  refine wp_loop_rounds 2 ?_
  rw [rounds_succ]
  go_wp2_with fail
  go_end0
  exact ⟨rfl, rfl⟩
theorem stableS_0 (p : Option Addr) (cap : Nat) (f : Value) (w : World) :
    Calls Tryz.prog 101 #[.slice p 0 cap, .int .i64 0, f] w fun e w' => e = .returned (.tuple #[]) ∧ w' = w := by
  have HI := Lib.hid (insS_0 p cap f)
  go_enter Tryz.func101, Tryz.ntmps101
  go_wp2_with fail
  refine wp_loop_rounds 2 ?_
  rw [rounds_succ]
  go_wp2_with (refine (HI.out _).mono ?_; rintro e w4 ⟨rfl, rfl⟩)
  refine wp_loop_rounds 2 ?_
  rw [rounds_succ]
  go_wp2_with fail
  go_end0
  exact ⟨rfl, rfl⟩
theorem sortSS_0 (p : Option Addr) (cap : Nat) (f : Value) (w : World) :
    Calls Tryz.prog 59 #[.slice p 0 cap, f] w fun e w' => e = .returned (.tuple #[]) ∧ w' = w := by
  have HI := Lib.hid (stableS_0 p cap f)
  go_enter Tryz.func59, Tryz.ntmps59
  go_wp2_with (refine (HI.out _).mono ?_; rintro e w4 ⟨rfl, rfl⟩)
  go_end0
  exact ⟨rfl, rfl⟩
end Go.Proofs.YtenkbeeiblhnjaaGreat
