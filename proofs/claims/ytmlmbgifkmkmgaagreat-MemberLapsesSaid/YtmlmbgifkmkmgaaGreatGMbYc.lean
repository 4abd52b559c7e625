/- Members: licences copied; those that hold on a day. -/
import Derived.Test.YtmlmbgifkmkmgaaGreatGMbY
import Derived.WalkLawsBesides
namespace Go.Proofs.YtmlmbgifkmkmgaaGreat
open Go.RowKit Go.Lib
set_option linter.unusedSimpArgs false
set_option linter.unusedVariables false
theorem infoLicM : (Tryz.prog.info? 73).map (fun i => (i.zero, i.size, i.bytes)) = some (some (.agg #[.string ⟨#[]⟩, .int .i64 0, .int .i64 0]), 3, 32) := by kernel_rfl
theorem catCs_one (xs : List CatR) : ∀ u ∈ catCs xs, u.oneCell' = true := by
  intro u hu
  unfold catCs at hu
  rw [List.mem_flatMap] at hu
  obtain ⟨x, _, hx⟩ := hu
  simp [catC] at hx
  rcases hx with rfl | rfl | rfl <;> rfl
theorem catCs_cells {w : World} {b off : Nat} : ∀ {ys : List CatR} (h : ∀ i x, ys[i]? = some x → CatAt w b (off + i * 3) x), ∀ j u, (catCs ys)[j]? = some u → w.cell? ((⟨b, off, none⟩ : Addr).add j) = some u := by
  intro ys h j u hu
  have hj := (List.getElem?_eq_some_iff.1 hu).1
  rw [catCs_len] at hj
  have hi : j / 3 < ys.length := by omega
  have hx : ys[j / 3]? = some ys[j / 3] := List.getElem?_eq_getElem hi
  have ha := catCs_at hx (j % 3) (by omega)
  rw [show j / 3 * 3 + j % 3 = j by omega, hu] at ha
  have hc := h (j / 3) _ hx
  have e : (⟨b, off, none⟩ : Addr).add j = ⟨b, off + j, none⟩ := by unfold Addr.add; split <;> simp_all
  rw [e]
  have h3 : j % 3 = 0 ∨ j % 3 = 1 ∨ j % 3 = 2 := by omega
  rcases h3 with h3 | h3 | h3
  all_goals
    rw [h3] at ha
    simp [catC] at ha
    subst ha
  · have := hc.nm; rwa [show off + j / 3 * 3 = off + j by omega] at this
  · have := hc.lo; rwa [show off + j / 3 * 3 + 1 = off + j by omega] at this
  · have := hc.hi; rwa [show off + j / 3 * 3 + 2 = off + j by omega] at this
theorem cellC_of_owns {w : World} {base n g cap : Nat} {xs : List CatR} {T : TypeId} (h : w.ownsRow base T 3 (.slice (some ⟨g, 0, none⟩) n cap) n (catCs xs)) (hn : xs.length = n) :
    ∃ cur, base ≤ g ∧ w.heap[g]? = some (.cells cur T (0, 0)) ∧ n ≤ cap ∧ cap ≤ maxLen ∧ cur.size = cap * 3 ∧ ∀ (i : Nat) (x : CatR), xs[i]? = some x → CatC cur (i * 3) x := by
  rcases h.2 with ⟨e, _⟩ | ⟨g', cap', cur, e, hbg, hcur, hle, hmx, hsz, htk⟩
  · cases e
  simp only [Value.slice.injEq, Option.some.injEq, Addr.mk.injEq, and_true, true_and] at e
  obtain ⟨rfl, rfl⟩ := e
  refine ⟨cur, hbg, hcur, hle, hmx, hsz, fun i x hx => ?_⟩
  have hi := (List.getElem?_eq_some_iff.1 hx).1
  have hq : ∀ j, j < 3 → cur[i * 3 + j]? = (catC x)[j]? := fun j hj => by
    rw [← catCs_at hx j hj, ← htk, List.getElem?_take, if_pos (by omega), Array.getElem?_toList]
  exact ⟨by simpa [catC] using hq 0 (by omega), by simpa [catC] using hq 1 (by omega), by simpa [catC] using hq 2 (by omega)⟩
set_option maxHeartbeats 1000000 in
set_option maxRecDepth 100000 in
theorem clone_pos (xs : List CatR) (n b off cap : Nat) (w : World) (hn : xs.length = n) (h1 : n ≤ 1000) (hc : ∀ i x, xs[i]? = some x → CatAt w b (off + i * 3) x) :
    Calls Tryz.prog 105 #[.slice (some ⟨b, off, none⟩) n cap] w fun e w' => ∃ g cp, e = .returned (.slice (some ⟨g, 0, none⟩) n cp) ∧ w'.ownsRow w.heap.size 73 3 (.slice (some ⟨g, 0, none⟩) n cp) n (catCs xs) ∧ Gr w w' := by
  obtain ⟨i0, hi, hz0, hz1, hz2⟩ := info_parts infoLicM
  have HCC := Lib.hid (catCs_cells hc)
  have HL := Lib.hid (catCs_len xs)
  have hB0 := heap_alloc_new w (.cells #[] 73)
  have hown : (w.alloc (.cells #[] 73)).ownsRow w.heap.size 73 3 (.slice (some ⟨w.heap.size, 0, none⟩) 0 0) 0 [] := ⟨by simp, .inr ⟨w.heap.size, 0, #[], rfl, Nat.le_refl _, hB0, Nat.le_refl _, by unfold maxLen; omega, rfl, by simp⟩⟩
  have HN := Lib.hid hn
  have hg0 : Gr w (w.alloc (.cells #[] 73)) := (Gr.refl w).alloc _
  have hsz := hg0.size
  have HG0 := Lib.hid hg0
  clear hc hB0 hn hg0
  have hq : ∀ (w : World) (a : Option Addr) (n c n' c' : Nat), (binOp .eql 52 (.slice a n c) (.slice none n' c')).run Tryz.prog w = .ok (.bool a.isNone) w := fun w a n c n' c' => Lib.run_eql_slice_nil w _ _ a n c n' c' Tryz.underlying52
  go_enter Tryz.func105, Tryz.ntmps105
  go_wp2_with (first
    | (at_builtin; refine wpList_append_own _ rfl _ _ 52 rfl w.heap.size 73 i0 (.agg #[.string ⟨#[]⟩, .int .i64 0, .int .i64 0]) 3 32 Tryz.underlying52 hi hz0 hz1 hz2 rfl (by decide) _ _ _ rfl hown ⟨b, off, none⟩ n cap (catCs xs) rfl (by rw [HL.out, HN.out]) (fun j u hu => HG0.out.cell (HCC.out j u hu)) (catCs_one xs) (by unfold maxLen; omega) (by omega) (by omega) ?_; intro v1 w1 hown1 hgrow1 hnil1))
  rw [Nat.zero_add, List.nil_append] at hown1
  have hgr : Gr w w1 := Below.grown HG0.out hgrow1 hsz (fun j hj => (hown.lt j hj).1)
  rcases hown1.2 with ⟨e, h0⟩ | ⟨g, cp, cur, rfl, _⟩
  · have := hnil1.1 e
    cases this.1
  go_ret
  exact ⟨g, cp, rfl, by simpa using hown1, hgr⟩
set_option maxRecDepth 100000 in
theorem clone_none (n cap : Nat) (w : World) :
    Calls Tryz.prog 105 #[.slice none n cap] w fun e w' => e = .returned (.slice none 0 0) ∧ w = w' := by
  have hq : ∀ (w : World) (a : Option Addr) (n c n' c' : Nat), (binOp .eql 52 (.slice a n c) (.slice none n' c')).run Tryz.prog w = .ok (.bool a.isNone) w := fun w a n c n' c' => Lib.run_eql_slice_nil w _ _ a n c n' c' Tryz.underlying52
  go_enter Tryz.func105, Tryz.ntmps105
  go_wp2_with fail
  go_ret
  exact ⟨rfl, rfl⟩
end Go.Proofs.YtmlmbgifkmkmgaaGreat
namespace Go.Proofs.YtmlmbgifkmkmgaaGreat
open Go.RowKit Go.Lib
set_option linter.unusedSimpArgs false
set_option linter.unusedVariables false
/-- whether a licence holds on a day; whether one of them does -/
def holdB (d : Int) (x : CatR) : Bool := decide (x.lo ≤ d) && decide (d ≤ x.hi)
def holdsB (xs : List CatR) (d : Int) : Bool := xs.any (holdB d)
theorem holdOne_c (y : CatR) (B : Nat) (d : Int) (w : World) (h : w.cell? ⟨B, 0, none⟩ = some (.int .i64 d)) :
    Calls Tryz.prog 156 #[catV y, .pointer (some ⟨B, 0, none⟩)] w fun e w' => e = .returned (.bool (holdB d y)) ∧ Gr w w' := by
  have HE : Hid (holdB d y = (decide (y.lo ≤ d) && decide (d ≤ y.hi))) := rfl
  unfold catV
  obtain ⟨W, hW, g, a0, a1, a2⟩ := box3 w (.string y.nm) (.int .i64 y.lo) (.int .i64 y.hi) 73
  have hB := g.cell h
  rw [← hW] at hB
  have HG := Lib.hid (show Gr w (w.alloc (.cells #[.string y.nm, .int .i64 y.lo, .int .i64 y.hi] 73)) from (Gr.refl w).alloc _)
  clear hW h g a0 a1 a2
  cases h1 : decide (y.lo ≤ d) <;> cases h2 : decide (d ≤ y.hi)
  all_goals
    rw [h1, h2] at HE
    go_enter Tryz.func156, Tryz.ntmps156
    go_wp2_with fail
    go_ret
    exact ⟨by rw [HE.out]; rfl, HG.out⟩
set_option maxHeartbeats 1000000 in
set_option maxRecDepth 100000 in
theorem indexHold_pos (xs : List CatR) (n b off cap : Nat) (B : Nat) (d : Int) (w : World) (hn : n ≤ xs.length) (h1 : n ≤ 1000) (hc : ∀ i x, xs[i]? = some x → CatAt w b (off + i * 3) x) (hB : w.cell? ⟨B, 0, none⟩ = some (.int .i64 d)) :
    Calls Tryz.prog 135 #[.slice (some ⟨b, off, none⟩) n cap, .func (.func 156) #[] #[.pointer (some ⟨B, 0, none⟩)]] w fun e w' => e = .returned (.int .i64 (idxQ (holdB d) xs n 0)) ∧ Gr w w' := by
  have HC := Lib.hid hc
  have HN := Lib.hid hn
  have HE : Hid (idxQ (holdB d) xs n 0 = idxQ (holdB d) xs (n - 0) 0) := rfl
  clear hc hn
  go_enter Tryz.func135, Tryz.ntmps135
  go_wp2_with fail
  go_loopg [8] n (fun gk s8 wr => ∃ i : Nat, s8 = .int .i64 i ∧ gk + i = n ∧ Gr w wr ∧ Hid (idxQ (holdB d) xs (n - i) i = idxQ (holdB d) xs (n - 0) 0))
  case atStart => exact ⟨0, rfl, by omega, Gr.refl _, rfl⟩
  case round =>
    obtain ⟨i, rfl, hi, hg, HF⟩ := hrel
    by_cases hlt : i < n
    · obtain ⟨x, hx⟩ : ∃ x, xs[i]? = some x := ⟨xs[i]'(by have := HN.out; omega), List.getElem?_eq_getElem _⟩
      obtain ⟨c0, c1, c2⟩ := (HC.out i x hx).gr hg
      have hf := idxQ_step (Q := (holdB d)) hx hlt
      have hi2 : (i : Int) < n := by omega
      have HT := Lib.hid (holdOne_c x B d wr (hg.cell hB))
      clear hx
      try unfold catV at HT
      cases e1 : (holdB d) x
      · rw [e1] at hf HT
        simp only [Bool.false_eq_true, if_false] at hf
        have HF2 := Lib.hid hf
        clear hf e1
        go_wp2_with (refine HT.out.mono ?_; rintro e w4 ⟨rfl, hg2⟩)
        go_roundg (gk - 1)
        case measure => omega
        case rel => exact ⟨i + 1, by go_num, by omega, hg.trans hg2, by unfold Hid; rw [← HF2.out, HF.out]⟩
      · rw [e1] at hf HT
        simp only [if_true] at hf
        have HF2 := Lib.hid hf
        clear hf e1
        go_wp2_with (refine HT.out.mono ?_; rintro e w4 ⟨rfl, hg2⟩)
        go_ret
        exact ⟨by rw [HE.out, ← HF.out, HF2.out]; rfl, hg.trans hg2⟩
    · have HE2 := Lib.hid (idxQ_end (Q := (holdB d)) (xs := xs) (i := i) (n := n) (by omega))
      have hi2 : (n : Int) ≤ i := by omega
      go_wp2_with fail
      go_ret
      exact ⟨by rw [HE.out, ← HF.out, HE2.out]; rfl, hg⟩
theorem containsHold_pos (xs : List CatR) (n b off cap : Nat) (B : Nat) (d : Int) (w : World) (hn : n ≤ xs.length) (h1 : n ≤ 1000) (hc : ∀ i x, xs[i]? = some x → CatAt w b (off + i * 3) x) (hB : w.cell? ⟨B, 0, none⟩ = some (.int .i64 d)) :
    Calls Tryz.prog 155 #[.slice (some ⟨b, off, none⟩) n cap, .func (.func 156) #[] #[.pointer (some ⟨B, 0, none⟩)]] w fun e w' => e = .returned (.bool ((xs.take n).any (holdB d))) ∧ Gr w w' := by
  have HI := Lib.hid (indexHold_pos xs n b off cap B d w hn h1 hc hB)
  have HE : Hid (((xs.take n).any (holdB d)) = decide (0 ≤ idxQ (holdB d) xs n 0)) := by
    unfold Hid
    rw [idxQ_any (holdB d) xs n 0 (by omega), List.drop_zero]
    all_goals rfl
  clear hc
  generalize idxQ (holdB d) xs n 0 = z at *
  go_enter Tryz.func155, Tryz.ntmps155
  go_wp2_with fail
  refine HI.out.mono ?_
  rintro e w4 ⟨rfl, hg⟩
  go_wp2_with fail
  go_ret
  exact ⟨by rw [HE.out]; rfl, hg⟩
theorem indexHold_nil (p : Option Addr) (cap B : Nat) (w : World) :
    Calls Tryz.prog 135 #[.slice p 0 cap, .func (.func 156) #[] #[.pointer (some ⟨B, 0, none⟩)]] w fun e w' => e = .returned (.int .i64 (-1)) ∧ w = w' := by
  go_enter Tryz.func135, Tryz.ntmps135
  go_wp2_with fail
  refine wp_loop_rounds 2 ?_
  rw [rounds_succ]
  go_wp2_with fail
  go_ret
  exact ⟨rfl, rfl⟩
theorem containsHold_nil (p : Option Addr) (cap B : Nat) (w : World) :
    Calls Tryz.prog 155 #[.slice p 0 cap, .func (.func 156) #[] #[.pointer (some ⟨B, 0, none⟩)]] w fun e w' => e = .returned (.bool false) ∧ w = w' := by
  have HI := Lib.hid (indexHold_nil p cap B w)
  go_enter Tryz.func155, Tryz.ntmps155
  go_wp2_with fail
  refine HI.out.mono ?_
  rintro e w4 ⟨rfl, rfl⟩
  go_wp2_with fail
  go_ret
  exact ⟨rfl, rfl⟩
theorem holds_c {v : Value} {xs : List CatR} (d : Int) {w : World} (h : CatAts w v xs) (h1 : xs.length ≤ 1000) :
    Calls Tryz.prog 134 #[v, .int .i64 d] w fun e w' => e = .returned (.bool (holdsB xs d)) ∧ Gr w w' := by
  obtain ⟨⟨p, cap, rfl, _, hh⟩⟩ := h
  obtain ⟨W, hW, g, a0⟩ := box1 w (.int .i64 d) 3
  have HW := Lib.hid hW
  rcases Nat.eq_zero_or_pos xs.length with h0 | h0
  · have hx : xs = [] := List.eq_nil_of_length_eq_zero h0
    subst hx
    have HC := Lib.hid (containsHold_nil p cap w.heap.size W)
    clear hh hW h0 h1
    go_enter Tryz.func134, Tryz.ntmps134
    go_wp2_with fail
    rw [HW.out]
    refine HC.out.mono ?_
    rintro e w4 ⟨rfl, rfl⟩
    go_wp2_with fail
    go_ret
    exact ⟨rfl, g⟩
  · obtain ⟨b, off, rfl, hc⟩ := hh h0
    have hC := containsHold_pos xs xs.length b off cap w.heap.size d W (Nat.le_refl _) h1 (fun i x hx => (hc i x hx).gr g) a0
    have HE : Hid (holdsB xs d = (xs.take xs.length).any (holdB d)) := by unfold Hid holdsB; rw [List.take_length]
    rw [← HE.out] at hC
    have HC := Lib.hid hC
    generalize holdsB xs d = z at *
    generalize xs.length = n at *
    clear hh hW hc hC HE
    go_enter Tryz.func134, Tryz.ntmps134
    go_wp2_with fail
    rw [HW.out]
    refine HC.out.mono ?_
    rintro e w4 ⟨rfl, hg⟩
    go_wp2_with fail
    go_ret
    exact ⟨rfl, g.trans hg⟩
end Go.Proofs.YtmlmbgifkmkmgaaGreat
