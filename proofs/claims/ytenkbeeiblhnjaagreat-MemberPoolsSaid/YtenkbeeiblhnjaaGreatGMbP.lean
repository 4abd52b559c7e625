/- Members: pairs of integers in a block of the call. -/
import Derived.Test.YtenkbeeiblhnjaaGreatGMbM
import Derived.Test.YtenkbeeiblhnjaaGreatGMbA
namespace Go.Proofs.YtenkbeeiblhnjaaGreat
open Go.RowKit Go.Lib
set_option linter.unusedSimpArgs false
set_option linter.unusedVariables false
/-- the cells of one at a place -/
structure GapAt (w : World) (b off : Nat) (x : GapR) : Prop where
  a : w.cell? ⟨b, off, none⟩ = some (.int .i64 x.a)
  b : w.cell? ⟨b, off + 1, none⟩ = some (.int .i64 x.b)
theorem GapAt.gr {w w' : World} {b off : Nat} {x : GapR} (h : GapAt w b off x) (k : Gr w w') : GapAt w' b off x := ⟨k.cell h.a, k.cell h.b⟩
def gapV (x : GapR) : Value := .agg #[.int .i64 x.a, .int .i64 x.b]
/-- the slice v reads as these -/
structure GapAts (w : World) (v : Value) (xs : List GapR) : Prop where
  mk' ::
  out : ∃ p cap, v = .slice p xs.length cap ∧ (xs.length ≤ cap ∧ cap ≤ maxLen) ∧ (0 < xs.length → ∃ b off, p = some ⟨b, off, none⟩ ∧ ∀ i x, xs[i]? = some x → GapAt w b (off + i * 2) x)
theorem GapAts.gr {w w' : World} {v : Value} {xs : List GapR} (h : GapAts w v xs) (k : Gr w w') : GapAts w' v xs := by
  obtain ⟨⟨p, cap, rfl, hcap, hh⟩⟩ := h
  refine ⟨p, cap, rfl, hcap, fun h0 => ?_⟩
  obtain ⟨b, off, h1, h2⟩ := hh h0
  exact ⟨b, off, h1, fun i x hx => (h2 i x hx).gr k⟩
def gapC (x : GapR) : List Value := [.int .i64 x.a, .int .i64 x.b]
def gapCs (xs : List GapR) : List Value := xs.flatMap gapC
theorem gapCs_len (xs : List GapR) : (gapCs xs).length = xs.length * 2 := by
  induction xs with
  | nil => rfl
  | cons x xs ih => simp only [gapCs, List.flatMap_cons, List.length_append, List.length_cons] at *; rw [ih]; simp [gapC]; omega
theorem gapCs_add (xs : List GapR) (x : GapR) : gapCs (xs ++ [x]) = gapCs xs ++ gapC x := by simp [gapCs]
theorem gapCs_take {xs : List GapR} {k : Nat} {x : GapR} (h : xs[k]? = some x) : gapCs (xs.take (k + 1)) = gapCs (xs.take k) ++ gapC x := by
  rw [List.take_add_one, h]
  simp [gapCs]
theorem gapCs_at {xs : List GapR} {i : Nat} {x : GapR} (h : xs[i]? = some x) (j : Nat) (hj : j < 2) : (gapCs xs)[i * 2 + j]? = (gapC x)[j]? := by
  induction xs generalizing i with
  | nil => simp at h
  | cons y ys ih =>
    have e : gapCs (y :: ys) = gapC y ++ gapCs ys := rfl
    rw [e]
    cases i with
    | zero =>
      simp only [List.getElem?_cons_zero, Option.some.injEq] at h
      subst h
      rw [show 0 * 2 + j = j by omega, List.getElem?_append_left (by simp [gapC]; omega)]
    | succ i =>
      rw [List.getElem?_append_right (by simp [gapC]; omega)]
      have := ih (i := i) (by simpa using h)
      rw [← this]
      congr 1
      simp [gapC]; omega
theorem GapAts_of_owns {w : World} {base : Nat} {v : Value} {xs : List GapR} {T : TypeId} {n : Nat} (hn : xs.length = n) (h : w.ownsRow base T 2 v n (gapCs xs)) : GapAts w v xs := by
  subst hn
  rcases h.2 with ⟨rfl, h0⟩ | ⟨g, cap, cur, rfl, _, _, hle, hmx, _, _⟩
  · exact ⟨none, 0, by rw [h0], ⟨by omega, by unfold maxLen; omega⟩, fun h => by omega⟩
  · refine ⟨some ⟨g, 0, none⟩, cap, rfl, ⟨hle, hmx⟩, fun _ => ⟨g, 0, rfl, fun i x hx => ?_⟩⟩
    have e : ∀ j, (⟨g, 0, none⟩ : Addr).add j = ⟨g, j, none⟩ := fun j => by unfold Addr.add; split <;> simp_all
    have c0 := h.cells (g := g) rfl (i * 2 + 0) (.int .i64 x.a) (by rw [gapCs_at hx 0 (by omega)]; rfl)
    have c1 := h.cells (g := g) rfl (i * 2 + 1) (.int .i64 x.b) (by rw [gapCs_at hx 1 (by omega)]; rfl)
    rw [e] at c0 c1
    exact ⟨by simpa using c0, by simpa using c1⟩
theorem cell_gapC (w : World) (x : GapR) (T : TypeId) : ∀ (j : Nat) (u : Value), (gapC x)[j]? = some u → (w.alloc (.cells #[.int .i64 x.a, .int .i64 x.b] T)).cell? ((⟨w.heap.size, 0, none⟩ : Addr).add j) = some u := by
  intro j u h
  unfold gapC at h
  have e : (⟨w.heap.size, 0, none⟩ : Addr).add j = ⟨w.heap.size, j, none⟩ := by unfold Addr.add; split <;> simp_all
  rw [e]
  rcases j with _ | _ | j
  · simp at h; subst h; exact cell_new w #[.int .i64 x.a, .int .i64 x.b] T 0 (by simp)
  · simp at h; subst h; exact cell_new w #[.int .i64 x.a, .int .i64 x.b] T 1 (by simp)
  · simp at h
/-- one cell of a row of one's own is written -/
theorem own_set {w : World} {base n s g cap i : Nat} {T : TypeId} {L : List Value} (u : Value) (h : w.ownsRow base T s (.slice (some ⟨g, 0, none⟩) n cap) n L) (hi : i < L.length) :
    (w.setCell ⟨g, i, none⟩ u).ownsRow base T s (.slice (some ⟨g, 0, none⟩) n cap) n (L.set i u) ∧ base ≤ g ∧ w.frozen? ⟨g, i, none⟩ = false ∧ w.cell? ⟨g, i, none⟩ = L[i]? := by
  rcases h.2 with ⟨e, _⟩ | ⟨g', cap', cur, e, hbg, hcur, hle, hmx, hsz, htk⟩
  · cases e
  simp only [Value.slice.injEq, Option.some.injEq, Addr.mk.injEq, and_true, true_and] at e
  obtain ⟨rfl, rfl⟩ := e
  refine ⟨⟨by rw [List.length_set]; exact h.1, .inr ⟨g, cap, _, rfl, hbg, heap_setCell_same w g i cur T u hcur, hle, hmx, by simpa using hsz, ?_⟩⟩, hbg, frozen_of_row w g i cur T hcur, ?_⟩
  · rw [← htk, Array.toList_setIfInBounds, List.take_set]
  · rw [cell_of_row w g i cur T (0, 0) hcur, ← htk, List.getElem?_take, if_pos (by have := h.1; rw [← htk] at hi; simp at hi; omega), Array.getElem?_toList]
theorem infoGap : (Tryz.prog.info? 52).map (fun i => (i.zero, i.size, i.bytes)) = some (some (.agg #[.int .i64 0, .int .i64 0]), 2, 16) := by kernel_rfl
theorem gapCs_last (l : List GapR) (q : GapR) (k : Int) : (gapCs (l ++ [q])).set (l.length * 2 + 1) (.int .i64 k) = gapCs (l ++ [⟨q.a, k⟩]) := by
  rw [gapCs_add, gapCs_add, List.set_append_right _ _ (by rw [gapCs_len]; omega), gapCs_len, show l.length * 2 + 1 - l.length * 2 = 1 by omega]
  rfl
theorem gapCs_lastAt (l : List GapR) (q : GapR) : (gapCs (l ++ [q]))[l.length * 2 + 1]? = some (.int .i64 q.b) := by
  rw [gapCs_add, List.getElem?_append_right (by rw [gapCs_len]; omega), gapCs_len, show l.length * 2 + 1 - l.length * 2 = 1 by omega]
  rfl
/-- one truth value of a whole row -/
theorem idx_bool {cur : Array Value} {f : Nat → Bool} (h : BitsA 121 f cur) {a : Nat} (ha : a < 121) (w : World) :
    (Instr.index 135 (.agg cur) (.int .i64 (a : Int))).run Tryz.prog w = .ok (.bool (f a)) w := by
  have hu := Tryz.underlying135
  have hs := Tryz.underlying4
  obtain ⟨i0, hi, hz0, hz1, hz2⟩ := info_parts (show (Tryz.prog.info? 4).map (fun i => (i.zero, i.size, i.bytes)) = some (some (.bool false), 1, 1) from by kernel_rfl)
  have hc := h.cell a ha
  have h1 : (a : Int) < 121 := by omega
  simp [Instr.index, asIntOf, run_underlying hu, part, isAgg, run_underlying hs, sizeOf, typeInfo, hi, hz1, hc, h1]
  intro h2
  omega
end Go.Proofs.YtenkbeeiblhnjaaGreat
namespace Go.Proofs.YtenkbeeiblhnjaaGreat
open Go.RowKit Go.Lib
set_option linter.unusedSimpArgs false
set_option linter.unusedVariables false
set_option maxHeartbeats 1000000 in
set_option maxRecDepth 100000 in
theorem wrapCat_c (z : Int) (i n b off cap Ef L : Nat) (x : CatR) (w : World) (hi : i < n) (hcap : n ≤ cap) (hmx : cap ≤ maxLen)
    (ho : ∀ W, Gr w W → Calls Tryz.prog 117 #[.slice (some ⟨b, off, none⟩) i cap, catV x] W fun e w' => e = .returned (.int .i64 z) ∧ Gr W w')
    (hE : w.cell? ⟨Ef, 0, none⟩ = some (.func (.func 117) #[] #[])) (hL : w.cell? ⟨L, 0, none⟩ = some (.slice (some ⟨b, off, none⟩) n cap)) :
    Calls Tryz.prog 149 #[.int .i64 i, catV x, .pointer (some ⟨Ef, 0, none⟩), .pointer (some ⟨L, 0, none⟩)] w fun e w' => e = .returned (.int .i64 z) ∧ Gr w w' := by
  have HO := Lib.hid ho
  unfold catV at HO
  unfold catV
  obtain ⟨W, hW, g, a0, a1, a2⟩ := box3 w (.string x.nm) (.int .i64 x.lo) (.int .i64 x.hi) 76
  have e0 := g.cell hE
  have l0 := g.cell hL
  have HW := Lib.hid hW
  have hi1 : (i : Int) ≤ cap := by omega
  have hi0 : (0 : Int) ≤ i := by omega
  clear hW ho hE hL
  go_enter Tryz.func149, Tryz.ntmps149
  go_wp2_with fail
  rw [HW.out]
  generalize w.heap.size = Bx at *
  clear HW
  have gd := (Gr.refl W).drew
  replace a0 := gd.cell a0
  replace a1 := gd.cell a1
  replace a2 := gd.cell a2
  replace e0 := gd.cell e0
  replace l0 := gd.cell l0
  replace g := g.trans gd
  clear gd
  refine wp_region_held_drew (S := (fun w' => (w'.cell? ⟨Bx, 0, none⟩ = some (.string x.nm) ∧ w'.cell? ⟨Bx, 1, none⟩ = some (.int .i64 x.lo) ∧ w'.cell? ⟨Bx, 2, none⟩ = some (.int .i64 x.hi)) ∧ w'.cell? ⟨Ef, 0, none⟩ = some (.func (.func 117) #[] #[]) ∧ w'.cell? ⟨L, 0, none⟩ = some (.slice (some ⟨b, off, none⟩) n cap))) (by kernel_rfl) ⟨⟨a0, a1, a2⟩, e0, l0⟩ (fun hHeld => ?_)
  generalize W.drew = V at *
  refine wpAnyH_take (i := 0) (v := (.func (.func 117) #[] #[])) (op_at rfl) (by kernel_rfl) (by kernel_rfl) (by kernel_rfl) (fun _ _ _ h => h) (Or.inl ⟨rfl, fun w hSw => ?_⟩) (by assumption) ?_
  · (try dsimp only at hSw); go_simp; try with_reducible rfl
  (try simp only [Act.put, List.setIfInBounds_toArray, List.set_cons_zero, List.set_cons_succ])
  refine wpAnyH_take (i := 1) (v := (.slice (some ⟨b, off, none⟩) n cap)) (op_at rfl) (by kernel_rfl) (by kernel_rfl) (by kernel_rfl) (fun _ _ _ h => h) (Or.inl ⟨rfl, fun w hSw => ?_⟩) (by assumption) ?_
  · (try dsimp only at hSw); go_simp; try with_reducible rfl
  (try simp only [Act.put, List.setIfInBounds_toArray, List.set_cons_zero, List.set_cons_succ])
  refine wpAnyH_take (i := 2) (v := (.int .i64 i)) (op_at rfl) (by kernel_rfl) (by kernel_rfl) (by kernel_rfl) (fun _ _ _ h => h) (Or.inl ⟨rfl, fun w hSw => ?_⟩) (by assumption) ?_
  · (try dsimp only at hSw); go_simp; try with_reducible rfl
  (try simp only [Act.put, List.setIfInBounds_toArray, List.set_cons_zero, List.set_cons_succ])
  refine wpAnyH_take (i := 3) (v := (.slice (some ⟨b, off, none⟩) i cap)) (op_at rfl) (by kernel_rfl) (by kernel_rfl) (by kernel_rfl) (fun _ _ _ h => h) (Or.inl ⟨rfl, fun w hSw => ?_⟩) (by assumption) ?_
  · (try dsimp only at hSw); go_simp; try with_reducible rfl
  (try simp only [Act.put, List.setIfInBounds_toArray, List.set_cons_zero, List.set_cons_succ])
  refine wpAnyH_take (i := 4) (v := (.agg #[.string x.nm, .int .i64 x.lo, .int .i64 x.hi])) (op_at rfl) (by kernel_rfl) (by kernel_rfl) (by kernel_rfl) (fun _ _ _ h => h) (Or.inl ⟨rfl, fun w hSw => ?_⟩) (by assumption) ?_
  · (try dsimp only at hSw); go_simp; try with_reducible rfl
  (try simp only [Act.put, List.setIfInBounds_toArray, List.set_cons_zero, List.set_cons_succ])
  refine wpAnyH_ready (rs := [5]) (by kernel_rfl) (by simp) (AllReadyH.cons (op_at rfl) (fun K hK => ?_) AllReadyH.nil)
  go_simp
  (refine (HO.out _ g).mono ?_; rintro e W1 ⟨rfl, hg⟩; replace a0 := hg.cell a0; replace a1 := hg.cell a1; replace a2 := hg.cell a2; replace e0 := hg.cell e0; replace l0 := hg.cell l0; replace g := g.trans hg; clear hg)
  go_wp2_with fail
  refine hK.out _ _ ⟨⟨a0, a1, a2⟩, e0, l0⟩ (fun hHeld => ?_)
  clear hK K
  (try simp only [Act.put, List.setIfInBounds_toArray, List.set_cons_zero, List.set_cons_succ])
  refine wpAnyH_take (i := 6) (v := (.int .i64 z)) (op_at rfl) (by kernel_rfl) (by kernel_rfl) (by kernel_rfl) (fun _ _ _ h => h) (Or.inl ⟨rfl, fun w hSw => ?_⟩) (by assumption) ?_
  · (try dsimp only at hSw); go_simp; try with_reducible rfl
  (try simp only [Act.put, List.setIfInBounds_toArray, List.set_cons_zero, List.set_cons_succ])
  refine wpAnyH_done (by kernel_rfl) ?_ _
  go_wp2_with fail
  go_ret
  exact ⟨rfl, g⟩
set_option maxHeartbeats 1000000 in
set_option maxRecDepth 100000 in
theorem findCat_pos (E : Nat → CatR → Int) (xs : List CatR) (n b off cap Ef L : Nat) (w : World) (hn : xs.length = n) (h1 : n ≤ 1000) (hcap : n ≤ cap) (hmx : cap ≤ maxLen)
    (hc : ∀ i x, xs[i]? = some x → CatAt w b (off + i * 3) x) (ho : ∀ (i : Nat) (x : CatR) (W : World), i < n → xs[i]? = some x → Gr w W → Calls Tryz.prog 117 #[.slice (some ⟨b, off, none⟩) i cap, catV x] W fun e w' => e = .returned (.int .i64 (E i x)) ∧ Gr W w') (hE : w.cell? ⟨Ef, 0, none⟩ = some (.func (.func 117) #[] #[])) (hL : w.cell? ⟨L, 0, none⟩ = some (.slice (some ⟨b, off, none⟩) n cap)) :
    Calls Tryz.prog 162 #[.slice (some ⟨b, off, none⟩) n cap, .func (.func 149) #[] #[.pointer (some ⟨Ef, 0, none⟩), .pointer (some ⟨L, 0, none⟩)]] w fun e w' => (∃ i : Int, e = .returned (.tuple #[.int .i64 i, .int .i64 (errG E xs n 0)])) ∧ Gr w w' := by
  have HC := Lib.hid hc
  have HN := Lib.hid hn
  have HO := Lib.hid (fun (i : Nat) (x : CatR) (W : World) (hi : i < n) (hx : xs[i]? = some x) (hg : Gr w W) => wrapCat_c (E i x) i n b off cap Ef L x W hi hcap hmx (fun W2 hg2 => ho i x W2 hi hx (hg.trans hg2)) (hg.cell hE) (hg.cell hL))
  clear hc hL hn hE ho
  go_enter Tryz.func162, Tryz.ntmps162
  go_wp2_with fail
  go_loopg [11] n (fun gk s11 wr => ∃ i : Nat, s11 = .int .i64 i ∧ gk + i = n ∧ Gr w wr ∧ Hid (errG E xs (n - i) i = errG E xs n 0))
  case atStart => exact ⟨0, rfl, by omega, Gr.refl _, rfl⟩
  case round =>
    obtain ⟨i, rfl, hi, hg, HF⟩ := hrel
    by_cases hlt : i < n
    · obtain ⟨x, hx⟩ : ∃ x, xs[i]? = some x := ⟨xs[i]'(by have := HN.out; omega), List.getElem?_eq_getElem _⟩
      obtain ⟨c0, c1, c2⟩ := (HC.out i x hx).gr hg
      have hf := errG_step (E := E) hlt hx
      have hi2 : (i : Int) < n := by omega
      have hT := fun W hg2 => HO.out i x W hlt hx hg2
      unfold catV at hT
      clear hx
      obtain ⟨W, hW, g, a0, a1, a2⟩ := box3 wr (.string x.nm) (.int .i64 x.lo) (.int .i64 x.hi) 76
      have gW := hg.trans g
      have HW := Lib.hid hW
      by_cases h0 : E i x = 0
      · rw [h0] at hT hf
        rw [if_pos rfl] at hf
        have HT := Lib.hid hT
        have HF2 := Lib.hid hf
        clear hT hf h0 hW
        go_wp2_with fail
        rw [HW.out]
        refine (HT.out _ gW).mono ?_
        rintro e w4 ⟨rfl, hg2⟩
        go_wp2_with fail
        go_roundg (gk - 1)
        case measure => omega
        case rel => exact ⟨i + 1, by go_num, by omega, gW.trans hg2, by unfold Hid; rw [← HF2.out, HF.out]⟩
      · rw [if_neg h0] at hf
        generalize E i x = z at *
        have q1 : (z == 0) = false := by simpa using h0
        have q2 : (z != 0) = true := by simpa [bne] using q1
        have HT := Lib.hid hT
        have HF2 := Lib.hid hf
        clear hT hf hW
        go_wp2_with fail
        rw [HW.out]
        refine (HT.out _ gW).mono ?_
        rintro e w4 ⟨rfl, hg2⟩
        go_wp2_with fail
        exact bodyPost_ret (v := .tuple #[.int .i64 i, .int .i64 z]) (by simp [results, Tryz.results162, go_sem]) rfl ⟨⟨i, by rw [← HF.out, HF2.out]⟩, gW.trans hg2⟩
    · have hin : i = n := by omega
      have HE2 : Hid (errG E xs (n - i) i = 0) := by unfold Hid; rw [hin, Nat.sub_self]; rfl
      have hi2 : (n : Int) ≤ i := by omega
      clear hin
      go_wp2_with fail
      exact bodyPost_ret (v := .tuple #[.int .i64 0, .int .i64 0]) (by simp [results, Tryz.results162, go_sem]) rfl ⟨⟨0, by rw [← HF.out, HE2.out]⟩, hg⟩
theorem eachCat_pos (E : Nat → CatR → Int) (xs : List CatR) (n b off cap Ef L : Nat) (w : World) (hn : xs.length = n) (h1 : n ≤ 1000) (hcap : n ≤ cap) (hmx : cap ≤ maxLen)
    (hc : ∀ i x, xs[i]? = some x → CatAt w b (off + i * 3) x) (ho : ∀ (i : Nat) (x : CatR) (W : World), i < n → xs[i]? = some x → Gr w W → Calls Tryz.prog 117 #[.slice (some ⟨b, off, none⟩) i cap, catV x] W fun e w' => e = .returned (.int .i64 (E i x)) ∧ Gr W w') (hE : w.cell? ⟨Ef, 0, none⟩ = some (.func (.func 117) #[] #[])) (hL : w.cell? ⟨L, 0, none⟩ = some (.slice (some ⟨b, off, none⟩) n cap)) :
    Calls Tryz.prog 148 #[.slice (some ⟨b, off, none⟩) n cap, .func (.func 149) #[] #[.pointer (some ⟨Ef, 0, none⟩), .pointer (some ⟨L, 0, none⟩)]] w fun e w' => e = .returned (.int .i64 (errG E xs n 0)) ∧ Gr w w' := by
  have HF := Lib.hid (findCat_pos E xs n b off cap Ef L w hn h1 hcap hmx hc ho hE hL)
  generalize errG E xs n 0 = z at *
  clear hc hL hn hE ho
  go_enter Tryz.func148, Tryz.ntmps148
  go_wp2_with fail
  refine HF.out.mono ?_
  rintro e w4 ⟨⟨i, rfl⟩, hg⟩
  go_wp2_with fail
  go_ret
  exact ⟨rfl, hg⟩
theorem findCat_nil (p : Option Addr) (cap Ef L : Nat) (w : World) :
    Calls Tryz.prog 162 #[.slice p 0 cap, .func (.func 149) #[] #[.pointer (some ⟨Ef, 0, none⟩), .pointer (some ⟨L, 0, none⟩)]] w fun e w' => (∃ i : Int, e = .returned (.tuple #[.int .i64 i, .int .i64 0])) ∧ w = w' := by
  go_enter Tryz.func162, Tryz.ntmps162
  go_wp2_with fail
  refine wp_loop_rounds 2 ?_
  rw [rounds_succ]
  go_wp2_with fail
  exact bodyPost_ret (v := .tuple #[.int .i64 0, .int .i64 0]) (by simp [results, Tryz.results162, go_sem]) rfl ⟨⟨0, rfl⟩, rfl⟩
theorem eachCat_nil (p : Option Addr) (cap Ef L : Nat) (w : World) :
    Calls Tryz.prog 148 #[.slice p 0 cap, .func (.func 149) #[] #[.pointer (some ⟨Ef, 0, none⟩), .pointer (some ⟨L, 0, none⟩)]] w fun e w' => e = .returned (.int .i64 0) ∧ w = w' := by
  have HF := Lib.hid (findCat_nil p cap Ef L w)
  go_enter Tryz.func148, Tryz.ntmps148
  go_wp2_with fail
  refine HF.out.mono ?_
  rintro e w4 ⟨⟨i, rfl⟩, rfl⟩
  go_wp2_with fail
  go_ret
  exact ⟨rfl, rfl⟩
set_option maxHeartbeats 1000000 in
set_option maxRecDepth 100000 in
theorem listCat_c (E : Nat → CatR → Int) (xs : List CatR) (m : Nat) (v : Value) (w : World) (hm : m ≤ 1000) (hv : CatAts w v xs)
    (ho : ∀ (p : Option Addr) (b off cap : Nat), v = .slice (some ⟨b, off, none⟩) xs.length cap → xs.length ≤ m → ∀ (i : Nat) (x : CatR) (W : World), i < xs.length → xs[i]? = some x → Gr w W → Calls Tryz.prog 117 #[.slice (some ⟨b, off, none⟩) i cap, catV x] W fun e w' => e = .returned (.int .i64 (E i x)) ∧ Gr W w') :
    Calls Tryz.prog 116 #[v, .int .i64 m, .func (.func 117) #[] #[]] w fun e w' => e = .returned (.int .i64 (listE m E xs)) ∧ Gr w w' := by
  obtain ⟨⟨p, cap, rfl, ⟨hcap, hmx⟩, hh⟩⟩ := hv
  rcases Nat.lt_or_ge m xs.length with hl | hl
  · have HE : Hid (listE m E xs = 5) := by unfold Hid listE; rw [if_pos hl]
    have hl2 : decide ((m : Int) < (xs.length : Int)) = true := decide_eq_true (by omega)
    have hl3 : (m : Int) < (xs.length : Int) := by omega
    generalize xs.length = n at *
    obtain ⟨W, hW, g, a0, e0⟩ := box_two w (.slice p n cap) (.func (.func 117) #[] #[]) 77 172
    have HW := Lib.hid hW
    clear hW hh ho
    go_enter Tryz.func116, Tryz.ntmps116
    go_wp2_with fail
    all_goals
      go_ret
      exact ⟨by rw [HE.out]; rfl, by rw [HW.out]; exact g⟩
  · have HE : Hid (listE m E xs = errG E xs xs.length 0) := by unfold Hid listE; rw [if_neg (by omega)]
    have hl2 : decide ((m : Int) < (xs.length : Int)) = false := decide_eq_false (by omega)
    have hl3 : ¬ (m : Int) < (xs.length : Int) := by omega
    rcases Nat.eq_zero_or_pos xs.length with h0 | h0
    · have HE2 : Hid (errG E xs xs.length 0 = 0) := by unfold Hid; rw [h0]; rfl
      rw [h0] at hl2 hl3 ⊢
      obtain ⟨W, hW, g, a0, e0⟩ := box_two w (.slice p 0 cap) (.func (.func 117) #[] #[]) 77 172
      have HW := Lib.hid hW
      have HK := Lib.hid (fun W => eachCat_nil p cap (w.heap.size + 1) w.heap.size W)
      clear hW hh ho h0
      go_enter Tryz.func116, Tryz.ntmps116
      go_wp2_with fail
      refine (HK.out _).mono ?_
      rintro e w4 ⟨rfl, rfl⟩
      go_wp2_with fail
      go_ret
      exact ⟨by rw [HE.out, HE2.out]; rfl, by rw [HW.out]; exact g⟩
    · obtain ⟨b, off, rfl, hc⟩ := hh h0
      obtain ⟨W, hW, g, a0, e0⟩ := box_two w (.slice (some ⟨b, off, none⟩) xs.length cap) (.func (.func 117) #[] #[]) 77 172
      have HW := Lib.hid hW
      have HK := Lib.hid (eachCat_pos E xs xs.length b off cap (w.heap.size + 1) w.heap.size W rfl (by omega) hcap hmx (fun i x hx => (hc i x hx).gr g) (fun i x W2 hi hx hg => ho none b off cap rfl hl i x W2 hi hx (g.trans hg)) e0 a0)
      rw [← HE.out] at HK
      generalize listE m E xs = z at *
      generalize xs.length = n at *
      clear hW hh ho hc HE
      go_enter Tryz.func116, Tryz.ntmps116
      go_wp2_with fail
      rw [HW.out]
      refine HK.out.mono ?_
      rintro e w4 ⟨rfl, hg⟩
      go_wp2_with fail
      go_ret
      exact ⟨rfl, g.trans hg⟩
theorem checkCats_c (xs : List CatR) (v : Value) (w : World) (hv : CatAts w v xs) :
    Calls Tryz.prog 80 #[v] w fun e w' => e = .returned (.int .i64 (listE 256 (catE xs) xs)) ∧ Gr w w' := by
  have HL := Lib.hid (listCat_c (catE xs) xs 256 v w (by omega) hv (fun p b off cap hp hl i x W hi hx hg => by
    obtain ⟨⟨p', cap', h1, h2, h3⟩⟩ := hv
    obtain ⟨b', off', h4, h5⟩ := h3 (by omega)
    rw [hp] at h1
    subst h4
    simp only [Value.slice.injEq, Option.some.injEq, Addr.mk.injEq, and_true, true_and] at h1
    obtain ⟨⟨rfl, rfl⟩, rfl⟩ := h1
    exact oneCat_c xs i b off cap x W (by omega) (by omega) (fun i x hx => (h5 i x hx).gr hg)))
  generalize listE 256 (catE xs) xs = z at *
  obtain ⟨⟨p, cap, rfl, _⟩⟩ := hv
  go_enter Tryz.func80, Tryz.ntmps80
  go_wp2_with fail
  refine HL.out.mono ?_
  rintro e w4 ⟨rfl, hg⟩
  go_wp2_with fail
  go_ret
  exact ⟨rfl, hg⟩
end Go.Proofs.YtenkbeeiblhnjaaGreat
