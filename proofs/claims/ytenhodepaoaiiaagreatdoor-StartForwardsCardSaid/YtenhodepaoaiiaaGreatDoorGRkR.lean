/- Results in rows of their own: their cells. -/
import Derived.Test.YtenhodepaoaiiaaGreatDoorGCmp
import Derived.Test.YtenhodepaoaiiaaGreatDoorGThB
import Derived.Test.YtenhodepaoaiiaaGreatDoorGChecks
namespace Go.Proofs.YtenhodepaoaiiaaGreatDoor
open Go.RowKit Go.Lib
set_option linter.unusedSimpArgs false
set_option linter.unusedVariables false
theorem infoRes : (Tryz.prog.info? 42).map (fun i => (i.zero, i.size, i.bytes)) = some (some (.agg #[.string ⟨#[]⟩, .string ⟨#[]⟩, .slice none 0 0]), 3, 56) := by kernel_rfl
def rowC (r : RowR) : List Value := [.string r.nm, .string r.st, r.u]
def rowCs (rs : List RowR) : List Value := rs.flatMap rowC
theorem rowCs_len (rs : List RowR) : (rowCs rs).length = rs.length * 3 := by
  induction rs with
  | nil => rfl
  | cons x xs ih => simp only [rowCs, List.flatMap_cons, List.length_append, List.length_cons] at *; rw [ih]; simp [rowC]; omega
theorem rowCs_add (rs : List RowR) (r : RowR) : rowCs (rs ++ [r]) = rowCs rs ++ rowC r := by simp [rowCs]
theorem rowCs_at {rs : List RowR} {i : Nat} {x : RowR} (h : rs[i]? = some x) (j : Nat) (hj : j < 3) : (rowCs rs)[i * 3 + j]? = (rowC x)[j]? := by
  induction rs generalizing i with
  | nil => simp at h
  | cons y ys ih =>
    have e : rowCs (y :: ys) = rowC y ++ rowCs ys := rfl
    rw [e]
    cases i with
    | zero =>
      simp only [List.getElem?_cons_zero, Option.some.injEq] at h
      subst h
      rw [show 0 * 3 + j = j by omega, List.getElem?_append_left (by simp [rowC]; omega)]
    | succ i =>
      rw [List.getElem?_append_right (by simp [rowC]; omega)]
      have := ih (i := i) (by simpa using h)
      rw [← this]
      congr 1
      simp [rowC]; omega
theorem own_apart {w : World} {b1 b2 s1 s2 n1 n2 : Nat} {T1 T2 : TypeId} {v1 v2 : Value} {l1 l2 : List Value} (h1 : w.ownsRow b1 T1 s1 v1 n1 l1) (h2 : w.ownsRow b2 T2 s2 v2 n2 l2) (hne : T1 ≠ T2) : v1.ownBlock = none ∨ v1.ownBlock ≠ v2.ownBlock := by
  rcases h1.2 with ⟨rfl, _⟩ | ⟨g, cap, cur, rfl, _, hg, _⟩
  · exact .inl rfl
  · refine .inr fun e => ?_
    rcases h2.2 with ⟨rfl, _⟩ | ⟨g2, cap2, cur2, rfl, _, hg2, _⟩
    · cases e
    · simp only [Value.ownBlock, Option.some.injEq] at e
      subst e
      rw [hg] at hg2
      cases hg2
      exact hne rfl
theorem cell_apart {w : World} {b2 s2 n2 g : Nat} {T1 T2 : TypeId} {v2 : Value} {l2 : List Value} {cs : Array Value} (h1 : w.heap[g]? = some (.cells cs T1 (0, 0))) (h2 : w.ownsRow b2 T2 s2 v2 n2 l2) (hne : T1 ≠ T2) : some g ≠ v2.ownBlock := fun e => by
  rcases h2.2 with ⟨rfl, _⟩ | ⟨g2, cap2, cur2, rfl, _, hg2, _⟩
  · cases e
  · simp only [Value.ownBlock, Option.some.injEq] at e
    subst e
    rw [h1] at hg2
    cases hg2
    exact hne rfl
theorem own_gr {w w' : World} {base n s : Nat} {e : TypeId} {v : Value} {xs : List Value} (h : w.ownsRow base e s v n xs) (k : Gr w w') : w'.ownsRow base e s v n xs := by
  refine ⟨h.1, ?_⟩
  rcases h.2 with h2 | ⟨g, cap, cur, rfl, hb, hcur, r⟩
  · exact .inl h2
  · exact .inr ⟨g, cap, cur, rfl, hb, k.block hcur, r⟩
theorem below_gr {B : Nat} {a b c : World} (h : Below B a b) (k : Gr b c) (hB : B ≤ a.heap.size) : Below B a c := Below.trans h (Below.mono k (Nat.le_trans hB h.size))
theorem cell_three_new (w : World) (a b c : Value) (T : TypeId) : ∀ (j : Nat) (u : Value), [a, b, c][j]? = some u → (w.alloc (.cells #[a, b, c] T)).cell? ((⟨w.heap.size, 0, none⟩ : Addr).add j) = some u := by
  intro j u h
  have e : (⟨w.heap.size, 0, none⟩ : Addr).add j = ⟨w.heap.size, j, none⟩ := by unfold Addr.add; split <;> simp_all
  rw [e]
  rcases j with _ | _ | _ | j
  · simp at h; subst h; exact cell_new w #[a, b, c] T 0 (by simp)
  · simp at h; subst h; exact cell_new w #[a, b, c] T 1 (by simp)
  · simp at h; subst h; exact cell_new w #[a, b, c] T 2 (by simp)
  · simp at h
theorem cell_three_sz (w : World) (s : Nat) (hs : w.heap.size = s) (a b c : Value) (T : TypeId) : ∀ (j : Nat) (u : Value), [a, b, c][j]? = some u → (w.alloc (.cells #[a, b, c] T)).cell? ((⟨s, 0, none⟩ : Addr).add j) = some u := by
  subst hs; exact cell_three_new w a b c T
theorem rowCs_take {xs : List RowR} {k : Nat} {x : RowR} (h : xs[k]? = some x) : rowCs (xs.take (k + 1)) = rowCs (xs.take k) ++ rowC x := by
  rw [List.take_add_one, h]
  simp [rowCs]
/-- rows that have been made, as they read -/
theorem rows_of_owns {w : World} {base : Nat} {v : Value} {ys : List RowR} {T : TypeId} (h : w.ownsRow base T 3 v ys.length (rowCs ys)) (h0 : 0 < ys.length) (hv : ∀ (i : Nat) (x : RowR), ys[i]? = some x → IntsV w x.u x.xs ∧ x.xs.length ≤ 1000) :
    ∃ g cap, v = .slice (some ⟨g, 0, none⟩) ys.length cap ∧ base ≤ g ∧ ys.length ≤ cap ∧ cap ≤ maxLen ∧ ∀ i x, ys[i]? = some x → RowAt w g (0 + i * 3) x := by
  have hh := h
  rcases h.2 with ⟨rfl, h0'⟩ | ⟨g, cap, cur, rfl, hb, hcur, hle, hmx, h5, h6⟩
  · omega
  · refine ⟨g, cap, rfl, hb, by omega, by omega, fun i x hx => ?_⟩
    have e : ∀ t, (⟨g, 0, none⟩ : Addr).add t = ⟨g, t, none⟩ := fun t => by unfold Addr.add; split <;> simp_all
    have c : ∀ (j : Nat) (u : Value), j < 3 → (rowC x)[j]? = some u → w.cell? ⟨g, i * 3 + j, none⟩ = some u := fun j u hj hu => by
      have := hh.cells (g := g) rfl (i * 3 + j) u (by rw [rowCs_at hx j hj]; exact hu)
      rwa [e] at this
    rw [Nat.zero_add]
    exact ⟨c 0 _ (by omega) rfl, c 1 _ (by omega) rfl, c 2 _ (by omega) rfl, (hv i x hx).1, (hv i x hx).2⟩
end Go.Proofs.YtenhodepaoaiiaaGreatDoor
namespace Go.Proofs.YtenhodepaoaiiaaGreatDoor
open Go.RowKit Go.Lib
set_option linter.unusedSimpArgs false
set_option linter.unusedVariables false
end Go.Proofs.YtenhodepaoaiiaaGreatDoor
namespace Go.Proofs.YtenhodepaoaiiaaGreatDoor
open Go.RowKit Go.Lib
set_option linter.unusedSimpArgs false
set_option linter.unusedVariables false
/-- the results with values -/
def fine (xs : List RowR) : List RowR := xs.filter hasV
theorem fine_take {xs : List RowR} {k : Nat} {x : RowR} (h : xs[k]? = some x) : fine (xs.take (k + 1)) = fine (xs.take k) ++ (if hasV x then [x] else []) := by
  rw [List.take_add_one, h]
  unfold fine
  rw [List.filter_append]
  cases e : hasV x <;> simp [e]
/-- the names of those at a rank of at most m -/
def goOn (m : Int) (ps : List PlR) : List ByteArray := (ps.filter fun p => decide (p.rk ≤ m)).map fun p => p.nm
theorem goOn_take {m : Int} {ps : List PlR} {k : Nat} {x : PlR} (h : ps[k]? = some x) : goOn m (ps.take (k + 1)) = goOn m (ps.take k) ++ (if decide (x.rk ≤ m) then [x.nm] else []) := by
  rw [List.take_add_one, h]
  unfold goOn
  rw [List.filter_append, List.map_append]
  by_cases e : x.rk ≤ m <;> simp [e]
def strsV (ns : List ByteArray) : List Value := ns.map fun s => .string s
/-- the slice v reads as the names ns -/
structure StrsV (w : World) (v : Value) (ns : List ByteArray) : Prop where
  mk' ::
  out : ∃ p cap, v = .slice p ns.length cap ∧ (ns.length ≤ cap ∧ cap ≤ maxLen) ∧ ((ns = [] ∧ p = none ∧ cap = 0) ∨ ∃ b, p = some ⟨b, 0, none⟩ ∧ ∀ i s, ns[i]? = some s → w.cell? ⟨b, i, none⟩ = some (.string s))
theorem StrsV.gr {w w' : World} {v : Value} {ns : List ByteArray} (h : StrsV w v ns) (k : Gr w w') : StrsV w' v ns := by
  obtain ⟨⟨p, cap, rfl, hc, hh⟩⟩ := h
  refine ⟨p, cap, rfl, hc, ?_⟩
  rcases hh with h | ⟨b, h1, h2⟩
  · exact .inl h
  · exact .inr ⟨b, h1, fun i s hs => k.cell (h2 i s hs)⟩
theorem strs_of_owns {w : World} {base : Nat} {v : Value} {ns : List ByteArray} {T : TypeId} {n : Nat} (h : w.ownsRow base T 1 v n (strsV ns)) (hn : ns.length = n) : StrsV w v ns := by
  have hh := h
  subst hn
  rcases h.2 with ⟨rfl, h0'⟩ | ⟨g, cap, cur, rfl, hb, hcur, hle, hmx, h5, h6⟩
  · have : ns.length = 0 := by simpa using h0'
    rw [List.length_eq_zero_iff] at this
    subst this
    exact ⟨none, 0, rfl, ⟨Nat.le_refl _, by unfold maxLen; omega⟩, .inl ⟨rfl, rfl, rfl⟩⟩
  · refine ⟨_, cap, rfl, ⟨by omega, by omega⟩, .inr ⟨g, rfl, fun i s hs => ?_⟩⟩
    have e : ∀ t, (⟨g, 0, none⟩ : Addr).add t = ⟨g, t, none⟩ := fun t => by unfold Addr.add; split <;> simp_all
    have := hh.cells (g := g) rfl i (.string s) (by simp [strsV, hs])
    rwa [e] at this
/-- who goes on -/
def thru (xs : List RowR) (m : Int) : List ByteArray := goOn m (srtP (pls ((fine xs).map fun x => x.nm) (ranksL (fine xs))))
theorem ranksL_len (xs : List RowR) : (ranksL xs).length = xs.length := by unfold ranksL; simp
/-- placed, whatever the names and ranks: what the loop behind it asks -/
theorem fine_le (xs : List RowR) : (fine xs).length ≤ xs.length := List.length_filter_le _ _
end Go.Proofs.YtenhodepaoaiiaaGreatDoor
namespace Go.Proofs.YtenhodepaoaiiaaGreatDoor
open Go.RowKit Go.Lib
set_option linter.unusedSimpArgs false
set_option linter.unusedVariables false
theorem sameH_c (y : RowR) (B : Nat) (nm : ByteArray) (p : Option Addr) (n cap : Nat) (hu : y.u = .slice p n cap) (w : World) (h : w.cell? ⟨B, 0, none⟩ = some (.string nm)) :
    Calls Tryz.prog 86 #[resV y.nm y.st y.u, .pointer (some ⟨B, 0, none⟩)] w fun e w' => e = .returned (.bool (y.nm.toList == nm.toList)) ∧ Gr w w' := by
  rw [hu]
  unfold resV
  obtain ⟨W, hW, g, a0, a1, a2⟩ := box3 w (.string y.nm) (.string y.st) (.slice p n cap) 42
  have hB := g.cell h
  rw [← hW] at hB
  have HG := Lib.hid (show Gr w (w.alloc (.cells #[.string y.nm, .string y.st, .slice p n cap] 42)) from (Gr.refl w).alloc _)
  clear hW h g a0 a1 a2 hu
  go_enter Tryz.func86, Tryz.ntmps86
  go_wp2_with fail
  go_ret
  exact ⟨rfl, HG.out⟩
set_option maxHeartbeats 1000000 in
set_option maxRecDepth 100000 in
theorem indexH_pos (xs : List RowR) (n b off cap B : Nat) (nm : ByteArray) (w : World) (hn : n ≤ xs.length) (h1 : n ≤ 1000) (hc : ∀ i x, xs[i]? = some x → RowAt w b (off + i * 3) x) (hB : w.cell? ⟨B, 0, none⟩ = some (.string nm)) :
    Calls Tryz.prog 89 #[.slice (some ⟨b, off, none⟩) n cap, .func (.func 86) #[] #[.pointer (some ⟨B, 0, none⟩)]] w fun e w' => e = .returned (.int .i64 (firstP (isNm nm) xs n 0)) ∧ Gr w w' := by
  have HC := Lib.hid hc
  have HN := Lib.hid hn
  have HE : Hid (firstP (isNm nm) xs n 0 = firstP (isNm nm) xs (n - 0) 0) := rfl
  clear hc hn
  go_enter Tryz.func89, Tryz.ntmps89
  go_wp2_with fail
  go_loopg [8] n (fun gk s8 wr => ∃ i : Nat, s8 = .int .i64 i ∧ gk + i = n ∧ Gr w wr ∧ Hid (firstP (isNm nm) xs (n - i) i = firstP (isNm nm) xs (n - 0) 0))
  case atStart => exact ⟨0, rfl, by omega, Gr.refl _, rfl⟩
  case round =>
    obtain ⟨i, rfl, hi, hg, HF⟩ := hrel
    by_cases hlt : i < n
    · obtain ⟨x, hx⟩ : ∃ x, xs[i]? = some x := ⟨xs[i]'(by have := HN.out; omega), List.getElem?_eq_getElem _⟩
      obtain ⟨c0, c1, c2, hv, _⟩ := (HC.out i x hx).gr hg
      obtain ⟨⟨p', cap', hu, _⟩⟩ := hv
      have hf := firstP_step (Q := (isNm nm)) hx hlt
      have hi2 : (i : Int) < n := by omega
      have HT := Lib.hid (sameH_c x B nm _ _ _ hu wr (hg.cell hB))
      rw [hu] at c2 HT
      clear hx
      try unfold resV at HT
      have e0 : (x.nm.toList == nm.toList) = (isNm nm) x := rfl
      rw [e0] at HT
      cases e1 : (isNm nm) x
      · rw [e1] at hf HT
        simp only [Bool.false_eq_true, if_false] at hf
        have HF2 := Lib.hid hf
        clear hf e1 e0
        go_wp2_with (refine HT.out.mono ?_; rintro e w4 ⟨rfl, hg2⟩)
        go_roundg (gk - 1)
        case measure => omega
        case rel => exact ⟨i + 1, by go_num, by omega, hg.trans hg2, by unfold Hid; rw [← HF2.out, HF.out]⟩
      · rw [e1] at hf HT
        simp only [if_true] at hf
        have HF2 := Lib.hid hf
        clear hf e1 e0
        go_wp2_with (refine HT.out.mono ?_; rintro e w4 ⟨rfl, hg2⟩)
        go_ret
        exact ⟨by rw [HE.out, ← HF.out, HF2.out]; rfl, hg.trans hg2⟩
    · have HE2 := Lib.hid (firstP_end (Q := (isNm nm)) (xs := xs) (i := i) (n := n) (by omega))
      have hi2 : (n : Int) ≤ i := by omega
      go_wp2_with fail
      go_ret
      exact ⟨by rw [HE.out, ← HF.out, HE2.out]; rfl, hg⟩
theorem containsH_pos (xs : List RowR) (n b off cap B : Nat) (nm : ByteArray) (w : World) (hn : n ≤ xs.length) (h1 : n ≤ 1000) (hc : ∀ i x, xs[i]? = some x → RowAt w b (off + i * 3) x) (hB : w.cell? ⟨B, 0, none⟩ = some (.string nm)) :
    Calls Tryz.prog 85 #[.slice (some ⟨b, off, none⟩) n cap, .func (.func 86) #[] #[.pointer (some ⟨B, 0, none⟩)]] w fun e w' => e = .returned (.bool (dupR xs n nm)) ∧ Gr w w' := by
  have HI := Lib.hid (indexH_pos xs n b off cap B nm w hn h1 hc hB)
  have HE : Hid (dupR xs n nm = decide (0 ≤ firstP (isNm nm) xs n 0)) := by
    unfold Hid dupR
    rw [firstP_any (isNm nm) xs n 0 (by omega), List.drop_zero]
    rfl
  clear hc hB
  generalize firstP (isNm nm) xs n 0 = z at *
  go_enter Tryz.func85, Tryz.ntmps85
  go_wp2_with fail
  refine HI.out.mono ?_
  rintro e w4 ⟨rfl, hg⟩
  go_wp2_with fail
  go_ret
  exact ⟨by rw [HE.out]; rfl, hg⟩
theorem hasResult_pos (xs : List RowR) (n b off cap : Nat) (nm : ByteArray) (w : World) (hn : n ≤ xs.length) (h1 : n ≤ 1000) (hc : ∀ i x, xs[i]? = some x → RowAt w b (off + i * 3) x) :
    Calls Tryz.prog 44 #[.slice (some ⟨b, off, none⟩) n cap, .string nm] w fun e w' => e = .returned (.bool (dupR xs n nm)) ∧ Gr w w' := by
  have HC := Lib.hid (fun B W (g : Gr w W) h => containsH_pos xs n b off cap B nm W hn h1 (fun i x hx => (hc i x hx).gr g) h)
  obtain ⟨W, hW, g, a0⟩ := box1 w (.string nm) 9
  have HW := Lib.hid hW
  generalize dupR xs n nm = d at *
  clear hW hc
  go_enter Tryz.func44, Tryz.ntmps44
  go_wp2_with fail
  rw [HW.out]
  generalize w.heap.size = B at *
  clear HW
  refine (HC.out B W g a0).mono ?_
  rintro e w4 ⟨rfl, hg⟩
  go_wp2_with fail
  go_ret
  exact ⟨rfl, g.trans hg⟩
theorem valued_c (c s : ByteArray) (v : Value) (hv : ∃ p n cap, v = .slice p n cap) (w : World) :
    Calls Tryz.prog 90 #[.agg #[.string c, .string s, v]] w fun e w' => e = .returned (.bool s.toList.isEmpty) ∧ Gr w w' := by
  obtain ⟨p, n, cap, rfl⟩ := hv
  cases h : s.toList.isEmpty
  all_goals
    have h2 := h
    have HE := Lib.hid h2
    go_enter Tryz.func90, Tryz.ntmps90
    go_wp2_with fail
    go_ret
    exact ⟨rfl, (Gr.refl w).alloc _⟩
set_option maxHeartbeats 1000000 in
set_option maxRecDepth 100000 in
theorem indexW_pos (xs : List RowR) (n b off cap : Nat) (w : World) (hn : n ≤ xs.length) (h1 : n ≤ 1000) (hc : ∀ i x, xs[i]? = some x → RowAt w b (off + i * 3) x) :
    Calls Tryz.prog 89 #[.slice (some ⟨b, off, none⟩) n cap, .func (.func 90) #[] #[]] w fun e w' => e = .returned (.int .i64 (firstP hasV xs n 0)) ∧ Gr w w' := by
  have HC := Lib.hid hc
  have HN := Lib.hid hn
  have HE : Hid (firstP hasV xs n 0 = firstP hasV xs (n - 0) 0) := rfl
  clear hc hn
  go_enter Tryz.func89, Tryz.ntmps89
  go_wp2_with fail
  go_loopg [8] n (fun gk s8 wr => ∃ i : Nat, s8 = .int .i64 i ∧ gk + i = n ∧ Gr w wr ∧ Hid (firstP hasV xs (n - i) i = firstP hasV xs (n - 0) 0))
  case atStart => exact ⟨0, rfl, by omega, Gr.refl _, rfl⟩
  case round =>
    obtain ⟨i, rfl, hi, hg, HF⟩ := hrel
    by_cases hlt : i < n
    · obtain ⟨x, hx⟩ : ∃ x, xs[i]? = some x := ⟨xs[i]'(by have := HN.out; omega), List.getElem?_eq_getElem _⟩
      obtain ⟨c0, c1, c2, hv, _⟩ := (HC.out i x hx).gr hg
      obtain ⟨⟨p', cap', hu, _⟩⟩ := hv
      have hf := firstP_step (Q := hasV) hx hlt
      have hi2 : (i : Int) < n := by omega
      have HT := Lib.hid (valued_c x.nm x.st x.u ⟨_, _, _, hu⟩ wr)
      rw [hu] at c2 HT
      clear hx
      try unfold resV at HT
      have e0 : x.st.toList.isEmpty = hasV x := rfl
      rw [e0] at HT
      cases e1 : hasV x
      · rw [e1] at hf HT
        simp only [Bool.false_eq_true, if_false] at hf
        have HF2 := Lib.hid hf
        clear hf e1 e0
        go_wp2_with (refine HT.out.mono ?_; rintro e w4 ⟨rfl, hg2⟩)
        go_roundg (gk - 1)
        case measure => omega
        case rel => exact ⟨i + 1, by go_num, by omega, hg.trans hg2, by unfold Hid; rw [← HF2.out, HF.out]⟩
      · rw [e1] at hf HT
        simp only [if_true] at hf
        have HF2 := Lib.hid hf
        clear hf e1 e0
        go_wp2_with (refine HT.out.mono ?_; rintro e w4 ⟨rfl, hg2⟩)
        go_ret
        exact ⟨by rw [HE.out, ← HF.out, HF2.out]; rfl, hg.trans hg2⟩
    · have HE2 := Lib.hid (firstP_end (Q := hasV) (xs := xs) (i := i) (n := n) (by omega))
      have hi2 : (n : Int) ≤ i := by omega
      go_wp2_with fail
      go_ret
      exact ⟨by rw [HE.out, ← HF.out, HE2.out]; rfl, hg⟩
/-- whether a name is among names -/
def hasS (ns : List ByteArray) (s : ByteArray) : Bool := ns.any fun t => s.toList == t.toList
/-- the first place of a name, from a place on -/
def findS (s : ByteArray) (ns : List ByteArray) : Nat → Nat → Int
  | 0, _ => -1
  | k + 1, i => match ns[i]? with
    | some t => if s.toList == t.toList then i else findS s ns k (i + 1)
    | none => -1
theorem findS_step {s : ByteArray} {ns : List ByteArray} {i n : Nat} {t : ByteArray} (h : ns[i]? = some t) (hi : i < n) : findS s ns (n - i) i = if s.toList == t.toList then (i : Int) else findS s ns (n - (i + 1)) (i + 1) := by
  obtain ⟨k, hk⟩ : ∃ k, n - i = k + 1 := ⟨n - i - 1, by omega⟩
  rw [hk, show n - (i + 1) = k by omega]
  simp only [findS, h]
theorem findS_any (s : ByteArray) (ns : List ByteArray) : ∀ (k i : Nat), i + k ≤ ns.length → decide (0 ≤ findS s ns k i) = hasS ((ns.drop i).take k) s
  | 0, i, h => by simp [findS, hasS]
  | k + 1, i, h => by
    have hi : i < ns.length := by omega
    have ih := findS_any s ns k (i + 1) (by omega)
    unfold hasS at *
    rw [List.drop_eq_getElem_cons hi, List.take_succ_cons, List.any_cons, ← ih]
    simp only [findS, List.getElem?_eq_getElem hi]
    cases s.toList == ns[i].toList <;> simp
set_option maxHeartbeats 1000000 in
set_option maxRecDepth 100000 in
theorem indexS_pos (ns : List ByteArray) (n b off cap : Nat) (s : ByteArray) (w : World) (hn : n ≤ ns.length) (h1 : n ≤ 1000) (hc : ∀ i t, ns[i]? = some t → w.cell? ⟨b, off + i, none⟩ = some (.string t)) :
    Calls Tryz.prog 96 #[.slice (some ⟨b, off, none⟩) n cap, .string s] w fun e w' => e = .returned (.int .i64 (findS s ns n 0)) ∧ w = w' := by
  have HC := Lib.hid hc
  have HX := Lib.hid (fun k (h : k < n) => (show ∃ x, ns[k]? = some x from ⟨ns[k]'(by omega), List.getElem?_eq_getElem _⟩))
  have HS := Lib.hid (fun i t (h : ns[i]? = some t) (hi : i < n) => findS_step (s := s) h hi)
  have HE : Hid (findS s ns 0 n = -1) := rfl
  clear hc hn
  generalize findS s ns = F at *
  go_enter Tryz.func96, Tryz.ntmps96
  go_wp2_with fail
  go_loopg [8] n (fun gk s8 wr => ∃ i : Nat, s8 = .int .i64 i ∧ gk + i = n ∧ wr = w ∧ Hid (F (n - i) i = F n 0))
  case atStart => exact ⟨0, rfl, by omega, rfl, by simp [Hid]⟩
  case round =>
    obtain ⟨i, rfl, hi, rfl, HF⟩ := hrel
    by_cases hlt : i < n
    · obtain ⟨t, ht⟩ := HX.out i hlt
      have c0 := HC.out i t ht
      have hst := HS.out i t ht hlt
      have hi2 : (i : Int) < n := by omega
      cases hh : (s.toList == t.toList)
      · rw [hh] at hst
        have HST := Lib.hid hst
        have hne : ¬ s.toList = t.toList := by simpa using hh
        clear hst ht
        go_wp2_with fail
        go_roundg (gk - 1)
        case measure => omega
        case rel => exact ⟨i + 1, by go_num, by omega, rfl, by have := HF.out; rw [HST.out] at this; simpa [Hid] using this⟩
      · rw [hh] at hst
        have HST := Lib.hid hst
        have hne : s.toList = t.toList := by simpa using hh
        clear hst ht
        go_wp2_with fail
        go_ret
        have q : F n 0 = i := by have := HF.out; rw [HST.out] at this; simpa using this.symm
        exact ⟨by rw [q]; rfl, rfl⟩
    · obtain rfl : i = n := by omega
      have := HF.out
      rw [Nat.sub_self, HE.out] at this
      have HT := Lib.hid this
      clear this
      go_wp2_with fail
      go_ret
      exact ⟨by rw [← HT.out]; rfl, rfl⟩
theorem containsS_pos (ns : List ByteArray) (n b off cap : Nat) (s : ByteArray) (w : World) (hn : n ≤ ns.length) (h1 : n ≤ 1000) (hc : ∀ i t, ns[i]? = some t → w.cell? ⟨b, off + i, none⟩ = some (.string t)) :
    Calls Tryz.prog 50 #[.slice (some ⟨b, off, none⟩) n cap, .string s] w fun e w' => e = .returned (.bool (hasS (ns.take n) s)) ∧ w = w' := by
  have HI := Lib.hid (indexS_pos ns n b off cap s w hn h1 hc)
  have HE : Hid (hasS (ns.take n) s = decide (0 ≤ findS s ns n 0)) := by
    unfold Hid; rw [findS_any s ns n 0 (by omega), List.drop_zero]
  clear hc
  generalize findS s ns n 0 = z at *
  go_enter Tryz.func50, Tryz.ntmps50
  go_wp2_with (refine HI.out.mono ?_; rintro e w4 ⟨rfl, rfl⟩)
  go_ret
  exact ⟨by rw [HE.out]; rfl, rfl⟩
theorem indexS_nil (p : Option Addr) (cap : Nat) (s : ByteArray) (w : World) :
    Calls Tryz.prog 96 #[.slice p 0 cap, .string s] w fun e w' => e = .returned (.int .i64 (-1)) ∧ w = w' := by
  go_enter Tryz.func96, Tryz.ntmps96
  go_wp2_with fail
  refine wp_loop_rounds 2 ?_
  rw [rounds_succ]
  go_wp2_with fail
  go_ret
  exact ⟨rfl, rfl⟩
theorem containsS_nil (p : Option Addr) (cap : Nat) (s : ByteArray) (w : World) :
    Calls Tryz.prog 50 #[.slice p 0 cap, .string s] w fun e w' => e = .returned (.bool false) ∧ w = w' := by
  have HI := Lib.hid (indexS_nil p cap s w)
  go_enter Tryz.func50, Tryz.ntmps50
  go_wp2_with (refine HI.out.mono ?_; rintro e w4 ⟨rfl, rfl⟩)
  go_ret
  exact ⟨rfl, rfl⟩
end Go.Proofs.YtenhodepaoaiiaaGreatDoor
namespace Go.Proofs.YtenhodepaoaiiaaGreatDoor
open Go.RowKit Go.Lib
set_option linter.unusedSimpArgs false
set_option linter.unusedVariables false
end Go.Proofs.YtenhodepaoaiiaaGreatDoor
namespace Go.Proofs.YtenhodepaoaiiaaGreatDoor
open Go.RowKit Go.Lib
set_option linter.unusedSimpArgs false
set_option linter.unusedVariables false
theorem gradeZ_neg (l : List UInt8) : decide (gradeZ l < 0) = (gradeZ l == -1) := by
  unfold gradeZ
  split
  · rfl
  split
  · rfl
  split
  · rfl
  split
  · rfl
  · rfl
theorem resE_eq (c s : ByteArray) (xs : List Int) : resE c s xs = if !decide (Nm c) then 8 else if gradeZ s.toList == -1 then 13 else if !s.toList.isEmpty && decide (0 < xs.length) then 1 else if decide ((8 : Int) < xs.length) then 5 else valsE xs := by
  unfold resE firstE firstE firstE firstE firstE
  cases decide (Nm c) <;> cases gradeZ s.toList == -1 <;> cases (!s.toList.isEmpty && decide (0 < xs.length)) <;> cases decide ((8 : Int) < xs.length) <;> simp [firstE] <;> exact fun h => h.symm
end Go.Proofs.YtenhodepaoaiiaaGreatDoor
namespace Go.Proofs.YtenhodepaoaiiaaGreatDoor
open Go.RowKit Go.Lib
set_option linter.unusedSimpArgs false
set_option linter.unusedVariables false
theorem gradeZ_pos {l : List UInt8} (h : l.isEmpty = false) (h1 : (gradeZ l == -1) = false) : 0 < gradeZ l := by
  unfold gradeZ at *
  split
  · rename_i e; rw [e] at h; cases h
  split
  · decide
  split
  · decide
  split
  · decide
  · rename_i h2 h3 h4 h5
    rw [if_neg h2, if_neg h3, if_neg h4, if_neg h5] at h1
    cases h1
/-- a result without an error -/
theorem resE_zero {c s : ByteArray} {xs : List Int} (h : resE c s xs = 0) : (gradeZ s.toList == -1) = false ∧ (s.toList.isEmpty = false → xs = []) := by
  rw [resE_eq] at h
  split at h
  · cases h
  split at h
  · cases h
  split at h
  · cases h
  rename_i h1 h2
  refine ⟨by simpa using h1, fun he => ?_⟩
  rw [he] at h2
  simp at h2
  exact h2
theorem gradeZ_nil {l : List UInt8} (h : l.isEmpty = true) : gradeZ l = 0 := by
  cases l with
  | nil => rfl
  | cons _ _ => cases h
theorem cmpZ_pos {a b : Int} (h : a ≠ b) : cmpZ a b ≠ 0 := fun e => h (cmpZ_zero e)
end Go.Proofs.YtenhodepaoaiiaaGreatDoor
namespace Go.Proofs.YtenhodepaoaiiaaGreatDoor
open Go.RowKit Go.Lib
set_option linter.unusedSimpArgs false
set_option linter.unusedVariables false
theorem fitB_same (x : RowR) : fitB x.st x.st x.xs x.xs = true := by unfold fitB; simp
/-- what the reference holds: the number of values of the first result with values, once it has been met -/
def zOf (xs : List RowR) (fz : Int) (i : Nat) : Int := if 0 ≤ fz ∧ fz < i then (match xs[fz.toNat]? with | some f => (f.xs.length : Int) | none => -1) else -1
theorem firstP_spec (Q : RowR → Bool) (xs : List RowR) : ∀ (k i : Nat), i + k ≤ xs.length →
    (firstP Q xs k i = -1 ∧ ∀ (j : Nat) (x : RowR), i ≤ j → j < i + k → xs[j]? = some x → Q x = false) ∨
    (∃ f : Nat, firstP Q xs k i = f ∧ i ≤ f ∧ f < i + k ∧ (∃ x, xs[f]? = some x ∧ Q x = true) ∧ ∀ (j : Nat) (x : RowR), i ≤ j → j < f → xs[j]? = some x → Q x = false)
  | 0, i, h => .inl ⟨rfl, fun j x h1 h2 => by omega⟩
  | k + 1, i, h => by
    have hi : i < xs.length := by omega
    have hx := List.getElem?_eq_getElem hi
    generalize xs[i] = x at hx
    simp only [firstP, hx]
    cases hq : Q x
    · rw [if_neg (by simp)]
      rcases firstP_spec Q xs k (i + 1) (by omega) with ⟨e, hh⟩ | ⟨f, e, h1, h2, h3, h4⟩
      · refine .inl ⟨e, fun j y hj1 hj2 hy => ?_⟩
        by_cases hji : j = i
        · subst hji; rw [hx] at hy; cases hy; exact hq
        · exact hh j y (by omega) (by omega) hy
      · refine .inr ⟨f, e, by omega, by omega, h3, fun j y hj1 hj2 hy => ?_⟩
        by_cases hji : j = i
        · subst hji; rw [hx] at hy; cases hy; exact hq
        · exact h4 j y (by omega) hj2 hy
    · rw [if_pos rfl]
      exact .inr ⟨i, rfl, Nat.le_refl _, by omega, ⟨x, hx, hq⟩, fun j y h1 h2 => by omega⟩
/-- the reference's and the program's error of a result behind the first two tests -/
theorem row_third {xs : List RowR} {i : Nat} {x : RowR} (hx : xs[i]? = some x) :
    (hasV x = false → (if (if decide (0 ≤ firstV xs) then !fitFirst xs (firstV xs) x else false) then (2 : Int) else 0) = 0 ∧ zOf xs (firstV xs) (i + 1) = zOf xs (firstV xs) i) ∧
    (hasV x = true → zOf xs (firstV xs) i = -1 → (if (if decide (0 ≤ firstV xs) then !fitFirst xs (firstV xs) x else false) then (2 : Int) else 0) = 0 ∧ zOf xs (firstV xs) (i + 1) = x.xs.length) ∧
    (hasV x = true → zOf xs (firstV xs) i ≠ -1 → (if (if decide (0 ≤ firstV xs) then !fitFirst xs (firstV xs) x else false) then (2 : Int) else 0) = (if (x.xs.length : Int) = zOf xs (firstV xs) i then 0 else 2) ∧ zOf xs (firstV xs) (i + 1) = zOf xs (firstV xs) i ∧ 0 ≤ zOf xs (firstV xs) i) := by
  have hil := (List.getElem?_eq_some_iff.1 hx).1
  rcases firstP_spec hasV xs xs.length 0 (by omega) with ⟨e, hh⟩ | ⟨f, e, h1, h2, ⟨y, hy, hq⟩, h4⟩
  · have e' : firstV xs = -1 := e
    have hv := hh i x (by omega) (by omega) hx
    rw [e']
    refine ⟨fun _ => ⟨by simp, by unfold zOf; simp⟩, fun h => (by rw [hv] at h; cases h), fun h => (by rw [hv] at h; cases h)⟩
  · have e' : firstV xs = f := e
    rw [e']
    have hfit : fitFirst xs (f : Int) x = fitB y.st x.st y.xs x.xs := by unfold fitFirst; rw [Int.toNat_natCast, hy]
    have h0 : decide ((0 : Int) ≤ f) = true := by simp
    have hz : ∀ j : Nat, zOf xs (f : Int) j = if f < j then (y.xs.length : Int) else -1 := fun j => by
      unfold zOf
      rw [Int.toNat_natCast, hy]
      by_cases hj : f < j
      · rw [if_pos ⟨by omega, by omega⟩, if_pos hj]
      · rw [if_neg (by omega), if_neg hj]
    have hys : y.st.toList.isEmpty = true := hq
    rw [h0, hfit, hz, hz]
    refine ⟨fun hv => ?_, fun hv hzz => ?_, fun hv hzz => ?_⟩
    · have hxs : x.st.toList.isEmpty = false := hv
      have hne : f ≠ i := fun e => by subst e; rw [hx] at hy; cases hy; rw [hv] at hq; cases hq
      refine ⟨by unfold fitB; rw [hxs]; simp, ?_⟩
      by_cases hj : f < i
      · rw [if_pos hj, if_pos (by omega)]
      · rw [if_neg hj, if_neg (by omega)]
    · have hxs : x.st.toList.isEmpty = true := hv
      have hnlt : ¬ f < i := fun hj => by rw [if_pos hj] at hzz; omega
      have hfi : f = i := by
        rcases Nat.lt_or_ge i f with h | h
        · have := h4 i x (by omega) h hx
          rw [hv] at this; cases this
        · omega
      subst hfi
      rw [hx] at hy
      cases hy
      refine ⟨by rw [fitB_same]; simp, by rw [if_pos (show f < f + 1 by omega)]⟩
    · have hxs : x.st.toList.isEmpty = true := hv
      by_cases hj : f < i
      · rw [if_pos hj, if_pos (show f < i + 1 by omega)]
        refine ⟨?_, rfl, by omega⟩
        unfold fitB
        rw [hys, hxs]
        by_cases hl : x.xs.length = y.xs.length
        · simp [hl]
        · have hl2 : ¬ y.xs.length = x.xs.length := fun e => hl e.symm
          have hl3 : ¬ (x.xs.length : Int) = y.xs.length := by omega
          have hl4 : ¬ (y.xs.length : Int) = x.xs.length := by omega
          simp [hl, hl2, hl3, hl4]
      · rw [if_neg hj] at hzz
        exact absurd rfl hzz
end Go.Proofs.YtenhodepaoaiiaaGreatDoor
