/- Places: placed. -/
import Derived.Test.YtenhodepaoaiiaaGreatDoorGRkD
import Derived.Test.YtenhodepaoaiiaaGreatDoorGResA
namespace Go.Proofs.YtenhodepaoaiiaaGreatDoor
open Go.RowKit Go.Lib
set_option linter.unusedSimpArgs false
set_option linter.unusedVariables false
structure PlAt (w : World) (b off : Nat) (x : PlR) : Prop where
  nm : w.cell? ⟨b, off, none⟩ = some (.string x.nm)
  rk : w.cell? ⟨b, off + 1, none⟩ = some (.int .i64 x.rk)
theorem PlAt.gr {w w' : World} {b off : Nat} {x : PlR} (h : PlAt w b off x) (k : Gr w w') : PlAt w' b off x := ⟨k.cell h.nm, k.cell h.rk⟩
/-- the slice v reads as the places ps -/
structure PlsV (w : World) (v : Value) (ps : List PlR) : Prop where
  mk' ::
  out : ∃ p cap, v = .slice p ps.length cap ∧ (0 < ps.length → ∃ b, p = some ⟨b, 0, none⟩ ∧ ∀ i x, ps[i]? = some x → PlAt w b (i * 2) x)
theorem plCs_take {xs : List PlR} {k : Nat} {x : PlR} (h : xs[k]? = some x) : plCs (xs.take (k + 1)) = plCs (xs.take k) ++ plC x := by
  rw [List.take_add_one, h]
  simp [plCs]
theorem cell_two_new (w : World) (a b : Value) (T : TypeId) : ∀ (j : Nat) (u : Value), [a, b][j]? = some u → (w.alloc (.cells #[a, b] T)).cell? ((⟨w.heap.size, 0, none⟩ : Addr).add j) = some u := by
  intro j u h
  have e : (⟨w.heap.size, 0, none⟩ : Addr).add j = ⟨w.heap.size, j, none⟩ := by unfold Addr.add; split <;> simp_all
  rw [e]
  rcases j with _ | _ | j
  · simp at h; subst h; exact cell_new w #[a, b] T 0 (by simp)
  · simp at h; subst h; exact cell_new w #[a, b] T 1 (by simp)
  · simp at h
def pls (ns : List ByteArray) (rs : List Int) : List PlR := List.zipWith PlR.mk ns rs
theorem pls_at {ns : List ByteArray} {rs : List Int} {i : Nat} {x : PlR} (h : (pls ns rs)[i]? = some x) : ns[i]? = some x.nm ∧ rs[i]? = some x.rk := by
  unfold pls at h
  rw [List.getElem?_zipWith] at h
  cases h1 : ns[i]? <;> cases h2 : rs[i]? <;> simp_all
  subst h
  exact ⟨rfl, rfl⟩
open Go.Sort Go.Shelf in
theorem holdsK_of_owns {w : World} {base : Nat} {v : Value} {ps : List PlR} {T : TypeId} (h : w.ownsRow base T 2 v ps.length (plCs ps)) (h0 : 0 < ps.length) :
    ∃ g cap, v = .slice (some ⟨g, 0, none⟩) ps.length cap ∧ base ≤ g ∧ g < w.heap.size ∧ HoldsK plC 2 w g 0 ps.toArray := by
  have hh := h
  rcases h.2 with ⟨rfl, h0'⟩ | ⟨g, cap, cur, rfl, hb, hcur, hle, hmx, _, _⟩
  · omega
  · have hlt := (Array.getElem?_eq_some_iff.1 hcur).1
    refine ⟨g, cap, rfl, hb, hlt, fun t ht => ⟨?_, by simp [World.frozen?, hcur]⟩⟩
    rw [size_flatK] at ht
    have ht' : t < (plCs ps).length := by rw [plCs_len]; simpa using ht
    rw [flat_pl _ t ht]
    have e : (⟨g, 0, none⟩ : Addr).add t = ⟨g, t, none⟩ := by unfold Addr.add; split <;> simp_all
    have c := hh.cells (g := g) rfl t _ (List.getElem?_eq_getElem ht')
    rw [e] at c
    rw [Nat.zero_add, c]
    simp [List.getElem?_eq_getElem ht']
open Go.Sort Go.Shelf in
/-- places as the stable sort leaves them -/
def srtP (ps : List PlR) : List PlR := (Sort.insertionSort (ltOf cmpP) ps.toArray 0 ps.length).toList
open Go.Sort Go.Shelf in
theorem srtP_spec (ps : List PlR) : (srtP ps).Perm ps ∧ (srtP ps).length = ps.length ∧ ∀ (i j : Nat) (x y : PlR), i < j → (srtP ps)[i]? = some x → (srtP ps)[j]? = some y → x.rk ≤ y.rk := by
  obtain ⟨hp, hso⟩ := insertionSort_holds swo_pl ps.toArray 0 ps.length (Nat.zero_le _) (by simp)
  have hsz : (Sort.insertionSort (ltOf cmpP) ps.toArray 0 ps.length).size = ps.length := by rw [hp.1]; simp
  refine ⟨?_, by unfold srtP; rw [Array.length_toList, hsz], ?_⟩
  · have h3 := hp.2.2
    rw [show (Sort.insertionSort (ltOf cmpP) ps.toArray 0 ps.length).extract 0 ps.length = Sort.insertionSort (ltOf cmpP) ps.toArray 0 ps.length by
      have := hsz; generalize Sort.insertionSort (ltOf cmpP) ps.toArray 0 ps.length = q at *; rw [← this]; simp, show ps.toArray.extract 0 ps.length = ps.toArray by simp] at h3
    simpa [srtP] using h3
  · intro i j x y hij hi hj
    unfold srtP at hi hj
    rw [Array.getElem?_toList] at hi hj
    obtain ⟨hi2, ex⟩ := Array.getElem?_eq_some_iff.1 hi
    obtain ⟨hj2, ey⟩ := Array.getElem?_eq_some_iff.1 hj
    have := hso i j (Nat.zero_le _) hij (by omega)
    rw [getElem!_pos _ i hi2, getElem!_pos _ j hj2, ex, ey, lt_pl, decide_eq_false_iff_not] at this
    omega
theorem gdOfGr {w w' : World} (h : Gd w w') : Gr w w' := h.gr
end Go.Proofs.YtenhodepaoaiiaaGreatDoor
namespace Go.Proofs.YtenhodepaoaiiaaGreatDoor
open Go.RowKit Go.Lib
set_option linter.unusedSimpArgs false
set_option linter.unusedVariables false
theorem pls_len (ns : List ByteArray) (rs : List Int) (n : Nat) (h1 : ns.length = n) (h2 : rs.length = n) : (pls ns rs).length = n := by
  unfold pls; rw [List.length_zipWith, h1, h2]; omega
theorem pls_get {ns : List ByteArray} {rs : List Int} {i : Nat} {s : ByteArray} {r : Int} (h1 : ns[i]? = some s) (h2 : rs[i]? = some r) : (pls ns rs)[i]? = some ⟨s, r⟩ := by
  unfold pls; rw [List.getElem?_zipWith, h1, h2]
end Go.Proofs.YtenhodepaoaiiaaGreatDoor
namespace Go.Proofs.YtenhodepaoaiiaaGreatDoor
open Go.RowKit Go.Lib
set_option linter.unusedSimpArgs false
set_option linter.unusedVariables false
set_option maxHeartbeats 1000000
set_option maxRecDepth 100000
theorem insI_0 (p : Option Addr) (cap : Nat) (f : Value) (w : World) :
    Calls Tryz.prog 151 #[.slice p 0 cap, .int .i64 0, .int .i64 0, f] w fun e w' => e = .returned (.tuple #[]) ∧ w' = w := by
  go_enter Tryz.func151, Tryz.ntmps151
  go_wp2_with fail
  refine wp_loop_rounds 2 ?_
  rw [rounds_succ]
  go_wp2_with fail
  go_end0
  exact ⟨rfl, rfl⟩
theorem len64_0 (w : World) : Calls Tryz.prog 114 #[.int .u64 0] w fun e w' => e = .returned (.int .i64 0) ∧ w' = w := by
  have h0 : wrap64 (wrap64 (len8 0)) = 0 := by kernel_rfl
  go_enter Tryz.func114, Tryz.ntmps114
  go_wp2_with fail
  go_ret
  refine ⟨?_, rfl⟩
  show Ending.returned (.int .i64 (wrap64 (wrap64 (len8 0)))) = _
  rw [h0]
theorem len_0 (w : World) : Calls Tryz.prog 67 #[.int .u64 0] w fun e w' => e = .returned (.int .i64 0) ∧ w' = w := by
  have H := Lib.hid (fun W => len64_0 W)
  go_enter Tryz.func67, Tryz.ntmps67
  go_wp2_with (refine (H.out _).mono ?_; rintro e w4 ⟨rfl, rfl⟩)
  go_ret
  exact ⟨rfl, rfl⟩
theorem make_int0 (w : World) : (Instr.makeSlice 40 (.int .i64 0) (.int .i64 0)).run Tryz.prog w = .ok (.slice (some ⟨w.heap.size, 0, none⟩) 0 0) (w.alloc (.cells #[] 3)) := by
  simpa using make_ints 0 (by omega) w
end Go.Proofs.YtenhodepaoaiiaaGreatDoor
namespace Go.Proofs.YtenhodepaoaiiaaGreatDoor
open Go.RowKit Go.Lib
set_option linter.unusedSimpArgs false
set_option linter.unusedVariables false
theorem infoRes : (Tryz.prog.info? 42).map (fun i => (i.zero, i.size, i.bytes)) = some (some (.agg #[.string ⟨#[]⟩, .string ⟨#[]⟩, .slice none 0 0]), 3, 56) := by kernel_rfl
def rowC (r : RowR) : List Value := [.string r.nm, .string r.st, r.u]
def rowCs (rs : List RowR) : List Value := rs.flatMap rowC
theorem rowCs_len (rs : List RowR) : (rowCs rs).length = rs.length * 3 := by
  induction rs with
  | nil => rfl
  | cons x xs ih => simp only [rowCs, List.flatMap_cons, List.length_append, List.length_cons] at *; rw [ih]; simp [rowC]; omega
theorem rowCs_add (rs : List RowR) (r : RowR) : rowCs (rs ++ [r]) = rowCs rs ++ rowC r := by simp [rowCs]
theorem rowCs_at {rs : List RowR} {i : Nat} {x : RowR} (h : rs[i]? = some x) (j : Nat) (hj : j < 3) : (rowCs rs)[i * 3 + j]? = (rowC x)[j]? := by
  induction rs generalizing i with
  | nil => simp at h
  | cons y ys ih =>
    have e : rowCs (y :: ys) = rowC y ++ rowCs ys := rfl
    rw [e]
    cases i with
    | zero =>
      simp only [List.getElem?_cons_zero, Option.some.injEq] at h
      subst h
      rw [show 0 * 3 + j = j by omega, List.getElem?_append_left (by simp [rowC]; omega)]
    | succ i =>
      rw [List.getElem?_append_right (by simp [rowC]; omega)]
      have := ih (i := i) (by simpa using h)
      rw [← this]
      congr 1
      simp [rowC]; omega
theorem own_apart {w : World} {b1 b2 s1 s2 n1 n2 : Nat} {T1 T2 : TypeId} {v1 v2 : Value} {l1 l2 : List Value} (h1 : w.ownsRow b1 T1 s1 v1 n1 l1) (h2 : w.ownsRow b2 T2 s2 v2 n2 l2) (hne : T1 ≠ T2) : v1.ownBlock = none ∨ v1.ownBlock ≠ v2.ownBlock := by
  rcases h1.2 with ⟨rfl, _⟩ | ⟨g, cap, cur, rfl, _, hg, _⟩
  · exact .inl rfl
  · refine .inr fun e => ?_
    rcases h2.2 with ⟨rfl, _⟩ | ⟨g2, cap2, cur2, rfl, _, hg2, _⟩
    · cases e
    · simp only [Value.ownBlock, Option.some.injEq] at e
      subst e
      rw [hg] at hg2
      cases hg2
      exact hne rfl
theorem cell_apart {w : World} {b2 s2 n2 g : Nat} {T1 T2 : TypeId} {v2 : Value} {l2 : List Value} {cs : Array Value} (h1 : w.heap[g]? = some (.cells cs T1 (0, 0))) (h2 : w.ownsRow b2 T2 s2 v2 n2 l2) (hne : T1 ≠ T2) : some g ≠ v2.ownBlock := fun e => by
  rcases h2.2 with ⟨rfl, _⟩ | ⟨g2, cap2, cur2, rfl, _, hg2, _⟩
  · cases e
  · simp only [Value.ownBlock, Option.some.injEq] at e
    subst e
    rw [h1] at hg2
    cases hg2
    exact hne rfl
theorem own_gr {w w' : World} {base n s : Nat} {e : TypeId} {v : Value} {xs : List Value} (h : w.ownsRow base e s v n xs) (k : Gr w w') : w'.ownsRow base e s v n xs := by
  refine ⟨h.1, ?_⟩
  rcases h.2 with h2 | ⟨g, cap, cur, rfl, hb, hcur, r⟩
  · exact .inl h2
  · exact .inr ⟨g, cap, cur, rfl, hb, k.block hcur, r⟩
theorem below_gr {B : Nat} {a b c : World} (h : Below B a b) (k : Gr b c) (hB : B ≤ a.heap.size) : Below B a c := Below.trans h (Below.mono k (Nat.le_trans hB h.size))
theorem cell_three_new (w : World) (a b c : Value) (T : TypeId) : ∀ (j : Nat) (u : Value), [a, b, c][j]? = some u → (w.alloc (.cells #[a, b, c] T)).cell? ((⟨w.heap.size, 0, none⟩ : Addr).add j) = some u := by
  intro j u h
  have e : (⟨w.heap.size, 0, none⟩ : Addr).add j = ⟨w.heap.size, j, none⟩ := by unfold Addr.add; split <;> simp_all
  rw [e]
  rcases j with _ | _ | _ | j
  · simp at h; subst h; exact cell_new w #[a, b, c] T 0 (by simp)
  · simp at h; subst h; exact cell_new w #[a, b, c] T 1 (by simp)
  · simp at h; subst h; exact cell_new w #[a, b, c] T 2 (by simp)
  · simp at h
theorem cell_three_sz (w : World) (s : Nat) (hs : w.heap.size = s) (a b c : Value) (T : TypeId) : ∀ (j : Nat) (u : Value), [a, b, c][j]? = some u → (w.alloc (.cells #[a, b, c] T)).cell? ((⟨s, 0, none⟩ : Addr).add j) = some u := by
  subst hs; exact cell_three_new w a b c T
theorem rowCs_take {xs : List RowR} {k : Nat} {x : RowR} (h : xs[k]? = some x) : rowCs (xs.take (k + 1)) = rowCs (xs.take k) ++ rowC x := by
  rw [List.take_add_one, h]
  simp [rowCs]
/-- rows that have been made, as they read -/
theorem rows_of_owns {w : World} {base : Nat} {v : Value} {ys : List RowR} {T : TypeId} (h : w.ownsRow base T 3 v ys.length (rowCs ys)) (h0 : 0 < ys.length) (hv : ∀ (i : Nat) (x : RowR), ys[i]? = some x → IntsV w x.u x.xs ∧ x.xs.length ≤ 1000) :
    ∃ g cap, v = .slice (some ⟨g, 0, none⟩) ys.length cap ∧ base ≤ g ∧ ys.length ≤ cap ∧ cap ≤ maxLen ∧ ∀ i x, ys[i]? = some x → RowAt w g (0 + i * 3) x := by
  have hh := h
  rcases h.2 with ⟨rfl, h0'⟩ | ⟨g, cap, cur, rfl, hb, hcur, hle, hmx, h5, h6⟩
  · omega
  · refine ⟨g, cap, rfl, hb, by omega, by omega, fun i x hx => ?_⟩
    have e : ∀ t, (⟨g, 0, none⟩ : Addr).add t = ⟨g, t, none⟩ := fun t => by unfold Addr.add; split <;> simp_all
    have c : ∀ (j : Nat) (u : Value), j < 3 → (rowC x)[j]? = some u → w.cell? ⟨g, i * 3 + j, none⟩ = some u := fun j u hj hu => by
      have := hh.cells (g := g) rfl (i * 3 + j) u (by rw [rowCs_at hx j hj]; exact hu)
      rwa [e] at this
    rw [Nat.zero_add]
    exact ⟨c 0 _ (by omega) rfl, c 1 _ (by omega) rfl, c 2 _ (by omega) rfl, (hv i x hx).1, (hv i x hx).2⟩
end Go.Proofs.YtenhodepaoaiiaaGreatDoor
namespace Go.Proofs.YtenhodepaoaiiaaGreatDoor
open Go.RowKit Go.Lib
set_option linter.unusedSimpArgs false
set_option linter.unusedVariables false
end Go.Proofs.YtenhodepaoaiiaaGreatDoor
namespace Go.Proofs.YtenhodepaoaiiaaGreatDoor
open Go.RowKit Go.Lib
set_option linter.unusedSimpArgs false
set_option linter.unusedVariables false
/-- the results with values -/
def fine (xs : List RowR) : List RowR := xs.filter hasV
theorem fine_take {xs : List RowR} {k : Nat} {x : RowR} (h : xs[k]? = some x) : fine (xs.take (k + 1)) = fine (xs.take k) ++ (if hasV x then [x] else []) := by
  rw [List.take_add_one, h]
  unfold fine
  rw [List.filter_append]
  cases e : hasV x <;> simp [e]
/-- the names of those at a rank of at most m -/
def goOn (m : Int) (ps : List PlR) : List ByteArray := (ps.filter fun p => decide (p.rk ≤ m)).map fun p => p.nm
theorem goOn_take {m : Int} {ps : List PlR} {k : Nat} {x : PlR} (h : ps[k]? = some x) : goOn m (ps.take (k + 1)) = goOn m (ps.take k) ++ (if decide (x.rk ≤ m) then [x.nm] else []) := by
  rw [List.take_add_one, h]
  unfold goOn
  rw [List.filter_append, List.map_append]
  by_cases e : x.rk ≤ m <;> simp [e]
def strsV (ns : List ByteArray) : List Value := ns.map fun s => .string s
/-- the slice v reads as the names ns -/
structure StrsV (w : World) (v : Value) (ns : List ByteArray) : Prop where
  mk' ::
  out : ∃ p cap, v = .slice p ns.length cap ∧ (ns.length ≤ cap ∧ cap ≤ maxLen) ∧ ((ns = [] ∧ p = none ∧ cap = 0) ∨ ∃ b, p = some ⟨b, 0, none⟩ ∧ ∀ i s, ns[i]? = some s → w.cell? ⟨b, i, none⟩ = some (.string s))
theorem StrsV.gr {w w' : World} {v : Value} {ns : List ByteArray} (h : StrsV w v ns) (k : Gr w w') : StrsV w' v ns := by
  obtain ⟨⟨p, cap, rfl, hc, hh⟩⟩ := h
  refine ⟨p, cap, rfl, hc, ?_⟩
  rcases hh with h | ⟨b, h1, h2⟩
  · exact .inl h
  · exact .inr ⟨b, h1, fun i s hs => k.cell (h2 i s hs)⟩
theorem strs_of_owns {w : World} {base : Nat} {v : Value} {ns : List ByteArray} {T : TypeId} {n : Nat} (h : w.ownsRow base T 1 v n (strsV ns)) (hn : ns.length = n) : StrsV w v ns := by
  have hh := h
  subst hn
  rcases h.2 with ⟨rfl, h0'⟩ | ⟨g, cap, cur, rfl, hb, hcur, hle, hmx, h5, h6⟩
  · have : ns.length = 0 := by simpa using h0'
    rw [List.length_eq_zero_iff] at this
    subst this
    exact ⟨none, 0, rfl, ⟨Nat.le_refl _, by unfold maxLen; omega⟩, .inl ⟨rfl, rfl, rfl⟩⟩
  · refine ⟨_, cap, rfl, ⟨by omega, by omega⟩, .inr ⟨g, rfl, fun i s hs => ?_⟩⟩
    have e : ∀ t, (⟨g, 0, none⟩ : Addr).add t = ⟨g, t, none⟩ := fun t => by unfold Addr.add; split <;> simp_all
    have := hh.cells (g := g) rfl i (.string s) (by simp [strsV, hs])
    rwa [e] at this
/-- who goes on -/
def thru (xs : List RowR) (m : Int) : List ByteArray := goOn m (srtP (pls ((fine xs).map fun x => x.nm) (ranksL (fine xs))))
theorem ranksL_len (xs : List RowR) : (ranksL xs).length = xs.length := by unfold ranksL; simp
/-- placed, whatever the names and ranks: what the loop behind it asks -/
theorem fine_le (xs : List RowR) : (fine xs).length ≤ xs.length := List.length_filter_le _ _
end Go.Proofs.YtenhodepaoaiiaaGreatDoor
