/- Starters: the order by seeds. -/
import Derived.Test.YtlcbdgmclhdofaaGreatDoorGSzI
import Derived.Test.YtlcbdgmclhdofaaGreatDoorDrB
import Derived.Test.YtlcbdgmclhdofaaGreatDoorGLsE
namespace Go.Proofs.YtlcbdgmclhdofaaGreatDoor
open Go.RowKit Go.Lib
set_option linter.unusedSimpArgs false
set_option linter.unusedVariables false
theorem swapN_perm {l : Array Nat} {i j : Nat} (hi : i < l.size) (hj : j < l.size) : (swapN l i j).toList.Perm l.toList := by
  have h := Array.swap_perm hi hj
  have e : swapN l i j = l.swap i j := by
    unfold swapN
    rw [Array.swap_def, show l.getD j 0 = l[j] by simp [Array.getD, hj], show l.getD i 0 = l[i] by simp [Array.getD, hi]]
    simp only [Array.setIfInBounds, hi, dif_pos, Array.size_set, hj]
  rw [e]
  exact Array.perm_iff_toList_perm.1 h
theorem drawA_perm (n : Nat) : ∀ (k i x : Nat) (l : Array Nat), l.size = n → (0 < k → i + k < n) → (drawA n k i x l).toList.Perm l.toList
  | 0, _, _, _, _, _ => List.Perm.refl _
  | k + 1, i, x, l, hs, hk => by
    have hlt := hk (by omega)
    have hr := Nat.mod_lt (lcgN x) (show 0 < n - i by omega)
    have h1 := drawA_perm n k (i + 1) (lcgN x) (swapN l i (i + lcgN x % (n - i))) (by rw [swapN_size]; exact hs) (by omega)
    exact h1.trans (swapN_perm (by omega) (by omega))
theorem drawN_perm (key n : Nat) : (drawN key n).toList.Perm (List.range n) := by
  have := drawA_perm n (n - 1) 0 key (Array.range n) (by simp) (by omega)
  simpa [drawN] using this
/-- the order by seeds -/
structure OrdL (xs : List EntR) (key : Nat) (r : List Nat) : Prop where
  len : r.length = xs.length
  asc : Asc (ltK (keyN xs)) r
  flt : ∀ k, r.filter (fun x => keyN xs x == k) = (drawN key xs.length).toList.filter (fun x => keyN xs x == k)
theorem OrdL.lt {xs : List EntR} {key : Nat} {r : List Nat} (h : OrdL xs key r) : ∀ a ∈ r, a < xs.length := fun a ha => by
  have : a ∈ r.filter (fun x => keyN xs x == keyN xs a) := List.mem_filter.2 ⟨ha, by simp⟩
  rw [h.flt] at this
  have hp := drawN_perm key xs.length
  exact List.mem_range.1 (hp.mem_iff.1 (List.mem_filter.1 this).1)
theorem OrdL.unique {xs : List EntR} {key : Nat} {r r' : List Nat} (h : OrdL xs key r) (h' : OrdL xs key r') : r = r' :=
  asc_unique (keyN xs) r r' h.asc h'.asc fun k => (h.flt k).trans (h'.flt k).symm
/-- a row of places in a block -/
structure OrdAt (w : World) (g : Nat) (r : List Nat) : Prop where
  at_ : ∀ i a, r[i]? = some a → w.cell? ⟨g, i, none⟩ = some (.int .i64 ((a : Nat) : Int))
theorem OrdAt.gr {w w' : World} {g : Nat} {r : List Nat} (h : OrdAt w g r) (k : Gr w w') : OrdAt w' g r := ⟨fun i a e => k.cell (h.at_ i a e)⟩
def finL (Mx : Nat) (l : List Nat) : List (Fin (Mx + 1)) := l.map (Fin.ofNat (Mx + 1))
theorem finL_val {Mx : Nat} : ∀ {l : List Nat}, (∀ a ∈ l, a < Mx + 1) → (finL Mx l).map Fin.val = l
  | [], _ => rfl
  | a :: l, h => by
    have h1 := h a (by simp)
    have ih := finL_val (Mx := Mx) (l := l) fun b hb => h b (by simp [hb])
    unfold finL at ih ⊢
    simp only [List.map_cons, ih, Fin.ofNat, Nat.mod_eq_of_lt h1]
open Go.Sort Go.Shelf in
theorem holds_of_row {Mx : Nat} {w : World} {g : Nat} {d : Array Nat} (h : RowA w g d) (hd : ∀ a ∈ d.toList, a < Mx + 1) : Holds encN w g 0 (finL Mx d.toList).toArray := by
  intro t ht
  have ht' : t < d.size := by simpa [finL] using ht
  refine ⟨?_, by rw [Nat.zero_add]; exact h.frozen t⟩
  rw [Nat.zero_add, h.cell ht', getElem!_pos _ t ht]
  have hm : d[t] < Mx + 1 := hd _ (by simp)
  simp [finL, encN, Fin.ofNat, Nat.mod_eq_of_lt hm, Array.getD, ht']
theorem ord_of_fin {Mx : Nat} {xs : List EntR} {key : Nat} {r : List (Fin (Mx + 1))} (hx : xs.length = Mx + 1) (hd : ∀ a ∈ (drawN key xs.length).toList, a < Mx + 1) (hs : (drawN key xs.length).size = xs.length) (hf : Flt (keyF xs) (finL Mx (drawN key xs.length).toList) r) (ha : Asc (ltK (keyF xs)) r) : OrdL xs key (r.map Fin.val) := by
  refine ⟨?_, ?_, fun k => ?_⟩
  · rw [List.length_map, hf.len]
    unfold finL
    rw [List.length_map, Array.length_toList, hs]
  · unfold Asc at ha ⊢
    rw [List.pairwise_map]
    exact ha
  · have h1 := congrArg (List.map Fin.val) (hf.flt k)
    have e : ∀ l : List (Fin (Mx + 1)), (l.filter fun x => keyF xs x == k).map Fin.val = (l.map Fin.val).filter fun x => keyN xs x == k := fun l => by
      rw [List.filter_map]
      rfl
    rw [e, e, finL_val hd] at h1
    exact h1
set_option maxHeartbeats 1000000 in
set_option maxRecDepth 100000 in
theorem seeded_pos (I : InsNOK) (xs : List EntR) (key n b off cap : Nat) (w : World) (hn : xs.length = n) (h0 : 0 < n) (h1 : n ≤ 160) (k1 : 1 ≤ key) (k2 : key < 2147483647) (hbw : b < w.heap.size) (hc : ∀ i x, xs[i]? = some x → EntAt w b (off + i * 3) x) :
    Calls Tryz.prog 53 #[.slice (some ⟨b, off, none⟩) n cap, .int .i64 (key : Int)] w fun e w' => ∃ g r, e = .returned (.tuple #[.slice (some ⟨g, 0, none⟩) n n, .int .i64 0]) ∧ OrdL xs key r ∧ OrdAt w' g r ∧ w.heap.size ≤ g ∧ Gr w w' := by
  obtain ⟨Mx, rfl⟩ : ∃ Mx, n = Mx + 1 := ⟨n - 1, by omega⟩
  obtain ⟨W, hW, g, l0⟩ := box1 w (.slice (some ⟨b, off, none⟩) (Mx + 1) cap) 22
  have hWs : W.heap.size = w.heap.size + 1 := by rw [← hW]; simp
  have HD := Lib.hid (draw_good key (Mx + 1) W k1 k2 (by omega))
  have hdl : ∀ a ∈ (drawN key xs.length).toList, a < Mx + 1 := fun a ha => by
    have := List.mem_range.1 ((drawN_perm key xs.length).mem_iff.1 ha)
    omega
  have HS : Hid (∀ W1, RowA W1 W.heap.size (drawN key (Mx + 1)) → (drawN key (Mx + 1)).size = Mx + 1 → Gr W W1 → Calls Tryz.prog 92 #[.slice (some ⟨W.heap.size, 0, none⟩) (Mx + 1) (Mx + 1), .func (.func 93) #[] #[.pointer (some ⟨w.heap.size, 0, none⟩)]] W1 fun e w' => e = .returned (.tuple #[]) ∧ ∃ r, OrdL xs key r ∧ OrdAt w' W.heap.size r ∧ Gr w w') := by
    intro W1 hrow hsz hg
    rw [← hn] at hrow hsz
    have hg2 : W.heap.size < W1.heap.size := by
      have := hrow
      exact (Array.getElem?_eq_some_iff.1 this).1
    refine (sortEnt_c I xs (finL Mx (drawN key xs.length).toList) hn (by omega) (by unfold finL; rw [List.length_map, Array.length_toList, hsz, hn]) b off cap W.heap.size (Mx + 1) w.heap.size W1 hg2 (holds_of_row hrow hdl) (fun i x hx => ((hc i x hx).gr g).gr hg) (by omega) (hg.cell l0) (by omega)).mono ?_
    rintro e w' ⟨rfl, hgb, r, hf, ha, hcell⟩
    refine ⟨rfl, r.map Fin.val, ord_of_fin hn hdl hsz hf ha, ⟨fun i a e => ?_⟩, ?_⟩
    · rw [List.getElem?_map] at e
      cases hr : r[i]? with
      | none => rw [hr] at e; simp at e
      | some q =>
        rw [hr] at e
        simp only [Option.map_some, Option.some.injEq] at e
        subst e
        exact hcell i q hr
    · exact Below.grown (g.trans hg) hgb (g.trans hg).size (fun k hk => by cases hk; omega)
  have HW := Lib.hid hW
  have HL := Lib.hid (show w.heap.size ≤ W.heap.size by omega)
  clear hW hWs g l0 hdl hc hn I hbw
  go_enter Tryz.func53, Tryz.ntmps53
  go_wp2_with fail
  rw [HW.out]
  refine HD.out.mono ?_
  rintro e W1 ⟨rfl, hrow, hsz, hg⟩
  have HS2 := Lib.hid (HS.out W1 hrow hsz hg)
  clear hrow hsz hg HS HD
  go_wp2_with fail
  refine HS2.out.mono ?_
  rintro e w' ⟨rfl, r, ho, hat, hg⟩
  go_wp2_with fail
  exact bodyPost_ret (v := .tuple #[.slice (some ⟨W.heap.size, 0, none⟩) (Mx + 1) (Mx + 1), .int .i64 0]) (by simp [results, Tryz.results53, go_sem]) rfl ⟨_, r, rfl, ho, hat, HL.out, hg⟩
end Go.Proofs.YtlcbdgmclhdofaaGreatDoor
namespace Go.Proofs.YtlcbdgmclhdofaaGreatDoor
open Go.RowKit Go.Lib
set_option linter.unusedSimpArgs false
set_option linter.unusedVariables false
/-- the reference's comparison of seeds -/
def bef (a b : Int) : Bool := decide (0 < a) && (b == 0 || decide (a < b))
theorem bef_rank {x y : EntR} (h1 : 0 ≤ x.sd) (h2 : x.sd ≤ 999999999) (h3 : 0 ≤ y.sd) (h4 : y.sd ≤ 999999999) : bef x.sd y.sd = decide (rankE x < rankE y) := by
  unfold bef rankE
  generalize x.sd = a at *
  generalize y.sd = b at *
  by_cases ha : a = 0 <;> by_cases hb : b = 0
  · subst ha; subst hb; simp
  · subst ha; simp [hb]; omega
  · subst hb; simp [ha]; omega
  · have q1 : 0 < a := by omega
    simp [ha, hb, q1]
set_option maxHeartbeats 1000000 in
set_option maxRecDepth 100000 in
theorem before6_c (a b : Int) (w : World) :
    Calls Tryz.prog 55 #[.int .i64 a, .int .i64 b] w fun e w' => e = .returned (.bool (bef a b)) ∧ w = w' := by
  have HE : Hid (bef a b = (decide (0 < a) && (b == 0 || decide (a < b)))) := rfl
  cases h1 : decide (0 < a) <;> cases h2 : (b == 0) <;> cases h3 : decide (a < b)
  all_goals
    rw [h1, h2, h3] at HE
    go_enter Tryz.func55, Tryz.ntmps55
    go_wp2_with fail
    go_ret
    exact ⟨by rw [HE.out]; rfl, rfl⟩
end Go.Proofs.YtlcbdgmclhdofaaGreatDoor
namespace Go.Proofs.YtlcbdgmclhdofaaGreatDoor
open Go.RowKit Go.Lib
set_option linter.unusedSimpArgs false
set_option linter.unusedVariables false
theorem asc_atN {key : Nat → Int} {l : List Nat} (h : Asc (ltK key) l) {i j : Nat} {x y : Nat} (hij : i ≤ j) (hi : l[i]? = some x) (hj : l[j]? = some y) : key x ≤ key y := by
  rcases Nat.lt_or_ge i j with hlt | hge
  · obtain ⟨h1, rfl⟩ := List.getElem?_eq_some_iff.1 hi
    obtain ⟨h2, rfl⟩ := List.getElem?_eq_some_iff.1 hj
    have := (List.pairwise_iff_getElem.1 h) i j h1 h2 hlt
    have := of_decide_eq_false this
    omega
  · obtain rfl : i = j := by omega
    rw [hi] at hj
    cases hj
    exact Int.le_refl _
theorem ins_ascN {key : Nat → Int} {out : List Nat} (h : Asc (ltK key) out) (s : Nat) (at_ : Nat) (h1 : ∀ j t, j < at_ → out[j]? = some t → key t ≤ key s) (h2 : ∀ j t, at_ ≤ j → out[j]? = some t → key s < key t) :
    Asc (ltK key) (out.take at_ ++ s :: out.drop at_) ∧ ∀ k, (out.take at_ ++ s :: out.drop at_).filter (fun x => key x == k) = out.filter (fun x => key x == k) ++ [s].filter (fun x => key x == k) := by
  have e : out.take at_ ++ s :: out.drop at_ = mrg (ltK key) out [s] := by
    conv => rhs; rw [← List.take_append_drop at_ out]
    refine (mrg_one_right _ s _ _ (fun x hx => ?_) (fun x hx => ?_)).symm
    · obtain ⟨j, hj, rfl⟩ := List.mem_iff_getElem.1 hx
      rw [List.length_take] at hj
      have := h1 j out[j] (by omega) (List.getElem?_eq_getElem (by omega))
      rw [List.getElem_take]
      exact decide_eq_false (by omega)
    · obtain ⟨j, hj, rfl⟩ := List.mem_iff_getElem.1 hx
      rw [List.length_drop] at hj
      have := h2 (at_ + j) out[at_ + j] (by omega) (List.getElem?_eq_getElem (by omega))
      rw [List.getElem_drop]
      exact decide_eq_true this
  rw [e]
  exact ⟨mrg_asc key _ _ _ rfl h (List.pairwise_singleton _ _), fun k => mrg_filter key k _ _ _ rfl h⟩
structure RefN (key : Nat → Int) (out src : List Nat) : Prop where
  asc : Asc (ltK key) out
  flt : ∀ k, out.filter (fun x => key x == k) = src.filter (fun x => key x == k)
theorem refN_put {key : Nat → Int} {out src : List Nat} (h : RefN key out src) (s : Nat) (at_ : Nat) (h1 : ∀ j t, j < at_ → out[j]? = some t → key t ≤ key s) (h2 : ∀ j t, at_ ≤ j → out[j]? = some t → key s < key t) : RefN key (out.take at_ ++ s :: out.drop at_) (src ++ [s]) := by
  obtain ⟨a, f⟩ := ins_ascN h.asc s at_ h1 h2
  exact ⟨a, fun k => by rw [f k, h.flt k, List.filter_append]⟩
theorem ascN_low {key : Nat → Int} {out : List Nat} (h : Asc (ltK key) out) {m : Nat} {t : Nat} (hm : out[m]? = some t) {y : Int} (hy : key t ≤ y) : ∀ j u, j < m + 1 → out[j]? = some u → key u ≤ y := fun j u hj hu => by
  have := asc_atN h (i := j) (j := m) (by omega) hu hm
  omega
theorem ord_of_ref {xs : List EntR} {kn : Nat} {r : List Nat} (hl : r.length = xs.length) (h : RefN (keyN xs) r (drawN kn xs.length).toList) : OrdL xs kn r := ⟨hl, h.asc, h.flt⟩
theorem refN_nil (key : Nat → Int) : RefN key [] [] := ⟨by simp [Asc], fun _ => rfl⟩
end Go.Proofs.YtlcbdgmclhdofaaGreatDoor
