/- Starters: the order by seeds. -/
import Derived.Test.YtcnpmebihdonoaaGreatDoorGSzG
import Derived.Test.YtcnpmebihdonoaaGreatDoorDrB
import Derived.Test.YtcnpmebihdonoaaGreatDoorGCmp
import Derived.Maps.AppendAt
import Derived.Test.YtcnpmebihdonoaaGreatDoorGOpN
namespace Go.Proofs.YtcnpmebihdonoaaGreatDoor
open Go.RowKit Go.Lib
set_option linter.unusedSimpArgs false
set_option linter.unusedVariables false
theorem swapN_perm {l : Array Nat} {i j : Nat} (hi : i < l.size) (hj : j < l.size) : (swapN l i j).toList.Perm l.toList := by
  have h := Array.swap_perm hi hj
  have e : swapN l i j = l.swap i j := by
    unfold swapN
    rw [Array.swap_def, show l.getD j 0 = l[j] by simp [Array.getD, hj], show l.getD i 0 = l[i] by simp [Array.getD, hi]]
    simp only [Array.setIfInBounds, hi, dif_pos, Array.size_set, hj]
  rw [e]
  exact Array.perm_iff_toList_perm.1 h
theorem drawA_perm (n : Nat) : ∀ (k i x : Nat) (l : Array Nat), l.size = n → (0 < k → i + k < n) → (drawA n k i x l).toList.Perm l.toList
  | 0, _, _, _, _, _ => List.Perm.refl _
  | k + 1, i, x, l, hs, hk => by
    have hlt := hk (by omega)
    have hr := Nat.mod_lt (lcgN x) (show 0 < n - i by omega)
    have h1 := drawA_perm n k (i + 1) (lcgN x) (swapN l i (i + lcgN x % (n - i))) (by rw [swapN_size]; exact hs) (by omega)
    exact h1.trans (swapN_perm (by omega) (by omega))
theorem drawN_perm (key n : Nat) : (drawN key n).toList.Perm (List.range n) := by
  have := drawA_perm n (n - 1) 0 key (Array.range n) (by simp) (by omega)
  simpa [drawN] using this
/-- the order by seeds -/
structure OrdL (xs : List EntR) (key : Nat) (r : List Nat) : Prop where
  len : r.length = xs.length
  asc : Asc (ltK (keyN xs)) r
  flt : ∀ k, r.filter (fun x => keyN xs x == k) = (drawN key xs.length).toList.filter (fun x => keyN xs x == k)
theorem OrdL.lt {xs : List EntR} {key : Nat} {r : List Nat} (h : OrdL xs key r) : ∀ a ∈ r, a < xs.length := fun a ha => by
  have : a ∈ r.filter (fun x => keyN xs x == keyN xs a) := List.mem_filter.2 ⟨ha, by simp⟩
  rw [h.flt] at this
  have hp := drawN_perm key xs.length
  exact List.mem_range.1 (hp.mem_iff.1 (List.mem_filter.1 this).1)
theorem OrdL.unique {xs : List EntR} {key : Nat} {r r' : List Nat} (h : OrdL xs key r) (h' : OrdL xs key r') : r = r' :=
  asc_unique (keyN xs) r r' h.asc h'.asc fun k => (h.flt k).trans (h'.flt k).symm
/-- a row of places in a block -/
structure OrdAt (w : World) (g : Nat) (r : List Nat) : Prop where
  at_ : ∀ i a, r[i]? = some a → w.cell? ⟨g, i, none⟩ = some (.int .i64 ((a : Nat) : Int))
theorem OrdAt.gr {w w' : World} {g : Nat} {r : List Nat} (h : OrdAt w g r) (k : Gr w w') : OrdAt w' g r := ⟨fun i a e => k.cell (h.at_ i a e)⟩
def finL (Mx : Nat) (l : List Nat) : List (Fin (Mx + 1)) := l.map (Fin.ofNat (Mx + 1))
theorem finL_val {Mx : Nat} : ∀ {l : List Nat}, (∀ a ∈ l, a < Mx + 1) → (finL Mx l).map Fin.val = l
  | [], _ => rfl
  | a :: l, h => by
    have h1 := h a (by simp)
    have ih := finL_val (Mx := Mx) (l := l) fun b hb => h b (by simp [hb])
    unfold finL at ih ⊢
    simp only [List.map_cons, ih, Fin.ofNat, Nat.mod_eq_of_lt h1]
open Go.Sort Go.Shelf in
theorem holds_of_row {Mx : Nat} {w : World} {g : Nat} {d : Array Nat} (h : RowA w g d) (hd : ∀ a ∈ d.toList, a < Mx + 1) : Holds encN w g 0 (finL Mx d.toList).toArray := by
  intro t ht
  have ht' : t < d.size := by simpa [finL] using ht
  refine ⟨?_, by rw [Nat.zero_add]; exact h.frozen t⟩
  rw [Nat.zero_add, h.cell ht', getElem!_pos _ t ht]
  have hm : d[t] < Mx + 1 := hd _ (by simp)
  simp [finL, encN, Fin.ofNat, Nat.mod_eq_of_lt hm, Array.getD, ht']
theorem ord_of_fin {Mx : Nat} {xs : List EntR} {key : Nat} {r : List (Fin (Mx + 1))} (hx : xs.length = Mx + 1) (hd : ∀ a ∈ (drawN key xs.length).toList, a < Mx + 1) (hs : (drawN key xs.length).size = xs.length) (hf : Flt (keyF xs) (finL Mx (drawN key xs.length).toList) r) (ha : Asc (ltK (keyF xs)) r) : OrdL xs key (r.map Fin.val) := by
  refine ⟨?_, ?_, fun k => ?_⟩
  · rw [List.length_map, hf.len]
    unfold finL
    rw [List.length_map, Array.length_toList, hs]
  · unfold Asc at ha ⊢
    rw [List.pairwise_map]
    exact ha
  · have h1 := congrArg (List.map Fin.val) (hf.flt k)
    have e : ∀ l : List (Fin (Mx + 1)), (l.filter fun x => keyF xs x == k).map Fin.val = (l.map Fin.val).filter fun x => keyN xs x == k := fun l => by
      rw [List.filter_map]
      rfl
    rw [e, e, finL_val hd] at h1
    exact h1
set_option maxHeartbeats 1000000 in
set_option maxRecDepth 100000 in
theorem seeded_pos (I : InsNOK) (xs : List EntR) (key n b off cap : Nat) (w : World) (hn : xs.length = n) (h0 : 0 < n) (h1 : n ≤ 160) (k1 : 1 ≤ key) (k2 : key < 2147483647) (hbw : b < w.heap.size) (hc : ∀ i x, xs[i]? = some x → EntAt w b (off + i * 3) x) :
    Calls Tryz.prog 51 #[.slice (some ⟨b, off, none⟩) n cap, .int .i64 (key : Int)] w fun e w' => ∃ g r, e = .returned (.tuple #[.slice (some ⟨g, 0, none⟩) n n, .int .i64 0]) ∧ OrdL xs key r ∧ OrdAt w' g r ∧ w.heap.size ≤ g ∧ Gr w w' := by
  obtain ⟨Mx, rfl⟩ : ∃ Mx, n = Mx + 1 := ⟨n - 1, by omega⟩
  obtain ⟨W, hW, g, l0⟩ := box1 w (.slice (some ⟨b, off, none⟩) (Mx + 1) cap) 22
  have hWs : W.heap.size = w.heap.size + 1 := by rw [← hW]; simp
  have HD := Lib.hid (draw_good key (Mx + 1) W k1 k2 (by omega))
  have hdl : ∀ a ∈ (drawN key xs.length).toList, a < Mx + 1 := fun a ha => by
    have := List.mem_range.1 ((drawN_perm key xs.length).mem_iff.1 ha)
    omega
  have HS : Hid (∀ W1, RowA W1 W.heap.size (drawN key (Mx + 1)) → (drawN key (Mx + 1)).size = Mx + 1 → Gr W W1 → Calls Tryz.prog 87 #[.slice (some ⟨W.heap.size, 0, none⟩) (Mx + 1) (Mx + 1), .func (.func 88) #[] #[.pointer (some ⟨w.heap.size, 0, none⟩)]] W1 fun e w' => e = .returned (.tuple #[]) ∧ ∃ r, OrdL xs key r ∧ OrdAt w' W.heap.size r ∧ Gr w w') := by
    intro W1 hrow hsz hg
    rw [← hn] at hrow hsz
    have hg2 : W.heap.size < W1.heap.size := by
      have := hrow
      exact (Array.getElem?_eq_some_iff.1 this).1
    refine (sortEnt_c I xs (finL Mx (drawN key xs.length).toList) hn (by omega) (by unfold finL; rw [List.length_map, Array.length_toList, hsz, hn]) b off cap W.heap.size (Mx + 1) w.heap.size W1 hg2 (holds_of_row hrow hdl) (fun i x hx => ((hc i x hx).gr g).gr hg) (by omega) (hg.cell l0) (by omega)).mono ?_
    rintro e w' ⟨rfl, hgb, r, hf, ha, hcell⟩
    refine ⟨rfl, r.map Fin.val, ord_of_fin hn hdl hsz hf ha, ⟨fun i a e => ?_⟩, ?_⟩
    · rw [List.getElem?_map] at e
      cases hr : r[i]? with
      | none => rw [hr] at e; simp at e
      | some q =>
        rw [hr] at e
        simp only [Option.map_some, Option.some.injEq] at e
        subst e
        exact hcell i q hr
    · exact Below.grown (g.trans hg) hgb (g.trans hg).size (fun k hk => by cases hk; omega)
  have HW := Lib.hid hW
  have HL := Lib.hid (show w.heap.size ≤ W.heap.size by omega)
  clear hW hWs g l0 hdl hc hn I hbw
  go_enter Tryz.func51, Tryz.ntmps51
  go_wp2_with fail
  rw [HW.out]
  refine HD.out.mono ?_
  rintro e W1 ⟨rfl, hrow, hsz, hg⟩
  have HS2 := Lib.hid (HS.out W1 hrow hsz hg)
  clear hrow hsz hg HS HD
  go_wp2_with fail
  refine HS2.out.mono ?_
  rintro e w' ⟨rfl, r, ho, hat, hg⟩
  go_wp2_with fail
  exact bodyPost_ret (v := .tuple #[.slice (some ⟨W.heap.size, 0, none⟩) (Mx + 1) (Mx + 1), .int .i64 0]) (by simp [results, Tryz.results51, go_sem]) rfl ⟨_, r, rfl, ho, hat, HL.out, hg⟩
end Go.Proofs.YtcnpmebihdonoaaGreatDoor
namespace Go.Proofs.YtcnpmebihdonoaaGreatDoor
open Go.RowKit Go.Lib
set_option linter.unusedSimpArgs false
set_option linter.unusedVariables false
/-- the reference's comparison of seeds -/
def bef (a b : Int) : Bool := decide (0 < a) && (b == 0 || decide (a < b))
theorem bef_rank {x y : EntR} (h1 : 0 ≤ x.sd) (h2 : x.sd ≤ 999999999) (h3 : 0 ≤ y.sd) (h4 : y.sd ≤ 999999999) : bef x.sd y.sd = decide (rankE x < rankE y) := by
  unfold bef rankE
  generalize x.sd = a at *
  generalize y.sd = b at *
  by_cases ha : a = 0 <;> by_cases hb : b = 0
  · subst ha; subst hb; simp
  · subst ha; simp [hb]; omega
  · subst hb; simp [ha]; omega
  · have q1 : 0 < a := by omega
    simp [ha, hb, q1]
end Go.Proofs.YtcnpmebihdonoaaGreatDoor
namespace Go.Proofs.YtcnpmebihdonoaaGreatDoor
open Go.RowKit Go.Lib
set_option linter.unusedSimpArgs false
set_option linter.unusedVariables false
theorem asc_atN {key : Nat → Int} {l : List Nat} (h : Asc (ltK key) l) {i j : Nat} {x y : Nat} (hij : i ≤ j) (hi : l[i]? = some x) (hj : l[j]? = some y) : key x ≤ key y := by
  rcases Nat.lt_or_ge i j with hlt | hge
  · obtain ⟨h1, rfl⟩ := List.getElem?_eq_some_iff.1 hi
    obtain ⟨h2, rfl⟩ := List.getElem?_eq_some_iff.1 hj
    have := (List.pairwise_iff_getElem.1 h) i j h1 h2 hlt
    have := of_decide_eq_false this
    omega
  · obtain rfl : i = j := by omega
    rw [hi] at hj
    cases hj
    exact Int.le_refl _
theorem ins_ascN {key : Nat → Int} {out : List Nat} (h : Asc (ltK key) out) (s : Nat) (at_ : Nat) (h1 : ∀ j t, j < at_ → out[j]? = some t → key t ≤ key s) (h2 : ∀ j t, at_ ≤ j → out[j]? = some t → key s < key t) :
    Asc (ltK key) (out.take at_ ++ s :: out.drop at_) ∧ ∀ k, (out.take at_ ++ s :: out.drop at_).filter (fun x => key x == k) = out.filter (fun x => key x == k) ++ [s].filter (fun x => key x == k) := by
  have e : out.take at_ ++ s :: out.drop at_ = mrg (ltK key) out [s] := by
    conv => rhs; rw [← List.take_append_drop at_ out]
    refine (mrg_one_right _ s _ _ (fun x hx => ?_) (fun x hx => ?_)).symm
    · obtain ⟨j, hj, rfl⟩ := List.mem_iff_getElem.1 hx
      rw [List.length_take] at hj
      have := h1 j out[j] (by omega) (List.getElem?_eq_getElem (by omega))
      rw [List.getElem_take]
      exact decide_eq_false (by omega)
    · obtain ⟨j, hj, rfl⟩ := List.mem_iff_getElem.1 hx
      rw [List.length_drop] at hj
      have := h2 (at_ + j) out[at_ + j] (by omega) (List.getElem?_eq_getElem (by omega))
      rw [List.getElem_drop]
      exact decide_eq_true this
  rw [e]
  exact ⟨mrg_asc key _ _ _ rfl h (List.pairwise_singleton _ _), fun k => mrg_filter key k _ _ _ rfl h⟩
structure RefN (key : Nat → Int) (out src : List Nat) : Prop where
  asc : Asc (ltK key) out
  flt : ∀ k, out.filter (fun x => key x == k) = src.filter (fun x => key x == k)
theorem refN_put {key : Nat → Int} {out src : List Nat} (h : RefN key out src) (s : Nat) (at_ : Nat) (h1 : ∀ j t, j < at_ → out[j]? = some t → key t ≤ key s) (h2 : ∀ j t, at_ ≤ j → out[j]? = some t → key s < key t) : RefN key (out.take at_ ++ s :: out.drop at_) (src ++ [s]) := by
  obtain ⟨a, f⟩ := ins_ascN h.asc s at_ h1 h2
  exact ⟨a, fun k => by rw [f k, h.flt k, List.filter_append]⟩
theorem ascN_low {key : Nat → Int} {out : List Nat} (h : Asc (ltK key) out) {m : Nat} {t : Nat} (hm : out[m]? = some t) {y : Int} (hy : key t ≤ y) : ∀ j u, j < m + 1 → out[j]? = some u → key u ≤ y := fun j u hj hu => by
  have := asc_atN h (i := j) (j := m) (by omega) hu hm
  omega
theorem ord_of_ref {xs : List EntR} {kn : Nat} {r : List Nat} (hl : r.length = xs.length) (h : RefN (keyN xs) r (drawN kn xs.length).toList) : OrdL xs kn r := ⟨hl, h.asc, h.flt⟩
theorem refN_nil (key : Nat → Int) : RefN key [] [] := ⟨by simp [Asc], fun _ => rfl⟩
end Go.Proofs.YtcnpmebihdonoaaGreatDoor
namespace Go.Proofs.YtcnpmebihdonoaaGreatDoor
open Go.RowKit Go.Lib
set_option linter.unusedSimpArgs false
set_option linter.unusedVariables false
set_option maxHeartbeats 4000000
set_option maxRecDepth 100000
def nats (ps : List Nat) : List Value := ps.map fun a => .int .i64 ((a : Nat) : Int)
theorem nats_add (ps qs : List Nat) : nats (ps ++ qs) = nats ps ++ nats qs := List.map_append
theorem nats_len (ps : List Nat) : (nats ps).length = ps.length := List.length_map _
theorem grown_cell {w w' : World} {ob : Option Nat} (h : w.grownBy w' ob) {p : Addr} {v : Value} (hp : w.cell? p = some v) (hne : some p.block ≠ ob) : w'.cell? p = some v := by
  rw [World.cell?_of_block (h.block p.block (World.block_lt_of_cell? w p hp) hne)]; exact hp
/-- append onto a row of the call's own, as an operation of a drawn region -/
theorem step_nats {w : World} {o : Oper} {a : Act} {K : Act → World → Prop} {Q : Exit → Act → World → Prop} (s x : Operand) (ho : o.op = .call { callee := .builtin .append, args := #[s, x], argTypes := #[23, 23] })
    (base : Nat) (v : Value) (ps qs : List Nat) (n m : Nat) (hn : ps.length = n) (hm : qs.length = m) (hs : a.eval s = v) (hown : w.ownsRow base 3 1 v n (nats ps)) (ad : Addr) (c : Nat) (hx : a.eval x = .slice (some ad) m c)
    (hq : ∀ j u, (nats qs)[j]? = some u → w.cell? (ad.add j) = some u) (h100 : n + m ≤ 1000) (hbase : base ≤ w.heap.size)
    (h : ∀ v' w', w'.ownsRow base 3 1 v' (n + m) (nats (ps ++ qs)) → w.grownBy w' v.ownBlock → (v'.ownBlock = v.ownBlock ∨ v'.ownBlock = some w.heap.size) → K (a.put o.dst v') w') : Oper.wp Tryz.prog o a w K Q := by
  obtain ⟨i1, hj, hy0, hy1, hy2⟩ := info_parts info3
  obtain ⟨v', w', hr, h2, h3, h4, h5⟩ := run_append_own_at (P := Tryz.prog) w base 23 o.type 3 i1 (.int .i64 0) 1 8 Tryz.underlying23 hj hy0 hy1 hy2 rfl (by decide) v n (nats ps) hown ad m c (nats qs) (by rw [nats_len, hm, Nat.mul_one]) hq
    (fun u hu => by unfold nats at hu; obtain ⟨z, _, rfl⟩ := List.mem_map.1 hu; rfl) (by unfold maxLen; omega) (by omega) hbase
  rw [← nats_add] at h2
  unfold Oper.wp
  simp [execOp, ho, resolve, invoke, builtin, hs, hx, hr, Result.andThen]
  exact h v' w' h2 h3 h5
theorem own_empty {w : World} {g base : Nat} (h : w.heap[g]? = some (.cells #[] 3 (0, 0))) (hb : base ≤ g) : w.ownsRow base 3 1 (.slice (some ⟨g, 0, none⟩) 0 0) 0 (nats []) :=
  ⟨by simp [nats], .inr ⟨g, 0, #[], rfl, hb, h, Nat.le_refl _, by unfold maxLen; omega, rfl, by simp [nats]⟩⟩
/-- where the first append leaves things -/
structure Mid (w W : World) (v : Value) (at_ gx x : Nat) (ps : List Nat) : Prop where
  own : W.ownsRow w.heap.size 3 1 v at_ (nats (ps.take at_))
  cell : W.cell? ⟨gx, 0, none⟩ = some (.int .i64 (x : Int))
  apart : v.ownBlock ≠ some gx
  gr : Gr w W
end Go.Proofs.YtcnpmebihdonoaaGreatDoor
namespace Go.Proofs.YtcnpmebihdonoaaGreatDoor
open Go.RowKit Go.Lib
set_option linter.unusedSimpArgs false
set_option linter.unusedVariables false
set_option maxHeartbeats 4000000
set_option maxRecDepth 100000
theorem step_nil {w : World} {o : Oper} {a : Act} {K : Act → World → Prop} {Q : Exit → Act → World → Prop} (s x : Operand) (ho : o.op = .call { callee := .builtin .append, args := #[s, x], argTypes := #[23, 23] })
    (base : Nat) (v : Value) (n : Nat) (zs : List Value) (hs : a.eval s = v) (hown : w.ownsRow base 3 1 v n zs) (c : Nat) (hx : a.eval x = .slice none 0 c)
    (h : K (a.put o.dst v) w) : Oper.wp Tryz.prog o a w K Q := by
  obtain ⟨i1, hj, hy0, hy1, hy2⟩ := info_parts info3
  have hr : (Builtin.append_ #[23, 23] o.type #[v, .slice none 0 c]).run Tryz.prog w = .ok v w := by
    rcases hown.2 with ⟨rfl, rfl⟩ | ⟨g, cap, cur, rfl, _, _, hnc, _⟩
    · simp [Builtin.append_, run_underlying Tryz.underlying23, sizeOf, typeInfo, hj, Builtin.lenOf, Builtin.firstCells]
    · simp [Builtin.append_, run_underlying Tryz.underlying23, sizeOf, typeInfo, hj, Builtin.lenOf, Builtin.firstCells, hnc, storeCells]
  unfold Oper.wp
  simp [execOp, ho, resolve, invoke, builtin, hs, hx, hr, Result.andThen]
  exact h
theorem own_le {w : World} {b b' size n : Nat} {T : TypeId} {v : Value} {xs : List Value} (h : w.ownsRow b T size v n xs) (hb : b' ≤ b) : w.ownsRow b' T size v n xs := by
  rcases h.2 with ⟨h1, h2⟩ | ⟨g, cap, cur, h1, h2, h3⟩
  · exact ⟨h.1, .inl ⟨h1, h2⟩⟩
  · exact ⟨h.1, .inr ⟨g, cap, cur, h1, by omega, h3⟩⟩
theorem own_some0 {w : World} {b n : Nat} {v : Value} {ps : List Nat} (h : w.ownsRow b 3 1 v n (nats ps)) (h0 : 0 < n) : ∃ g c, v = .slice (some ⟨g, 0, none⟩) n c ∧ ∀ i a, ps[i]? = some a → w.cell? ⟨g, i, none⟩ = some (.int .i64 ((a : Nat) : Int)) := by
  rcases h.2 with ⟨h1, h2⟩ | ⟨g, cap, cur, rfl, _⟩
  · omega
  · exact ⟨g, cap, rfl, fun i a ha => by
      have := h.cells (g := g) rfl i (.int .i64 (a : Int)) (by unfold nats; rw [List.getElem?_map, ha]; rfl)
      rwa [show (⟨g, 0, none⟩ : Addr).add i = ⟨g, i, none⟩ by unfold Addr.add; split <;> simp_all] at this⟩
end Go.Proofs.YtcnpmebihdonoaaGreatDoor
namespace Go.Proofs.YtcnpmebihdonoaaGreatDoor
open Go.RowKit Go.Lib
set_option linter.unusedSimpArgs false
set_option linter.unusedVariables false
set_option maxHeartbeats 1000000 in
set_option maxRecDepth 100000 in
theorem findEnt_pos (E : Nat → EntR → Int) (xs : List EntR) (n b off cap L : Nat) (w : World) (hn : xs.length = n) (h1 : n ≤ 1000) (hcap : n ≤ cap) (hmx : cap ≤ maxLen)
    (hc : ∀ i x, xs[i]? = some x → EntAt w b (off + i * 3) x) (ho : ∀ (i : Nat) (x : EntR) (W : World), i < n → xs[i]? = some x → Gr w W → Calls Tryz.prog 79 #[.int .i64 i, entV x, .pointer (some ⟨L, 0, none⟩)] W fun e w' => e = .returned (.int .i64 (E i x)) ∧ Gr W w') (hL : w.cell? ⟨L, 0, none⟩ = some (.slice (some ⟨b, off, none⟩) n cap)) :
    Calls Tryz.prog 121 #[.slice (some ⟨b, off, none⟩) n cap, .func (.func 79) #[] #[.pointer (some ⟨L, 0, none⟩)]] w fun e w' => (∃ i : Int, e = .returned (.tuple #[.int .i64 i, .int .i64 (errG E xs n 0)])) ∧ Gr w w' := by
  have HC := Lib.hid hc
  have HN := Lib.hid hn
  have HO := Lib.hid ho
  clear hc hL hn ho
  go_enter Tryz.func121, Tryz.ntmps121
  go_wp2_with fail
  go_loopg [11] n (fun gk s11 wr => ∃ i : Nat, s11 = .int .i64 i ∧ gk + i = n ∧ Gr w wr ∧ Hid (errG E xs (n - i) i = errG E xs n 0))
  case atStart => exact ⟨0, rfl, by omega, Gr.refl _, rfl⟩
  case round =>
    obtain ⟨i, rfl, hi, hg, HF⟩ := hrel
    by_cases hlt : i < n
    · obtain ⟨x, hx⟩ : ∃ x, xs[i]? = some x := ⟨xs[i]'(by have := HN.out; omega), List.getElem?_eq_getElem _⟩
      obtain ⟨c0, c1, c2⟩ := (HC.out i x hx).gr hg
      have hf := errG_step (E := E) hlt hx
      have hi2 : (i : Int) < n := by omega
      have hT := fun W hg2 => HO.out i x W hlt hx hg2
      unfold entV at hT
      clear hx
      obtain ⟨W, hW, g, a0, a1, a2⟩ := box3 wr (.string x.nm) (.string x.na) (.int .i64 x.sd) 53
      have gW := hg.trans g
      have HW := Lib.hid hW
      by_cases h0 : E i x = 0
      · rw [h0] at hT hf
        rw [if_pos rfl] at hf
        have HT := Lib.hid hT
        have HF2 := Lib.hid hf
        clear hT hf h0 hW
        go_wp2_with fail
        rw [HW.out]
        refine (HT.out _ gW).mono ?_
        rintro e w4 ⟨rfl, hg2⟩
        go_wp2_with fail
        go_roundg (gk - 1)
        case measure => omega
        case rel => exact ⟨i + 1, by go_num, by omega, gW.trans hg2, by unfold Hid; rw [← HF2.out, HF.out]⟩
      · rw [if_neg h0] at hf
        generalize E i x = z at *
        have q1 : (z == 0) = false := by simpa using h0
        have q2 : (z != 0) = true := by simpa [bne] using q1
        have HT := Lib.hid hT
        have HF2 := Lib.hid hf
        clear hT hf hW
        go_wp2_with fail
        rw [HW.out]
        refine (HT.out _ gW).mono ?_
        rintro e w4 ⟨rfl, hg2⟩
        go_wp2_with fail
        exact bodyPost_ret (v := .tuple #[.int .i64 i, .int .i64 z]) (by simp [results, Tryz.results121, go_sem]) rfl ⟨⟨i, by rw [← HF.out, HF2.out]⟩, gW.trans hg2⟩
    · have hin : i = n := by omega
      have HE2 : Hid (errG E xs (n - i) i = 0) := by unfold Hid; rw [hin, Nat.sub_self]; rfl
      have hi2 : (n : Int) ≤ i := by omega
      clear hin
      go_wp2_with fail
      exact bodyPost_ret (v := .tuple #[.int .i64 0, .int .i64 0]) (by simp [results, Tryz.results121, go_sem]) rfl ⟨⟨0, by rw [← HF.out, HE2.out]⟩, hg⟩
theorem eachEnt_pos (E : Nat → EntR → Int) (xs : List EntR) (n b off cap L : Nat) (w : World) (hn : xs.length = n) (h1 : n ≤ 1000) (hcap : n ≤ cap) (hmx : cap ≤ maxLen)
    (hc : ∀ i x, xs[i]? = some x → EntAt w b (off + i * 3) x) (ho : ∀ (i : Nat) (x : EntR) (W : World), i < n → xs[i]? = some x → Gr w W → Calls Tryz.prog 79 #[.int .i64 i, entV x, .pointer (some ⟨L, 0, none⟩)] W fun e w' => e = .returned (.int .i64 (E i x)) ∧ Gr W w') (hL : w.cell? ⟨L, 0, none⟩ = some (.slice (some ⟨b, off, none⟩) n cap)) :
    Calls Tryz.prog 78 #[.slice (some ⟨b, off, none⟩) n cap, .func (.func 79) #[] #[.pointer (some ⟨L, 0, none⟩)]] w fun e w' => e = .returned (.int .i64 (errG E xs n 0)) ∧ Gr w w' := by
  have HF := Lib.hid (findEnt_pos E xs n b off cap L w hn h1 hcap hmx hc ho hL)
  generalize errG E xs n 0 = z at *
  clear hc hL hn ho
  go_enter Tryz.func78, Tryz.ntmps78
  go_wp2_with fail
  refine HF.out.mono ?_
  rintro e w4 ⟨⟨i, rfl⟩, hg⟩
  go_wp2_with fail
  go_ret
  exact ⟨rfl, hg⟩
theorem findEnt_nil (p : Option Addr) (cap L : Nat) (w : World) :
    Calls Tryz.prog 121 #[.slice p 0 cap, .func (.func 79) #[] #[.pointer (some ⟨L, 0, none⟩)]] w fun e w' => (∃ i : Int, e = .returned (.tuple #[.int .i64 i, .int .i64 0])) ∧ w = w' := by
  go_enter Tryz.func121, Tryz.ntmps121
  go_wp2_with fail
  refine wp_loop_rounds 2 ?_
  rw [rounds_succ]
  go_wp2_with fail
  exact bodyPost_ret (v := .tuple #[.int .i64 0, .int .i64 0]) (by simp [results, Tryz.results121, go_sem]) rfl ⟨⟨0, rfl⟩, rfl⟩
theorem eachEnt_nil (p : Option Addr) (cap L : Nat) (w : World) :
    Calls Tryz.prog 78 #[.slice p 0 cap, .func (.func 79) #[] #[.pointer (some ⟨L, 0, none⟩)]] w fun e w' => e = .returned (.int .i64 0) ∧ w = w' := by
  have HF := Lib.hid (findEnt_nil p cap L w)
  go_enter Tryz.func78, Tryz.ntmps78
  go_wp2_with fail
  refine HF.out.mono ?_
  rintro e w4 ⟨⟨i, rfl⟩, rfl⟩
  go_wp2_with fail
  go_ret
  exact ⟨rfl, rfl⟩

set_option maxHeartbeats 1000000 in
set_option maxRecDepth 100000 in
theorem checkEnts_c (xs : List EntR) (v : Value) (w : World) (hv : EntAts w v xs) :
    Calls Tryz.prog 41 #[v] w fun e w' => e = .returned (.int .i64 (listE 160 (entE xs) xs)) ∧ Gr w w' := by
  obtain ⟨⟨p, cap, rfl, ⟨hcap, hmx⟩, hh⟩⟩ := hv
  obtain ⟨W, hW, g, l0⟩ := box1 w (.slice p xs.length cap) 22
  have HW := Lib.hid hW
  rcases Nat.lt_or_ge 160 xs.length with hl | hl
  · have HE : Hid (listE 160 (entE xs) xs = 5) := by unfold Hid listE; rw [if_pos hl]
    have hl2 : decide ((160 : Int) < (xs.length : Int)) = true := decide_eq_true (by omega)
    clear hW hh l0
    generalize xs.length = n at *
    go_enter Tryz.func41, Tryz.ntmps41
    go_wp2_with fail
    go_ret
    exact ⟨by rw [HE.out]; rfl, by rw [HW.out]; exact g⟩
  · have HE : Hid (listE 160 (entE xs) xs = errG (entE xs) xs xs.length 0) := by unfold Hid listE; rw [if_neg (by omega)]
    have hl2 : decide ((160 : Int) < (xs.length : Int)) = false := decide_eq_false (by omega)
    have HK : Hid (∀ W2, Gr W W2 → Calls Tryz.prog 78 #[.slice p xs.length cap, .func (.func 79) #[] #[.pointer (some ⟨w.heap.size, 0, none⟩)]] W2 fun e w' => e = .returned (.int .i64 (errG (entE xs) xs xs.length 0)) ∧ Gr W2 w') := by
      intro W2 g2
      rcases Nat.eq_zero_or_pos xs.length with h0 | h0
      · rw [h0]
        refine (eachEnt_nil p cap w.heap.size W2).mono ?_
        rintro e w' ⟨rfl, rfl⟩
        exact ⟨rfl, Gr.refl _⟩
      · obtain ⟨b, off, rfl, hc⟩ := hh h0
        exact eachEnt_pos (entE xs) xs xs.length b off cap w.heap.size W2 rfl (by omega) hcap hmx (fun i x hx => (hc i x hx).gr (g.trans g2)) (fun i x W3 hi hx hg => oneEnt_c xs i xs.length b off cap w.heap.size x W3 rfl hi (by omega) hcap hmx (fun i x hx => (hc i x hx).gr ((g.trans g2).trans hg)) ((g2.trans hg).cell l0)) (g2.cell l0)
    rw [HE.out]
    generalize errG (entE xs) xs xs.length 0 = z at *
    clear hW hh HE
    generalize xs.length = n at *
    go_enter Tryz.func41, Tryz.ntmps41
    go_wp2_with fail
    rw [HW.out]
    refine (HK.out _ (Gr.refl _)).mono ?_
    rintro e w4 ⟨rfl, hg⟩
    go_wp2_with fail
    go_ret
    exact ⟨rfl, g.trans hg⟩
end Go.Proofs.YtcnpmebihdonoaaGreatDoor
namespace Go.Proofs.YtcnpmebihdonoaaGreatDoor
open Go.RowKit Go.Lib
set_option linter.unusedSimpArgs false
set_option linter.unusedVariables false
/-- an order by seeds, or an error -/
structure OrdR (E : Int) (xs : List EntR) (key : Int) (w : World) (u : Value) : Prop where
  good : E = 0 → ∃ (kn : Nat) (p : Option Addr) (r : List Nat), key = kn ∧ u = .slice p xs.length xs.length ∧ OrdL xs kn r ∧ (0 < xs.length → ∃ g, p = some ⟨g, 0, none⟩ ∧ OrdAt w g r)
  bad : E ≠ 0 → u = .slice none 0 0
theorem OrdR.gr {E : Int} {xs : List EntR} {key : Int} {w w' : World} {u : Value} (h : OrdR E xs key w u) (k : Gr w w') : OrdR E xs key w' u := by
  refine ⟨fun e => ?_, h.bad⟩
  obtain ⟨kn, p, r, h1, h2, h3, h4⟩ := h.good e
  refine ⟨kn, p, r, h1, h2, h3, fun h0 => ?_⟩
  obtain ⟨g, h5, h6⟩ := h4 h0
  exact ⟨g, h5, h6.gr k⟩
theorem ord_nil (kn : Nat) : OrdL [] kn [] := ⟨rfl, by simp [Asc], fun k => by
  have := (drawN_perm kn 0).length_eq
  have h0 : (drawN kn 0).toList = [] := List.eq_nil_of_length_eq_zero (by simpa using this)
  show [] = _
  rw [show ([] : List EntR).length = 0 from rfl, h0]
  rfl⟩
set_option maxHeartbeats 1000000 in
set_option maxRecDepth 100000 in
theorem seeded_zero (p : Option Addr) (cap n : Nat) (key : Int) (u : Value) (E : Int) (w : World) (hd : ∀ W, Gr w W → Calls Tryz.prog 86 #[.int .i64 key, .int .i64 (n : Int)] W fun e w' => ∃ q, u = .slice q 0 0 ∧ e = .returned (.tuple #[u, .int .i64 E]) ∧ Gr W w') :
    Calls Tryz.prog 51 #[.slice p n cap, .int .i64 key] w fun e w' => e = .returned (.tuple #[u, .int .i64 E]) ∧ Gr w w' := by
  obtain ⟨W, hW, g, l0⟩ := box1 w (.slice p n cap) 22
  have HD := Lib.hid (hd W g)
  have HW := Lib.hid hW
  have HS := Lib.hid (fun q f W => sortII_0 q 0 f W)
  clear hW l0 hd
  go_enter Tryz.func51, Tryz.ntmps51
  go_wp2_with fail
  rw [HW.out]
  refine HD.out.mono ?_
  rintro e W1 ⟨q, rfl, rfl, hg⟩
  go_wp2_with fail
  refine (HS.out _ _ _).mono ?_
  rintro e w' ⟨rfl, rfl⟩
  go_wp2_with fail
  exact bodyPost_ret (v := .tuple #[.slice q 0 0, .int .i64 E]) (by simp [results, Tryz.results51, go_sem]) rfl ⟨rfl, g.trans hg⟩
set_option maxHeartbeats 1000000 in
set_option maxRecDepth 100000 in
theorem seeded_c (I : InsNOK) (xs : List EntR) (v : Value) (key : Int) (w : World) (hv : EntAts w v xs) (h1 : xs.length ≤ 160) :
    Calls Tryz.prog 51 #[v, .int .i64 key] w fun e w' => ∃ u, e = .returned (.tuple #[u, .int .i64 (drawE key xs.length)]) ∧ OrdR (drawE key xs.length) xs key w' u ∧ Gr w w' := by
  obtain ⟨⟨p, cap, rfl, hcap, hh⟩⟩ := hv
  by_cases hE : drawE key xs.length = 0
  · obtain ⟨k1, k2, _, _⟩ := drawE_zero hE
    obtain ⟨kn, rfl⟩ : ∃ k : Nat, key = k := ⟨key.toNat, by omega⟩
    rcases Nat.eq_zero_or_pos xs.length with h0 | h0
    · have hx : xs = [] := List.eq_nil_of_length_eq_zero h0
      subst hx
      obtain ⟨W, hW, g, l0⟩ := box1 w (.slice p 0 cap) 22
      have HD := Lib.hid (draw_good kn 0 W (by omega) (by omega) (by omega))
      have HW := Lib.hid hW
      have HG := Lib.hid g
      have HE := Lib.hid hE
      have HS := Lib.hid (fun q f W => sortII_0 q 0 f W)
      clear hW l0 g hh hE
      show Calls Tryz.prog 51 #[.slice p 0 cap, .int .i64 (kn : Int)] w _
      go_enter Tryz.func51, Tryz.ntmps51
      go_wp2_with fail
      rw [HW.out]
      refine HD.out.mono ?_
      rintro e W1 ⟨rfl, _, _, hg⟩
      have HG2 := Lib.hid (HG.out.trans hg)
      clear hg
      go_wp2_with fail
      refine (HS.out _ _ _).mono ?_
      rintro e w' ⟨rfl, rfl⟩
      go_wp2_with fail
      exact bodyPost_ret (v := .tuple #[.slice (some ⟨W.heap.size, 0, none⟩) 0 0, .int .i64 0]) (by simp [results, Tryz.results51, go_sem]) rfl ⟨.slice (some ⟨W.heap.size, 0, none⟩) 0 0, by rw [show drawE (kn : Int) ((0 : Nat) : Int) = 0 from HE.out], ⟨fun _ => ⟨kn, _, [], rfl, rfl, ord_nil kn, fun h => absurd h (by simp)⟩, fun e => absurd HE.out e⟩, HG2.out⟩
    · obtain ⟨b, off, rfl, hc⟩ := hh h0
      obtain ⟨x0, hx0⟩ : ∃ x, xs[0]? = some x := ⟨xs[0], List.getElem?_eq_getElem _⟩
      have hbw : b < w.heap.size := by
        have h2 := (hc 0 x0 hx0).nm
        rcases Nat.lt_or_ge b w.heap.size with h3 | h3
        · exact h3
        · simp [World.cell?, Array.getElem?_eq_none h3] at h2
      refine (seeded_pos I xs kn _ b off cap w rfl h0 h1 (by omega) (by omega) hbw hc).mono ?_
      rintro e w' ⟨g, r, rfl, ho, hat, _, hg⟩
      exact ⟨_, by rw [hE], ⟨fun _ => ⟨kn, _, r, rfl, rfl, ho, fun _ => ⟨g, rfl, hat⟩⟩, fun e => absurd hE e⟩, hg⟩
  · refine (seeded_zero p cap xs.length key (.slice none 0 0) (drawE key xs.length) w fun W g => (draw_bad key xs.length W hE).mono ?_).mono ?_
    · rintro e w' ⟨rfl, rfl⟩
      exact ⟨none, rfl, rfl, Gr.refl _⟩
    · rintro e w' ⟨rfl, hg⟩
      exact ⟨_, rfl, ⟨fun e => absurd e hE, fun _ => rfl⟩, hg⟩
set_option maxHeartbeats 1000000 in
set_option maxRecDepth 100000 in
theorem seededBad_c (xs : List EntR) (v : Value) (key : Int) (w : World) (hv : EntAts w v xs) (h0 : listE 160 (entE xs) xs ≠ 0) :
    Calls Tryz.prog 22 #[v, .int .i64 key] w fun e w' => e = .returned (.tuple #[.slice none 0 0, .int .i64 (listE 160 (entE xs) xs)]) ∧ Gr w w' := by
  have HC := Lib.hid (checkEnts_c xs v w hv)
  generalize listE 160 (entE xs) xs = z at *
  have q1 : (z == 0) = false := by simpa using h0
  have q2 : (z != 0) = true := by simpa [bne] using q1
  obtain ⟨⟨p, cap, rfl, hcap, hh⟩⟩ := hv
  clear hh h0
  go_enter Tryz.func22, Tryz.ntmps22
  go_wp2_with fail
  refine HC.out.mono ?_
  rintro e W1 ⟨rfl, hg⟩
  go_wp2_with fail
  exact bodyPost_ret (v := .tuple #[.slice none 0 0, .int .i64 z]) (by simp [results, Tryz.results22, go_sem]) rfl ⟨rfl, hg⟩
set_option maxHeartbeats 1000000 in
set_option maxRecDepth 100000 in
theorem seededGood_c (I : InsNOK) (xs : List EntR) (v : Value) (key : Int) (w : World) (hv : EntAts w v xs) (h0 : listE 160 (entE xs) xs = 0) (h1 : xs.length ≤ 160) :
    Calls Tryz.prog 22 #[v, .int .i64 key] w fun e w' => ∃ u, e = .returned (.tuple #[u, .int .i64 (drawE key xs.length)]) ∧ OrdR (drawE key xs.length) xs key w' u ∧ Gr w w' := by
  have HC := checkEnts_c xs v w hv
  rw [h0] at HC
  replace HC := Lib.hid HC
  have HS := Lib.hid (fun W (g : Gr w W) => seeded_c I xs v key W (hv.gr g) h1)
  generalize drawE key xs.length = E at *
  obtain ⟨⟨p, cap, rfl, hcap, hh⟩⟩ := hv
  clear hh h0 I h1
  go_enter Tryz.func22, Tryz.ntmps22
  go_wp2_with fail
  refine HC.out.mono ?_
  rintro e W1 ⟨rfl, hg⟩
  go_wp2_with fail
  refine (HS.out _ hg).mono ?_
  rintro e W2 ⟨u, rfl, hr, hg2⟩
  go_wp2_with fail
  exact bodyPost_ret (v := .tuple #[u, .int .i64 E]) (by simp [results, Tryz.results22, go_sem]) rfl ⟨u, rfl, hr, hg.trans hg2⟩
end Go.Proofs.YtcnpmebihdonoaaGreatDoor
namespace Go.Proofs.YtcnpmebihdonoaaGreatDoor
open Go.RowKit Go.Lib
set_option linter.unusedSimpArgs false
set_option linter.unusedVariables false
/-- the group of a place -/
def grpN (m p : Nat) : Nat := if p / m % 2 = 1 then m - 1 - p % m else p % m
theorem grpN_lt {m p : Nat} (h : 0 < m) : grpN m p < m := by
  unfold grpN
  have := Nat.mod_lt p h
  split <;> omega
/-- the groups of the first places -/
def grpL (m : Nat) (r : List Nat) : Nat → List (List Nat)
  | 0 => List.replicate m []
  | k + 1 => (grpL m r k).set (grpN m k) ((grpL m r k).getD (grpN m k) [] ++ [r.getD k 0])
theorem grpL_len (m : Nat) (r : List Nat) : ∀ k, (grpL m r k).length = m
  | 0 => by simp [grpL]
  | k + 1 => by rw [grpL, List.length_set]; exact grpL_len m r k
theorem grpL_le (m : Nat) (r : List Nat) : ∀ k, ∀ l ∈ grpL m r k, l.length ≤ k
  | 0, l, h => by
    unfold grpL at h
    rw [(List.mem_replicate.1 h).2]
    exact Nat.le_refl _
  | k + 1, l, h => by
    unfold grpL at h
    rcases List.mem_or_eq_of_mem_set h with h | rfl
    · have := grpL_le m r k l h
      omega
    · rw [List.length_append]
      have h2 : ((grpL m r k).getD (grpN m k) []).length ≤ k := by
        by_cases e : grpN m k < (grpL m r k).length
        · have := grpL_le m r k _ (List.getElem_mem e)
          simpa [List.getD_eq_getElem?_getD, List.getElem?_eq_getElem e] using this
        · simp [List.getD_eq_getElem?_getD, List.getElem?_eq_none (Nat.le_of_not_lt e)]
      simp
      exact h2
theorem infoS : (Tryz.prog.info? 23).map (fun i => (i.zero, i.size, i.bytes)) = some (some (.slice none 0 0), 1, 24) := by kernel_rfl
theorem make_rows (m : Nat) (hm : m ≤ 256) (w : World) : (Instr.makeSlice 46 (.int .i64 (m : Int)) (.int .i64 (m : Int))).run Tryz.prog w = .ok (.slice (some ⟨w.heap.size, 0, none⟩) m m) (w.alloc (.cells (Array.replicate m (.slice none 0 0)) 23)) := by
  obtain ⟨i0, hi, hz0, hz1, hz2⟩ := info_parts infoS
  have := run_make (P := Tryz.prog) w 46 23 i0 (.slice none 0 0) Tryz.underlying46 hi hz0 .i64 .i64 (m : Int) (m : Int) (by omega) (by omega) (by rw [hz2]; omega) (by omega)
  rw [hz1] at this
  have e : madeCells (#[.slice none 0 0] : Array Value) m = Array.replicate m (.slice none 0 0) := Array.ext' (by rw [toList_madeCells_one]; simp)
  simpa [Value.cells, e] using this
theorem own_at {w : World} {base n : Nat} {T : TypeId} {v : Value} {l : List Value} (h : w.ownsRow base T 1 v n l) (h0 : 0 < n) : ∃ g c, v = .slice (some ⟨g, 0, none⟩) n c ∧ base ≤ g ∧ g < w.heap.size ∧ (n ≤ c ∧ c ≤ maxLen) ∧ ∀ i u, l[i]? = some u → w.cell? ⟨g, i, none⟩ = some u := by
  have hh := h
  rcases h.2 with ⟨rfl, h0'⟩ | ⟨g, cap, cur, rfl, hb, hcur, hle, hmx, _, _⟩
  · omega
  · refine ⟨g, cap, rfl, hb, (Array.getElem?_eq_some_iff.1 hcur).1, ⟨hle, hmx⟩, fun i u hu => ?_⟩
    have c := hh.cells (g := g) rfl i u hu
    rwa [show (⟨g, 0, none⟩ : Addr).add i = ⟨g, i, none⟩ by unfold Addr.add; split <;> simp_all] at c
theorem own_low {w : World} {b b' size n : Nat} {T : TypeId} {v : Value} {xs : List Value} (h : w.ownsRow b T size v n xs) (hb : b' ≤ b) : w.ownsRow b' T size v n xs := by
  refine ⟨h.1, ?_⟩
  rcases h.2 with hn | ⟨g, cap, cur, rfl, hg, rest⟩
  · exact .inl hn
  · exact .inr ⟨g, cap, cur, rfl, by omega, rest⟩
theorem own_kept {w w' : World} {b s n : Nat} {T : TypeId} {v : Value} {l : List Value} (h : w.ownsRow b T s v n l) (k : Gr w w') : w'.ownsRow b T s v n l := by
  refine ⟨h.1, ?_⟩
  rcases h.2 with hn | ⟨g, cap, cur, rfl, hb, hgg, rest⟩
  · exact .inl hn
  · exact .inr ⟨g, cap, cur, rfl, hb, k.block hgg, rest⟩
theorem own_same {w w' : World} {b s n : Nat} {T : TypeId} {v : Value} {l : List Value} (h : w.ownsRow b T s v n l) (k : ∀ g, v.ownBlock = some g → w'.heap[g]? = w.heap[g]?) : w'.ownsRow b T s v n l := by
  refine ⟨h.1, ?_⟩
  rcases h.2 with hn | ⟨g, cap, cur, rfl, hb, hgg, rest⟩
  · exact .inl hn
  · exact .inr ⟨g, cap, cur, rfl, hb, by rw [k g rfl]; exact hgg, rest⟩
theorem own_in {w : World} {b s n : Nat} {T : TypeId} {v : Value} {l : List Value} (h : w.ownsRow b T s v n l) {g : Nat} (hg : v.ownBlock = some g) : g < w.heap.size ∧ b ≤ g := by
  rcases h.2 with ⟨rfl, _⟩ | ⟨g', cap, cur, rfl, hb, hgg, rest⟩
  · cases hg
  · cases hg
    exact ⟨(Array.getElem?_eq_some_iff.1 hgg).1, hb⟩
/-- the block G holds slices, each of which is a row of the call's own -/
structure GRow (w : World) (base G : Nat) (vs : List Value) (L : List (List Nat)) : Prop where
  blk : w.heap[G]? = some (.cells vs.toArray 23 (0, 0))
  len : vs.length = L.length
  own : ∀ (i : Nat) (v : Value) (l : List Nat), vs[i]? = some v → L[i]? = some l → w.ownsRow base 3 1 v l.length (nats l)
  apart : ∀ (i j : Nat) (v v' : Value) (g : Nat), vs[i]? = some v → vs[j]? = some v' → v.ownBlock = some g → v'.ownBlock = some g → i = j
  ng : ∀ (i : Nat) (v : Value), vs[i]? = some v → v.ownBlock ≠ some G
theorem GRow.gr {w w' : World} {base G : Nat} {vs : List Value} {L : List (List Nat)} (h : GRow w base G vs L) (k : Gr w w') : GRow w' base G vs L := by
  refine ⟨k.block h.blk, h.len, fun i v l hv hl => own_same (h.own i v l hv hl) fun g hg => ?_, h.apart, h.ng⟩
  exact Below.block k g (own_in (h.own i v l hv hl) hg).1
theorem GRow.zero {w : World} {base G m : Nat} (h : w.heap[G]? = some (.cells (Array.replicate m (Value.slice none 0 0)) 23 (0, 0))) : GRow w base G (List.replicate m (Value.slice none 0 0)) (List.replicate m []) := by
  have hz : ∀ (i : Nat) (v : Value), (List.replicate m (Value.slice none 0 0))[i]? = some v → v = Value.slice none 0 0 := fun i v hv => (List.mem_replicate.1 (List.mem_of_getElem? hv)).2
  refine ⟨by rw [h]; simp, by simp, fun i v l hv hl => ?_, fun i j v v' g hv _ hg _ => ?_, fun i v hv e => ?_⟩
  · obtain rfl := hz i v hv
    obtain rfl : l = [] := (List.mem_replicate.1 (List.mem_of_getElem? hl)).2
    exact World.ownsRow_nil _ _ _ _
  · obtain rfl := hz i v hv
    cases hg
  · obtain rfl := hz i v hv
    cases e
theorem GRow.put {w w' : World} {base G : Nat} {vs : List Value} {L : List (List Nat)} (h : GRow w base G vs L) {i : Nat} {v v' : Value} {l : List Nat} (hv : vs[i]? = some v) (hl : L[i]? = some l) (hg : w.grownBy w' v.ownBlock) (l' : List Nat)
    (hown : w'.ownsRow base 3 1 v' l'.length (nats l')) (hat : v'.ownBlock = v.ownBlock ∨ v'.ownBlock = some w.heap.size) : GRow (w'.setCell ⟨G, i, none⟩ v') base G (vs.set i v') (L.set i l') := by
  have hG := (Array.getElem?_eq_some_iff.1 h.blk).1
  have hb : w'.heap[G]? = some (.cells vs.toArray 23 (0, 0)) := by rw [hg.block G hG (fun e => h.ng i v hv e.symm)]; exact h.blk
  have hnG : v'.ownBlock ≠ some G := by
    rcases hat with e | e
    · rw [e]; exact h.ng i v hv
    · rw [e]; intro q; cases q; omega
  have hnew : ∀ j u g, j ≠ i → vs[j]? = some u → u.ownBlock = some g → v'.ownBlock ≠ some g := fun j u g hj hu hug => by
    rcases hat with e | e
    · rw [e]; intro q; exact hj (h.apart j i u v g hu hv hug q)
    · rw [e]; intro q; cases q
      obtain ⟨l2, hl2⟩ : ∃ l2, L[j]? = some l2 := ⟨L[j]'(by rw [← h.len]; exact (List.getElem?_eq_some_iff.1 hu).1), List.getElem?_eq_getElem _⟩
      have := (own_in (h.own j u l2 hu hl2) hug).1
      omega
  refine ⟨?_, by simp [h.len], fun j u l2 hu hl2 => ?_, fun j k u u' g hu hu' hug hug' => ?_, fun j u hu => ?_⟩
  · have := heap_setCell_same w' G i vs.toArray 23 v' hb
    simpa using this
  · by_cases e : j = i
    · subst e
      rw [List.getElem?_set_self (List.getElem?_eq_some_iff.1 hv).1] at hu
      rw [List.getElem?_set_self (List.getElem?_eq_some_iff.1 hl).1] at hl2
      cases hu
      cases hl2
      exact own_same hown fun g q => heap_setCell_other _ _ _ _ (fun r => hnG (by rw [q]; exact congrArg some r))
    · rw [List.getElem?_set_ne (Ne.symm e)] at hu hl2
      have ho := h.own j u l2 hu hl2
      refine own_same ho fun g q => ?_
      rw [heap_setCell_other _ _ _ _ (show g ≠ G from fun r => h.ng j u hu (by rw [q, r]))]
      exact hg.block g (own_in ho q).1 (fun r => e (h.apart j i u v g hu hv q r.symm))
  · by_cases e : j = i
    · by_cases e' : k = i
      · rw [e, e']
      · subst e
        rw [List.getElem?_set_self (List.getElem?_eq_some_iff.1 hv).1] at hu
        rw [List.getElem?_set_ne (Ne.symm e')] at hu'
        cases hu
        exact absurd hug (hnew k u' g e' hu' hug')
    · rw [List.getElem?_set_ne (Ne.symm e)] at hu
      by_cases e' : k = i
      · subst e'
        rw [List.getElem?_set_self (List.getElem?_eq_some_iff.1 hv).1] at hu'
        cases hu'
        exact absurd hug' (hnew j u g e hu hug)
      · rw [List.getElem?_set_ne (Ne.symm e')] at hu'
        exact h.apart j k u u' g hu hu' hug hug'
  · by_cases e : j = i
    · subst e
      rw [List.getElem?_set_self (List.getElem?_eq_some_iff.1 hv).1] at hu
      cases hu
      exact hnG
    · rw [List.getElem?_set_ne (Ne.symm e)] at hu
      exact h.ng j u hu
theorem GRow.cell {w : World} {base G : Nat} {vs : List Value} {L : List (List Nat)} (h : GRow w base G vs L) {i : Nat} {v : Value} (hv : vs[i]? = some v) : w.cell? ⟨G, i, none⟩ = some v := by
  rw [cell_of_row w G i _ _ (0, 0) h.blk]
  simpa using hv
theorem GRow.frozen {w : World} {base G : Nat} {vs : List Value} {L : List (List Nat)} (h : GRow w base G vs L) (i : Nat) : w.frozen? ⟨G, i, none⟩ = false := frozen_of_row w G i _ _ h.blk
theorem row_shape {w : World} {b n : Nat} {v : Value} {l : List Value} (h : w.ownsRow b 3 1 v n l) : ∃ p c, v = .slice p n c ∧ n ≤ c ∧ c ≤ maxLen := by
  rcases h.2 with ⟨rfl, rfl⟩ | ⟨g, cap, cur, rfl, _, _, h1, h2, _⟩
  · exact ⟨none, 0, rfl, Nat.le_refl _, by unfold maxLen; omega⟩
  · exact ⟨_, cap, rfl, h1, h2⟩
end Go.Proofs.YtcnpmebihdonoaaGreatDoor
