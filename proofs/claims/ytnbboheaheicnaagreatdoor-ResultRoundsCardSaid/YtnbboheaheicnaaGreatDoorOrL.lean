/- ResultOrders: the law. -/
import Derived.Test.YtnbboheaheicnaaGreatDoorOrMN
import Derived.Test.YtnbboheaheicnaaGreatDoorThNG
namespace Go.Proofs.YtnbboheaheicnaaGreatDoor
open Go.RowKit Go.Lib
set_option linter.unusedSimpArgs false
set_option linter.unusedVariables false
/-- awake() returns true, from this world on -/
abbrev AwakeOn (w : World) : Prop := ∀ W1, Gr w W1 → Calls Tryz.prog 6 #[] W1 fun e w' => e = .returned (.bool true) ∧ Gr W1 w'
set_option maxHeartbeats 1000000 in
set_option maxRecDepth 100000 in
/-- where there is nothing to say: Short says no, or there are more than eight, or an error -/
theorem ord_short (p : Option Addr) (n cap : Nat) (u : Value) (w : World) (hA : AwakeOn w)
    (hS : Calls Tryz.prog 5 #[.slice p n cap, .int .i64 8] w fun e w' => e = .returned (.bool false) ∧ w = w') :
    Calls Tryz.prog 4 #[.slice p n cap, u] w fun e w' => e = .returned (.bool true) ∧ Gr w w' := by
  have HS := Lib.hid hS
  have HA : Hid (AwakeOn w) := hA
  clear hS hA
  go_enter Tryz.func4, Tryz.ntmps4
  go_wp2_with (first
    | (refine HS.out.mono ?_; rintro e w4 ⟨rfl, rfl⟩)
    | (refine (HA.out _ (Gr.refl _)).mono ?_; rintro e w5 ⟨rfl, g5⟩))
  go_ret
  exact ⟨rfl, g5⟩
set_option maxHeartbeats 1000000 in
set_option maxRecDepth 100000 in
theorem ord_many (p : Option Addr) (n cap : Nat) (u : Value) (w : World) (hA : AwakeOn w) (hn : 8 < n ∨ n = 0)
    (hS : Calls Tryz.prog 5 #[.slice p n cap, .int .i64 8] w fun e w' => e = .returned (.bool true) ∧ w = w') :
    Calls Tryz.prog 4 #[.slice p n cap, u] w fun e w' => e = .returned (.bool true) ∧ Gr w w' := by
  have HS := Lib.hid hS
  have HA : Hid (AwakeOn w) := hA
  clear hS hA
  rcases hn with hn | rfl
  all_goals
    go_enter Tryz.func4, Tryz.ntmps4
    go_wp2_with (first
      | (refine HS.out.mono ?_; rintro e w4 ⟨rfl, rfl⟩)
      | (refine (HA.out _ (Gr.refl _)).mono ?_; rintro e w5 ⟨rfl, g5⟩))
    go_ret
    exact ⟨rfl, g5⟩
set_option maxHeartbeats 1000000 in
set_option maxRecDepth 100000 in
theorem ord_bad (p : Option Addr) (n cap : Nat) (u : Value) (w : World) (hA : AwakeOn w) (hn : n ≤ 8) (hn0 : 0 < n) (E : Int) (hE : E ≠ 0)
    (hS : Calls Tryz.prog 5 #[.slice p n cap, .int .i64 8] w fun e w' => e = .returned (.bool true) ∧ w = w')
    (hC : Calls Tryz.prog 10 #[.slice p n cap] w fun e w' => e = .returned (.int .i64 E) ∧ Gr w w') :
    Calls Tryz.prog 4 #[.slice p n cap, u] w fun e w' => e = .returned (.bool true) ∧ Gr w w' := by
  have HS := Lib.hid hS
  have HC := Lib.hid hC
  have HA : Hid (AwakeOn w) := hA
  have hE3 : (E != 0) = true := bne_iff_ne.2 hE
  have hn1 : ((n : Int) == 0) = false := beq_eq_false_iff_ne.2 (by omega)
  clear hS hA hC hE
  go_enter Tryz.func4, Tryz.ntmps4
  go_wp2_with (first
    | (refine HS.out.mono ?_; rintro e w4 ⟨rfl, rfl⟩)
    | (refine HC.out.mono ?_; rintro e w6 ⟨rfl, g6⟩)
    | (refine (HA.out _ g6).mono ?_; rintro e w5 ⟨rfl, g5⟩))
  go_ret
  exact ⟨rfl, g6.trans g5⟩
/-- rows that have been made of copies -/
structure Made (w : World) (base : Nat) (xs zs : List RowR) : Prop where
  len : zs.length = xs.length
  cpy : ∀ (i : Nat) (x z : RowR), xs[i]? = some x → zs[i]? = some z → ∃ g, base ≤ g ∧ Cpy w g x z
theorem Cps.made {w : World} {base : Nat} {xs ys : List RowR} {gs : List Nat} (h : Cps w base xs gs ys) : Made w base xs ys :=
  ⟨h.leny, fun i x z hx hz => by
    have hg : i < gs.length := by rw [h.leng]; exact (List.getElem?_eq_some_iff.1 hx).1
    exact ⟨_, (h.rng _ (List.getElem_mem hg)).1, h.cpy i x z _ hx hz (List.getElem?_eq_getElem hg)⟩⟩
theorem Made.gr {w w' : World} {base : Nat} {xs zs : List RowR} (h : Made w base xs zs) (k : Gr w w') : Made w' base xs zs :=
  ⟨h.len, fun i x z hx hz => by
    obtain ⟨g, hb, c⟩ := h.cpy i x z hx hz
    obtain ⟨cur, h1, _⟩ := c.cells
    exact ⟨g, hb, c.gr (by rw [k.block h1, h1])⟩⟩
theorem Made.kept {w w' : World} {base b2 s2 n2 : Nat} {xs zs : List RowR} {T2 : TypeId} {v2 : Value} {l2 : List Value} (h : Made w base xs zs) (ho : w.ownsRow b2 T2 s2 v2 n2 l2) (hne : (3 : TypeId) ≠ T2) (hg : w.grownBy w' v2.ownBlock) : Made w' base xs zs :=
  ⟨h.len, fun i x z hx hz => by
    obtain ⟨g, hb, c⟩ := h.cpy i x z hx hz
    obtain ⟨cur, h1, _⟩ := c.cells
    exact ⟨g, hb, c.gr (hg.block g (Array.getElem?_eq_some_iff.1 h1).1 (cell_apart h1 ho hne))⟩⟩
theorem Made.bare {w : World} {base : Nat} {xs zs : List RowR} (h : Made w base xs zs) : zs.map bare = xs.map Go.Proofs.YtnbboheaheicnaaGreatDoor.bare := by
  apply List.ext_getElem?
  intro i
  rw [List.getElem?_map, List.getElem?_map]
  by_cases hi : i < xs.length
  · have hz : i < zs.length := by rw [h.len]; exact hi
    obtain ⟨g, _, c⟩ := h.cpy i _ _ (List.getElem?_eq_getElem hi) (List.getElem?_eq_getElem hz)
    rw [List.getElem?_eq_getElem hi, List.getElem?_eq_getElem hz]
    simp only [Option.map_some, Go.Proofs.YtnbboheaheicnaaGreatDoor.bare, c.nm, c.st, c.xs]
  · rw [List.getElem?_eq_none (l := xs) (by omega), List.getElem?_eq_none (l := zs) (by rw [h.len]; omega)]
theorem Made.rows {w : World} {base b1 n : Nat} {v : Value} {xs zs : List RowR} {T : TypeId} (h : Made w base xs zs) (ho : w.ownsRow b1 T 3 v n (rowCs zs)) (hn : xs.length = n) (hl : ∀ x ∈ xs, x.xs.length ≤ 1000) : RowsV w v zs := by
  have hzn : zs.length = n := by rw [h.len, hn]
  by_cases h0 : 0 < n
  · obtain ⟨g, cap, rfl, _, h1, h2, h3⟩ := rows_of_owns (ys := zs) (by rw [hzn]; exact ho) (by omega) (fun i z hz => by
      have hx : i < xs.length := by rw [← h.len]; exact (List.getElem?_eq_some_iff.1 hz).1
      obtain ⟨g, _, c⟩ := h.cpy i _ z (List.getElem?_eq_getElem hx) hz
      exact ⟨c.val, by rw [c.xs]; exact hl _ (List.getElem_mem hx)⟩)
    exact ⟨_, cap, rfl, ⟨by omega, by omega⟩, fun _ => ⟨g, 0, rfl, fun i x hx => h3 i x hx⟩⟩
  · have hz : n = 0 := by omega
    subst hz
    rcases ho.2 with ⟨rfl, _⟩ | ⟨g, cap, cur, rfl, _, hg, hle, hmx, _, _⟩
    · exact ⟨none, 0, by rw [hzn], ⟨by omega, by unfold maxLen; omega⟩, fun h => by omega⟩
    · exact ⟨_, cap, by rw [hzn], ⟨by omega, by omega⟩, fun h => by omega⟩
theorem Made.nil (w : World) (base : Nat) : Made w base [] [] := ⟨rfl, fun i x z h => by simp at h⟩
theorem Made.add {w : World} {base g : Nat} {xs zs : List RowR} {x z : RowR} (h : Made w base xs zs) (hg : base ≤ g) (hc : Cpy w g x z) : Made w base (xs ++ [x]) (zs ++ [z]) := by
  refine ⟨by simp [h.len], fun i x' z' hx hz => ?_⟩
  by_cases hi : i < xs.length
  · rw [List.getElem?_append_left hi] at hx
    rw [List.getElem?_append_left (by rw [h.len]; exact hi)] at hz
    exact h.cpy i x' z' hx hz
  · have hl := (List.getElem?_eq_some_iff.1 hx).1
    simp only [List.length_append, List.length_cons, List.length_nil] at hl
    have e : i = xs.length := by omega
    subst e
    rw [List.getElem?_append_right (Nat.le_refl _), Nat.sub_self] at hx
    rw [List.getElem?_append_right (by rw [h.len]; exact Nat.le_refl _), h.len, Nat.sub_self] at hz
    simp only [List.getElem?_cons_zero, Option.some.injEq] at hx hz
    subst hx hz
    exact ⟨g, hg, hc⟩
theorem rowCs_set {ys : List RowR} {k : Nat} {y y' : RowR} (hy : ys[k]? = some y) (h : rowC y' = rowC y) : rowCs (ys.set k y') = rowCs ys := by
  unfold rowCs
  rw [List.flatMap_def, List.flatMap_def]
  congr 1
  apply List.ext_getElem?
  intro i
  rw [List.getElem?_map, List.getElem?_map, List.getElem?_set]
  by_cases hki : k = i
  · subst hki
    rw [if_pos rfl, if_pos (List.getElem?_eq_some_iff.1 hy).1, hy]
    simp [h]
  · rw [if_neg hki]
theorem raised_rows {w : World} {base n : Nat} {xs ys : List RowR} {gs : List Nat} {v : Value} {T : TypeId} (hc : Cps w base xs gs ys) (ho : w.ownsRow base T 3 v n (rowCs ys)) (hn : xs.length = n) (hT : (3 : TypeId) ≠ T) {k g : Nat} {x y : RowR} (hx : xs[k]? = some x) (hy : ys[k]? = some y) (hg : gs[k]? = some g)
    {a : Int} {t : List Int} (hxs : x.xs = a :: t) (hl : ∀ x ∈ xs, x.xs.length ≤ 1000) (b' : Int) :
    RowsV (w.setCell ⟨g, 0, none⟩ (.int .i64 b')) v (ys.set k ⟨y.nm, y.st, y.u, b' :: t⟩) := by
  have hyn : ys.length = n := by rw [hc.leny, hn]
  have hcy := hc.cpy k x y g hx hy hg
  obtain ⟨cur, hgc, hgt⟩ := hcy.cells
  have hoth : ∀ (b : Nat) (o : Obj), b ≠ g → w.heap[b]? = some o → (w.setCell ⟨g, 0, none⟩ (.int .i64 b')).heap[b]? = some o := fun b o hb h => by rw [heap_setCell_other _ _ _ _ hb]; exact h
  have hset := heap_setCell_same w g 0 cur 3 (.int .i64 b') hgc
  have ho' : (w.setCell ⟨g, 0, none⟩ (.int .i64 b')).ownsRow base T 3 v n (rowCs (ys.set k ⟨y.nm, y.st, y.u, b' :: t⟩)) := by
    rw [rowCs_set (y' := ⟨y.nm, y.st, y.u, b' :: t⟩) hy rfl]
    refine ⟨ho.1, ?_⟩
    rcases ho.2 with h2 | ⟨gv, cap, cv, rfl, hb, hcv, r⟩
    · exact .inl h2
    · refine .inr ⟨gv, cap, cv, rfl, hb, hoth gv _ (fun e => ?_) hcv, r⟩
      subst e
      rw [hgc] at hcv
      cases hcv
      exact hT rfl
  have hn0 : 0 < n := by have := (List.getElem?_eq_some_iff.1 hx).1; omega
  have hlen : (ys.set k ⟨y.nm, y.st, y.u, b' :: t⟩).length = n := by rw [List.length_set, hyn]
  obtain ⟨gv, cap, rfl, _, h1, h2, h3⟩ := rows_of_owns (ys := ys.set k ⟨y.nm, y.st, y.u, b' :: t⟩) (by rw [hlen]; exact ho') (by omega) (fun i z hz => by
    rw [List.getElem?_set] at hz
    by_cases hki : k = i
    · subst hki
      rw [if_pos rfl, if_pos (by have := (List.getElem?_eq_some_iff.1 hy).1; exact this)] at hz
      cases hz
      have hlx := hl x (List.mem_of_getElem? hx)
      rw [hxs] at hlx hgt
      refine ⟨?_, by simpa using hlx⟩
      obtain ⟨capu, hu, _, _⟩ := hcy.u
      rw [hxs] at hu
      show IntsV _ y.u (b' :: t)
      rw [hu]
      refine ⟨_, capu, rfl, fun _ => ⟨g, 0, rfl, fun j q hj => ?_⟩⟩
      rw [Nat.zero_add, cell_of_row _ g j _ 3 (0, 0) hset, Array.getElem?_setIfInBounds]
      have hcs : 0 < cur.size := by
        have := congrArg List.length hgt
        simp [ints] at this
        omega
      by_cases hj0 : 0 = j
      · subst hj0
        rw [if_pos rfl, if_pos hcs]
        simp at hj
        rw [hj]
      · rw [if_neg hj0]
        have e : (cur.toList.take (a :: t).length)[j]? = some (.int .i64 q) := by
          rw [hgt]
          obtain ⟨j', rfl⟩ : ∃ j', j = j' + 1 := ⟨j - 1, by omega⟩
          simp only [List.getElem?_cons_succ] at hj
          simp [ints, hj]
        have hjl := (List.getElem?_eq_some_iff.1 hj).1
        rw [List.getElem?_take, if_pos (by simpa using hjl), Array.getElem?_toList] at e
        exact e
    · rw [if_neg hki] at hz
      have hil := (List.getElem?_eq_some_iff.1 hz).1
      have hxi : i < xs.length := by rw [← hc.leny]; exact hil
      have hgi : i < gs.length := by rw [hc.leng]; exact hxi
      have ci := hc.cpy i _ z _ (List.getElem?_eq_getElem hxi) hz (List.getElem?_eq_getElem hgi)
      have hne : gs[i] ≠ g := fun e => by
        have := hc.apart i k g (by rw [List.getElem?_eq_getElem hgi, e]) hg
        omega
      obtain ⟨ci2, e1, _⟩ := ci.cells
      exact ⟨(ci.gr (by rw [hoth _ _ hne e1, e1])).val, by rw [ci.xs]; exact hl _ (List.getElem_mem hxi)⟩)
  rw [hlen]
  exact ⟨_, cap, by rw [hlen], ⟨by rw [hlen]; omega, by omega⟩, fun _ => ⟨gv, 0, rfl, fun i x hx => h3 i x hx⟩⟩
theorem raised_bare {xs ys : List RowR} {k : Nat} {x y : RowR} {a : Int} {t : List Int} (h : ys.map bare = xs.map bare) (hx : xs[k]? = some x) (hy : ys[k]? = some y) (hxs : x.xs = a :: t) : (ys.set k ⟨y.nm, y.st, y.u, (a + 1) :: t⟩).map bare = (xs.map bare).set k (up (bare x) a t) := by
  rw [List.map_set, h]
  congr 1
  have : (ys.map bare)[k]? = (xs.map bare)[k]? := by rw [h]
  rw [List.getElem?_map, List.getElem?_map, hx, hy] at this
  simp only [Option.map_some, Option.some.injEq] at this
  have e1 : y.nm = x.nm := congrArg Bare.nm this
  have e2 : y.st = x.st := congrArg Bare.st this
  simp [bare, up, e1, e2]
theorem rank_raised (hS : SortFOK) {zs : List RowR} {v : Value} {W : World} {n k : Nat} {z : RowR} {rk : Int} (h : RowsV W v zs) (hn : zs.length = n) (h0 : 0 < n) (h1 : n ≤ 160) (hSt : StatesIn W) (hV : ValidB (zs.map bare)) (hz : zs[k]? = some z) (hle : rankB (zs.map bare) (bare z) ≤ rk) :
    Calls Tryz.prog 7 #[v] W fun e w' => ∃ R t, e = .returned (.tuple #[.slice (some ⟨R, 0, none⟩) n n, .int .i64 0]) ∧ w'.cell? ⟨R, k, none⟩ = some (.int .i64 t) ∧ t ≤ rk ∧ Gr W w' := by
  refine (rank_ok hS zs h (by omega) (by omega) hSt (zero_of_valid hV)).mono ?_
  rintro e w' ⟨R, rfl, hR, hh, g⟩
  rw [ranksL_bare] at hh
  exact ⟨R, _, by rw [hn], cell_ints hh (ranksB_at (by rw [List.getElem?_map, hz]; rfl)), hle, g⟩
theorem through_ok (hS : SortFOK) (I : InsOK) {ys : List RowR} {v : Value} {W : World} (h : RowsV W v ys) (h0 : 0 < ys.length) (h1 : ys.length < 20) (hSt : StatesIn W) (hV : ValidB (ys.map bare)) (m : Int) (hm : 0 ≤ m ∧ m ≤ 160) :
    Calls Tryz.prog 9 #[v, .int .i64 m] W fun e w' => ∃ u, e = .returned (.tuple #[u, .int .i64 0]) ∧ StrsV w' u (thruB (ys.map bare) m) ∧ Gr W w' := by
  obtain ⟨⟨p, cap, rfl, hcap, hh⟩⟩ := h
  obtain ⟨b, off, rfl, hc⟩ := hh h0
  rw [← thru_bare]
  exact through_pos hS I ys _ b off cap m W rfl h0 h1 hcap.1 hcap.2 hSt hc (zero_of_valid hV) (outE_zero.2 hm)
end Go.Proofs.YtnbboheaheicnaaGreatDoor
