/- Places: the program's. -/
import Derived.Test.YthfmgficbnmmnaaGreatDoorGPlA
namespace Go.Proofs.YthfmgficbnmmnaaGreatDoor
open Go.RowKit Go.Shelf
set_option linter.unusedSimpArgs false
set_option linter.unusedVariables false
attribute [local go_sem] Oper.semAt_some
theorem roundsE_zero {ls : List (List RaR)} (h : roundsE ls = 0) : ∃ m, ls.length = m + 1 ∧ m + 1 ≤ 6 ∧ ∀ (i : Nat) (l : List RaR), ls[i]? = some l → 1 ≤ l.length ∧ l.length ≤ 32 := by
  unfold roundsE at h
  split at h
  · cases h
  · rename_i h1
    split at h
    · cases h
    · rename_i h2
      refine ⟨ls.length - 1, by omega, by omega, fun i l hl => ?_⟩
      have h3 := firstE_zero h _ (List.mem_cons_self ..)
      have hi := (List.getElem?_eq_some_iff.1 hl).1
      have h4 := errG_zero ls.length 0 h3 (by omega) i l (by omega) (by omega) hl
      have h5 : racesE l = 0 := by
        unfold rndE at h4
        by_cases e : racesE l = 0
        · exact e
        · rw [if_neg e] at h4; exact absurd h4 e
      rcases (racesE_zero h5).1 with h6 | ⟨N, h6, h7, h8⟩ <;> omega
/-- blocks of cells stay, but for block X, and blocks of places from base on -/
def KpP (base X : Nat) (A B : World) : Prop := ∀ (k : Nat) (cur : Array Value) T z, A.heap[k]? = some (.cells cur T z) → (k = X → T ≠ 39) → (k < base ∨ T ≠ 60) → B.heap[k]? = some (.cells cur T z)
theorem kpP_t {base X : Nat} {A B C : World} (h : KpP base X A B) (k : KpP base X B C) : KpP base X A C := fun i cur T z hi h1 h2 => k i cur T z (h i cur T z hi h1 h2) h1 h2
theorem kpP_gr {base X : Nat} {A B : World} (h : Gr A B) : KpP base X A B := fun k cur T z hk _ _ => Gr.block h hk
theorem kpP_putObj {base X : Nat} (W : World) (l : Nat) (o o' : Obj) (h : W.heap[l]? = some o) (ho : o.isCells = false) : KpP base X W (W.putObj l o') := fun k cur T z hk _ _ => kpAll_putObj W l o o' h ho k cur T z hk
theorem kpP_setCell (base X : Nat) (W : World) (v : Value) {u : Value} (hX : W.heap[X]? = some (.cells #[u] 39 (0, 0))) : KpP base X W (W.setCell ⟨X, 0, none⟩ v) := fun k cur T z hk h1 _ => (Below.heap_setCell _ _ _ _ (fun e => by
  have e : k = X := e
  subst e
  rw [hX] at hk
  cases hk
  exact h1 rfl rfl)).trans hk
theorem kpP_grown {base X : Nat} {W W' : World} {n : Nat} {v : Value} {xs : List Value} (h : W.ownsRow base 60 2 v n xs) (hg : W.grownBy W' v.ownBlock) : KpP base X W W' := fun k cur T z hk h1 h2 =>
  (hg.block k (Array.getElem?_eq_some_iff.1 hk).1 (fun e => by
    rcases h.2 with ⟨rfl, _⟩ | ⟨g, cap, cur', rfl, hb, hgg, _⟩
    · cases e
    · cases e
      rw [hgg] at hk
      cases hk
      rcases h2 with h2 | h2
      · have hb' : base ≤ g := hb
        have h2' : g < base := h2
        omega
      · exact h2 rfl)).trans hk
theorem kpP_cell {base X : Nat} {A B : World} (h : KpP base X A B) {b o : Nat} {v : Value} (hb : b < base) (hx : b ≠ X) (hc : A.cell? ⟨b, o, none⟩ = some v) : B.cell? ⟨b, o, none⟩ = some v := by
  obtain ⟨cur, T, z, hbk⟩ : ∃ cur T z, A.heap[b]? = some (.cells cur T z) := by
    unfold World.cell? at hc
    split at hc
    · rename_i cur T z hbk; exact ⟨cur, T, z, hbk⟩
    · cases hc
  exact (World.cell?_of_block (a := ⟨b, o, none⟩) ((h b cur T z hbk (fun e => absurd e hx) (.inl hb)).trans hbk.symm)).trans hc
theorem kpP_ra {base X : Nat} {A B : World} (h : KpP base X A B) {p : Option Addr} {l : List RaR} (hp : 0 < l.length → ∀ b off, p = some ⟨b, off, none⟩ → b < base ∧ b ≠ X) (hr : RaS A p l) : RaS B p l := ⟨fun h0 => by
  obtain ⟨b, off, e, hc⟩ := hr.out h0
  obtain ⟨h1, h2⟩ := hp h0 b off e
  exact ⟨b, off, e, fun i r hx => ⟨kpP_cell h h1 h2 (hc i r hx).1, kpP_cell h h1 h2 (hc i r hx).2.1, kpP_cell h h1 h2 (hc i r hx).2.2⟩⟩⟩
theorem ra_low {w : World} {p : Option Addr} {l : List RaR} (hr : RaS w p l) (h0 : 0 < l.length) : ∀ b off, p = some ⟨b, off, none⟩ → b < w.heap.size := fun b off e => by
  obtain ⟨b2, off2, e2, hc⟩ := hr.out h0
  rw [e] at e2
  cases e2
  obtain ⟨r, hr0⟩ : ∃ r, l[0]? = some r := ⟨l[0], List.getElem?_eq_getElem h0⟩
  exact World.block_lt_of_cell? w ⟨b, off + 0 * 3, none⟩ (hc 0 r hr0).1
/-- the box of the places -/
structure PlI (base X : Nat) (L : List PlR) (W : World) : Prop where
  mk' ::
  out : ∃ v, W.heap[X]? = some (.cells #[v] 39 (0, 0)) ∧ W.ownsRow base 60 2 v L.length (plCs L)
theorem PlI.own {base X : Nat} {β : Type} (f : β → List PlR) : Own (fun (s : β) W => PlI base X (f s) W) := fun s A B row hs hg hr => by
  obtain ⟨v, h1, h3⟩ := hs.out
  exact ⟨v, (hg.block X (Array.getElem?_eq_some_iff.1 h1).1 (fun e => by obtain ⟨o, ho, hc⟩ := hr X e.symm; rw [h1] at ho; cases ho; cases hc)).trans h1, own_turn h3 hg hr⟩
theorem PlI.gr {base X : Nat} {L : List PlR} {W W' : World} (h : PlI base X L W) (g : Gr W W') : PlI base X L W' := by
  obtain ⟨v, h1, h3⟩ := h.out
  exact ⟨v, Gr.block g h1, own_kept h3 g⟩
/-- places in memory -/
structure PlS (w : World) (q : Option Addr) (l : List PlR) : Prop where
  mk' ::
  out : 0 < l.length → ∃ b off, q = some ⟨b, off, none⟩ ∧ ∀ (i : Nat) (r : PlR), l[i]? = some r → w.cell? ⟨b, off + i * 2, none⟩ = some (.string r.nm) ∧ w.cell? ⟨b, off + i * 2 + 1, none⟩ = some (.int .i64 r.k)
theorem PlS.gr {w w' : World} {q : Option Addr} {l : List PlR} (h : PlS w q l) (k : Gr w w') : PlS w' q l := ⟨fun h0 => by
  obtain ⟨g, off, e, hc⟩ := h.out h0
  exact ⟨g, off, e, fun i r hr => ⟨k.cell (hc i r hr).1, k.cell (hc i r hr).2⟩⟩⟩
theorem plCs_at {xs : List PlR} {i : Nat} {x : PlR} (h : xs[i]? = some x) (j : Nat) (hj : j < 2) : (plCs xs)[i * 2 + j]? = (plC x)[j]? := by
  induction xs generalizing i with
  | nil => simp at h
  | cons y ys ih =>
    have e : plCs (y :: ys) = plC y ++ plCs ys := rfl
    rw [e]
    cases i with
    | zero =>
      simp only [List.getElem?_cons_zero, Option.some.injEq] at h
      subst h
      rw [show 0 * 2 + j = j by omega, List.getElem?_append_left (by simp [plC]; omega)]
    | succ i =>
      rw [List.getElem?_append_right (by simp [plC]; omega)]
      have := ih (i := i) (by simpa using h)
      rw [← this]
      congr 1
      simp [plC]; omega
theorem PlS.of_own {w : World} {b n : Nat} {T : TypeId} {q : Option Addr} {c : Nat} {l : List PlR} (h : w.ownsRow b T 2 (.slice q n c) n (plCs l)) (hn : l.length = n) : PlS w q l := ⟨fun h0 => by
  rcases h.2 with ⟨e, hz⟩ | ⟨g, cap, cur, e, _, _, hle, hmx, _, _⟩
  · omega
  · simp only [Value.slice.injEq] at e
    obtain ⟨rfl, _, rfl⟩ := e
    refine ⟨g, 0, rfl, fun i r hr => ?_⟩
    have hi := (List.getElem?_eq_some_iff.1 hr).1
    have c0 := h.cellAt (i * 2 + 0) (by omega)
    have c1 := h.cellAt (i * 2 + 1) (by omega)
    rw [plCs_at hr _ (by omega)] at c0 c1
    rw [Nat.zero_add]
    exact ⟨c0, c1⟩⟩
theorem PlI.store {base X : Nat} {L : List PlR} {A B : World} {v v1 : Value} {r : PlR} (hX : X < base) (hc : A.heap[X]? = some (.cells #[v] 39 (0, 0))) (hown : A.ownsRow base 60 2 v L.length (plCs L)) (hg : A.grownBy B v.ownBlock) (hown1 : B.ownsRow base 60 2 v1 (L.length + 1) (plCs L ++ plC r)) :
    (B.cell? ⟨X, 0, none⟩ = some v ∧ B.frozen? ⟨X, 0, none⟩ = false) ∧ PlI base X (L ++ [r]) (B.setCell ⟨X, 0, none⟩ v1) ∧ KpP base X A (B.setCell ⟨X, 0, none⟩ v1) ∧ KeepsOthers A (B.setCell ⟨X, 0, none⟩ v1) := by
  have hne : v.ownBlock ≠ some X := fun e => by
    have := (own_in hown e).2
    omega
  have hb := (hg.block X (Array.getElem?_eq_some_iff.1 hc).1 (fun e => hne e.symm)).trans hc
  refine ⟨⟨cell1_of hb, frozen_of_row _ _ 0 _ _ hb⟩, ⟨v1, ?_, ?_⟩, kpP_t (kpP_grown hown hg) (kpP_setCell _ _ _ _ hb), (own_others hown hg).trans (KeepsOthers.setCell _ _ _)⟩
  · have := heap_setCell_same B X 0 _ _ v1 hb
    simpa using this
  · rw [List.length_append, plCs_add]
    exact own_same hown1 (fun g e => Below.heap_setCell _ _ _ _ (fun e2 => by
      have h3 := (own_in hown1 e).2
      have h4 : g = X := e2
      omega))
theorem PlI.below {base X n₀ : Nat} {L : List PlR} {w A B : World} {v v1 : Value} (hX : X < base) (hn : n₀ ≤ X) (hw : Below n₀ w A) (hA : n₀ ≤ A.heap.size) (hown : A.ownsRow base 60 2 v L.length (plCs L)) (hg : A.grownBy B v.ownBlock) : Below n₀ w (B.setCell ⟨X, 0, none⟩ v1) :=
  (Below.grown hw hg hA (fun q hq => by have := (own_in hown hq).2; omega)).setCell (p := ⟨X, 0, none⟩) hn _
theorem kpP_turn {base X : Nat} {A B : World} {row : Option Nat} (hg : A.grownBy B row) (hr : ∀ r, row = some r → ∃ o : Obj, A.heap[r]? = some o ∧ o.isCells = false) : KpP base X A B := fun k cur T z hk _ _ =>
  (hg.block k (Array.getElem?_eq_some_iff.1 hk).1 (fun e => by obtain ⟨o, ho, hc⟩ := hr k e.symm; rw [hk] at ho; cases ho; cases hc)).trans hk
theorem KeepsFrom.turn {n₀ : Nat} {W A B : World} {row : Option Nat} (h : KeepsFrom n₀ W A) (hg : A.grownBy B row) (hr : ∀ r, row = some r → W.heap.size ≤ r) : KeepsFrom n₀ W B := ⟨Nat.le_trans h.size hg.size, fun k o hk ho hc => by
  have h1 := h.same k o hk ho hc
  exact (hg.block k (Array.getElem?_eq_some_iff.1 h1).1 (fun e => by have h2 := hr k e.symm; have h3 := (Array.getElem?_eq_some_iff.1 ho).1; omega)).trans h1⟩
theorem keepS {base X k9 k10 : Nat} {A B : World} {ya yb : ByteArray} {yw : Int} {u : Value} (h10 : A.heap[k10]? = some (.cells #[.string ya, .string yb, .int .i64 yw] 55 (0, 0))) (h9 : A.heap[k9]? = some (.cells #[u] 30 (0, 0))) (hk : KpP base X A B) (hne : k9 ≠ X) :
    B.cell? ⟨k10, 0, none⟩ = some (.string ya) ∧ B.cell? ⟨k10, 1, none⟩ = some (.string yb) ∧ B.cell? ⟨k10, 2, none⟩ = some (.int .i64 yw) ∧ B.cell? ⟨k9, 0, none⟩ = some u := by
  obtain ⟨e0, e1, e2⟩ := cells3_of (hk k10 _ _ _ h10 (fun _ h => by cases h) (.inr (by decide)))
  exact ⟨e0, e1, e2, cell1_of (hk k9 _ _ _ h9 (fun _ h => by cases h) (.inr (by decide)))⟩
theorem places_eq {xs : List Rd} {n : Nat} {ys : List { i : Nat // i < n }} (hy : ys.map (fun y => y.1) = (List.range n).reverse) (hn : xs.length = n) : ys.flatMap (fun y => rndP (xs.getD y.1 default).l) = (xs.map Rd.l).reverse.flatMap rndP := by
  have e1 : ys.flatMap (fun y => rndP (xs.getD y.1 default).l) = (ys.map (fun y => y.1)).flatMap (fun i => rndP (xs.getD i default).l) := by
    rw [List.flatMap_map]
  have e2 : xs.map Rd.l = (List.range n).map (fun i => (xs.getD i default).l) := by
    apply List.ext_getElem
    · simp [hn]
    · intro i h1 h2
      simp at h1
      simp [List.getD_eq_getElem?_getD, h1]
  rw [e1, hy, e2, ← List.map_reverse, List.flatMap_map]
theorem cell_two6 (w : World) (a b : Value) (T : TypeId) : ∀ (j : Nat) (u : Value), [a, b][j]? = some u → (w.alloc (.cells #[a, b] T)).cell? ((⟨w.heap.size, 0, none⟩ : Addr).add j) = some u := by
  intro j u h
  rw [addr_add]
  match j, h with
  | 0, h => simp at h; subst h; exact cell_new w #[a, b] T 0 (by simp)
  | 1, h => simp at h; subst h; exact cell_new w #[a, b] T 1 (by simp)
  | j + 2, h => simp at h
theorem infoPl : (Tryz.prog.info? 60).map (fun i => (i.zero, i.size, i.bytes)) = some (some (.agg #[.string ⟨#[]⟩, .int .i64 0]), 2, 24) := by kernel_rfl
set_option maxRecDepth 100000 in
/-- one more place, appended -/
theorem step_pl {w : World} {o : Oper} {a : Act} {K : Act → World → Prop} {Q : Exit → Act → World → Prop} (TS T : TypeId) (hu : Tryz.prog.underlying TS = some (.slice T)) (hT : (Tryz.prog.info? T).map (fun i => (i.zero, i.size, i.bytes)) = some (some (.agg #[.string ⟨#[]⟩, .int .i64 0]), 2, 24))
    (s x : Operand) (ho : o.op = .call { callee := .builtin .append, args := #[s, x], argTypes := #[TS, TS] })
    (base : Nat) (v : Value) (n : Nat) (xs : List Value) (hs : a.eval s = v) (hown : w.ownsRow base T 2 v n xs) (r : PlR) (g c : Nat) (hx : a.eval x = .slice (some ⟨g, 0, none⟩) 1 c)
    (h0 : w.cell? ⟨g, 0, none⟩ = some (.string r.nm)) (h1 : w.cell? ⟨g, 1, none⟩ = some (.int .i64 r.k)) (hn : n ≤ 1000) (hbase : base ≤ w.heap.size)
    (h : ∀ v' w', w'.ownsRow base T 2 v' (n + 1) (xs ++ plC r) → w.grownBy w' v.ownBlock → K (a.put o.dst v') w') : Oper.wp Tryz.prog o a w K Q := by
  obtain ⟨i1, hj, hy0, hy1, hy2⟩ := info_parts hT
  obtain ⟨v', w', hr, e2, e3, _, _⟩ := run_append_own_at (P := Tryz.prog) w base TS o.type T i1 (.agg #[.string ⟨#[]⟩, .int .i64 0]) 2 24 hu hj hy0 hy1 hy2 rfl (by decide) v n xs hown ⟨g, 0, none⟩ 1 c (plC r) (by simp [plC])
    (fun j u hu => by
      have ea : (⟨g, 0, none⟩ : Addr).add j = ⟨g, j, none⟩ := by unfold Addr.add; split <;> simp_all
      rw [ea]
      unfold plC at hu
      rcases j with _ | _ | j <;> simp at hu <;> subst hu <;> assumption)
    (fun u hu => by unfold plC at hu; simp at hu; rcases hu with rfl | rfl <;> rfl) (by unfold maxLen; omega) (by omega) hbase
  unfold Oper.wp
  simp [execOp, ho, resolve, invoke, builtin, hs, hx, hr, Result.andThen]
  exact h v' w' e2 e3
set_option maxHeartbeats 4000000 in
set_option maxRecDepth 100000 in
theorem places_ok (xs : List Rd) (v : Value) (w : World) (hv : RdAts w v xs) (hs : ∀ x ∈ xs, x.l.length ≤ 34) (h0 : roundsE (xs.map Rd.l) = 0) :
    Calls Tryz.prog 13 #[v] w fun e w' => ∃ q c, e = .returned (.tuple #[.slice q (placesL (xs.map Rd.l)).length c, .int .i64 0]) ∧ PlS w' q (placesL (xs.map Rd.l)) ∧ Gr w w' := by
  have HC0 := checkRounds_c xs v w hv hs
  rw [h0] at HC0
  have HC := Lib.hid HC0
  have HV := Lib.hid hv
  obtain ⟨m, hm, hm6, hml⟩ := roundsE_zero h0
  rw [List.length_map] at hm
  obtain ⟨⟨p, cap, rfl, ⟨hcap, hmx⟩, hh⟩⟩ := hv
  obtain ⟨b, off, rfl, hc⟩ := hh (by omega)
  obtain ⟨x, hx⟩ : ∃ x, xs[m]? = some x := ⟨xs[m]'(by omega), List.getElem?_eq_getElem _⟩
  have hxm : (xs.map Rd.l)[m]? = some x.l := by rw [List.getElem?_map, hx]; rfl
  have hx1 := hml m x.l hxm
  have hxa := hc m x hx
  obtain ⟨r, hr⟩ : ∃ r, x.l[0]? = some r := ⟨x.l[0]'(by omega), List.getElem?_eq_getElem _⟩
  obtain ⟨bx, ox, hbx, hcx⟩ := hxa.ok.ra.out (by omega)
  obtain ⟨c0, c1, c2⟩ := hcx 0 r hr
  rw [Nat.zero_mul, Nat.add_zero] at c0 c1 c2
  have hxl := hxa.ok.len
  have cxx := hxa.nm
  rw [hbx] at cxx
  have htop : topP (xs.map Rd.l) = if (winR r).toList = [] then [] else [⟨winR r, 1⟩] := by
    unfold topP
    rw [last_of hm hx, List.getD_eq_getElem?_getD, hr]; rfl
  rw [hm] at hcap HC ⊢
  have HTP := Lib.hid htop
  have HCC := Lib.hid hc
  have HSS := Lib.hid hs
  have HML := Lib.hid hml
  have HM := Lib.hid hm
  have hnn : ((m + 1 : Nat) : Int) - 1 = (m : Int) := by omega
  have hmm : (m : Int) < ((m + 1 : Nat) : Int) := by omega
  have hxn : (0 : Int) < (x.n : Int) := by omega
  have hIN := fun V => inR_c r r.w V
  obtain ⟨xa, xb, xw⟩ := r
  have HIN : Hid (∀ V, Calls Tryz.prog 46 #[.agg #[.string xa, .string xb, .int .i64 xw], .int .i64 xw] V fun e w' => e = .returned (.string (winR ⟨xa, xb, xw⟩)) ∧ Gr V w') := hIN
  simp only at c0 c1 c2
  clear hc hs hml hm hxm hx1 hxa hr hcx htop HC0 h0 hh hIN hx
  generalize winR ⟨xa, xb, xw⟩ = nm at *
  refine (callsIn_wide (n := 6)).1 ?_
  refine callsIn_of_wp_marks Tryz.func13 rfl trivial ?_ rfl
  simp only [Tryz.ntmps13, List.size_toArray, List.length_cons, List.length_nil, Nat.reduceAdd, Nat.reduceSub, Array.replicate_succ, Array.replicate_zero, List.push_toArray, List.append_toArray, List.nil_append, List.cons_append]
  gi_wp2_with fail
  refine ⟨trivial, ?_⟩
  gi_at_call 45
  refine (callsIn_wide.2 HC.out).mono ?_
  rintro e W1 ⟨rfl, g1⟩
  replace c0 := g1.cell c0
  replace c1 := g1.cell c1
  replace c2 := g1.cell c2
  replace cxx := g1.cell cxx
  have G1 := Lib.hid g1
  clear g1 HC
  gi_wp2_with fail
  obtain ⟨W2, hW2, g2, f0, f1, f2⟩ := box3 W1 (.string xa) (.string xb) (.int .i64 xw) 55
  obtain ⟨W3, hW3, g3, x0⟩ := box1 W2 (.slice none 0 0) 39
  have hs2 : W2.heap.size = W1.heap.size + 1 := by rw [← hW2]; simp
  have hs3 : W3.heap.size = W1.heap.size + 2 := by rw [← hW3]; simp [hs2]
  have xb : W3.heap[W1.heap.size + 1]? = some (.cells #[.slice none 0 0] 39 (0, 0)) := by rw [← hW3, ← hs2]; exact heap_alloc_new W2 _
  rw [hs2] at x0
  rw [hW2, hW3]
  have HPI0 : Hid (PlI (W1.heap.size + 2) (W1.heap.size + 1) [] W3) := ⟨_, xb, World.ownsRow_nil _ _ _ _⟩
  have HS3 := Lib.hid hs3
  have HWS : Hid (w.heap.size ≤ W1.heap.size) := G1.out.size
  have G3 : Gr w W3 := G1.out.trans (g2.trans g3)
  clear hW2 hW3 hs2 xb x0 c0 c1 c2 cxx
  refine ⟨trivial, ?_⟩
  gi_at_call 46
  refine (callsIn_wide.2 (HIN.out W3)).mono ?_
  rintro e W4 ⟨rfl, g4⟩
  have HPI := Lib.hid (HPI0.out.gr g4)
  have G4 := Lib.hid (G3.trans g4)
  have HS4 : Hid (W1.heap.size + 2 ≤ W4.heap.size) := by have := Below.size g4; have := HS3.out; rw [Hid]; omega
  clear g2 g3 g4 f0 f1 f2 HPI0 HS3 hs3 G3
  have HA : (nm.toList = [] ∧ nm.toList.isEmpty = true) ∨ (¬ nm.toList = [] ∧ nm.toList.isEmpty = false) := by cases nm.toList <;> simp
  obtain ⟨X, hX⟩ : ∃ X, W1.heap.size + 1 = X := ⟨_, rfl⟩
  obtain ⟨base, hbase⟩ : ∃ base, W1.heap.size + 2 = base := ⟨_, rfl⟩
  have HXB : Hid (X + 1 = base ∧ w.heap.size < base ∧ w.heap.size < X + 1) := by have := HWS.out; rw [Hid, ← hX, ← hbase]; omega
  rw [hX, hbase] at HPI
  rw [hbase] at HS4
  rw [hX]
  rcases HA with ⟨ha, ha2⟩ | ⟨ha, ha2⟩
  · rw [if_pos ha] at HTP
    gi_wp2_with fail
    refine ⟨trivial, ?_⟩
    gi_at_call 47
    refine (callsIn_wide.2 (backward_c (some ⟨b, off, none⟩) (m + 1) cap W4)).mono ?_
    rintro e W6 ⟨rfl, hW6⟩
    obtain ⟨W7, hW7, g7, bk0⟩ := box1 W4 (.slice (some ⟨b, off, none⟩) (m + 1) cap) 22
    obtain rfl : W7 = W6 := hW7.symm.trans hW6.symm
    have hBl : W7.heap[W4.heap.size]? = some (.cells #[.slice (some ⟨b, off, none⟩) (m + 1) cap] 22 (0, 0)) := by rw [← hW7]; exact heap_alloc_new W4 _
    have G7 := Lib.hid (G4.out.trans g7)
    have HBK : Hid (BkF W4.heap.size b off (m + 1) cap xs W7) := ⟨hBl, fun i x hx => G7.out.cell (HCC.out i x hx).nm⟩
    have HP7 := Lib.hid (HPI.out.gr g7)
    have HS7 : Hid (base ≤ W7.heap.size) := Nat.le_trans HS4.out (Below.size g7)
    have HBl7 : Hid (base ≤ W4.heap.size) := HS4.out
    clear hW6 hW7 hBl g7 bk0
    gi_wp2_with fail
    have hxx := HXB.out
    have hbw : b < w.heap.size := World.block_lt_of_cell? w ⟨b, off + m, none⟩ (HCC.out m _ (List.getElem?_eq_getElem (by have := HM.out; omega))).nm
    generalize W4.heap.size = Bl at *
    refine wpIn_rangeFunc_ownH rfl (by decide) (gf := 90) (lb := #[.pointer (some ⟨Bl, 0, none⟩)]) rfl trivial (enters_of Tryz.func90 (by kernel_rfl) rfl)
      (backward_stops Bl (m + 1) b off cap xs HM.out (by omega) hcap (KpP base X) (fun A B hk hb => ⟨hk Bl _ _ _ hb.box (fun _ h => by cases h) (.inr (by decide)), fun i x hx => kpP_cell hk (by omega) (by omega) (hb.row i x hx)⟩) W7 HBK.out)
      kpP_t (fun W l o o' _ h1 h2 _ => kpP_putObj W l o o' h1 h2) (Below.refl _ _) (fun _ => rfl)
      (fun pre W => PlI base X ([] ++ pre.flatMap (fun (y : { i : Nat // i < m + 1 }) => rndP (xs.getD y.1 default).l)) W ∧ Below w.heap.size w W ∧ base ≤ W.heap.size)
      (fun _ _ _ => False)
      (OwnFrom.and (Own.from (PlI.own _) _) (OwnFrom.and (ownFrom_below (Nat.le_refl _) (Below.size G7.out)) (fun s A B row hs hg _ => Nat.le_trans hs hg.size)))
      (fun _ _ _ _ _ hs _ _ => hs)
      ⟨by simpa using HP7.out, G7.out, HS7.out⟩
      (fun y a' W => ∃ (k9 : Nat) (u0 u1 u2 u3 u4 u5 u7 u8 u10 u11 u12 u13 u14 u15 u16 u17 u18 u19 u20 u21 u22 u23 u24 u25 u26 u27 u28 u29 u30 u31 u32 u33 u34 u35 u36 u37 u38 u39 u40 u41 u42 u43 u44 u45 u46 u47 u48 u49 u50 u51 u52 u53 u54 u55 u56 u57 u58 : Value), a' = ({ tmps := #[u0, u1, u2, u3, u4, u5, .pointer (some ⟨X, 0, none⟩), u7, u8, .pointer (some ⟨k9, 0, none⟩), u10, u11, u12, u13, u14, u15, u16, u17, u18, u19, u20, u21, u22, u23, u24, u25, u26, u27, u28, u29, u30, u31, u32, u33, u34, u35, u36, u37, u38, u39, u40, u41, u42, u43, u44, u45, u46, u47, u48, u49, u50, u51, u52, u53, u54, u55, u56, u57, u58], defers := [] } : Act) ∧ W.heap[k9]? = some (.cells #[.slice (xs.getD y.1 default).p (xs.getD y.1 default).n (xs.getD y.1 default).c] 30 (0, 0)) ∧ k9 ≠ X)
      (fun y a' => fun _ A B row hs hg hr => by
        obtain ⟨k9, u0, u1, u2, u3, u4, u5, u7, u8, u10, u11, u12, u13, u14, u15, u16, u17, u18, u19, u20, u21, u22, u23, u24, u25, u26, u27, u28, u29, u30, u31, u32, u33, u34, u35, u36, u37, u38, u39, u40, u41, u42, u43, u44, u45, u46, u47, u48, u49, u50, u51, u52, u53, u54, u55, u56, u57, u58, h1, h2, h3⟩ := hs
        exact ⟨k9, u0, u1, u2, u3, u4, u5, u7, u8, u10, u11, u12, u13, u14, u15, u16, u17, u18, u19, u20, u21, u22, u23, u24, u25, u26, u27, u28, u29, u30, u31, u32, u33, u34, u35, u36, u37, u38, u39, u40, u41, u42, u43, u44, u45, u46, u47, u48, u49, u50, u51, u52, u53, u54, u55, u56, u57, u58, h1, (hg.block k9 (Array.getElem?_eq_some_iff.1 h2).1 (fun e => by obtain ⟨o, ho, hc⟩ := (hr k9 e.symm).2; rw [h2] at ho; cases ho; cases hc)).trans h2, h3⟩)
      ?assign ?body ?done ?stop
    case assign =>
      rintro lp pre ⟨i, hi⟩ W K ⟨hI, hB, hZ⟩ hK
      simp only
      obtain ⟨x, hx⟩ : ∃ x, xs.getD i default = x := ⟨_, rfl⟩
      simp only [hx] at hK ⊢
      obtain ⟨W8, hW8, g8, y0⟩ := box1 W (.slice x.p x.n x.c) 30
      have h1 : W8.heap[W.heap.size]? = some (.cells #[.slice x.p x.n x.c] 30 (0, 0)) := by rw [← hW8]; exact heap_alloc_new W _
      have h2 : W.heap.size ≠ X := by omega
      have hKK := fun a' hh => hK a' W8 ((gr_others g8).from _) (kpP_gr g8) ⟨hI.gr g8, hB.trans (Below.mono g8 (show w.heap.size ≤ _ from Below.size hB)), Nat.le_trans hZ (Below.size g8)⟩ hh
      have HKK := Lib.hid hKK
      have HW8 := Lib.hid hW8
      clear hK hKK hI hB g8 hW8 y0
      gi_wp2
      rw [HW8.out]
      exact HKK.out _ ⟨W.heap.size, _, _, _, _, _, _, _, _, _, _, _, _, _, _, _, _, _, _, _, _, _, _, _, _, _, _, _, _, _, _, _, _, _, _, _, _, _, _, _, _, _, _, _, _, _, _, _, _, _, _, _, _, _, _, _, _, _, rfl, h1, h2⟩
    case body =>
      rintro lp pre ⟨i, hi⟩ a' W hlw ⟨r8, hlr⟩ ⟨hI, hB, hZ⟩ ⟨k9, u0, u1, u2, u3, u4, u5, u7, u8, u10, u11, u12, u13, u14, u15, u16, u17, u18, u19, u20, u21, u22, u23, u24, u25, u26, u27, u28, u29, u30, u31, u32, u33, u34, u35, u36, u37, u38, u39, u40, u41, u42, u43, u44, u45, u46, u47, u48, u49, u50, u51, u52, u53, u54, u55, u56, u57, u58, rfl, hV, hk9⟩ hpre
      obtain ⟨x, hx⟩ : ∃ x, xs[i]? = some x := ⟨xs[i]'(by have := HM.out; omega), List.getElem?_eq_getElem _⟩
      have hgx : xs.getD i default = x := by rw [List.getD_eq_getElem?_getD, hx]; rfl
      simp only [hgx] at hV
      have hxo := ((HCC.out i x hx).gr hB).ok
      have hx34 := HSS.out x (List.mem_of_getElem? hx)
      have hLL : Hid (([] ++ (pre ++ [(⟨i, hi⟩ : { i : Nat // i < m + 1 })]).flatMap (fun (y : { i : Nat // i < m + 1 }) => rndP (xs.getD y.1 default).l)) = ([] ++ pre.flatMap (fun (y : { i : Nat // i < m + 1 }) => rndP (xs.getD y.1 default).l)) ++ rndP x.l) := by
        rw [Hid, List.flatMap_append, ← List.append_assoc]; simp only [List.flatMap_cons, List.flatMap_nil, List.append_nil, hgx]
      have hlen : ([] ++ pre.flatMap (fun (y : { i : Nat // i < m + 1 }) => rndP (xs.getD y.1 default).l)).length ≤ 1 + pre.length * 68 := by
        have := flat_len (fun y : { i : Nat // i < m + 1 } => rndP (xs.getD y.1 default).l) 68 pre (fun y => by
          have h1 := rndP_len (xs.getD y.1 default).l
          have h2 := HSS.out (xs.getD y.1 default) (by rw [List.getD_eq_getElem?_getD, List.getElem?_eq_getElem (by have := HM.out; have := y.2; omega)]; exact List.getElem_mem _)
          omega)
        rw [List.length_append]; simp only [List.length_cons, List.length_nil]; omega
      obtain ⟨L1, hL1⟩ : ∃ L1, L1 = [] ++ pre.flatMap (fun (y : { i : Nat // i < m + 1 }) => rndP (xs.getD y.1 default).l) := ⟨_, rfl⟩
      rw [← hL1] at hLL hlen hI
      have hx9 := cell1_of hV
      have HX9 : Hid (W.heap[k9]? = some (.cells #[.slice x.p x.n x.c] 30 (0, 0))) := hV
      have hpre6 : pre.length ≤ 6 := by omega
      have hL500 : Hid (L1.length ≤ 500) := by rw [Hid]; omega
      have HRA := Lib.hid hxo.ra
      have hlow : ∀ b2 off2, x.p = some ⟨b2, off2, none⟩ → 0 < x.l.length → b2 < w.heap.size := fun b2 off2 e h => ra_low (HCC.out i x hx).ok.ra h b2 off2 e
      have HKC : Hid (KpCl (KpP base X) x.p x.l) := ⟨fun A B hk hr => kpP_ra hk (fun h b2 off2 e => by have := hlow b2 off2 e h; omega) hr, fun A B hk k cur z hkk => (hk k cur _ z hkk (fun _ h => by cases h) (.inr (by decide))).trans hkk.symm⟩
      have hxl := hxo.len
      have hxc := hxo.le
      have hI9 := Lib.hid hI
      have hB9 := Lib.hid hB
      clear hlen hL1 hI hB hV hgx hx hxo hlow
      gi_wp2
      refine ⟨trivial, ?_⟩
      gi_at_call 48
      refine (CallsIn.inRound lp (callsIn_wide.2 (climbers_c x.p x.n x.c W))).mono ?_
      rintro e W8 ⟨rfl, hW8⟩
      obtain ⟨W9, hW9, g9, bk9⟩ := box1 W (.slice x.p x.n x.c) 30
      obtain rfl : W9 = W8 := hW9.symm.trans hW8.symm
      have hl9 : W9.heap[lp]? = some (.loop r8) := Gr.block g9 hlr
      have hP9 := hI9.out.gr g9
      have hB99 : Below w.heap.size w W9 := hB9.out.trans (Below.mono g9 (show w.heap.size ≤ _ from Below.size hB9.out))
      have hZ9 : base ≤ W9.heap.size := Nat.le_trans hZ (Below.size g9)
      have hK9 : KeepsFrom W7.heap.size W W9 := (gr_others g9).from _
      have hKP9 : KpP base X W W9 := kpP_gr g9
      have hX9b := Gr.block g9 HX9.out
      have HR9 := Lib.hid (HRA.out.gr g9)
      have HBK9 := Lib.hid bk9
      have hsw9 : W.heap.size ≤ W9.heap.size := Below.size g9
      clear hW8 hW9 bk9 g9 hlr
      gi_wp2
      refine wpIn_rangeFunc_ownN rfl hl9 (by decide) (gf := 91) (lb := #[.pointer (some ⟨W.heap.size, 0, none⟩)]) rfl trivial (enters_of Tryz.func91 (by kernel_rfl) rfl)
        (SeqStopsK.inRound lp (climbers_stops W.heap.size x.n x.p x.c x.l hxl (by omega) hxc (KpP base X) HKC.out W9 HBK9.out HR9.out))
        kpP_t (fun W l o o' _ h1 h2 _ => kpP_putObj W l o o' h1 h2) (Below.refl _ _) (fun _ => rfl)
        (fun pre2 V => PlI base X (L1 ++ pre2.flatMap (plOf ((x.l.length : Int) + 1))) V ∧ Below w.heap.size w V ∧ base ≤ V.heap.size ∧ KeepsFrom W7.heap.size W V ∧ KpP base X W V)
        (fun _ _ _ => False)
        (OwnFrom.and (Own.from (PlI.own _) _) (OwnFrom.and (ownFrom_below (Nat.le_refl _) (Below.size hB99)) (OwnFrom.and (fun s A B row hs hg _ => Nat.le_trans hs hg.size) (OwnFrom.and (fun s A B row hs hg hr => KeepsFrom.turn hs hg (fun r e => Nat.le_trans hsw9 (hr r e).1)) (fun s A B row hs hg hr => kpP_t hs (kpP_turn hg (fun r e => (hr r e).2)))))))
        (fun _ _ _ _ _ hs _ _ => hs)
        ⟨by simpa using hP9, hB99, hZ9, hK9, hKP9⟩
        (fun y a' V => ∃ (k10 : Nat) (u0 u1 u2 u3 u4 u5 u7 u8 u12 u13 u14 u15 u16 u17 u18 u19 u20 u21 u22 u23 u24 u25 u26 u27 u28 u29 u30 u31 u32 u33 u34 u35 u36 u37 u38 u39 u40 u41 u42 u43 u44 u45 u46 u47 u48 u49 u50 u51 u52 u53 u54 u55 u56 u57 u58 : Value), a' = ({ tmps := #[u0, u1, u2, u3, u4, u5, .pointer (some ⟨X, 0, none⟩), u7, u8, .pointer (some ⟨k9, 0, none⟩), .pointer (some ⟨k10, 0, none⟩), .int .i64 y.2, u12, u13, u14, u15, u16, u17, u18, u19, u20, u21, u22, u23, u24, u25, u26, u27, u28, u29, u30, u31, u32, u33, u34, u35, u36, u37, u38, u39, u40, u41, u42, u43, u44, u45, u46, u47, u48, u49, u50, u51, u52, u53, u54, u55, u56, u57, u58], defers := [] } : Act) ∧ VarAt k10 V y.1)
        (fun y a' => fun _ A B row hs hg hr => by
          obtain ⟨k10, u0, u1, u2, u3, u4, u5, u7, u8, u12, u13, u14, u15, u16, u17, u18, u19, u20, u21, u22, u23, u24, u25, u26, u27, u28, u29, u30, u31, u32, u33, u34, u35, u36, u37, u38, u39, u40, u41, u42, u43, u44, u45, u46, u47, u48, u49, u50, u51, u52, u53, u54, u55, u56, u57, u58, h1, h2⟩ := hs
          exact ⟨k10, u0, u1, u2, u3, u4, u5, u7, u8, u12, u13, u14, u15, u16, u17, u18, u19, u20, u21, u22, u23, u24, u25, u26, u27, u28, u29, u30, u31, u32, u33, u34, u35, u36, u37, u38, u39, u40, u41, u42, u43, u44, u45, u46, u47, u48, u49, u50, u51, u52, u53, u54, u55, u56, u57, u58, h1, VarAt.own () A B row h2 hg (fun r e => (hr r e).2)⟩)
        ?assign2 ?body2 ?done2 ?stop2
      case assign2 =>
        rintro lp2 pre2 ⟨⟨ya, yb, yw⟩, lane⟩ V K ⟨hP, hB2, hZ2, hK2, hKP2⟩ hK
        obtain ⟨V8, hV8, g8, y0⟩ := box3 V (.string ya) (.string yb) (.int .i64 yw) 55
        have h1 : VarAt V.heap.size V8 ⟨ya, yb, yw⟩ := ⟨by rw [← hV8]; exact heap_alloc_new V _⟩
        have hKK := fun a' hh => hK a' V8 ((gr_others g8).from _) (kpP_gr g8) ⟨hP.gr g8, hB2.trans (Below.mono g8 (show w.heap.size ≤ _ from Below.size hB2)), Nat.le_trans hZ2 (Below.size g8), hK2.trans ((gr_others g8).from _), kpP_t hKP2 (kpP_gr g8)⟩ hh
        have HKK := Lib.hid hKK
        have HV8 := Lib.hid hV8
        have H1 := Lib.hid h1
        clear hK hKK hP hB2 hK2 hKP2 g8 hV8 y0 h1 hl9 hP9 hB99 hK9 hKP9 hX9b
        simp only [raV]
        gi_wp2
        rw [HV8.out]
        exact HKK.out _ ⟨V.heap.size, _, _, _, _, _, _, _, _, _, _, _, _, _, _, _, _, _, _, _, _, _, _, _, _, _, _, _, _, _, _, _, _, _, _, _, _, _, _, _, _, _, _, _, _, _, _, _, _, _, _, _, _, _, _, _, rfl, H1.out⟩
      case body2 =>
        rintro lp2 pre2 ⟨⟨ya, yb, yw⟩, lane⟩ a' V _ hlr2 ⟨hP, hB2, hZ2, hK2, hKP2⟩ ⟨k10, u0, u1, u2, u3, u4, u5, u7, u8, u12, u13, u14, u15, u16, u17, u18, u19, u20, u21, u22, u23, u24, u25, u26, u27, u28, u29, u30, u31, u32, u33, u34, u35, u36, u37, u38, u39, u40, u41, u42, u43, u44, u45, u46, u47, u48, u49, u50, u51, u52, u53, u54, u55, u56, u57, u58, rfl, ⟨hV2⟩⟩ hpre2
        simp only at hV2
        have B10 := Lib.hid hV2
        have B9 : Hid (V.heap[k9]? = some (.cells #[.slice x.p x.n x.c] 30 (0, 0))) := hKP2 k9 _ _ _ HX9.out (fun _ h => by cases h) (.inr (by decide))
        have HIN : Hid (∀ V, Calls Tryz.prog 46 #[.agg #[.string ya, .string yb, .int .i64 yw], .int .i64 lane] V fun e w' => e = .returned (.string (inR ⟨ya, yb, yw⟩ lane)) ∧ Gr V w') := fun V => inR_c ⟨ya, yb, yw⟩ lane V
        have hmk : (x.l.length : Int) + 1 = (x.n : Int) + 1 := by rw [hxl]
        have hLP : Hid (L1 ++ (pre2 ++ [((⟨ya, yb, yw⟩ : RaR), lane)]).flatMap (plOf ((x.l.length : Int) + 1)) = (L1 ++ pre2.flatMap (plOf ((x.l.length : Int) + 1))) ++ plOf ((x.n : Int) + 1) ((⟨ya, yb, yw⟩ : RaR), lane)) := by
          rw [Hid, List.flatMap_append, ← List.append_assoc, hmk]; simp
        have hLn : (L1 ++ pre2.flatMap (plOf ((x.l.length : Int) + 1))).length ≤ 1000 := by
          have h1 := flat_len (plOf ((x.l.length : Int) + 1)) 1 pre2 (plOf_len _)
          have h2 := hL500.out
          rw [List.length_append]; omega
        have hPO : plOf ((x.n : Int) + 1) ((⟨ya, yb, yw⟩ : RaR), lane) = if lane = yw then [] else [⟨inR ⟨ya, yb, yw⟩ lane, (x.n : Int) + 1⟩] := rfl
        obtain ⟨L2, hL2⟩ : ∃ L2, L2 = L1 ++ pre2.flatMap (plOf ((x.l.length : Int) + 1)) := ⟨_, rfl⟩
        rw [← hL2] at hLP hLn hP
        have HLN := Lib.hid hLn
        have HBB := Lib.hid hB2
        have HKK := Lib.hid hK2
        have HKP := Lib.hid hKP2
        have HZZ := Lib.hid hZ2
        have HPP := Lib.hid hP
        have wn : IntKind.i64.wrap ((x.n : Int) + 1) = (x.n : Int) + 1 := by rw [IntKind.wrap_i64]; omega
        generalize inR ⟨ya, yb, yw⟩ lane = nm2 at *
        obtain ⟨d0, d1, d2⟩ := cells3_of hV2
        clear hP hB2 hZ2 hK2 hKP2 hV2 hlr2 hl9 hP9 hB99 hK9 hKP9 hX9b hL2 hLn hmk hx9 HBK9 HR9 HRA HKC hxl
        by_cases hw : lane = yw
        · have t1 : (lane != yw) = false := by rw [hw]; exact bne_self_eq_false _
          rw [hPO, if_pos hw, List.append_nil] at hLP
          clear hw hPO
          gi_wp2
          refine ⟨KeepsFrom.refl _ _, kpP_gr (Gr.refl _), ?_, HBB.out, HZZ.out, HKK.out, HKP.out⟩
          rw [hLP.out]
          exact HPP.out
        · have t1 : (lane != yw) = true := bne_iff_ne.2 hw
          rw [hPO, if_neg hw] at hLP
          clear hw hPO
          obtain ⟨v2, xb2, hown2⟩ := HPP.out.out
          obtain ⟨p2, c2, rfl, _, _⟩ := own_shape hown2
          have HOW := Lib.hid hown2
          have HXB2 := Lib.hid xb2
          have hq9 := cell1_of B9.out
          clear hown2 xb2
          gi_wp2
          refine wpIn_region_round (S := (fun w' => w'.cell? ⟨k10, 0, none⟩ = some (.string ya) ∧ w'.cell? ⟨k10, 1, none⟩ = some (.string yb) ∧ w'.cell? ⟨k10, 2, none⟩ = some (.int .i64 yw) ∧ w'.cell? ⟨k9, 0, none⟩ = some (.slice x.p x.n x.c))) (fun h9 => by obtain ⟨a9, w9, h9⟩ := h9; exact h9) (noDefer (by kernel_rfl)) (by kernel_rfl) (keepS B10.out B9.out (kpP_gr (base := base) (X := X) ((Gr.refl V).drew)) hk9) (fun hHeld => ?_)
          have HKW : Hid (KeepsOthers V V.drew) := KeepsOthers.drew V
          have HKPV0 : Hid (KpP base X V V.drew) := kpP_gr ((Gr.refl V).drew)
          have HO0 := Lib.hid (own_kept HOW.out ((Gr.refl V).drew))
          have XB0 := Lib.hid (Gr.block ((Gr.refl V).drew) HXB2.out)
          have HZ0 : Hid (base ≤ V.drew.heap.size) := HZZ.out
          have HB0 : Hid (Below w.heap.size w V.drew) := HBB.out.trans (Below.mono ((Gr.refl V).drew) (show w.heap.size ≤ _ from Below.size HBB.out))
          have C10 : Hid (V.drew.heap[k10]? = _) := B10.out
          have C9 : Hid (V.drew.heap[k9]? = _) := B9.out
          clear d0 d1 d2 hq9 B10 B9
          have B10 := C10
          have B9 := C9
          clear C10 C9
          generalize hVV : V.drew = V0 at *
          clear hVV
          have gr0 := Gr.refl V0
          have kp0 : KpP base X V0 V0 := kpP_gr gr0
          refine wpAnyH_take (i := 1) (v := (.agg #[.string ya, .string yb, .int .i64 yw])) (op_at rfl) (by kernel_rfl) (by kernel_rfl) (by kernel_rfl) (fun _ _ _ h => h) (Or.inl ⟨rfl, fun w hSw => ?_⟩) (by assumption) ?_
          · (try dsimp only at hSw); go_simp; try with_reducible rfl
          (try simp only [Act.put, List.setIfInBounds_toArray, List.set_cons_zero, List.set_cons_succ])
          refine wpAnyH_take (i := 2) (v := (.int .i64 lane)) (op_at rfl) (by kernel_rfl) (by kernel_rfl) (by kernel_rfl) (fun _ _ _ h => h) (Or.inl ⟨rfl, fun w hSw => ?_⟩) (by assumption) ?_
          · (try dsimp only at hSw); go_simp; try with_reducible rfl
          (try simp only [Act.put, List.setIfInBounds_toArray, List.set_cons_zero, List.set_cons_succ])
          refine wpAnyH_take (i := 4) (v := (.slice x.p x.n x.c)) (op_at rfl) (by kernel_rfl) (by kernel_rfl) (by kernel_rfl) (fun _ _ _ h => h) (Or.inl ⟨rfl, fun w hSw => ?_⟩) (by assumption) ?_
          · (try dsimp only at hSw); go_simp; try with_reducible rfl
          (try simp only [Act.put, List.setIfInBounds_toArray, List.set_cons_zero, List.set_cons_succ])
          refine wpAnyH_take (i := 5) (v := (.int .i64 (x.n : Int))) (op_at rfl) (by kernel_rfl) (by kernel_rfl) (by kernel_rfl) (fun _ _ _ h => h) (Or.inl ⟨rfl, fun w hSw => ?_⟩) (by assumption) ?_
          · (try dsimp only at hSw); go_simp; try with_reducible rfl
          (try simp only [Act.put, List.setIfInBounds_toArray, List.set_cons_zero, List.set_cons_succ])
          refine wpAnyH_take (i := 6) (v := (.int .i64 ((x.n : Int) + 1))) (op_at rfl) (by kernel_rfl) (by kernel_rfl) (by kernel_rfl) (fun _ _ _ h => h) (Or.inl ⟨rfl, fun w hSw => ?_⟩) (by assumption) ?_
          · (try dsimp only at hSw); go_simp; try with_reducible rfl
          (try simp only [Act.put, List.setIfInBounds_toArray, List.set_cons_zero, List.set_cons_succ])
          refine wpAnyH_ready (rs := [0, 3]) (by kernel_rfl) (by simp) (AllReadyH.cons (op_at rfl) (fun K hK => ?_) (AllReadyH.cons (op_at rfl) (fun K hK => ?_) AllReadyH.nil))
          · have x00 := cell1_of (Gr.block gr0 XB0.out)
            go_simp
            refine hK.out _ _ (keepS B10.out B9.out kp0 hk9) (fun hHeld => ?_)
            clear hK K
            (try simp only [Act.put, List.setIfInBounds_toArray, List.set_cons_zero, List.set_cons_succ])
            refine wpAnyH_ready (rs := [3]) (by kernel_rfl) (by simp) (AllReadyH.cons (op_at rfl) (fun K hK => ?_) AllReadyH.nil)
            go_simp
            refine (HIN.out V0).mono ?_
            rintro e Vp ⟨rfl, gp⟩
            have grp := gr0.trans gp
            have kpp : KpP base X V0 Vp := kpP_gr grp
            go_wp2_with fail
            refine hK.out _ _ (keepS B10.out B9.out kpp hk9) (fun hHeld => ?_)
            clear hK K
            (try simp only [Act.put, List.setIfInBounds_toArray, List.set_cons_zero, List.set_cons_succ])
            refine wpAnyH_take (i := 7) (v := (.agg #[.string nm2, .int .i64 ((x.n : Int) + 1)])) (op_at rfl) (by kernel_rfl) (by kernel_rfl) (by kernel_rfl) (fun _ _ _ h => h) (Or.inl ⟨rfl, fun w hSw => ?_⟩) (by assumption) ?_
            · (try dsimp only at hSw); go_simp; try with_reducible rfl
            (try simp only [Act.put, List.setIfInBounds_toArray, List.set_cons_zero, List.set_cons_succ])
            refine wpAnyH_ready (rs := [8]) (by kernel_rfl) (by simp) (AllReadyH.cons (op_at rfl) (fun K hK => ?_) AllReadyH.nil)
            have grs := grp.trans ((Gr.refl Vp).alloc (.cells #[.string nm2, .int .i64 ((x.n : Int) + 1)] 60))
            have kps : KpP base X V0 (Vp.alloc (.cells #[.string nm2, .int .i64 ((x.n : Int) + 1)] 60)) := kpP_gr grs
            go_simp
            refine hK.out _ _ (keepS B10.out B9.out kps hk9) (fun hHeld => ?_)
            clear hK K
            (try simp only [Act.put, List.setIfInBounds_toArray, List.set_cons_zero, List.set_cons_succ])
            have hos := own_kept HO0.out grs
            have hxs := Gr.block grs XB0.out
            have hzs : base ≤ (Vp.alloc (.cells #[.string nm2, .int .i64 ((x.n : Int) + 1)] 60)).heap.size := Nat.le_trans HZ0.out (Below.size grs)
            have hbs : Below w.heap.size w (Vp.alloc (.cells #[.string nm2, .int .i64 ((x.n : Int) + 1)] 60)) := HB0.out.trans (Below.mono grs (show w.heap.size ≤ _ from Below.size HB0.out))
            refine wpAnyH_ready (rs := [9]) (by kernel_rfl) (by simp) (AllReadyH.cons (op_at rfl) (fun K hK => ?_) AllReadyH.nil)
            rw [if_pos (show Region.wanted _ _ = true from rfl)]
            refine step_pl 39 60 Tryz.underlying39 infoPl _ _ rfl base (.slice p2 L2.length c2) L2.length (plCs L2) rfl hos ⟨nm2, (x.n : Int) + 1⟩ Vp.heap.size 1 rfl (cell_new Vp #[.string nm2, .int .i64 ((x.n : Int) + 1)] 60 0 (by simp)) (cell_new Vp #[.string nm2, .int .i64 ((x.n : Int) + 1)] 60 1 (by simp)) HLN.out hzs ?_
            intro u1 w1 hown1 hgrow1
            obtain ⟨⟨x1, f1⟩, hpi, hkp, hko⟩ := PlI.store (r := ⟨nm2, (x.n : Int) + 1⟩) (by omega) hxs hos hgrow1 hown1
            have hbl := PlI.below (base := base) (X := X) (v1 := u1) (n₀ := w.heap.size) (by omega) (by omega) hbs (show w.heap.size ≤ _ from Below.size hbs) hos hgrow1
            have hsz1 : base ≤ (w1.setCell ⟨X, 0, none⟩ u1).heap.size := by rw [World.size_setCell]; exact Nat.le_trans hzs hgrow1.size
            obtain ⟨p1, c1, hu1, _, _⟩ := own_shape hown1
            obtain ⟨m9, hm9⟩ : ∃ m9, L2.length + 1 = m9 := ⟨_, rfl⟩
            rw [hm9] at hu1
            subst hu1
            have kp1 : KpP base X V0 w1 := kpP_t kps (kpP_grown hos hgrow1)
            have kp2 : KpP base X V0 (w1.setCell ⟨X, 0, none⟩ (.slice p1 m9 c1)) := kpP_t kps hkp
            have hko2 : KeepsOthers V0 (w1.setCell ⟨X, 0, none⟩ (.slice p1 m9 c1)) := (gr_others grs).trans hko
            have HPI1 := Lib.hid hpi
            have HBL1 := Lib.hid hbl
            have HSZ1 := Lib.hid hsz1
            have HKO1 := Lib.hid hko2
            clear hown1 hgrow1 hos hpi hbl hsz1 hko hko2 hkp hm9 hxs hbs
            refine hK.out _ _ (keepS B10.out B9.out kp1 hk9) (fun hHeld => ?_)
            clear hK K
            (try simp only [Act.put, List.setIfInBounds_toArray, List.set_cons_zero, List.set_cons_succ])
            refine wpAnyH_ready (rs := [10]) (by kernel_rfl) (by simp) (AllReadyH.cons (op_at rfl) (fun K hK => ?_) AllReadyH.nil)
            go_simp
            refine hK.out _ _ (keepS B10.out B9.out kp2 hk9) (fun hHeld => ?_)
            clear hK K
            (try simp only [Act.put, List.setIfInBounds_toArray, List.set_cons_zero, List.set_cons_succ])
            refine wpAnyH_done (by kernel_rfl) ?_ _
            refine ⟨(HKW.out.trans HKO1.out).from _, kpP_t HKPV0.out kp2, ?_, HBL1.out, HSZ1.out, HKK.out.trans ((HKW.out.trans HKO1.out).from _), kpP_t HKP.out (kpP_t HKPV0.out kp2)⟩
            rw [hLP.out]
            exact HPI1.out
          · go_simp
            refine (HIN.out V0).mono ?_
            rintro e Vp ⟨rfl, gp⟩
            have grp := gr0.trans gp
            have kpp : KpP base X V0 Vp := kpP_gr grp
            go_wp2_with fail
            refine hK.out _ _ (keepS B10.out B9.out kpp hk9) (fun hHeld => ?_)
            clear hK K
            (try simp only [Act.put, List.setIfInBounds_toArray, List.set_cons_zero, List.set_cons_succ])
            refine wpAnyH_take (i := 7) (v := (.agg #[.string nm2, .int .i64 ((x.n : Int) + 1)])) (op_at rfl) (by kernel_rfl) (by kernel_rfl) (by kernel_rfl) (fun _ _ _ h => h) (Or.inl ⟨rfl, fun w hSw => ?_⟩) (by assumption) ?_
            · (try dsimp only at hSw); go_simp; try with_reducible rfl
            (try simp only [Act.put, List.setIfInBounds_toArray, List.set_cons_zero, List.set_cons_succ])
            refine wpAnyH_ready (rs := [0, 8]) (by kernel_rfl) (by simp) (AllReadyH.cons (op_at rfl) (fun K hK => ?_) (AllReadyH.cons (op_at rfl) (fun K hK => ?_) AllReadyH.nil))
            · have x0p := cell1_of (Gr.block grp XB0.out)
              go_simp
              refine hK.out _ _ (keepS B10.out B9.out kpp hk9) (fun hHeld => ?_)
              clear hK K
              (try simp only [Act.put, List.setIfInBounds_toArray, List.set_cons_zero, List.set_cons_succ])
              refine wpAnyH_ready (rs := [8]) (by kernel_rfl) (by simp) (AllReadyH.cons (op_at rfl) (fun K hK => ?_) AllReadyH.nil)
              have grs := grp.trans ((Gr.refl Vp).alloc (.cells #[.string nm2, .int .i64 ((x.n : Int) + 1)] 60))
              have kps : KpP base X V0 (Vp.alloc (.cells #[.string nm2, .int .i64 ((x.n : Int) + 1)] 60)) := kpP_gr grs
              go_simp
              refine hK.out _ _ (keepS B10.out B9.out kps hk9) (fun hHeld => ?_)
              clear hK K
              (try simp only [Act.put, List.setIfInBounds_toArray, List.set_cons_zero, List.set_cons_succ])
              have hos := own_kept HO0.out grs
              have hxs := Gr.block grs XB0.out
              have hzs : base ≤ (Vp.alloc (.cells #[.string nm2, .int .i64 ((x.n : Int) + 1)] 60)).heap.size := Nat.le_trans HZ0.out (Below.size grs)
              have hbs : Below w.heap.size w (Vp.alloc (.cells #[.string nm2, .int .i64 ((x.n : Int) + 1)] 60)) := HB0.out.trans (Below.mono grs (show w.heap.size ≤ _ from Below.size HB0.out))
              refine wpAnyH_ready (rs := [9]) (by kernel_rfl) (by simp) (AllReadyH.cons (op_at rfl) (fun K hK => ?_) AllReadyH.nil)
              rw [if_pos (show Region.wanted _ _ = true from rfl)]
              refine step_pl 39 60 Tryz.underlying39 infoPl _ _ rfl base (.slice p2 L2.length c2) L2.length (plCs L2) rfl hos ⟨nm2, (x.n : Int) + 1⟩ Vp.heap.size 1 rfl (cell_new Vp #[.string nm2, .int .i64 ((x.n : Int) + 1)] 60 0 (by simp)) (cell_new Vp #[.string nm2, .int .i64 ((x.n : Int) + 1)] 60 1 (by simp)) HLN.out hzs ?_
              intro u1 w1 hown1 hgrow1
              obtain ⟨⟨x1, f1⟩, hpi, hkp, hko⟩ := PlI.store (r := ⟨nm2, (x.n : Int) + 1⟩) (by omega) hxs hos hgrow1 hown1
              have hbl := PlI.below (base := base) (X := X) (v1 := u1) (n₀ := w.heap.size) (by omega) (by omega) hbs (show w.heap.size ≤ _ from Below.size hbs) hos hgrow1
              have hsz1 : base ≤ (w1.setCell ⟨X, 0, none⟩ u1).heap.size := by rw [World.size_setCell]; exact Nat.le_trans hzs hgrow1.size
              obtain ⟨p1, c1, hu1, _, _⟩ := own_shape hown1
              obtain ⟨m9, hm9⟩ : ∃ m9, L2.length + 1 = m9 := ⟨_, rfl⟩
              rw [hm9] at hu1
              subst hu1
              have kp1 : KpP base X V0 w1 := kpP_t kps (kpP_grown hos hgrow1)
              have kp2 : KpP base X V0 (w1.setCell ⟨X, 0, none⟩ (.slice p1 m9 c1)) := kpP_t kps hkp
              have hko2 : KeepsOthers V0 (w1.setCell ⟨X, 0, none⟩ (.slice p1 m9 c1)) := (gr_others grs).trans hko
              have HPI1 := Lib.hid hpi
              have HBL1 := Lib.hid hbl
              have HSZ1 := Lib.hid hsz1
              have HKO1 := Lib.hid hko2
              clear hown1 hgrow1 hos hpi hbl hsz1 hko hko2 hkp hm9 hxs hbs
              refine hK.out _ _ (keepS B10.out B9.out kp1 hk9) (fun hHeld => ?_)
              clear hK K
              (try simp only [Act.put, List.setIfInBounds_toArray, List.set_cons_zero, List.set_cons_succ])
              refine wpAnyH_ready (rs := [10]) (by kernel_rfl) (by simp) (AllReadyH.cons (op_at rfl) (fun K hK => ?_) AllReadyH.nil)
              go_simp
              refine hK.out _ _ (keepS B10.out B9.out kp2 hk9) (fun hHeld => ?_)
              clear hK K
              (try simp only [Act.put, List.setIfInBounds_toArray, List.set_cons_zero, List.set_cons_succ])
              refine wpAnyH_done (by kernel_rfl) ?_ _
              refine ⟨(HKW.out.trans HKO1.out).from _, kpP_t HKPV0.out kp2, ?_, HBL1.out, HSZ1.out, HKK.out.trans ((HKW.out.trans HKO1.out).from _), kpP_t HKP.out (kpP_t HKPV0.out kp2)⟩
              rw [hLP.out]
              exact HPI1.out
            · have grs := grp.trans ((Gr.refl Vp).alloc (.cells #[.string nm2, .int .i64 ((x.n : Int) + 1)] 60))
              have kps : KpP base X V0 (Vp.alloc (.cells #[.string nm2, .int .i64 ((x.n : Int) + 1)] 60)) := kpP_gr grs
              go_simp
              refine hK.out _ _ (keepS B10.out B9.out kps hk9) (fun hHeld => ?_)
              clear hK K
              (try simp only [Act.put, List.setIfInBounds_toArray, List.set_cons_zero, List.set_cons_succ])
              refine wpAnyH_ready (rs := [0]) (by kernel_rfl) (by simp) (AllReadyH.cons (op_at rfl) (fun K hK => ?_) AllReadyH.nil)
              have x0s := cell1_of (Gr.block grs XB0.out)
              go_simp
              refine hK.out _ _ (keepS B10.out B9.out kps hk9) (fun hHeld => ?_)
              clear hK K
              (try simp only [Act.put, List.setIfInBounds_toArray, List.set_cons_zero, List.set_cons_succ])
              have hos := own_kept HO0.out grs
              have hxs := Gr.block grs XB0.out
              have hzs : base ≤ (Vp.alloc (.cells #[.string nm2, .int .i64 ((x.n : Int) + 1)] 60)).heap.size := Nat.le_trans HZ0.out (Below.size grs)
              have hbs : Below w.heap.size w (Vp.alloc (.cells #[.string nm2, .int .i64 ((x.n : Int) + 1)] 60)) := HB0.out.trans (Below.mono grs (show w.heap.size ≤ _ from Below.size HB0.out))
              refine wpAnyH_ready (rs := [9]) (by kernel_rfl) (by simp) (AllReadyH.cons (op_at rfl) (fun K hK => ?_) AllReadyH.nil)
              rw [if_pos (show Region.wanted _ _ = true from rfl)]
              refine step_pl 39 60 Tryz.underlying39 infoPl _ _ rfl base (.slice p2 L2.length c2) L2.length (plCs L2) rfl hos ⟨nm2, (x.n : Int) + 1⟩ Vp.heap.size 1 rfl (cell_new Vp #[.string nm2, .int .i64 ((x.n : Int) + 1)] 60 0 (by simp)) (cell_new Vp #[.string nm2, .int .i64 ((x.n : Int) + 1)] 60 1 (by simp)) HLN.out hzs ?_
              intro u1 w1 hown1 hgrow1
              obtain ⟨⟨x1, f1⟩, hpi, hkp, hko⟩ := PlI.store (r := ⟨nm2, (x.n : Int) + 1⟩) (by omega) hxs hos hgrow1 hown1
              have hbl := PlI.below (base := base) (X := X) (v1 := u1) (n₀ := w.heap.size) (by omega) (by omega) hbs (show w.heap.size ≤ _ from Below.size hbs) hos hgrow1
              have hsz1 : base ≤ (w1.setCell ⟨X, 0, none⟩ u1).heap.size := by rw [World.size_setCell]; exact Nat.le_trans hzs hgrow1.size
              obtain ⟨p1, c1, hu1, _, _⟩ := own_shape hown1
              obtain ⟨m9, hm9⟩ : ∃ m9, L2.length + 1 = m9 := ⟨_, rfl⟩
              rw [hm9] at hu1
              subst hu1
              have kp1 : KpP base X V0 w1 := kpP_t kps (kpP_grown hos hgrow1)
              have kp2 : KpP base X V0 (w1.setCell ⟨X, 0, none⟩ (.slice p1 m9 c1)) := kpP_t kps hkp
              have hko2 : KeepsOthers V0 (w1.setCell ⟨X, 0, none⟩ (.slice p1 m9 c1)) := (gr_others grs).trans hko
              have HPI1 := Lib.hid hpi
              have HBL1 := Lib.hid hbl
              have HSZ1 := Lib.hid hsz1
              have HKO1 := Lib.hid hko2
              clear hown1 hgrow1 hos hpi hbl hsz1 hko hko2 hkp hm9 hxs hbs
              refine hK.out _ _ (keepS B10.out B9.out kp1 hk9) (fun hHeld => ?_)
              clear hK K
              (try simp only [Act.put, List.setIfInBounds_toArray, List.set_cons_zero, List.set_cons_succ])
              refine wpAnyH_ready (rs := [10]) (by kernel_rfl) (by simp) (AllReadyH.cons (op_at rfl) (fun K hK => ?_) AllReadyH.nil)
              go_simp
              refine hK.out _ _ (keepS B10.out B9.out kp2 hk9) (fun hHeld => ?_)
              clear hK K
              (try simp only [Act.put, List.setIfInBounds_toArray, List.set_cons_zero, List.set_cons_succ])
              refine wpAnyH_done (by kernel_rfl) ?_ _
              refine ⟨(HKW.out.trans HKO1.out).from _, kpP_t HKPV0.out kp2, ?_, HBL1.out, HSZ1.out, HKK.out.trans ((HKW.out.trans HKO1.out).from _), kpP_t HKP.out (kpP_t HKPV0.out kp2)⟩
              rw [hLP.out]
              exact HPI1.out
      case done2 =>
        rintro ys V hys ⟨hP, hB2, hZ2, hK2, hKP2⟩
        have hq : ys.flatMap (plOf ((x.l.length : Int) + 1)) = rndP x.l := by rw [show ys = clL x.l from hys]; rfl
        rw [hq] at hP
        exact ⟨hK2, hKP2, by rw [hLL.out]; exact hP, hB2, hZ2⟩
      case stop2 =>
        rintro c pre2 V _ h
        exact h.elim
    case done =>
      rintro D ys W hD hys ⟨hI, hB, hZ⟩ hKD
      have hL : [] ++ ys.flatMap (fun (y : { i : Nat // i < m + 1 }) => rndP (xs.getD y.1 default).l) = placesL (xs.map Rd.l) := by rw [placesL, HTP.out, places_eq hys.out HM.out]
      rw [hL] at hI
      obtain ⟨v9, xb9, hown9⟩ := hI.out
      obtain ⟨p9, c9, rfl, _, _⟩ := own_shape hown9
      have x9 := cell1_of xb9
      have HOW9 := Lib.hid hown9
      have hG9 : Hid (Gr w (W.putObj D (.deferred none))) := hB.trans (belowK_b (w := w) (Nat.le_refl _) W D _ _ (Nat.le_trans (Below.size G7.out) hD) hKD rfl rfl)
      clear hI hB hL hys xb9 hown9
      gi_wp2
      refine ⟨by simp, .inl ⟨_, _, rfl, run_takeDeferred hKD, ?_⟩⟩
      refine ⟨_, by simp [results, Tryz.results13, go_sem], p9, c9, rfl, ?_, hG9.out⟩
      exact PlS.of_own (own_turn HOW9.out (grownBy_putObj' W D _) (fun r e => by cases e; exact ⟨_, hKD, rfl⟩)) rfl
    case stop =>
      rintro D c pre W _ _ h _
      exact h.elim
  · rw [if_neg ha] at HTP
    obtain ⟨i0, hi, hz0, hz1, hz2⟩ := info_parts infoPl
    obtain ⟨v0, xblk, hown⟩ := HPI.out.out
    have x0 := cell1_of xblk
    obtain ⟨p0, c0, rfl, _, _⟩ := own_shape hown
    have hown2 := hown.alloc (.cells #[.string nm, .int .i64 1] 60)
    gi_wp2_with (gi_at_builtin; refine wpListIn_append_own _ rfl _ _ 39 rfl base 60 i0 (.agg #[.string ⟨#[]⟩, .int .i64 0]) 2 24 Tryz.underlying39 hi hz0 hz1 hz2 rfl (by decide) _ _ _ rfl hown2 ⟨W4.heap.size, 0, none⟩ 1 1 [.string nm, .int .i64 1] rfl rfl (cell_two6 _ _ _ _) (by intro u hu; simp at hu; rcases hu with rfl | rfl <;> rfl) (by unfold maxLen; simp) (by simp) (by have := HS4.out; simp; omega) ?_; intro v1 W5 hown5 hgrow5 _; obtain ⟨⟨x5, xf5⟩, hpi5, -, -⟩ := PlI.store (r := ⟨nm, 1⟩) (L := []) (by have := HXB.out; omega) (Gr.block ((Gr.refl W4).alloc (.cells #[.string nm, .int .i64 1] 60)) xblk) hown2 hgrow5 hown5; obtain ⟨p1, c1, rfl, _, _⟩ := own_shape hown5)
    have hbl : Below w.heap.size w (W5.setCell ⟨X, 0, none⟩ (.slice p1 (([] : List PlR).length + 1) c1)) := PlI.below (L := []) (by have := HXB.out; omega) (by have := HXB.out; omega) (Gr.alloc G4.out _) (by have := G4.out.size; simp; omega) hown2 hgrow5
    have hsz5 : base ≤ (W5.setCell ⟨X, 0, none⟩ (.slice p1 (([] : List PlR).length + 1) c1)).heap.size := by have h1 := hgrow5.size; have h2 := HS4.out; simp at h1 ⊢; omega
    simp only [List.length_nil, Nat.zero_add] at hpi5 hbl hsz5
    generalize W5.setCell ⟨X, 0, none⟩ (.slice p1 1 c1) = Wn at *
    have HPN := Lib.hid hpi5
    have GN := Lib.hid (show Gr w Wn from hbl)
    have HSN := Lib.hid hsz5
    clear hown hown2 hown5 hgrow5 hpi5 hbl hsz5 x0 x5 xf5 xblk
    refine ⟨trivial, ?_⟩
    gi_at_call 47
    refine (callsIn_wide.2 (backward_c (some ⟨b, off, none⟩) (m + 1) cap Wn)).mono ?_
    rintro e W6 ⟨rfl, hW6⟩
    obtain ⟨W7, hW7, g7, bk0⟩ := box1 Wn (.slice (some ⟨b, off, none⟩) (m + 1) cap) 22
    obtain rfl : W7 = W6 := hW7.symm.trans hW6.symm
    have hBl : W7.heap[Wn.heap.size]? = some (.cells #[.slice (some ⟨b, off, none⟩) (m + 1) cap] 22 (0, 0)) := by rw [← hW7]; exact heap_alloc_new Wn _
    have G7 := Lib.hid (GN.out.trans g7)
    have HBK : Hid (BkF Wn.heap.size b off (m + 1) cap xs W7) := ⟨hBl, fun i x hx => G7.out.cell (HCC.out i x hx).nm⟩
    have HP7 := Lib.hid (HPN.out.gr g7)
    have HS7 : Hid (base ≤ W7.heap.size) := Nat.le_trans HSN.out (Below.size g7)
    have HBl7 : Hid (base ≤ Wn.heap.size) := HSN.out
    clear hW6 hW7 hBl g7 bk0
    gi_wp2_with fail
    have hxx := HXB.out
    have hbw : b < w.heap.size := World.block_lt_of_cell? w ⟨b, off + m, none⟩ (HCC.out m _ (List.getElem?_eq_getElem (by have := HM.out; omega))).nm
    generalize Wn.heap.size = Bl at *
    refine wpIn_rangeFunc_ownH rfl (by decide) (gf := 90) (lb := #[.pointer (some ⟨Bl, 0, none⟩)]) rfl trivial (enters_of Tryz.func90 (by kernel_rfl) rfl)
      (backward_stops Bl (m + 1) b off cap xs HM.out (by omega) hcap (KpP base X) (fun A B hk hb => ⟨hk Bl _ _ _ hb.box (fun _ h => by cases h) (.inr (by decide)), fun i x hx => kpP_cell hk (by omega) (by omega) (hb.row i x hx)⟩) W7 HBK.out)
      kpP_t (fun W l o o' _ h1 h2 _ => kpP_putObj W l o o' h1 h2) (Below.refl _ _) (fun _ => rfl)
      (fun pre W => PlI base X ([(⟨nm, 1⟩ : PlR)] ++ pre.flatMap (fun (y : { i : Nat // i < m + 1 }) => rndP (xs.getD y.1 default).l)) W ∧ Below w.heap.size w W ∧ base ≤ W.heap.size)
      (fun _ _ _ => False)
      (OwnFrom.and (Own.from (PlI.own _) _) (OwnFrom.and (ownFrom_below (Nat.le_refl _) (Below.size G7.out)) (fun s A B row hs hg _ => Nat.le_trans hs hg.size)))
      (fun _ _ _ _ _ hs _ _ => hs)
      ⟨by simpa using HP7.out, G7.out, HS7.out⟩
      (fun y a' W => ∃ (k9 : Nat) (u0 u1 u2 u3 u4 u5 u7 u8 u10 u11 u12 u13 u14 u15 u16 u17 u18 u19 u20 u21 u22 u23 u24 u25 u26 u27 u28 u29 u30 u31 u32 u33 u34 u35 u36 u37 u38 u39 u40 u41 u42 u43 u44 u45 u46 u47 u48 u49 u50 u51 u52 u53 u54 u55 u56 u57 u58 : Value), a' = ({ tmps := #[u0, u1, u2, u3, u4, u5, .pointer (some ⟨X, 0, none⟩), u7, u8, .pointer (some ⟨k9, 0, none⟩), u10, u11, u12, u13, u14, u15, u16, u17, u18, u19, u20, u21, u22, u23, u24, u25, u26, u27, u28, u29, u30, u31, u32, u33, u34, u35, u36, u37, u38, u39, u40, u41, u42, u43, u44, u45, u46, u47, u48, u49, u50, u51, u52, u53, u54, u55, u56, u57, u58], defers := [] } : Act) ∧ W.heap[k9]? = some (.cells #[.slice (xs.getD y.1 default).p (xs.getD y.1 default).n (xs.getD y.1 default).c] 30 (0, 0)) ∧ k9 ≠ X)
      (fun y a' => fun _ A B row hs hg hr => by
        obtain ⟨k9, u0, u1, u2, u3, u4, u5, u7, u8, u10, u11, u12, u13, u14, u15, u16, u17, u18, u19, u20, u21, u22, u23, u24, u25, u26, u27, u28, u29, u30, u31, u32, u33, u34, u35, u36, u37, u38, u39, u40, u41, u42, u43, u44, u45, u46, u47, u48, u49, u50, u51, u52, u53, u54, u55, u56, u57, u58, h1, h2, h3⟩ := hs
        exact ⟨k9, u0, u1, u2, u3, u4, u5, u7, u8, u10, u11, u12, u13, u14, u15, u16, u17, u18, u19, u20, u21, u22, u23, u24, u25, u26, u27, u28, u29, u30, u31, u32, u33, u34, u35, u36, u37, u38, u39, u40, u41, u42, u43, u44, u45, u46, u47, u48, u49, u50, u51, u52, u53, u54, u55, u56, u57, u58, h1, (hg.block k9 (Array.getElem?_eq_some_iff.1 h2).1 (fun e => by obtain ⟨o, ho, hc⟩ := (hr k9 e.symm).2; rw [h2] at ho; cases ho; cases hc)).trans h2, h3⟩)
      ?assign ?body ?done ?stop
    case assign =>
      rintro lp pre ⟨i, hi⟩ W K ⟨hI, hB, hZ⟩ hK
      simp only
      obtain ⟨x, hx⟩ : ∃ x, xs.getD i default = x := ⟨_, rfl⟩
      simp only [hx] at hK ⊢
      obtain ⟨W8, hW8, g8, y0⟩ := box1 W (.slice x.p x.n x.c) 30
      have h1 : W8.heap[W.heap.size]? = some (.cells #[.slice x.p x.n x.c] 30 (0, 0)) := by rw [← hW8]; exact heap_alloc_new W _
      have h2 : W.heap.size ≠ X := by omega
      have hKK := fun a' hh => hK a' W8 ((gr_others g8).from _) (kpP_gr g8) ⟨hI.gr g8, hB.trans (Below.mono g8 (show w.heap.size ≤ _ from Below.size hB)), Nat.le_trans hZ (Below.size g8)⟩ hh
      have HKK := Lib.hid hKK
      have HW8 := Lib.hid hW8
      clear hK hKK hI hB g8 hW8 y0
      gi_wp2
      rw [HW8.out]
      exact HKK.out _ ⟨W.heap.size, _, _, _, _, _, _, _, _, _, _, _, _, _, _, _, _, _, _, _, _, _, _, _, _, _, _, _, _, _, _, _, _, _, _, _, _, _, _, _, _, _, _, _, _, _, _, _, _, _, _, _, _, _, _, _, _, _, rfl, h1, h2⟩
    case body =>
      rintro lp pre ⟨i, hi⟩ a' W hlw ⟨r8, hlr⟩ ⟨hI, hB, hZ⟩ ⟨k9, u0, u1, u2, u3, u4, u5, u7, u8, u10, u11, u12, u13, u14, u15, u16, u17, u18, u19, u20, u21, u22, u23, u24, u25, u26, u27, u28, u29, u30, u31, u32, u33, u34, u35, u36, u37, u38, u39, u40, u41, u42, u43, u44, u45, u46, u47, u48, u49, u50, u51, u52, u53, u54, u55, u56, u57, u58, rfl, hV, hk9⟩ hpre
      obtain ⟨x, hx⟩ : ∃ x, xs[i]? = some x := ⟨xs[i]'(by have := HM.out; omega), List.getElem?_eq_getElem _⟩
      have hgx : xs.getD i default = x := by rw [List.getD_eq_getElem?_getD, hx]; rfl
      simp only [hgx] at hV
      have hxo := ((HCC.out i x hx).gr hB).ok
      have hx34 := HSS.out x (List.mem_of_getElem? hx)
      have hLL : Hid (([(⟨nm, 1⟩ : PlR)] ++ (pre ++ [(⟨i, hi⟩ : { i : Nat // i < m + 1 })]).flatMap (fun (y : { i : Nat // i < m + 1 }) => rndP (xs.getD y.1 default).l)) = ([(⟨nm, 1⟩ : PlR)] ++ pre.flatMap (fun (y : { i : Nat // i < m + 1 }) => rndP (xs.getD y.1 default).l)) ++ rndP x.l) := by
        rw [Hid, List.flatMap_append, ← List.append_assoc]; simp only [List.flatMap_cons, List.flatMap_nil, List.append_nil, hgx]
      have hlen : ([(⟨nm, 1⟩ : PlR)] ++ pre.flatMap (fun (y : { i : Nat // i < m + 1 }) => rndP (xs.getD y.1 default).l)).length ≤ 1 + pre.length * 68 := by
        have := flat_len (fun y : { i : Nat // i < m + 1 } => rndP (xs.getD y.1 default).l) 68 pre (fun y => by
          have h1 := rndP_len (xs.getD y.1 default).l
          have h2 := HSS.out (xs.getD y.1 default) (by rw [List.getD_eq_getElem?_getD, List.getElem?_eq_getElem (by have := HM.out; have := y.2; omega)]; exact List.getElem_mem _)
          omega)
        rw [List.length_append]; simp only [List.length_cons, List.length_nil]; omega
      obtain ⟨L1, hL1⟩ : ∃ L1, L1 = [(⟨nm, 1⟩ : PlR)] ++ pre.flatMap (fun (y : { i : Nat // i < m + 1 }) => rndP (xs.getD y.1 default).l) := ⟨_, rfl⟩
      rw [← hL1] at hLL hlen hI
      have hx9 := cell1_of hV
      have HX9 : Hid (W.heap[k9]? = some (.cells #[.slice x.p x.n x.c] 30 (0, 0))) := hV
      have hpre6 : pre.length ≤ 6 := by omega
      have hL500 : Hid (L1.length ≤ 500) := by rw [Hid]; omega
      have HRA := Lib.hid hxo.ra
      have hlow : ∀ b2 off2, x.p = some ⟨b2, off2, none⟩ → 0 < x.l.length → b2 < w.heap.size := fun b2 off2 e h => ra_low (HCC.out i x hx).ok.ra h b2 off2 e
      have HKC : Hid (KpCl (KpP base X) x.p x.l) := ⟨fun A B hk hr => kpP_ra hk (fun h b2 off2 e => by have := hlow b2 off2 e h; omega) hr, fun A B hk k cur z hkk => (hk k cur _ z hkk (fun _ h => by cases h) (.inr (by decide))).trans hkk.symm⟩
      have hxl := hxo.len
      have hxc := hxo.le
      have hI9 := Lib.hid hI
      have hB9 := Lib.hid hB
      clear hlen hL1 hI hB hV hgx hx hxo hlow
      gi_wp2
      refine ⟨trivial, ?_⟩
      gi_at_call 48
      refine (CallsIn.inRound lp (callsIn_wide.2 (climbers_c x.p x.n x.c W))).mono ?_
      rintro e W8 ⟨rfl, hW8⟩
      obtain ⟨W9, hW9, g9, bk9⟩ := box1 W (.slice x.p x.n x.c) 30
      obtain rfl : W9 = W8 := hW9.symm.trans hW8.symm
      have hl9 : W9.heap[lp]? = some (.loop r8) := Gr.block g9 hlr
      have hP9 := hI9.out.gr g9
      have hB99 : Below w.heap.size w W9 := hB9.out.trans (Below.mono g9 (show w.heap.size ≤ _ from Below.size hB9.out))
      have hZ9 : base ≤ W9.heap.size := Nat.le_trans hZ (Below.size g9)
      have hK9 : KeepsFrom W7.heap.size W W9 := (gr_others g9).from _
      have hKP9 : KpP base X W W9 := kpP_gr g9
      have hX9b := Gr.block g9 HX9.out
      have HR9 := Lib.hid (HRA.out.gr g9)
      have HBK9 := Lib.hid bk9
      have hsw9 : W.heap.size ≤ W9.heap.size := Below.size g9
      clear hW8 hW9 bk9 g9 hlr
      gi_wp2
      refine wpIn_rangeFunc_ownN rfl hl9 (by decide) (gf := 91) (lb := #[.pointer (some ⟨W.heap.size, 0, none⟩)]) rfl trivial (enters_of Tryz.func91 (by kernel_rfl) rfl)
        (SeqStopsK.inRound lp (climbers_stops W.heap.size x.n x.p x.c x.l hxl (by omega) hxc (KpP base X) HKC.out W9 HBK9.out HR9.out))
        kpP_t (fun W l o o' _ h1 h2 _ => kpP_putObj W l o o' h1 h2) (Below.refl _ _) (fun _ => rfl)
        (fun pre2 V => PlI base X (L1 ++ pre2.flatMap (plOf ((x.l.length : Int) + 1))) V ∧ Below w.heap.size w V ∧ base ≤ V.heap.size ∧ KeepsFrom W7.heap.size W V ∧ KpP base X W V)
        (fun _ _ _ => False)
        (OwnFrom.and (Own.from (PlI.own _) _) (OwnFrom.and (ownFrom_below (Nat.le_refl _) (Below.size hB99)) (OwnFrom.and (fun s A B row hs hg _ => Nat.le_trans hs hg.size) (OwnFrom.and (fun s A B row hs hg hr => KeepsFrom.turn hs hg (fun r e => Nat.le_trans hsw9 (hr r e).1)) (fun s A B row hs hg hr => kpP_t hs (kpP_turn hg (fun r e => (hr r e).2)))))))
        (fun _ _ _ _ _ hs _ _ => hs)
        ⟨by simpa using hP9, hB99, hZ9, hK9, hKP9⟩
        (fun y a' V => ∃ (k10 : Nat) (u0 u1 u2 u3 u4 u5 u7 u8 u12 u13 u14 u15 u16 u17 u18 u19 u20 u21 u22 u23 u24 u25 u26 u27 u28 u29 u30 u31 u32 u33 u34 u35 u36 u37 u38 u39 u40 u41 u42 u43 u44 u45 u46 u47 u48 u49 u50 u51 u52 u53 u54 u55 u56 u57 u58 : Value), a' = ({ tmps := #[u0, u1, u2, u3, u4, u5, .pointer (some ⟨X, 0, none⟩), u7, u8, .pointer (some ⟨k9, 0, none⟩), .pointer (some ⟨k10, 0, none⟩), .int .i64 y.2, u12, u13, u14, u15, u16, u17, u18, u19, u20, u21, u22, u23, u24, u25, u26, u27, u28, u29, u30, u31, u32, u33, u34, u35, u36, u37, u38, u39, u40, u41, u42, u43, u44, u45, u46, u47, u48, u49, u50, u51, u52, u53, u54, u55, u56, u57, u58], defers := [] } : Act) ∧ VarAt k10 V y.1)
        (fun y a' => fun _ A B row hs hg hr => by
          obtain ⟨k10, u0, u1, u2, u3, u4, u5, u7, u8, u12, u13, u14, u15, u16, u17, u18, u19, u20, u21, u22, u23, u24, u25, u26, u27, u28, u29, u30, u31, u32, u33, u34, u35, u36, u37, u38, u39, u40, u41, u42, u43, u44, u45, u46, u47, u48, u49, u50, u51, u52, u53, u54, u55, u56, u57, u58, h1, h2⟩ := hs
          exact ⟨k10, u0, u1, u2, u3, u4, u5, u7, u8, u12, u13, u14, u15, u16, u17, u18, u19, u20, u21, u22, u23, u24, u25, u26, u27, u28, u29, u30, u31, u32, u33, u34, u35, u36, u37, u38, u39, u40, u41, u42, u43, u44, u45, u46, u47, u48, u49, u50, u51, u52, u53, u54, u55, u56, u57, u58, h1, VarAt.own () A B row h2 hg (fun r e => (hr r e).2)⟩)
        ?assign2 ?body2 ?done2 ?stop2
      case assign2 =>
        rintro lp2 pre2 ⟨⟨ya, yb, yw⟩, lane⟩ V K ⟨hP, hB2, hZ2, hK2, hKP2⟩ hK
        obtain ⟨V8, hV8, g8, y0⟩ := box3 V (.string ya) (.string yb) (.int .i64 yw) 55
        have h1 : VarAt V.heap.size V8 ⟨ya, yb, yw⟩ := ⟨by rw [← hV8]; exact heap_alloc_new V _⟩
        have hKK := fun a' hh => hK a' V8 ((gr_others g8).from _) (kpP_gr g8) ⟨hP.gr g8, hB2.trans (Below.mono g8 (show w.heap.size ≤ _ from Below.size hB2)), Nat.le_trans hZ2 (Below.size g8), hK2.trans ((gr_others g8).from _), kpP_t hKP2 (kpP_gr g8)⟩ hh
        have HKK := Lib.hid hKK
        have HV8 := Lib.hid hV8
        have H1 := Lib.hid h1
        clear hK hKK hP hB2 hK2 hKP2 g8 hV8 y0 h1 hl9 hP9 hB99 hK9 hKP9 hX9b
        simp only [raV]
        gi_wp2
        rw [HV8.out]
        exact HKK.out _ ⟨V.heap.size, _, _, _, _, _, _, _, _, _, _, _, _, _, _, _, _, _, _, _, _, _, _, _, _, _, _, _, _, _, _, _, _, _, _, _, _, _, _, _, _, _, _, _, _, _, _, _, _, _, _, _, _, _, _, _, rfl, H1.out⟩
      case body2 =>
        rintro lp2 pre2 ⟨⟨ya, yb, yw⟩, lane⟩ a' V _ hlr2 ⟨hP, hB2, hZ2, hK2, hKP2⟩ ⟨k10, u0, u1, u2, u3, u4, u5, u7, u8, u12, u13, u14, u15, u16, u17, u18, u19, u20, u21, u22, u23, u24, u25, u26, u27, u28, u29, u30, u31, u32, u33, u34, u35, u36, u37, u38, u39, u40, u41, u42, u43, u44, u45, u46, u47, u48, u49, u50, u51, u52, u53, u54, u55, u56, u57, u58, rfl, ⟨hV2⟩⟩ hpre2
        simp only at hV2
        have B10 := Lib.hid hV2
        have B9 : Hid (V.heap[k9]? = some (.cells #[.slice x.p x.n x.c] 30 (0, 0))) := hKP2 k9 _ _ _ HX9.out (fun _ h => by cases h) (.inr (by decide))
        have HIN : Hid (∀ V, Calls Tryz.prog 46 #[.agg #[.string ya, .string yb, .int .i64 yw], .int .i64 lane] V fun e w' => e = .returned (.string (inR ⟨ya, yb, yw⟩ lane)) ∧ Gr V w') := fun V => inR_c ⟨ya, yb, yw⟩ lane V
        have hmk : (x.l.length : Int) + 1 = (x.n : Int) + 1 := by rw [hxl]
        have hLP : Hid (L1 ++ (pre2 ++ [((⟨ya, yb, yw⟩ : RaR), lane)]).flatMap (plOf ((x.l.length : Int) + 1)) = (L1 ++ pre2.flatMap (plOf ((x.l.length : Int) + 1))) ++ plOf ((x.n : Int) + 1) ((⟨ya, yb, yw⟩ : RaR), lane)) := by
          rw [Hid, List.flatMap_append, ← List.append_assoc, hmk]; simp
        have hLn : (L1 ++ pre2.flatMap (plOf ((x.l.length : Int) + 1))).length ≤ 1000 := by
          have h1 := flat_len (plOf ((x.l.length : Int) + 1)) 1 pre2 (plOf_len _)
          have h2 := hL500.out
          rw [List.length_append]; omega
        have hPO : plOf ((x.n : Int) + 1) ((⟨ya, yb, yw⟩ : RaR), lane) = if lane = yw then [] else [⟨inR ⟨ya, yb, yw⟩ lane, (x.n : Int) + 1⟩] := rfl
        obtain ⟨L2, hL2⟩ : ∃ L2, L2 = L1 ++ pre2.flatMap (plOf ((x.l.length : Int) + 1)) := ⟨_, rfl⟩
        rw [← hL2] at hLP hLn hP
        have HLN := Lib.hid hLn
        have HBB := Lib.hid hB2
        have HKK := Lib.hid hK2
        have HKP := Lib.hid hKP2
        have HZZ := Lib.hid hZ2
        have HPP := Lib.hid hP
        have wn : IntKind.i64.wrap ((x.n : Int) + 1) = (x.n : Int) + 1 := by rw [IntKind.wrap_i64]; omega
        generalize inR ⟨ya, yb, yw⟩ lane = nm2 at *
        obtain ⟨d0, d1, d2⟩ := cells3_of hV2
        clear hP hB2 hZ2 hK2 hKP2 hV2 hlr2 hl9 hP9 hB99 hK9 hKP9 hX9b hL2 hLn hmk hx9 HBK9 HR9 HRA HKC hxl
        by_cases hw : lane = yw
        · have t1 : (lane != yw) = false := by rw [hw]; exact bne_self_eq_false _
          rw [hPO, if_pos hw, List.append_nil] at hLP
          clear hw hPO
          gi_wp2
          refine ⟨KeepsFrom.refl _ _, kpP_gr (Gr.refl _), ?_, HBB.out, HZZ.out, HKK.out, HKP.out⟩
          rw [hLP.out]
          exact HPP.out
        · have t1 : (lane != yw) = true := bne_iff_ne.2 hw
          rw [hPO, if_neg hw] at hLP
          clear hw hPO
          obtain ⟨v2, xb2, hown2⟩ := HPP.out.out
          obtain ⟨p2, c2, rfl, _, _⟩ := own_shape hown2
          have HOW := Lib.hid hown2
          have HXB2 := Lib.hid xb2
          have hq9 := cell1_of B9.out
          clear hown2 xb2
          gi_wp2
          refine wpIn_region_round (S := (fun w' => w'.cell? ⟨k10, 0, none⟩ = some (.string ya) ∧ w'.cell? ⟨k10, 1, none⟩ = some (.string yb) ∧ w'.cell? ⟨k10, 2, none⟩ = some (.int .i64 yw) ∧ w'.cell? ⟨k9, 0, none⟩ = some (.slice x.p x.n x.c))) (fun h9 => by obtain ⟨a9, w9, h9⟩ := h9; exact h9) (noDefer (by kernel_rfl)) (by kernel_rfl) (keepS B10.out B9.out (kpP_gr (base := base) (X := X) ((Gr.refl V).drew)) hk9) (fun hHeld => ?_)
          have HKW : Hid (KeepsOthers V V.drew) := KeepsOthers.drew V
          have HKPV0 : Hid (KpP base X V V.drew) := kpP_gr ((Gr.refl V).drew)
          have HO0 := Lib.hid (own_kept HOW.out ((Gr.refl V).drew))
          have XB0 := Lib.hid (Gr.block ((Gr.refl V).drew) HXB2.out)
          have HZ0 : Hid (base ≤ V.drew.heap.size) := HZZ.out
          have HB0 : Hid (Below w.heap.size w V.drew) := HBB.out.trans (Below.mono ((Gr.refl V).drew) (show w.heap.size ≤ _ from Below.size HBB.out))
          have C10 : Hid (V.drew.heap[k10]? = _) := B10.out
          have C9 : Hid (V.drew.heap[k9]? = _) := B9.out
          clear d0 d1 d2 hq9 B10 B9
          have B10 := C10
          have B9 := C9
          clear C10 C9
          generalize hVV : V.drew = V0 at *
          clear hVV
          have gr0 := Gr.refl V0
          have kp0 : KpP base X V0 V0 := kpP_gr gr0
          refine wpAnyH_take (i := 1) (v := (.agg #[.string ya, .string yb, .int .i64 yw])) (op_at rfl) (by kernel_rfl) (by kernel_rfl) (by kernel_rfl) (fun _ _ _ h => h) (Or.inl ⟨rfl, fun w hSw => ?_⟩) (by assumption) ?_
          · (try dsimp only at hSw); go_simp; try with_reducible rfl
          (try simp only [Act.put, List.setIfInBounds_toArray, List.set_cons_zero, List.set_cons_succ])
          refine wpAnyH_take (i := 2) (v := (.int .i64 lane)) (op_at rfl) (by kernel_rfl) (by kernel_rfl) (by kernel_rfl) (fun _ _ _ h => h) (Or.inl ⟨rfl, fun w hSw => ?_⟩) (by assumption) ?_
          · (try dsimp only at hSw); go_simp; try with_reducible rfl
          (try simp only [Act.put, List.setIfInBounds_toArray, List.set_cons_zero, List.set_cons_succ])
          refine wpAnyH_take (i := 4) (v := (.slice x.p x.n x.c)) (op_at rfl) (by kernel_rfl) (by kernel_rfl) (by kernel_rfl) (fun _ _ _ h => h) (Or.inl ⟨rfl, fun w hSw => ?_⟩) (by assumption) ?_
          · (try dsimp only at hSw); go_simp; try with_reducible rfl
          (try simp only [Act.put, List.setIfInBounds_toArray, List.set_cons_zero, List.set_cons_succ])
          refine wpAnyH_take (i := 5) (v := (.int .i64 (x.n : Int))) (op_at rfl) (by kernel_rfl) (by kernel_rfl) (by kernel_rfl) (fun _ _ _ h => h) (Or.inl ⟨rfl, fun w hSw => ?_⟩) (by assumption) ?_
          · (try dsimp only at hSw); go_simp; try with_reducible rfl
          (try simp only [Act.put, List.setIfInBounds_toArray, List.set_cons_zero, List.set_cons_succ])
          refine wpAnyH_take (i := 6) (v := (.int .i64 ((x.n : Int) + 1))) (op_at rfl) (by kernel_rfl) (by kernel_rfl) (by kernel_rfl) (fun _ _ _ h => h) (Or.inl ⟨rfl, fun w hSw => ?_⟩) (by assumption) ?_
          · (try dsimp only at hSw); go_simp; try with_reducible rfl
          (try simp only [Act.put, List.setIfInBounds_toArray, List.set_cons_zero, List.set_cons_succ])
          refine wpAnyH_ready (rs := [0, 3]) (by kernel_rfl) (by simp) (AllReadyH.cons (op_at rfl) (fun K hK => ?_) (AllReadyH.cons (op_at rfl) (fun K hK => ?_) AllReadyH.nil))
          · have x00 := cell1_of (Gr.block gr0 XB0.out)
            go_simp
            refine hK.out _ _ (keepS B10.out B9.out kp0 hk9) (fun hHeld => ?_)
            clear hK K
            (try simp only [Act.put, List.setIfInBounds_toArray, List.set_cons_zero, List.set_cons_succ])
            refine wpAnyH_ready (rs := [3]) (by kernel_rfl) (by simp) (AllReadyH.cons (op_at rfl) (fun K hK => ?_) AllReadyH.nil)
            go_simp
            refine (HIN.out V0).mono ?_
            rintro e Vp ⟨rfl, gp⟩
            have grp := gr0.trans gp
            have kpp : KpP base X V0 Vp := kpP_gr grp
            go_wp2_with fail
            refine hK.out _ _ (keepS B10.out B9.out kpp hk9) (fun hHeld => ?_)
            clear hK K
            (try simp only [Act.put, List.setIfInBounds_toArray, List.set_cons_zero, List.set_cons_succ])
            refine wpAnyH_take (i := 7) (v := (.agg #[.string nm2, .int .i64 ((x.n : Int) + 1)])) (op_at rfl) (by kernel_rfl) (by kernel_rfl) (by kernel_rfl) (fun _ _ _ h => h) (Or.inl ⟨rfl, fun w hSw => ?_⟩) (by assumption) ?_
            · (try dsimp only at hSw); go_simp; try with_reducible rfl
            (try simp only [Act.put, List.setIfInBounds_toArray, List.set_cons_zero, List.set_cons_succ])
            refine wpAnyH_ready (rs := [8]) (by kernel_rfl) (by simp) (AllReadyH.cons (op_at rfl) (fun K hK => ?_) AllReadyH.nil)
            have grs := grp.trans ((Gr.refl Vp).alloc (.cells #[.string nm2, .int .i64 ((x.n : Int) + 1)] 60))
            have kps : KpP base X V0 (Vp.alloc (.cells #[.string nm2, .int .i64 ((x.n : Int) + 1)] 60)) := kpP_gr grs
            go_simp
            refine hK.out _ _ (keepS B10.out B9.out kps hk9) (fun hHeld => ?_)
            clear hK K
            (try simp only [Act.put, List.setIfInBounds_toArray, List.set_cons_zero, List.set_cons_succ])
            have hos := own_kept HO0.out grs
            have hxs := Gr.block grs XB0.out
            have hzs : base ≤ (Vp.alloc (.cells #[.string nm2, .int .i64 ((x.n : Int) + 1)] 60)).heap.size := Nat.le_trans HZ0.out (Below.size grs)
            have hbs : Below w.heap.size w (Vp.alloc (.cells #[.string nm2, .int .i64 ((x.n : Int) + 1)] 60)) := HB0.out.trans (Below.mono grs (show w.heap.size ≤ _ from Below.size HB0.out))
            refine wpAnyH_ready (rs := [9]) (by kernel_rfl) (by simp) (AllReadyH.cons (op_at rfl) (fun K hK => ?_) AllReadyH.nil)
            rw [if_pos (show Region.wanted _ _ = true from rfl)]
            refine step_pl 39 60 Tryz.underlying39 infoPl _ _ rfl base (.slice p2 L2.length c2) L2.length (plCs L2) rfl hos ⟨nm2, (x.n : Int) + 1⟩ Vp.heap.size 1 rfl (cell_new Vp #[.string nm2, .int .i64 ((x.n : Int) + 1)] 60 0 (by simp)) (cell_new Vp #[.string nm2, .int .i64 ((x.n : Int) + 1)] 60 1 (by simp)) HLN.out hzs ?_
            intro u1 w1 hown1 hgrow1
            obtain ⟨⟨x1, f1⟩, hpi, hkp, hko⟩ := PlI.store (r := ⟨nm2, (x.n : Int) + 1⟩) (by omega) hxs hos hgrow1 hown1
            have hbl := PlI.below (base := base) (X := X) (v1 := u1) (n₀ := w.heap.size) (by omega) (by omega) hbs (show w.heap.size ≤ _ from Below.size hbs) hos hgrow1
            have hsz1 : base ≤ (w1.setCell ⟨X, 0, none⟩ u1).heap.size := by rw [World.size_setCell]; exact Nat.le_trans hzs hgrow1.size
            obtain ⟨p1, c1, hu1, _, _⟩ := own_shape hown1
            obtain ⟨m9, hm9⟩ : ∃ m9, L2.length + 1 = m9 := ⟨_, rfl⟩
            rw [hm9] at hu1
            subst hu1
            have kp1 : KpP base X V0 w1 := kpP_t kps (kpP_grown hos hgrow1)
            have kp2 : KpP base X V0 (w1.setCell ⟨X, 0, none⟩ (.slice p1 m9 c1)) := kpP_t kps hkp
            have hko2 : KeepsOthers V0 (w1.setCell ⟨X, 0, none⟩ (.slice p1 m9 c1)) := (gr_others grs).trans hko
            have HPI1 := Lib.hid hpi
            have HBL1 := Lib.hid hbl
            have HSZ1 := Lib.hid hsz1
            have HKO1 := Lib.hid hko2
            clear hown1 hgrow1 hos hpi hbl hsz1 hko hko2 hkp hm9 hxs hbs
            refine hK.out _ _ (keepS B10.out B9.out kp1 hk9) (fun hHeld => ?_)
            clear hK K
            (try simp only [Act.put, List.setIfInBounds_toArray, List.set_cons_zero, List.set_cons_succ])
            refine wpAnyH_ready (rs := [10]) (by kernel_rfl) (by simp) (AllReadyH.cons (op_at rfl) (fun K hK => ?_) AllReadyH.nil)
            go_simp
            refine hK.out _ _ (keepS B10.out B9.out kp2 hk9) (fun hHeld => ?_)
            clear hK K
            (try simp only [Act.put, List.setIfInBounds_toArray, List.set_cons_zero, List.set_cons_succ])
            refine wpAnyH_done (by kernel_rfl) ?_ _
            refine ⟨(HKW.out.trans HKO1.out).from _, kpP_t HKPV0.out kp2, ?_, HBL1.out, HSZ1.out, HKK.out.trans ((HKW.out.trans HKO1.out).from _), kpP_t HKP.out (kpP_t HKPV0.out kp2)⟩
            rw [hLP.out]
            exact HPI1.out
          · go_simp
            refine (HIN.out V0).mono ?_
            rintro e Vp ⟨rfl, gp⟩
            have grp := gr0.trans gp
            have kpp : KpP base X V0 Vp := kpP_gr grp
            go_wp2_with fail
            refine hK.out _ _ (keepS B10.out B9.out kpp hk9) (fun hHeld => ?_)
            clear hK K
            (try simp only [Act.put, List.setIfInBounds_toArray, List.set_cons_zero, List.set_cons_succ])
            refine wpAnyH_take (i := 7) (v := (.agg #[.string nm2, .int .i64 ((x.n : Int) + 1)])) (op_at rfl) (by kernel_rfl) (by kernel_rfl) (by kernel_rfl) (fun _ _ _ h => h) (Or.inl ⟨rfl, fun w hSw => ?_⟩) (by assumption) ?_
            · (try dsimp only at hSw); go_simp; try with_reducible rfl
            (try simp only [Act.put, List.setIfInBounds_toArray, List.set_cons_zero, List.set_cons_succ])
            refine wpAnyH_ready (rs := [0, 8]) (by kernel_rfl) (by simp) (AllReadyH.cons (op_at rfl) (fun K hK => ?_) (AllReadyH.cons (op_at rfl) (fun K hK => ?_) AllReadyH.nil))
            · have x0p := cell1_of (Gr.block grp XB0.out)
              go_simp
              refine hK.out _ _ (keepS B10.out B9.out kpp hk9) (fun hHeld => ?_)
              clear hK K
              (try simp only [Act.put, List.setIfInBounds_toArray, List.set_cons_zero, List.set_cons_succ])
              refine wpAnyH_ready (rs := [8]) (by kernel_rfl) (by simp) (AllReadyH.cons (op_at rfl) (fun K hK => ?_) AllReadyH.nil)
              have grs := grp.trans ((Gr.refl Vp).alloc (.cells #[.string nm2, .int .i64 ((x.n : Int) + 1)] 60))
              have kps : KpP base X V0 (Vp.alloc (.cells #[.string nm2, .int .i64 ((x.n : Int) + 1)] 60)) := kpP_gr grs
              go_simp
              refine hK.out _ _ (keepS B10.out B9.out kps hk9) (fun hHeld => ?_)
              clear hK K
              (try simp only [Act.put, List.setIfInBounds_toArray, List.set_cons_zero, List.set_cons_succ])
              have hos := own_kept HO0.out grs
              have hxs := Gr.block grs XB0.out
              have hzs : base ≤ (Vp.alloc (.cells #[.string nm2, .int .i64 ((x.n : Int) + 1)] 60)).heap.size := Nat.le_trans HZ0.out (Below.size grs)
              have hbs : Below w.heap.size w (Vp.alloc (.cells #[.string nm2, .int .i64 ((x.n : Int) + 1)] 60)) := HB0.out.trans (Below.mono grs (show w.heap.size ≤ _ from Below.size HB0.out))
              refine wpAnyH_ready (rs := [9]) (by kernel_rfl) (by simp) (AllReadyH.cons (op_at rfl) (fun K hK => ?_) AllReadyH.nil)
              rw [if_pos (show Region.wanted _ _ = true from rfl)]
              refine step_pl 39 60 Tryz.underlying39 infoPl _ _ rfl base (.slice p2 L2.length c2) L2.length (plCs L2) rfl hos ⟨nm2, (x.n : Int) + 1⟩ Vp.heap.size 1 rfl (cell_new Vp #[.string nm2, .int .i64 ((x.n : Int) + 1)] 60 0 (by simp)) (cell_new Vp #[.string nm2, .int .i64 ((x.n : Int) + 1)] 60 1 (by simp)) HLN.out hzs ?_
              intro u1 w1 hown1 hgrow1
              obtain ⟨⟨x1, f1⟩, hpi, hkp, hko⟩ := PlI.store (r := ⟨nm2, (x.n : Int) + 1⟩) (by omega) hxs hos hgrow1 hown1
              have hbl := PlI.below (base := base) (X := X) (v1 := u1) (n₀ := w.heap.size) (by omega) (by omega) hbs (show w.heap.size ≤ _ from Below.size hbs) hos hgrow1
              have hsz1 : base ≤ (w1.setCell ⟨X, 0, none⟩ u1).heap.size := by rw [World.size_setCell]; exact Nat.le_trans hzs hgrow1.size
              obtain ⟨p1, c1, hu1, _, _⟩ := own_shape hown1
              obtain ⟨m9, hm9⟩ : ∃ m9, L2.length + 1 = m9 := ⟨_, rfl⟩
              rw [hm9] at hu1
              subst hu1
              have kp1 : KpP base X V0 w1 := kpP_t kps (kpP_grown hos hgrow1)
              have kp2 : KpP base X V0 (w1.setCell ⟨X, 0, none⟩ (.slice p1 m9 c1)) := kpP_t kps hkp
              have hko2 : KeepsOthers V0 (w1.setCell ⟨X, 0, none⟩ (.slice p1 m9 c1)) := (gr_others grs).trans hko
              have HPI1 := Lib.hid hpi
              have HBL1 := Lib.hid hbl
              have HSZ1 := Lib.hid hsz1
              have HKO1 := Lib.hid hko2
              clear hown1 hgrow1 hos hpi hbl hsz1 hko hko2 hkp hm9 hxs hbs
              refine hK.out _ _ (keepS B10.out B9.out kp1 hk9) (fun hHeld => ?_)
              clear hK K
              (try simp only [Act.put, List.setIfInBounds_toArray, List.set_cons_zero, List.set_cons_succ])
              refine wpAnyH_ready (rs := [10]) (by kernel_rfl) (by simp) (AllReadyH.cons (op_at rfl) (fun K hK => ?_) AllReadyH.nil)
              go_simp
              refine hK.out _ _ (keepS B10.out B9.out kp2 hk9) (fun hHeld => ?_)
              clear hK K
              (try simp only [Act.put, List.setIfInBounds_toArray, List.set_cons_zero, List.set_cons_succ])
              refine wpAnyH_done (by kernel_rfl) ?_ _
              refine ⟨(HKW.out.trans HKO1.out).from _, kpP_t HKPV0.out kp2, ?_, HBL1.out, HSZ1.out, HKK.out.trans ((HKW.out.trans HKO1.out).from _), kpP_t HKP.out (kpP_t HKPV0.out kp2)⟩
              rw [hLP.out]
              exact HPI1.out
            · have grs := grp.trans ((Gr.refl Vp).alloc (.cells #[.string nm2, .int .i64 ((x.n : Int) + 1)] 60))
              have kps : KpP base X V0 (Vp.alloc (.cells #[.string nm2, .int .i64 ((x.n : Int) + 1)] 60)) := kpP_gr grs
              go_simp
              refine hK.out _ _ (keepS B10.out B9.out kps hk9) (fun hHeld => ?_)
              clear hK K
              (try simp only [Act.put, List.setIfInBounds_toArray, List.set_cons_zero, List.set_cons_succ])
              refine wpAnyH_ready (rs := [0]) (by kernel_rfl) (by simp) (AllReadyH.cons (op_at rfl) (fun K hK => ?_) AllReadyH.nil)
              have x0s := cell1_of (Gr.block grs XB0.out)
              go_simp
              refine hK.out _ _ (keepS B10.out B9.out kps hk9) (fun hHeld => ?_)
              clear hK K
              (try simp only [Act.put, List.setIfInBounds_toArray, List.set_cons_zero, List.set_cons_succ])
              have hos := own_kept HO0.out grs
              have hxs := Gr.block grs XB0.out
              have hzs : base ≤ (Vp.alloc (.cells #[.string nm2, .int .i64 ((x.n : Int) + 1)] 60)).heap.size := Nat.le_trans HZ0.out (Below.size grs)
              have hbs : Below w.heap.size w (Vp.alloc (.cells #[.string nm2, .int .i64 ((x.n : Int) + 1)] 60)) := HB0.out.trans (Below.mono grs (show w.heap.size ≤ _ from Below.size HB0.out))
              refine wpAnyH_ready (rs := [9]) (by kernel_rfl) (by simp) (AllReadyH.cons (op_at rfl) (fun K hK => ?_) AllReadyH.nil)
              rw [if_pos (show Region.wanted _ _ = true from rfl)]
              refine step_pl 39 60 Tryz.underlying39 infoPl _ _ rfl base (.slice p2 L2.length c2) L2.length (plCs L2) rfl hos ⟨nm2, (x.n : Int) + 1⟩ Vp.heap.size 1 rfl (cell_new Vp #[.string nm2, .int .i64 ((x.n : Int) + 1)] 60 0 (by simp)) (cell_new Vp #[.string nm2, .int .i64 ((x.n : Int) + 1)] 60 1 (by simp)) HLN.out hzs ?_
              intro u1 w1 hown1 hgrow1
              obtain ⟨⟨x1, f1⟩, hpi, hkp, hko⟩ := PlI.store (r := ⟨nm2, (x.n : Int) + 1⟩) (by omega) hxs hos hgrow1 hown1
              have hbl := PlI.below (base := base) (X := X) (v1 := u1) (n₀ := w.heap.size) (by omega) (by omega) hbs (show w.heap.size ≤ _ from Below.size hbs) hos hgrow1
              have hsz1 : base ≤ (w1.setCell ⟨X, 0, none⟩ u1).heap.size := by rw [World.size_setCell]; exact Nat.le_trans hzs hgrow1.size
              obtain ⟨p1, c1, hu1, _, _⟩ := own_shape hown1
              obtain ⟨m9, hm9⟩ : ∃ m9, L2.length + 1 = m9 := ⟨_, rfl⟩
              rw [hm9] at hu1
              subst hu1
              have kp1 : KpP base X V0 w1 := kpP_t kps (kpP_grown hos hgrow1)
              have kp2 : KpP base X V0 (w1.setCell ⟨X, 0, none⟩ (.slice p1 m9 c1)) := kpP_t kps hkp
              have hko2 : KeepsOthers V0 (w1.setCell ⟨X, 0, none⟩ (.slice p1 m9 c1)) := (gr_others grs).trans hko
              have HPI1 := Lib.hid hpi
              have HBL1 := Lib.hid hbl
              have HSZ1 := Lib.hid hsz1
              have HKO1 := Lib.hid hko2
              clear hown1 hgrow1 hos hpi hbl hsz1 hko hko2 hkp hm9 hxs hbs
              refine hK.out _ _ (keepS B10.out B9.out kp1 hk9) (fun hHeld => ?_)
              clear hK K
              (try simp only [Act.put, List.setIfInBounds_toArray, List.set_cons_zero, List.set_cons_succ])
              refine wpAnyH_ready (rs := [10]) (by kernel_rfl) (by simp) (AllReadyH.cons (op_at rfl) (fun K hK => ?_) AllReadyH.nil)
              go_simp
              refine hK.out _ _ (keepS B10.out B9.out kp2 hk9) (fun hHeld => ?_)
              clear hK K
              (try simp only [Act.put, List.setIfInBounds_toArray, List.set_cons_zero, List.set_cons_succ])
              refine wpAnyH_done (by kernel_rfl) ?_ _
              refine ⟨(HKW.out.trans HKO1.out).from _, kpP_t HKPV0.out kp2, ?_, HBL1.out, HSZ1.out, HKK.out.trans ((HKW.out.trans HKO1.out).from _), kpP_t HKP.out (kpP_t HKPV0.out kp2)⟩
              rw [hLP.out]
              exact HPI1.out
      case done2 =>
        rintro ys V hys ⟨hP, hB2, hZ2, hK2, hKP2⟩
        have hq : ys.flatMap (plOf ((x.l.length : Int) + 1)) = rndP x.l := by rw [show ys = clL x.l from hys]; rfl
        rw [hq] at hP
        exact ⟨hK2, hKP2, by rw [hLL.out]; exact hP, hB2, hZ2⟩
      case stop2 =>
        rintro c pre2 V _ h
        exact h.elim
    case done =>
      rintro D ys W hD hys ⟨hI, hB, hZ⟩ hKD
      have hL : [(⟨nm, 1⟩ : PlR)] ++ ys.flatMap (fun (y : { i : Nat // i < m + 1 }) => rndP (xs.getD y.1 default).l) = placesL (xs.map Rd.l) := by rw [placesL, HTP.out, places_eq hys.out HM.out]
      rw [hL] at hI
      obtain ⟨v9, xb9, hown9⟩ := hI.out
      obtain ⟨p9, c9, rfl, _, _⟩ := own_shape hown9
      have x9 := cell1_of xb9
      have HOW9 := Lib.hid hown9
      have hG9 : Hid (Gr w (W.putObj D (.deferred none))) := hB.trans (belowK_b (w := w) (Nat.le_refl _) W D _ _ (Nat.le_trans (Below.size G7.out) hD) hKD rfl rfl)
      clear hI hB hL hys xb9 hown9
      gi_wp2
      refine ⟨by simp, .inl ⟨_, _, rfl, run_takeDeferred hKD, ?_⟩⟩
      refine ⟨_, by simp [results, Tryz.results13, go_sem], p9, c9, rfl, ?_, hG9.out⟩
      exact PlS.of_own (own_turn HOW9.out (grownBy_putObj' W D _) (fun r e => by cases e; exact ⟨_, hKD, rfl⟩)) rfl
    case stop =>
      rintro D c pre W _ _ h _
      exact h.elim
end Go.Proofs.YthfmgficbnmmnaaGreatDoor
