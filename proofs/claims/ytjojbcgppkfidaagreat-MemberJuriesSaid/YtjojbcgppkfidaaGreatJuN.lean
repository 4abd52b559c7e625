/- Juries: the law's copy, in memory. -/
import Derived.Test.YtjojbcgppkfidaaGreatGJuB
import Derived.Maps.AppendAt
import Derived.Laws.Rows
import Derived.WalkMore
namespace Go.Proofs.YtjojbcgppkfidaaGreat
open Go.RowKit Go.Lib
set_option linter.unusedSimpArgs false
set_option linter.unusedVariables false
theorem own_sameJ {w w' : World} {b s n : Nat} {T : TypeId} {v : Value} {l : List Value} (h : w.ownsRow b T s v n l) (k : ∀ g, v.ownBlock = some g → w'.heap[g]? = w.heap[g]?) : w'.ownsRow b T s v n l := by
  refine ⟨h.1, ?_⟩
  rcases h.2 with hn | ⟨g, cap, cur, rfl, hb, hgg, rest⟩
  · exact .inl hn
  · exact .inr ⟨g, cap, cur, rfl, hb, by rw [k g rfl]; exact hgg, rest⟩
theorem own_inJ {w : World} {b s n : Nat} {T : TypeId} {v : Value} {l : List Value} (h : w.ownsRow b T s v n l) {g : Nat} (hg : v.ownBlock = some g) : g < w.heap.size ∧ b ≤ g := by
  rcases h.2 with ⟨rfl, _⟩ | ⟨g', cap, cur, rfl, hb, hgg, rest⟩
  · cases hg
  · cases hg
    exact ⟨(Array.getElem?_eq_some_iff.1 hgg).1, hb⟩
theorem own_neJ {w : World} {b s n : Nat} {T T2 : TypeId} {v : Value} {l : List Value} (ho : w.ownsRow b T s v n l) {A : Nat} {cs : Array Value} {fr : Nat × Nat} (hA : w.heap[A]? = some (.cells cs T2 fr)) (hT : T ≠ T2) : v.ownBlock ≠ some A := by
  rcases ho.2 with ⟨rfl, _⟩ | ⟨g', cap, cur, rfl, hb, hgg, rest⟩
  · intro e; cases e
  · intro e
    cases e
    rw [hA] at hgg
    cases hgg
    exact hT rfl
theorem shapeJ {w : World} {b n : Nat} {T : TypeId} {v : Value} {l : List Value} {s : Nat} (h : w.ownsRow b T s v n l) : ∃ p c, v = .slice p n c := by
  rcases h.2 with ⟨rfl, rfl⟩ | ⟨g, cap, cur, rfl, _⟩
  · exact ⟨none, 0, rfl⟩
  · exact ⟨_, cap, rfl⟩
theorem own_grJ {w w' : World} {b s n : Nat} {T : TypeId} {v : Value} {l : List Value} (h : w.ownsRow b T s v n l) (k : Gr w w') : w'.ownsRow b T s v n l := own_sameJ h fun g hg => Below.block k g (own_inJ h hg).1
theorem own_rowsJ {w : World} {b s s2 n n2 : Nat} {T T2 : TypeId} {v v2 : Value} {l l2 : List Value} (ho : w.ownsRow b T s v n l) (h2 : w.ownsRow b T2 s2 v2 n2 l2) (hT : T ≠ T2) {g : Nat} (hg : v2.ownBlock = some g) : v.ownBlock ≠ some g := by
  rcases h2.2 with ⟨rfl, _⟩ | ⟨g', cap, cur, rfl, hb, hgg, rest⟩
  · cases hg
  · cases hg
    exact own_neJ ho hgg hT
def ofC (x : OfR) : List Value := [.string x.nm, .string x.na, x.u, .int .i64 x.ld]
def ofCs (xs : List OfR) : List Value := xs.flatMap ofC
theorem ofCs_len (xs : List OfR) : (ofCs xs).length = xs.length * 4 := by
  induction xs with
  | nil => rfl
  | cons x xs ih => simp only [ofCs, List.flatMap_cons, List.length_append, List.length_cons] at *; rw [ih]; simp [ofC]; omega
theorem ofCs_add (xs : List OfR) (x : OfR) : ofCs (xs ++ [x]) = ofCs xs ++ ofC x := by simp [ofCs]
theorem ofCs_at {xs : List OfR} {i : Nat} {x : OfR} (h : xs[i]? = some x) (j : Nat) (hj : j < 4) : (ofCs xs)[i * 4 + j]? = (ofC x)[j]? := by
  induction xs generalizing i with
  | nil => simp at h
  | cons y ys ih =>
    have e : ofCs (y :: ys) = ofC y ++ ofCs ys := rfl
    rw [e]
    cases i with
    | zero =>
      simp only [List.getElem?_cons_zero, Option.some.injEq] at h
      subst h
      rw [show 0 * 4 + j = j by omega, List.getElem?_append_left (by simp [ofC]; omega)]
    | succ i =>
      rw [List.getElem?_append_right (by simp [ofC]; omega)]
      have := ih (i := i) (by simpa using h)
      rw [← this]
      congr 1
      simp [ofC]; omega
theorem OfAts_of_own {w : World} {base : Nat} {v : Value} {xs : List OfR} {T : TypeId} (h : w.ownsRow base T 4 v xs.length (ofCs xs)) (hs : ∀ x ∈ xs, StrAts w x.u x.rs) : OfAts w v xs := by
  rcases h.2 with ⟨rfl, h0⟩ | ⟨g, cap, cur, rfl, _, _, hle, hmx, _, _⟩
  · exact ⟨none, 0, by rw [h0], ⟨by omega, by unfold maxLen; omega⟩, fun h => by omega⟩
  · refine ⟨some ⟨g, 0, none⟩, cap, rfl, ⟨hle, hmx⟩, fun _ => ⟨g, 0, rfl, fun i x hx => ?_⟩⟩
    have e : ∀ j, (⟨g, 0, none⟩ : Addr).add j = ⟨g, j, none⟩ := fun j => by unfold Addr.add; split <;> simp_all
    have c0 := h.cells (g := g) rfl (i * 4 + 0) (.string x.nm) (by rw [ofCs_at hx 0 (by omega)]; rfl)
    have c1 := h.cells (g := g) rfl (i * 4 + 1) (.string x.na) (by rw [ofCs_at hx 1 (by omega)]; rfl)
    have c2 := h.cells (g := g) rfl (i * 4 + 2) (x.u) (by rw [ofCs_at hx 2 (by omega)]; rfl)
    have c3 := h.cells (g := g) rfl (i * 4 + 3) (.int .i64 x.ld) (by rw [ofCs_at hx 3 (by omega)]; rfl)
    rw [e] at c0 c1 c2 c3
    exact ⟨by simpa using c0, by simpa using c1, by simpa using c2, by simpa using c3, hs x (List.mem_of_getElem? hx)⟩
theorem info_ofC : (Tryz.prog.info? 49).map (fun i => (i.zero, i.size, i.bytes)) = some (some (.agg #[.string ⟨#[]⟩, .string ⟨#[]⟩, .slice none 0 0, .int .i64 0]), 4, 64) := by kernel_rfl
set_option maxRecDepth 10000 in
/-- append of one, as an operation of a drawn region -/
theorem step_ofC {w : World} {o : Oper} {a : Act} {K : Act → World → Prop} {Q : Exit → Act → World → Prop} (s x : Operand) (ho : o.op = .call { callee := .builtin .append, args := #[s, x], argTypes := #[28, 28] })
    (base : Nat) (v : Value) (es : List OfR) (e : OfR) (n : Nat) (hn : es.length = n) (hs : a.eval s = v) (hown : w.ownsRow base 49 4 v n (ofCs es)) (g c : Nat) (hx : a.eval x = .slice (some ⟨g, 0, none⟩) 1 c) (hu : ∃ p n c, e.u = .slice p n c)
    (h0 : w.cell? ⟨g, 0, none⟩ = some (.string e.nm)) (h1 : w.cell? ⟨g, 1, none⟩ = some (.string e.na)) (h2 : w.cell? ⟨g, 2, none⟩ = some (e.u)) (h3 : w.cell? ⟨g, 3, none⟩ = some (.int .i64 e.ld)) (hb : n * 64 < 140737488355328) (hbase : base ≤ w.heap.size)
    (h : ∀ v' w', w'.ownsRow base 49 4 v' (n + 1) (ofCs (es ++ [e])) → w.grownBy w' v.ownBlock → (v'.ownBlock = v.ownBlock ∨ v'.ownBlock = some w.heap.size) → K (a.put o.dst v') w') : Oper.wp Tryz.prog o a w K Q := by
  obtain ⟨i1, hj, hy0, hy1, hy2⟩ := info_parts info_ofC
  obtain ⟨v', w', hr, h2, h3, h4, h5⟩ := run_append_own_at (P := Tryz.prog) w base 28 o.type 49 i1 (.agg #[.string ⟨#[]⟩, .string ⟨#[]⟩, .slice none 0 0, .int .i64 0]) 4 64 Tryz.underlying28 hj hy0 hy1 hy2 rfl (by decide) v n (ofCs es) hown ⟨g, 0, none⟩ 1 c (ofC e) (by simp [ofC])
    (fun j u hu => by
      have ea : (⟨g, 0, none⟩ : Addr).add j = ⟨g, j, none⟩ := by unfold Addr.add; split <;> simp_all
      rw [ea]
      unfold ofC at hu
      rcases j with _ | _ | _ | _ | j <;> simp at hu <;> subst hu <;> assumption)
    (fun u hu' => by unfold ofC at hu'; simp at hu'; rcases hu' with rfl | rfl | rfl | rfl <;> first | rfl | (obtain ⟨_, _, _, r⟩ := hu; rw [r]; rfl)) (by unfold maxLen; omega) (by omega) hbase
  rw [← ofCs_add] at h2
  unfold Oper.wp
  simp [execOp, ho, resolve, invoke, builtin, hs, hx, hr, Result.andThen]
  exact h v' w' h2 h3 h5
def poC (x : PoR) : List Value := [.string x.nm, .string x.ro, .int .i64 x.hr, x.u]
def poCs (xs : List PoR) : List Value := xs.flatMap poC
theorem poCs_len (xs : List PoR) : (poCs xs).length = xs.length * 4 := by
  induction xs with
  | nil => rfl
  | cons x xs ih => simp only [poCs, List.flatMap_cons, List.length_append, List.length_cons] at *; rw [ih]; simp [poC]; omega
theorem poCs_add (xs : List PoR) (x : PoR) : poCs (xs ++ [x]) = poCs xs ++ poC x := by simp [poCs]
theorem poCs_at {xs : List PoR} {i : Nat} {x : PoR} (h : xs[i]? = some x) (j : Nat) (hj : j < 4) : (poCs xs)[i * 4 + j]? = (poC x)[j]? := by
  induction xs generalizing i with
  | nil => simp at h
  | cons y ys ih =>
    have e : poCs (y :: ys) = poC y ++ poCs ys := rfl
    rw [e]
    cases i with
    | zero =>
      simp only [List.getElem?_cons_zero, Option.some.injEq] at h
      subst h
      rw [show 0 * 4 + j = j by omega, List.getElem?_append_left (by simp [poC]; omega)]
    | succ i =>
      rw [List.getElem?_append_right (by simp [poC]; omega)]
      have := ih (i := i) (by simpa using h)
      rw [← this]
      congr 1
      simp [poC]; omega
theorem PoAts_of_own {w : World} {base : Nat} {v : Value} {xs : List PoR} {T : TypeId} (h : w.ownsRow base T 4 v xs.length (poCs xs)) (hs : ∀ x ∈ xs, StrAts w x.u x.ns) : PoAts w v xs := by
  rcases h.2 with ⟨rfl, h0⟩ | ⟨g, cap, cur, rfl, _, _, hle, hmx, _, _⟩
  · exact ⟨none, 0, by rw [h0], ⟨by omega, by unfold maxLen; omega⟩, fun h => by omega⟩
  · refine ⟨some ⟨g, 0, none⟩, cap, rfl, ⟨hle, hmx⟩, fun _ => ⟨g, 0, rfl, fun i x hx => ?_⟩⟩
    have e : ∀ j, (⟨g, 0, none⟩ : Addr).add j = ⟨g, j, none⟩ := fun j => by unfold Addr.add; split <;> simp_all
    have c0 := h.cells (g := g) rfl (i * 4 + 0) (.string x.nm) (by rw [poCs_at hx 0 (by omega)]; rfl)
    have c1 := h.cells (g := g) rfl (i * 4 + 1) (.string x.ro) (by rw [poCs_at hx 1 (by omega)]; rfl)
    have c2 := h.cells (g := g) rfl (i * 4 + 2) (.int .i64 x.hr) (by rw [poCs_at hx 2 (by omega)]; rfl)
    have c3 := h.cells (g := g) rfl (i * 4 + 3) (x.u) (by rw [poCs_at hx 3 (by omega)]; rfl)
    rw [e] at c0 c1 c2 c3
    exact ⟨by simpa using c0, by simpa using c1, by simpa using c2, by simpa using c3, hs x (List.mem_of_getElem? hx)⟩
theorem info_poC : (Tryz.prog.info? 52).map (fun i => (i.zero, i.size, i.bytes)) = some (some (.agg #[.string ⟨#[]⟩, .string ⟨#[]⟩, .int .i64 0, .slice none 0 0]), 4, 64) := by kernel_rfl
set_option maxRecDepth 10000 in
/-- append of one, as an operation of a drawn region -/
theorem step_poC {w : World} {o : Oper} {a : Act} {K : Act → World → Prop} {Q : Exit → Act → World → Prop} (s x : Operand) (ho : o.op = .call { callee := .builtin .append, args := #[s, x], argTypes := #[29, 29] })
    (base : Nat) (v : Value) (es : List PoR) (e : PoR) (n : Nat) (hn : es.length = n) (hs : a.eval s = v) (hown : w.ownsRow base 52 4 v n (poCs es)) (g c : Nat) (hx : a.eval x = .slice (some ⟨g, 0, none⟩) 1 c) (hu : ∃ p n c, e.u = .slice p n c)
    (h0 : w.cell? ⟨g, 0, none⟩ = some (.string e.nm)) (h1 : w.cell? ⟨g, 1, none⟩ = some (.string e.ro)) (h2 : w.cell? ⟨g, 2, none⟩ = some (.int .i64 e.hr)) (h3 : w.cell? ⟨g, 3, none⟩ = some (e.u)) (hb : n * 64 < 140737488355328) (hbase : base ≤ w.heap.size)
    (h : ∀ v' w', w'.ownsRow base 52 4 v' (n + 1) (poCs (es ++ [e])) → w.grownBy w' v.ownBlock → (v'.ownBlock = v.ownBlock ∨ v'.ownBlock = some w.heap.size) → K (a.put o.dst v') w') : Oper.wp Tryz.prog o a w K Q := by
  obtain ⟨i1, hj, hy0, hy1, hy2⟩ := info_parts info_poC
  obtain ⟨v', w', hr, h2, h3, h4, h5⟩ := run_append_own_at (P := Tryz.prog) w base 29 o.type 52 i1 (.agg #[.string ⟨#[]⟩, .string ⟨#[]⟩, .int .i64 0, .slice none 0 0]) 4 64 Tryz.underlying29 hj hy0 hy1 hy2 rfl (by decide) v n (poCs es) hown ⟨g, 0, none⟩ 1 c (poC e) (by simp [poC])
    (fun j u hu => by
      have ea : (⟨g, 0, none⟩ : Addr).add j = ⟨g, j, none⟩ := by unfold Addr.add; split <;> simp_all
      rw [ea]
      unfold poC at hu
      rcases j with _ | _ | _ | _ | j <;> simp at hu <;> subst hu <;> assumption)
    (fun u hu' => by unfold poC at hu'; simp at hu'; rcases hu' with rfl | rfl | rfl | rfl <;> first | rfl | (obtain ⟨_, _, _, r⟩ := hu; rw [r]; rfl)) (by unfold maxLen; omega) (by omega) hbase
  rw [← poCs_add] at h2
  unfold Oper.wp
  simp [execOp, ho, resolve, invoke, builtin, hs, hx, hr, Result.andThen]
  exact h v' w' h2 h3 h5
/-- the copy that is made, in memory -/
structure JAt (w : World) (base OB : Nat) (ov pv : Value) (os : List OfR) (ps : List PoR) : Prop where
  ob : w.heap[OB]? = some (.cells #[ov, pv] 31 (0, 0))
  oo : w.ownsRow base 49 4 ov os.length (ofCs os)
  pp : w.ownsRow base 52 4 pv ps.length (poCs ps)
  low : base ≤ OB
theorem JAt.gr {w w' : World} {base OB : Nat} {ov pv : Value} {os : List OfR} {ps : List PoR} (h : JAt w base OB ov pv os ps) (k : Gr w w') : JAt w' base OB ov pv os ps := ⟨k.block h.ob, own_grJ h.oo k, own_grJ h.pp k, h.low⟩
theorem JAt.cells {w : World} {base OB : Nat} {ov pv : Value} {os : List OfR} {ps : List PoR} (h : JAt w base OB ov pv os ps) : w.cell? ⟨OB, 0, none⟩ = some ov ∧ w.cell? ⟨OB, 1, none⟩ = some pv := by
  constructor <;> (rw [cell_of_row w OB _ _ _ (0, 0) h.ob]; rfl)
theorem of_ne_po : (49 : TypeId) ≠ 52 := by decide
theorem of_ne_j : (49 : TypeId) ≠ 31 := by decide
theorem po_ne_j : (52 : TypeId) ≠ 31 := by decide
theorem JAt.putO {W0 w w1 : World} {OB : Nat} {ov pv v1 : Value} {os : List OfR} {ps : List PoR} {e : OfR} {o : Obj} (h : JAt w W0.heap.size OB ov pv os ps) (k : Gr W0 w)
    (ho : w1.ownsRow W0.heap.size 49 4 v1 (os.length + 1) (ofCs (os ++ [e]))) (hg : (w.alloc o).grownBy w1 ov.ownBlock) (hat : v1.ownBlock = ov.ownBlock ∨ v1.ownBlock = some (w.alloc o).heap.size) :
    w1.cell? ⟨OB, 0, none⟩ = some ov ∧ w1.frozen? ⟨OB, 0, none⟩ = false ∧ JAt (w1.setCell ⟨OB, 0, none⟩ v1) W0.heap.size OB v1 pv (os ++ [e]) ps ∧ Gr W0 (w1.setCell ⟨OB, 0, none⟩ v1) := by
  have ka : Gr w (w.alloc o) := (Gr.refl w).alloc o
  have hA := h.gr ka
  have b1 : w1.heap[OB]? = (w.alloc o).heap[OB]? := hg.block OB (Array.getElem?_eq_some_iff.1 hA.ob).1 (fun x => own_neJ hA.oo hA.ob of_ne_j x.symm)
  have c1 := b1.trans hA.ob
  have hn1 : v1.ownBlock ≠ some OB := by
    rcases hat with x | x
    · rw [x]; exact own_neJ hA.oo hA.ob of_ne_j
    · rw [x]; intro y; cases y; have := (Array.getElem?_eq_some_iff.1 hA.ob).1; omega
  refine ⟨?_, ?_, ⟨?_, ?_, ?_, h.low⟩, ?_⟩
  · rw [cell_of_row w1 OB _ _ _ (0, 0) c1]; rfl
  · exact frozen_of_row w1 OB _ _ _ c1
  · have := heap_setCell_same w1 OB 0 _ _ v1 c1
    simpa using this
  · rw [List.length_append]
    exact own_sameJ ho fun g x => heap_setCell_other _ _ _ _ (fun r => hn1 (by rw [x]; exact congrArg some r))
  · refine own_sameJ hA.pp fun g hx => ?_
    have hgi := own_inJ hA.pp hx
    rw [heap_setCell_other _ _ _ _ (fun r => own_neJ hA.pp hA.ob po_ne_j (by rw [hx]; exact congrArg some r))]
    exact hg.block g hgi.1 (fun r => own_rowsJ hA.oo hA.pp of_ne_po hx r.symm)
  · refine Below.setCell (Below.grown (k.trans ka) hg ?_ (fun j hj => (own_inJ hA.oo hj).2)) (p := ⟨OB, 0, none⟩) h.low v1
    exact (k.trans ka).size
theorem JAt.putP {W0 w w1 : World} {OB : Nat} {ov pv v1 : Value} {os : List OfR} {ps : List PoR} {e : PoR} {o : Obj} (h : JAt w W0.heap.size OB ov pv os ps) (k : Gr W0 w)
    (ho : w1.ownsRow W0.heap.size 52 4 v1 (ps.length + 1) (poCs (ps ++ [e]))) (hg : (w.alloc o).grownBy w1 pv.ownBlock) (hat : v1.ownBlock = pv.ownBlock ∨ v1.ownBlock = some (w.alloc o).heap.size) :
    w1.cell? ⟨OB, 1, none⟩ = some pv ∧ w1.frozen? ⟨OB, 1, none⟩ = false ∧ JAt (w1.setCell ⟨OB, 1, none⟩ v1) W0.heap.size OB ov v1 os (ps ++ [e]) ∧ Gr W0 (w1.setCell ⟨OB, 1, none⟩ v1) := by
  have ka : Gr w (w.alloc o) := (Gr.refl w).alloc o
  have hA := h.gr ka
  have b1 : w1.heap[OB]? = (w.alloc o).heap[OB]? := hg.block OB (Array.getElem?_eq_some_iff.1 hA.ob).1 (fun x => own_neJ hA.pp hA.ob po_ne_j x.symm)
  have c1 := b1.trans hA.ob
  have hn1 : v1.ownBlock ≠ some OB := by
    rcases hat with x | x
    · rw [x]; exact own_neJ hA.pp hA.ob po_ne_j
    · rw [x]; intro y; cases y; have := (Array.getElem?_eq_some_iff.1 hA.ob).1; omega
  refine ⟨?_, ?_, ⟨?_, ?_, ?_, h.low⟩, ?_⟩
  · rw [cell_of_row w1 OB _ _ _ (0, 0) c1]; rfl
  · exact frozen_of_row w1 OB _ _ _ c1
  · have := heap_setCell_same w1 OB 1 _ _ v1 c1
    simpa using this
  · refine own_sameJ hA.oo fun g hx => ?_
    have hgi := own_inJ hA.oo hx
    rw [heap_setCell_other _ _ _ _ (fun r => own_neJ hA.oo hA.ob of_ne_j (by rw [hx]; exact congrArg some r))]
    exact hg.block g hgi.1 (fun r => own_rowsJ hA.pp hA.oo of_ne_po.symm hx r.symm)
  · rw [List.length_append]
    exact own_sameJ ho fun g x => heap_setCell_other _ _ _ _ (fun r => hn1 (by rw [x]; exact congrArg some r))
  · refine Below.setCell (Below.grown (k.trans ka) hg ?_ (fun j hj => (own_inJ hA.pp hj).2)) (p := ⟨OB, 1, none⟩) h.low v1
    exact (k.trans ka).size
end Go.Proofs.YtjojbcgppkfidaaGreat
