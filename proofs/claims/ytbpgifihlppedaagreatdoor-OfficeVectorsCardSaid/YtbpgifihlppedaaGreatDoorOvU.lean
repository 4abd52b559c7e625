/- Archives (chapter 10): the desks of an archive, gone through by an iterator. -/
import Derived.RangeFuncNested
import Derived.RangeFuncBound
import Derived.RangeFuncCalls
import Derived.RangeFuncLeaves
import Derived.RangeFuncFrom
import Derived.RangeFuncWrites
import Derived.Shelf.Abstract
import Derived.Shelf.RegionOpen
import Derived.OwnWalkIn
import Derived.TacticsInMore
import Derived.LoopNIn
import Derived.LoopIn
import Derived.Deep.RegionHeld
import Derived.Test.YtbpgifihlppedaaGreatDoorGOvR
namespace Go.Proofs.YtbpgifihlppedaaGreatDoor
open Go.RowKit Go.Shelf
set_option linter.unusedSimpArgs false
set_option linter.unusedVariables false
attribute [local go_sem] Oper.semAt_some
theorem gr_grown6 {w w' : World} (h : Gr w w') : w.grownBy w' none := ⟨h.os, h.tape, h.output, Below.size h, fun k hk _ => Below.block h k hk⟩
theorem gr_others {W W' : World} (h : Gr W W') : KeepsOthers W W' := ⟨Below.size h, fun k o hk _ => (Below.block h k (Array.getElem?_eq_some_iff.1 hk).1).trans hk⟩
theorem own_others {w w' : World} {b s n : Nat} {T : TypeId} {v : Value} {l : List Value} (h : w.ownsRow b T s v n l) (hg : w.grownBy w' v.ownBlock) : KeepsOthers w w' := KeepsOthers.of_grownBy hg fun j o e ho => by
  rcases h.2 with ⟨rfl, _⟩ | ⟨g, cap, cur, rfl, _, hgg, _⟩
  · cases e
  · cases e
    rw [hgg] at ho
    cases ho
    rfl
theorem own_turn {w w' : World} {b s n : Nat} {T : TypeId} {v : Value} {l : List Value} {row : Option Nat} (h : w.ownsRow b T s v n l) (hg : w.grownBy w' row) (hrow : ∀ r, row = some r → ∃ o : Obj, w.heap[r]? = some o ∧ o.isCells = false) : w'.ownsRow b T s v n l := by
  refine ⟨h.1, ?_⟩
  rcases h.2 with hn | ⟨g, cap, cur, rfl, hb, hgg, rest⟩
  · exact .inl hn
  · refine .inr ⟨g, cap, cur, rfl, hb, ?_, rest⟩
    have hlt := (Array.getElem?_eq_some_iff.1 hgg).1
    rw [hg.block g hlt (fun e => by obtain ⟨o, ho, hc⟩ := hrow g e.symm; rw [hgg] at ho; cases ho; cases hc)]
    exact hgg
theorem cell1_of {w : World} {g : Nat} {a : Value} {T : TypeId} {z : Nat × Nat} (h : w.heap[g]? = some (.cells #[a] T z)) : w.cell? ⟨g, 0, none⟩ = some a := by
  simp [World.cell?, h]
def KpAll (A B : World) : Prop := ∀ (k : Nat) (cur : Array Value) T z, A.heap[k]? = some (.cells cur T z) → B.heap[k]? = some (.cells cur T z)
theorem kpAll_putObj (W : World) (l : Nat) (o o' : Obj) (h : W.heap[l]? = some o) (ho : o.isCells = false) : KpAll W (W.putObj l o') := fun k cur T z hk => by
  by_cases e : k = l
  · subst e; rw [hk] at h; cases h; cases ho
  · exact (World.putObj_heap_other e).trans hk
def KpM (base X : Nat) (A B : World) : Prop := ∀ (k : Nat) (cur : Array Value) T z, A.heap[k]? = some (.cells cur T z) → (k = X → T ≠ 55) → (k < base ∨ T ≠ 96) → B.heap[k]? = some (.cells cur T z)
theorem kpM_t {base X : Nat} {A B C : World} (h : KpM base X A B) (k : KpM base X B C) : KpM base X A C := fun i cur T z hi h1 h2 => k i cur T z (h i cur T z hi h1 h2) h1 h2
theorem kpM_gr {base X : Nat} {A B : World} (h : Gr A B) : KpM base X A B := fun k cur T z hk _ _ => Gr.block h hk
theorem kpM_putObj {base X : Nat} (W : World) (l : Nat) (o o' : Obj) (h : W.heap[l]? = some o) (ho : o.isCells = false) : KpM base X W (W.putObj l o') := fun k cur T z hk _ _ => kpAll_putObj W l o o' h ho k cur T z hk
theorem kpM_setCell (base X : Nat) (W : World) (v : Value) {u : Value} (hX : W.heap[X]? = some (.cells #[u] 55 (0, 0))) : KpM base X W (W.setCell ⟨X, 0, none⟩ v) := fun k cur T z hk h1 _ => (Below.heap_setCell _ _ _ _ (fun e => by
  have e : k = X := e
  subst e
  rw [hX] at hk
  cases hk
  exact h1 rfl rfl)).trans hk
theorem kpM_grown {base X : Nat} {W W' : World} {n : Nat} {v : Value} {xs : List Value} (h : W.ownsRow base 96 2 v n xs) (hg : W.grownBy W' v.ownBlock) : KpM base X W W' := fun k cur T z hk h1 h2 =>
  (hg.block k (Array.getElem?_eq_some_iff.1 hk).1 (fun e => by
    rcases h.2 with ⟨rfl, _⟩ | ⟨g, cap, cur', rfl, hb, hgg, _⟩
    · cases e
    · cases e
      rw [hgg] at hk
      cases hk
      rcases h2 with h2 | h2
      · have hb' : base ≤ g := hb
        have h2' : g < base := h2
        omega
      · exact h2 rfl)).trans hk
theorem kpM_cell {base X : Nat} {A B : World} (h : KpM base X A B) {b o : Nat} {v : Value} (hb : b < base) (hx : b ≠ X) (hc : A.cell? ⟨b, o, none⟩ = some v) : B.cell? ⟨b, o, none⟩ = some v := by
  obtain ⟨cur, T, z, hbk⟩ : ∃ cur T z, A.heap[b]? = some (.cells cur T z) := by
    unfold World.cell? at hc
    split at hc
    · rename_i cur T z hbk; exact ⟨cur, T, z, hbk⟩
    · cases hc
  exact (World.cell?_of_block (a := ⟨b, o, none⟩) ((h b cur T z hbk (fun e => absurd e hx) (.inl hb)).trans hbk.symm)).trans hc
structure MkI (base X : Nat) (L : List MkR) (W : World) : Prop where
  mk' ::
  out : ∃ v, W.heap[X]? = some (.cells #[v] 55 (0, 0)) ∧ W.ownsRow base 96 2 v L.length (mkCs L)
theorem MkI.own {base X : Nat} {β : Type} (f : β → List MkR) : Own (fun (s : β) W => MkI base X (f s) W) := fun s A B row hs hg hr => by
  obtain ⟨v, h1, h3⟩ := hs.out
  exact ⟨v, (hg.block X (Array.getElem?_eq_some_iff.1 h1).1 (fun e => by obtain ⟨o, ho, hc⟩ := hr X e.symm; rw [h1] at ho; cases ho; cases hc)).trans h1, own_turn h3 hg hr⟩
theorem MkI.gr {base X : Nat} {L : List MkR} {W W' : World} (h : MkI base X L W) (g : Gr W W') : MkI base X L W' := by
  obtain ⟨v, h1, h3⟩ := h.out
  exact ⟨v, Gr.block g h1, own_kept h3 g⟩
theorem MkI.store {base X : Nat} {L : List MkR} {A B : World} {v v1 : Value} {r : MkR} (hX : X < base) (hc : A.heap[X]? = some (.cells #[v] 55 (0, 0))) (hown : A.ownsRow base 96 2 v L.length (mkCs L)) (hg : A.grownBy B v.ownBlock) (hown1 : B.ownsRow base 96 2 v1 (L.length + 1) (mkCs L ++ mkC r)) :
    (B.cell? ⟨X, 0, none⟩ = some v ∧ B.frozen? ⟨X, 0, none⟩ = false) ∧ MkI base X (L ++ [r]) (B.setCell ⟨X, 0, none⟩ v1) ∧ KpM base X A (B.setCell ⟨X, 0, none⟩ v1) ∧ KeepsOthers A (B.setCell ⟨X, 0, none⟩ v1) := by
  have hne : v.ownBlock ≠ some X := fun e => by
    have := (own_in hown e).2
    omega
  have hb := (hg.block X (Array.getElem?_eq_some_iff.1 hc).1 (fun e => hne e.symm)).trans hc
  refine ⟨⟨cell1_of hb, frozen_of_row _ _ 0 _ _ hb⟩, ⟨v1, ?_, ?_⟩, kpM_t (kpM_grown hown hg) (kpM_setCell _ _ _ _ hb), (own_others hown hg).trans (KeepsOthers.setCell _ _ _)⟩
  · have := heap_setCell_same B X 0 _ _ v1 hb
    simpa using this
  · rw [List.length_append, mkCs_add]
    exact own_same hown1 (fun g e => Below.heap_setCell _ _ _ _ (fun e2 => by
      have h3 := (own_in hown1 e).2
      have h4 : g = X := e2
      omega))
theorem MkI.below {base X n₀ : Nat} {L : List MkR} {w A B : World} {v v1 : Value} (hX : X < base) (hn : n₀ ≤ X) (hw : Below n₀ w A) (hA : n₀ ≤ A.heap.size) (hown : A.ownsRow base 96 2 v L.length (mkCs L)) (hg : A.grownBy B v.ownBlock) : Below n₀ w (B.setCell ⟨X, 0, none⟩ v1) :=
  (Below.grown hw hg hA (fun q hq => by have := (own_in hown hq).2; omega)).setCell (p := ⟨X, 0, none⟩) hn _
/-- seven cells of an entry -/
structure En7 (w : World) (b off : Nat) (e : EnR) : Prop where
  c0 : w.cell? ⟨b, off, none⟩ = some (.string e.de)
  c1 : w.cell? ⟨b, off + 1, none⟩ = some (.int .i64 e.nu)
  c2 : w.cell? ⟨b, off + 2, none⟩ = some (.int .i64 e.ck)
  c3 : w.cell? ⟨b, off + 3, none⟩ = some (.string e.ro)
  c4 : w.cell? ⟨b, off + 4, none⟩ = some (.int .i64 e.va)
  c5 : w.cell? ⟨b, off + 5, none⟩ = some (.string e.st)
  c6 : w.cell? ⟨b, off + 6, none⟩ = some (.slice e.p e.n e.cap)
theorem En7.kpM {base X : Nat} {A B : World} (h : KpM base X A B) {b off : Nat} {e : EnR} (hb : b < base) (hx : b ≠ X) (k : En7 A b off e) : En7 B b off e :=
  ⟨kpM_cell h hb hx k.c0, kpM_cell h hb hx k.c1, kpM_cell h hb hx k.c2, kpM_cell h hb hx k.c3, kpM_cell h hb hx k.c4, kpM_cell h hb hx k.c5, kpM_cell h hb hx k.c6⟩
theorem En7.gr {A B : World} (h : Gr A B) {b off : Nat} {e : EnR} (k : En7 A b off e) : En7 B b off e :=
  ⟨h.cell k.c0, h.cell k.c1, h.cell k.c2, h.cell k.c3, h.cell k.c4, h.cell k.c5, h.cell k.c6⟩
/-- a group at its place -/
structure GOK (l : List EnR) (z : List EnR × Nat) : Prop where
  ne : z.1 ≠ []
  at_ : ∀ i e, z.1[i]? = some e → l[z.2 + i]? = some e
  le : z.2 + z.1.length ≤ l.length
abbrev Grp (l : List EnR) := { z : List EnR × Nat // GOK l z }
/-- the archive, as the iterator finds it -/
structure DkF (Bl : Nat) (q0 : Option Addr) (b off n cap : Nat) (l : List EnR) (w : World) : Prop where
  mk' ::
  box : w.heap[Bl]? = some (.cells #[.slice q0 n cap] 24 (0, 0))
  row : ∀ i e, l[i]? = some e → En7 w b (off + i * 7) e
theorem DkF.gr {Bl b off n cap : Nat} {q0 : Option Addr} {l : List EnR} {w w' : World} (h : DkF Bl q0 b off n cap l w) (k : Gr w w') : DkF Bl q0 b off n cap l w' := ⟨Gr.block k h.box, fun i e he => (h.row i e he).gr k⟩
theorem En7.turn {A B : World} {row : Option Nat} {b off : Nat} {e : EnR} (k : En7 A b off e) (hg : A.grownBy B row) (hr : ∀ r, row = some r → ∃ o : Obj, A.heap[r]? = some o ∧ o.isCells = false) : En7 B b off e :=
  ⟨cell_kept k.c0 hg hr, cell_kept k.c1 hg hr, cell_kept k.c2 hg hr, cell_kept k.c3 hg hr, cell_kept k.c4 hg hr, cell_kept k.c5 hg hr, cell_kept k.c6 hg hr⟩
theorem DkF.own {Bl : Nat} {q0 : Option Addr} {b off n cap : Nat} {l : List EnR} {β : Type} : Own (fun (_ : β) W => DkF Bl q0 b off n cap l W) := fun s A B row hs hg hr =>
  ⟨(hg.block Bl (Array.getElem?_eq_some_iff.1 hs.box).1 (fun e => by obtain ⟨o, ho, hc⟩ := hr Bl e.symm; rw [hs.box] at ho; cases ho; cases hc)).trans hs.box, fun i e he => (hs.row i e he).turn hg hr⟩
theorem grps_step {f : Nat} {x : EnR} {t : List EnR} : grps (f + 1) (x :: t) = (x :: t.takeWhile (sameD x)) :: grps f (t.dropWhile (sameD x)) := rfl
theorem grps_fuel : ∀ (f g : Nat) (l : List EnR), l.length ≤ f → l.length ≤ g → grps f l = grps g l
  | 0, 0, _, _, _ => rfl
  | 0, g + 1, [], _, _ => rfl
  | 0, _ + 1, _ :: _, h, _ => by simp at h
  | f + 1, 0, [], _, _ => rfl
  | _ + 1, 0, _ :: _, _, h => by simp at h
  | f + 1, g + 1, [], _, _ => rfl
  | f + 1, g + 1, x :: t, hf, hg => by
    have hdl : (t.dropWhile (sameD x)).length ≤ t.length := (List.dropWhile_sublist _).length_le
    rw [grps_step, grps_step, grps_fuel f g _ (by simp at hf; omega) (by simp at hg; omega)]
theorem groups_cons (x : EnR) (t : List EnR) : groups (x :: t) = (x :: t.takeWhile (sameD x)) :: groups (t.dropWhile (sameD x)) := by
  unfold groups
  rw [List.length_cons, grps_step]
  congr 1
  exact grps_fuel _ _ _ (List.dropWhile_sublist _).length_le (Nat.le_refl _)
/-- how far the entries of one desk go -/
theorem take_run {l : List EnR} {s k : Nat} {x : EnR} (hx : l[s]? = some x) (hk : 1 ≤ k) (hin : ∀ j, 1 ≤ j → j < k → ∃ e, l[s + j]? = some e ∧ sameD x e = true) (hend : ∀ e, l[s + k]? = some e → sameD x e = false) :
    (l.drop s) = (x :: (l.drop (s + 1)).takeWhile (sameD x)) ++ l.drop (s + k) ∧ (x :: (l.drop (s + 1)).takeWhile (sameD x)).length = k ∧ (l.drop (s + 1)).dropWhile (sameD x) = l.drop (s + k) := by
  have hd : l.drop s = x :: l.drop (s + 1) := by
    obtain ⟨h1, h2⟩ := List.getElem?_eq_some_iff.1 hx
    rw [List.drop_eq_getElem_cons h1, h2]
  have key : ∀ (t : List EnR) (m : Nat), (∀ j, j < m → ∃ e, t[j]? = some e ∧ sameD x e = true) → (∀ e, t[m]? = some e → sameD x e = false) → t.takeWhile (sameD x) = t.take m ∧ t.dropWhile (sameD x) = t.drop m := by
    intro t
    induction t with
    | nil => intro m _ _; simp
    | cons y t ih =>
      intro m h1 h2
      cases m with
      | zero =>
        have := h2 y (by simp)
        simp [List.takeWhile_cons, List.dropWhile_cons, this]
      | succ m =>
        obtain ⟨e, he, hs⟩ := h1 0 (by omega)
        simp at he
        subst he
        have := ih m (fun j hj => by
          obtain ⟨e, h3, h4⟩ := h1 (j + 1) (by omega)
          exact ⟨e, by simpa using h3, h4⟩) (fun e he => h2 e (by simpa using he))
        simp [List.takeWhile_cons, List.dropWhile_cons, hs, this.1, this.2]
  have hk2 := key (l.drop (s + 1)) (k - 1) (fun j hj => by
    obtain ⟨e, h1, h2⟩ := hin (j + 1) (by omega) (by omega)
    exact ⟨e, by rw [List.getElem?_drop, ← h1]; congr 1; omega, h2⟩) (fun e he => hend e (by rw [← he, List.getElem?_drop]; congr 1; omega))
  have hlen : k - 1 ≤ (l.drop (s + 1)).length := by
    rcases Nat.eq_or_lt_of_le hk with h | h
    · omega
    · obtain ⟨e, h1, _⟩ := hin (k - 1) (by omega) (by omega)
      have := (List.getElem?_eq_some_iff.1 h1).1
      rw [List.length_drop]; omega
  have e3 : (l.drop (s + 1)).drop (k - 1) = l.drop (s + k) := by rw [List.drop_drop]; congr 1; omega
  refine ⟨?_, ?_, ?_⟩
  · rw [hk2.1, hd, List.cons_append, ← e3, List.take_append_drop]
  · rw [hk2.1, List.length_cons, List.length_take]; omega
  · rw [hk2.2, e3]
theorem desks_c (p : Option Addr) (n c : Nat) (w : World) :
    Calls Tryz.prog 78 #[.agg #[.slice p n c]] w fun e w' => e = .returned (.func (.func 123) #[] #[.pointer (some ⟨w.heap.size, 0, none⟩)]) ∧ w' = w.alloc (.cells #[.slice p n c] 24) := by
  go_enter Tryz.func78, Tryz.ntmps78
  go_wp2_with fail
  go_ret
  exact ⟨rfl, rfl⟩
end Go.Proofs.YtbpgifihlppedaaGreatDoor
