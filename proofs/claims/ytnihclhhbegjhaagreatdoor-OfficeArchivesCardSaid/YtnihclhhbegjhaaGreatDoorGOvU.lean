/- Archives (chapter 10): the desks of an archive, gone through by an iterator. -/
import Derived.RangeFuncNested
import Derived.RangeFuncBound
import Derived.RangeFuncCalls
import Derived.RangeFuncLeaves
import Derived.RangeFuncFrom
import Derived.RangeFuncWrites
import Derived.Shelf.Abstract
import Derived.Shelf.RegionOpen
import Derived.OwnWalkIn
import Derived.TacticsInMore
import Derived.LoopNIn
import Derived.LoopIn
import Derived.Deep.RegionHeld
import Derived.Test.YtnihclhhbegjhaaGreatDoorGOvH
import Derived.Scope
import Derived.WalkMore
import Derived.MapKept
import Derived.Sort.Grow
import Derived.Shelf.SlSortCmp.InsertionK
import Derived.Deep.CutBlock
namespace Go.Proofs.YtnihclhhbegjhaaGreatDoor
open Go.RowKit Go.Shelf
set_option linter.unusedSimpArgs false
set_option linter.unusedVariables false
attribute [local go_sem] Oper.semAt_some
theorem own_turn {w w' : World} {b s n : Nat} {T : TypeId} {v : Value} {l : List Value} {row : Option Nat} (h : w.ownsRow b T s v n l) (hg : w.grownBy w' row) (hrow : ∀ r, row = some r → ∃ o : Obj, w.heap[r]? = some o ∧ o.isCells = false) : w'.ownsRow b T s v n l := by
  refine ⟨h.1, ?_⟩
  rcases h.2 with hn | ⟨g, cap, cur, rfl, hb, hgg, rest⟩
  · exact .inl hn
  · refine .inr ⟨g, cap, cur, rfl, hb, ?_, rest⟩
    have hlt := (Array.getElem?_eq_some_iff.1 hgg).1
    rw [hg.block g hlt (fun e => by obtain ⟨o, ho, hc⟩ := hrow g e.symm; rw [hgg] at ho; cases ho; cases hc)]
    exact hgg
structure MkI (base X : Nat) (L : List MkR) (W : World) : Prop where
  mk' ::
  out : ∃ v, W.heap[X]? = some (.cells #[v] 55 (0, 0)) ∧ W.ownsRow base 84 2 v L.length (mkCs L)
theorem MkI.own {base X : Nat} {β : Type} (f : β → List MkR) : Own (fun (s : β) W => MkI base X (f s) W) := fun s A B row hs hg hr => by
  obtain ⟨v, h1, h3⟩ := hs.out
  exact ⟨v, (hg.block X (Array.getElem?_eq_some_iff.1 h1).1 (fun e => by obtain ⟨o, ho, hc⟩ := hr X e.symm; rw [h1] at ho; cases ho; cases hc)).trans h1, own_turn h3 hg hr⟩
theorem MkI.gr {base X : Nat} {L : List MkR} {W W' : World} (h : MkI base X L W) (g : Gr W W') : MkI base X L W' := by
  obtain ⟨v, h1, h3⟩ := h.out
  exact ⟨v, Gr.block g h1, own_kept h3 g⟩
theorem MkI.below {base X n₀ : Nat} {L : List MkR} {w A B : World} {v v1 : Value} (hX : X < base) (hn : n₀ ≤ X) (hw : Below n₀ w A) (hA : n₀ ≤ A.heap.size) (hown : A.ownsRow base 84 2 v L.length (mkCs L)) (hg : A.grownBy B v.ownBlock) : Below n₀ w (B.setCell ⟨X, 0, none⟩ v1) :=
  (Below.grown hw hg hA (fun q hq => by have := (own_in hown hq).2; omega)).setCell (p := ⟨X, 0, none⟩) hn _
structure En7 (w : World) (b off : Nat) (e : EnR) : Prop where
  c0 : w.cell? ⟨b, off, none⟩ = some (.string e.de)
  c1 : w.cell? ⟨b, off + 1, none⟩ = some (.int .i64 e.nu)
  c2 : w.cell? ⟨b, off + 2, none⟩ = some (.int .i64 e.ck)
  c3 : w.cell? ⟨b, off + 3, none⟩ = some (.string e.ro)
  c4 : w.cell? ⟨b, off + 4, none⟩ = some (.int .i64 e.va)
  c5 : w.cell? ⟨b, off + 5, none⟩ = some (.string e.st)
  c6 : w.cell? ⟨b, off + 6, none⟩ = some (.slice e.p e.n e.cap)
theorem En7.gr {A B : World} (h : Gr A B) {b off : Nat} {e : EnR} (k : En7 A b off e) : En7 B b off e :=
  ⟨h.cell k.c0, h.cell k.c1, h.cell k.c2, h.cell k.c3, h.cell k.c4, h.cell k.c5, h.cell k.c6⟩
structure DkF (Bl : Nat) (q0 : Option Addr) (b off n cap : Nat) (l : List EnR) (w : World) : Prop where
  mk' ::
  box : w.heap[Bl]? = some (.cells #[.slice q0 n cap] 24 (0, 0))
  row : ∀ i e, l[i]? = some e → En7 w b (off + i * 7) e
theorem DkF.gr {Bl b off n cap : Nat} {q0 : Option Addr} {l : List EnR} {w w' : World} (h : DkF Bl q0 b off n cap l w) (k : Gr w w') : DkF Bl q0 b off n cap l w' := ⟨Gr.block k h.box, fun i e he => (h.row i e he).gr k⟩
theorem En7.turn {A B : World} {row : Option Nat} {b off : Nat} {e : EnR} (k : En7 A b off e) (hg : A.grownBy B row) (hr : ∀ r, row = some r → ∃ o : Obj, A.heap[r]? = some o ∧ o.isCells = false) : En7 B b off e :=
  ⟨cell_kept k.c0 hg hr, cell_kept k.c1 hg hr, cell_kept k.c2 hg hr, cell_kept k.c3 hg hr, cell_kept k.c4 hg hr, cell_kept k.c5 hg hr, cell_kept k.c6 hg hr⟩
theorem DkF.own {Bl : Nat} {q0 : Option Addr} {b off n cap : Nat} {l : List EnR} {β : Type} : Own (fun (_ : β) W => DkF Bl q0 b off n cap l W) := fun s A B row hs hg hr =>
  ⟨(hg.block Bl (Array.getElem?_eq_some_iff.1 hs.box).1 (fun e => by obtain ⟨o, ho, hc⟩ := hr Bl e.symm; rw [hs.box] at ho; cases ho; cases hc)).trans hs.box, fun i e he => (hs.row i e he).turn hg hr⟩
end Go.Proofs.YtnihclhhbegjhaaGreatDoor
namespace Go.Proofs.YtnihclhhbegjhaaGreatDoor
open Go.RowKit Go.Shelf
set_option linter.unusedSimpArgs false
set_option linter.unusedVariables false
attribute [local go_sem] Oper.semAt_some
end Go.Proofs.YtnihclhhbegjhaaGreatDoor
namespace Go.Proofs.YtnihclhhbegjhaaGreatDoor
open Go.RowKit Go.Shelf
set_option linter.unusedSimpArgs false
set_option linter.unusedVariables false
attribute [local go_sem] Oper.semAt_some
end Go.Proofs.YtnihclhhbegjhaaGreatDoor
namespace Go
section
variable {F : Fence} {P : Program} {n : Nat} {b : Frame} {a : Act} {k : List Item} {cs : List Frame} {w : World}
end
end Go
namespace Go.Proofs.YtnihclhhbegjhaaGreatDoor
open Go.RowKit Go.Shelf
set_option linter.unusedSimpArgs false
set_option linter.unusedVariables false
attribute [local go_sem] Oper.semAt_some
end Go.Proofs.YtnihclhhbegjhaaGreatDoor
namespace Go.Proofs.YtnihclhhbegjhaaGreatDoor
open Go.RowKit Go.Lib
set_option linter.unusedSimpArgs false
set_option linter.unusedVariables false
theorem EnS.lens {w : World} {q : Option Addr} {l : List EnR} (h : EnS w q l) : ∀ e ∈ l, e.xs.length = e.n := fun e he => by
  obtain ⟨i, hi⟩ := List.mem_iff_getElem?.1 he
  obtain ⟨b, off, _, hc⟩ := h.out (by have := (List.getElem?_eq_some_iff.1 hi).1; omega)
  exact (hc i e hi).rows.len
theorem ek_bounds {es L : List EnR} (h : es.map ek = L.map ek) (hL : ∀ f ∈ L, f.xs.length ≤ 160 ∧ ∀ y ∈ f.xs, y.xs.length ≤ 19) : ∀ e ∈ es, e.xs.length ≤ 160 ∧ ∀ x ∈ e.xs, x.xs.length ≤ 19 := fun e he => by
  have h1 : ek e ∈ L.map ek := by rw [← h]; exact List.mem_map_of_mem he
  obtain ⟨f, hf, hfe⟩ := List.mem_map.1 h1
  have hx : f.xs.map rk = e.xs.map rk := by
    have := congrArg (fun z => z.2.2.2.2.2.2) hfe
    exact this
  have hb := hL f hf
  refine ⟨by have := congrArg List.length hx; simp only [List.length_map] at this; omega, fun x hxe => ?_⟩
  have h2 : rk x ∈ f.xs.map rk := by rw [hx]; exact List.mem_map_of_mem hxe
  obtain ⟨y, hy, hyx⟩ := List.mem_map.1 h2
  have h3 : y.xs = x.xs := congrArg (fun z => z.2.2) hyx
  rw [← h3]; exact hb.2 y hy
theorem arch_few {l : List EnR} (h : archE l = 0) : ∀ e ∈ l, e.xs.length ≤ 160 := fun e he => by
  have h1 := (arch_ord h).2 e he
  unfold enErr entryE at h1
  refine sheetE_few (ro := e.ro) (va := e.va) (st := e.st) ?_
  simp only [firstE] at h1
  split at h1 <;> try split at h1 <;> try split at h1 <;> try split at h1
  all_goals first | assumption | (exfalso; omega)
theorem firstE_two (x y : Int) : firstE [x, y] = if x = 0 then (if y = 0 then 0 else y) else x := rfl
theorem en_nil (w : World) : EnS w none [] := ⟨fun h => absurd h (by simp)⟩
set_option maxHeartbeats 1000000 in
set_option maxRecDepth 100000 in
theorem lawFirst10_c0 (b n cap : Nat) (es : List Int) (w : World) (hn : es.length = n) (hc : ∀ i x, es[i]? = some x → w.cell? ⟨b, i, none⟩ = some (.int .i64 x)) (hs : n ≤ 1000) :
    Calls Tryz.prog 15 #[.slice (some ⟨b, 0, none⟩) n cap] w fun e w' => e = .returned (.int .i64 (firstE es)) ∧ w = w' := by
  have HN := Lib.hid hn
  have HC := Lib.hid hc
  clear hc
  go_enter Tryz.func15, Tryz.ntmps15
  go_wp2_with fail
  go_loopg [4, 7] n (fun g s4 s7 wr => ∃ k : Nat, s7 = .int .i64 k ∧ g + k = n ∧ wr = w ∧ Hid (firstE (es.drop k) = firstE es))
  case atStart => exact ⟨0, rfl, by omega, rfl, by simp [Hid]⟩
  case round =>
    obtain ⟨k, rfl, hk, rfl, HF⟩ := hrel
    by_cases hlt : k < n
    · obtain ⟨x, hx⟩ : ∃ x, es[k]? = some x := ⟨es[k]'(by omega), List.getElem?_eq_getElem (by omega)⟩
      have hcell := HC.out k x hx
      have hf := firstE_drop hx
      have hi2 : (k : Int) < n := by omega
      by_cases h0 : x = 0
      · subst h0
        rw [if_pos rfl] at hf
        have HF2 := Lib.hid hf
        clear hf hx
        go_wp2_with fail
        go_roundg (gk - 1)
        case measure => omega
        case rel => exact ⟨k + 1, by go_num, by omega, rfl, by unfold Hid; rw [← HF2.out, HF.out]⟩
      · rw [if_neg h0] at hf
        have HF2 := Lib.hid hf
        have h1 : (x == 0) = false := by simpa using h0
        have h2 : (x != 0) = true := by simpa [bne] using h1
        clear hf hx h0
        go_wp2_with fail
        go_ret
        exact ⟨by rw [← HF.out, HF2.out]; rfl, rfl⟩
    · have : es.drop k = [] := List.drop_of_length_le (by omega)
      have HE : Hid (firstE es = 0) := by unfold Hid; rw [← HF.out, this]; rfl
      clear this
      go_wp2_with fail
      go_ret
      exact ⟨by rw [HE.out]; rfl, rfl⟩
theorem lawFirst10_two (x y : Int) (b cap : Nat) (w : World) (hx : w.cell? ⟨b, 0, none⟩ = some (.int .i64 x)) (hy : w.cell? ⟨b, 1, none⟩ = some (.int .i64 y)) :
    Calls Tryz.prog 15 #[.slice (some ⟨b, 0, none⟩) 2 cap] w fun e w' => e = .returned (.int .i64 (firstE [x, y])) ∧ w = w' :=
  lawFirst10_c0 b 2 cap [x, y] w rfl (fun i v h => by
    rcases i with _ | _ | i <;> simp at h <;> subst h <;> assumption) (by omega)
end Go.Proofs.YtnihclhhbegjhaaGreatDoor
namespace Go.Proofs.YtnihclhhbegjhaaGreatDoor
open Go.RowKit Go.Lib
set_option linter.unusedSimpArgs false
set_option linter.unusedVariables false
structure RetB (e : Ending) (P : Prop) : Prop where
  mk' ::
  out : ∃ b, e = .returned (.bool b) ∧ Hid (b = true ↔ P)
theorem list_ext {α : Type} {xs ys : List α} {n : Nat} (h1 : xs.length = n) (h2 : ys.length = n) (h : ∀ j, j < n → xs[j]? = ys[j]?) : xs = ys := by
  apply List.ext_getElem?
  intro j
  rcases Nat.lt_or_ge j n with hj | hj
  · exact h j hj
  · rw [List.getElem?_eq_none (by omega), List.getElem?_eq_none (by omega)]
set_option maxHeartbeats 4000000 in
set_option maxRecDepth 100000 in
theorem equalI_c {xs ys : List Int} {n m : Nat} {q1 q2 : Option Addr} {c c2 : Nat} {w : World} (h : IntS w q1 n xs) (h2 : IntS w q2 m ys) (hs : n ≤ 1000) :
    Calls Tryz.prog 218 #[.slice q1 n c, .slice q2 m c2] w fun e w' => RetB e (xs = ys) ∧ Gr w w' := by
  have HA := Lib.hid h.out
  have HB := Lib.hid h2.out
  have HN := Lib.hid h.len
  have HM := Lib.hid h2.len
  clear h h2
  by_cases hnm : n = m
  · subst hnm
    go_enter Tryz.func218, Tryz.ntmps218
    go_wp2_with fail
    go_loopg [5, 13] n (fun gk s5 s13 wr => ∃ k : Nat, s13 = .int .i64 k ∧ gk + k = n ∧ Hid (∀ j, j < k → xs[j]? = ys[j]?) ∧ Gr w wr)
    case atStart => exact ⟨0, rfl, by omega, fun j hj => by omega, Gr.refl _⟩
    case round =>
      obtain ⟨k, rfl, hk, HJ, hg⟩ := hrel
      by_cases hlt : k < n
      · obtain ⟨x, hx⟩ : ∃ x, xs[k]? = some x := ⟨xs[k]'(by have := HN.out; omega), List.getElem?_eq_getElem _⟩
        obtain ⟨y, hy⟩ : ∃ y, ys[k]? = some y := ⟨ys[k]'(by have := HM.out; omega), List.getElem?_eq_getElem _⟩
        obtain ⟨b1, o1, rfl, ha⟩ := HA.out (by omega)
        obtain ⟨b2, o2, rfl, hb⟩ := HB.out (by omega)
        have a0 := hg.cell (ha k x hx)
        have b0 := hg.cell (hb k y hy)
        have hi : (k : Int) < (n : Int) := by omega
        have HX := Lib.hid hx
        have HY := Lib.hid hy
        clear hx hy ha hb
        by_cases hq : x = y
        · subst hq
          have HJ2 : Hid (∀ j, j < k + 1 → xs[j]? = ys[j]?) := fun j hj => by
            rcases Nat.lt_or_ge j k with h | h
            · exact HJ.out j h
            · obtain rfl : j = k := by omega
              rw [HX.out, HY.out]
          clear HX HY
          go_wp2_with fail
          go_quiet (fail)
          go_wp2_with fail
          go_roundg (gk - 1)
          case measure => omega
          case rel => exact ⟨k + 1, by go_num, by omega, HJ2, hg.drewN _⟩
        · have hq2 : (x != y) = true := bne_iff_ne.2 hq
          have HNE : Hid (¬ xs = ys) := fun e => by
            have h1 := HX.out
            have h2 := HY.out
            rw [e, h2] at h1
            exact hq (Option.some.inj h1).symm
          have HQ := Lib.hid hq
          clear HX HY HJ hq
          go_wp2_with fail
          go_quiet (fail)
          go_wp2_with fail
          go_ret
          exact ⟨⟨false, rfl, by rw [Hid]; simp [HNE.out]⟩, hg.drewN _⟩
      · obtain rfl : k = n := by omega
        have hi : (k : Int) ≤ k := by omega
        have HEQ : Hid (xs = ys) := list_ext HN.out HM.out HJ.out
        go_wp2_with fail
        go_ret
        exact ⟨⟨true, rfl, by rw [Hid]; simp [HEQ.out]⟩, hg⟩
  · have hnm2 : ¬ (n : Int) = (m : Int) := by omega
    have HNE : Hid (¬ xs = ys) := fun e => by have h1 := HN.out; have h2 := HM.out; rw [e] at h1; omega
    go_enter Tryz.func218, Tryz.ntmps218
    go_wp2_with fail
    go_ret
    exact ⟨⟨false, rfl, by rw [Hid]; simp [HNE.out]⟩, Gr.refl _⟩
theorem rk_eq {x y : RowR} : rk x = rk y ↔ x.nm = y.nm ∧ x.st = y.st ∧ x.xs = y.xs := by unfold rk; simp
theorem baEq {s t : ByteArray} : (s.toList == t.toList) = true ↔ s = t := ⟨fun h => baI (beq_iff_eq.1 h), fun h => by rw [h]; exact beq_self_eq_true _⟩
set_option maxHeartbeats 4000000 in
set_option maxRecDepth 100000 in
theorem isSameR_c {x y : RowR} {w : World} (h1 : IntsV w x.u x.xs) (h2 : IntsV w y.u y.xs) (hl : x.xs.length ≤ 1000) :
    Calls Tryz.prog 167 #[.agg #[.string x.nm, .string x.st, x.u], .agg #[.string y.nm, .string y.st, y.u]] w fun e w' => RetB e (rk x = rk y) ∧ Gr w w' := by
  obtain ⟨nm, st, u, xs⟩ := x
  obtain ⟨nm2, st2, u2, ys⟩ := y
  simp only at h1 h2 hl
  rw [rk_eq]
  simp only
  obtain ⟨⟨p1, k1, e1, _⟩⟩ := id h1
  obtain ⟨⟨p2, k2, e2, _⟩⟩ := id h2
  rw [e1] at h1
  rw [e2] at h2
  rw [e1, e2]
  have HS := Lib.hid (fun V (g : Gr w V) => equalI_c (c := k1) (c2 := k2) ((h1.gr g).intS.2) ((h2.gr g).intS.2) hl)
  have HQ1 : Hid ((nm.toList == nm2.toList) = true ↔ nm = nm2) := baEq
  have HQ2 : Hid ((st.toList == st2.toList) = true ↔ st = st2) := baEq
  obtain ⟨W1, hW1, g1, a0, a1, a2⟩ := box3 w (.string nm) (.string st) (.slice p1 xs.length k1) 91
  obtain ⟨W2, hW2, g2, b0, b1, b2⟩ := box3 W1 (.string nm2) (.string st2) (.slice p2 ys.length k2) 91
  replace a0 := g2.cell a0
  replace a1 := g2.cell a1
  replace a2 := g2.cell a2
  have g := g1.trans g2
  have hsz : W1.heap.size = w.heap.size + 1 := by rw [← hW1]; simp
  rw [hsz] at b0 b1 b2
  rw [← hW1] at hW2
  have HW := Lib.hid hW2
  clear hW1 hW2 g1 g2 hsz
  clear h1 h2 e1 e2
  generalize xs.length = n at *
  generalize ys.length = m at *
  cases hn1 : (nm.toList == nm2.toList)
  · rw [hn1] at HQ1
    go_enter Tryz.func167, Tryz.ntmps167
    go_wp2_with fail
    rw [HW.out]
    clear HW
    generalize w.heap.size + 1 = Cx at *
    generalize w.heap.size = Bx at *
    go_wp2_with fail
    go_ret
    exact ⟨⟨false, rfl, ⟨(fun h => by cases h), fun h => HQ1.out.2 h.1⟩⟩, g⟩
  · rw [hn1] at HQ1
    cases hn2 : (st.toList == st2.toList)
    · rw [hn2] at HQ2
      go_enter Tryz.func167, Tryz.ntmps167
      go_wp2_with fail
      rw [HW.out]
      clear HW
      generalize w.heap.size + 1 = Cx at *
      generalize w.heap.size = Bx at *
      go_wp2_with fail
      go_ret
      exact ⟨⟨false, rfl, ⟨(fun h => by cases h), fun h => HQ2.out.2 h.2.1⟩⟩, g⟩
    · rw [hn2] at HQ2
      go_enter Tryz.func167, Tryz.ntmps167
      go_wp2_with fail
      rw [HW.out]
      clear HW
      generalize w.heap.size + 1 = Cx at *
      generalize w.heap.size = Bx at *
      go_wp2_with fail
      refine (HS.out _ g).mono ?_
      rintro e w4 ⟨⟨b, rfl, hb⟩, hg⟩
      have HB := Lib.hid hb.out
      clear hb
      go_wp2_with fail
      go_ret
      exact ⟨⟨b, rfl, ⟨fun h => ⟨HQ1.out.1 (by simp), HQ2.out.1 (by simp), HB.out.1 h⟩, fun h => HB.out.2 h.2.2⟩⟩, g.trans hg⟩
set_option maxHeartbeats 4000000 in
set_option maxRecDepth 100000 in
theorem equalR_c {xs ys : List RowR} {n m : Nat} {q1 q2 : Option Addr} {c c2 : Nat} {w : World} (h : RowsX w q1 n c xs) (h2 : RowsX w q2 m c2 ys) (hs : n ≤ 1000) (hl : ∀ x ∈ xs, x.xs.length ≤ 1000) :
    Calls Tryz.prog 166 #[.slice q1 n c, .slice q2 m c2, .func (.func 167) #[] #[]] w fun e w' => RetB e (xs.map rk = ys.map rk) ∧ Gr w w' := by
  have HA := Lib.hid h.at_
  have HB := Lib.hid h2.at_
  have HN := Lib.hid h.len
  have HM := Lib.hid h2.len
  have HL := Lib.hid hl
  clear h h2 hl
  by_cases hnm : n = m
  · subst hnm
    go_enter Tryz.func166, Tryz.ntmps166
    go_wp2_with fail
    go_loopg [7, 17] n (fun gk s7 s17 wr => ∃ k : Nat, s17 = .int .i64 k ∧ gk + k = n ∧ Hid (∀ j, j < k → (xs.map rk)[j]? = (ys.map rk)[j]?) ∧ Hid (Gr w wr))
    case atStart => exact ⟨0, rfl, by omega, fun j hj => by omega, Gr.refl _⟩
    case round =>
      obtain ⟨k, rfl, hk, HJ, HG⟩ := hrel
      by_cases hlt : k < n
      · obtain ⟨x, hx⟩ : ∃ x, xs[k]? = some x := ⟨xs[k]'(by have := HN.out; omega), List.getElem?_eq_getElem _⟩
        obtain ⟨y, hy⟩ : ∃ y, ys[k]? = some y := ⟨ys[k]'(by have := HM.out; omega), List.getElem?_eq_getElem _⟩
        obtain ⟨b1, o1, rfl, ha⟩ := HA.out (by omega)
        obtain ⟨b2, o2, rfl, hb⟩ := HB.out (by omega)
        obtain ⟨a0, a1, a2, hv⟩ := (ha k x hx).gr HG.out
        obtain ⟨b0, b1', b2', hv2⟩ := (hb k y hy).gr HG.out
        have hi : (k : Int) < (n : Int) := by omega
        have HX := Lib.hid hx
        have HY := Lib.hid hy
        have HX2 : Hid ((xs.map rk)[k]? = some (rk x)) := by rw [Hid, List.getElem?_map, hx]; rfl
        have HY2 : Hid ((ys.map rk)[k]? = some (rk y)) := by rw [Hid, List.getElem?_map, hy]; rfl
        have hxl := HL.out x (List.mem_of_getElem? hx)
        obtain ⟨⟨pu, cu, hu, _⟩⟩ := id hv
        obtain ⟨⟨pu2, cu2, hu2, _⟩⟩ := id hv2
        obtain ⟨WB, hWB, gB, c0, c1, c2x⟩ := box3 wr (.string x.nm) (.string x.st) x.u 91
        obtain ⟨WC, hWC, gC, d0, d1, d2x⟩ := box3 WB (.string y.nm) (.string y.st) y.u 91
        have gBC := gB.trans gC
        have HCR := Lib.hid (isSameR_c (x := x) (y := y) (hv.gr gBC) (hv2.gr gBC) hxl)
        rw [hu] at a2 HCR
        rw [hu2] at HCR
        have g9 := HG.out.trans gBC
        replace b0 := gB.cell b0
        replace b1' := gB.cell b1'
        replace b2' := gB.cell b2'
        rw [hu2] at b2'
        rw [← hWB] at b0 b1' b2'
        rw [hu] at b0 b1' b2'
        rw [← hWB] at hWC
        rw [hu] at hWC
        rw [hu2] at hWC
        rw [← hWC] at HCR g9
        have HG9 := Lib.hid g9
        clear hx hy ha hb hv hv2 hu hu2 hWB hWC gB gC gBC c0 c1 c2x d0 d1 d2x g9 hxl HX HY
        go_wp2_with fail
        refine HCR.out.mono ?_
        rintro e V ⟨⟨b, rfl, hb⟩, hg⟩
        have HBB := Lib.hid hb.out
        clear hb
        have HGV := Lib.hid (HG9.out.trans hg)
        clear hg HCR a0 a1 a2 b0 b1' b2'
        cases b
        · have HNE : Hid (¬ xs.map rk = ys.map rk) := fun e => by
            have h1 := HX2.out
            rw [e, HY2.out] at h1
            have := HBB.out.2 (Option.some.inj h1).symm
            cases this
          clear HX2 HY2 HBB
          go_wp2_with fail
          go_ret
          exact ⟨⟨false, rfl, by rw [Hid]; simp [HNE.out]⟩, HGV.out⟩
        · have HJ2 : Hid (∀ j, j < k + 1 → (xs.map rk)[j]? = (ys.map rk)[j]?) := fun j hj => by
            rcases Nat.lt_or_ge j k with h | h
            · exact HJ.out j h
            · obtain rfl : j = k := by omega
              rw [HX2.out, HY2.out, HBB.out.1 rfl]
          clear HX2 HY2 HBB
          go_wp2_with fail
          go_roundg (gk - 1)
          case measure => omega
          case rel => exact ⟨k + 1, by go_num, by omega, HJ2, HGV⟩
      · obtain rfl : k = n := by omega
        have hi : (k : Int) ≤ k := by omega
        have HEQ : Hid (xs.map rk = ys.map rk) := list_ext (by rw [List.length_map]; exact HN.out) (by rw [List.length_map]; exact HM.out) HJ.out
        go_wp2_with fail
        go_ret
        exact ⟨⟨true, rfl, by rw [Hid]; simp [HEQ.out]⟩, HG.out⟩
  · have hnm2 : ¬ (n : Int) = (m : Int) := by omega
    have HNE : Hid (¬ xs.map rk = ys.map rk) := fun e => by have h1 := HN.out; have h2 := HM.out; have := congrArg List.length e; rw [List.length_map, List.length_map] at this; omega
    go_enter Tryz.func166, Tryz.ntmps166
    go_wp2_with fail
    go_ret
    exact ⟨⟨false, rfl, by rw [Hid]; simp [HNE.out]⟩, Gr.refl _⟩
def shk (e : EnR) : ByteArray × Int × ByteArray × List (ByteArray × ByteArray × List Int) := (e.ro, e.va, e.st, e.xs.map rk)
theorem shk_eq {x y : EnR} : shk x = shk y ↔ x.ro = y.ro ∧ x.va = y.va ∧ x.st = y.st ∧ x.xs.map rk = y.xs.map rk := by unfold shk; simp
set_option maxHeartbeats 4000000 in
set_option maxRecDepth 100000 in
theorem isSameS_c {x y : EnR} {w : World} (h1 : RowsX w x.p x.n x.cap x.xs) (h2 : RowsX w y.p y.n y.cap y.xs) (hs : x.n ≤ 1000) (hl : ∀ z ∈ x.xs, z.xs.length ≤ 1000) :
    Calls Tryz.prog 109 #[.agg #[.string x.ro, .int .i64 x.va, .string x.st, .slice x.p x.n x.cap], .agg #[.string y.ro, .int .i64 y.va, .string y.st, .slice y.p y.n y.cap]] w fun e w' => RetB e (shk x = shk y) ∧ Gr w w' := by
  rw [shk_eq]
  have HS := Lib.hid (fun V (g : Gr w V) => equalR_c (h1.gr g) (h2.gr g) hs hl)
  have HQ1 : Hid ((x.ro.toList == y.ro.toList) = true ↔ x.ro = y.ro) := baEq
  have HQ2 : Hid ((x.st.toList == y.st.toList) = true ↔ x.st = y.st) := baEq
  obtain ⟨W1, hW1, g1, a0, a1, a2, a3⟩ := box4 w (.string x.ro) (.int .i64 x.va) (.string x.st) (.slice x.p x.n x.cap) 27
  obtain ⟨W2, hW2, g2, b0, b1, b2, b3⟩ := box4 W1 (.string y.ro) (.int .i64 y.va) (.string y.st) (.slice y.p y.n y.cap) 27
  replace a0 := g2.cell a0
  replace a1 := g2.cell a1
  replace a2 := g2.cell a2
  replace a3 := g2.cell a3
  have g := g1.trans g2
  have hsz : W1.heap.size = w.heap.size + 1 := by rw [← hW1]; simp
  rw [hsz] at b0 b1 b2 b3
  rw [← hW1] at hW2
  have HW := Lib.hid hW2
  clear hW1 hW2 g1 g2 hsz
  clear h1 h2
  cases hn1 : (x.ro.toList == y.ro.toList)
  · rw [hn1] at HQ1
    go_enter Tryz.func109, Tryz.ntmps109
    go_wp2_with fail
    rw [HW.out]
    clear HW
    generalize w.heap.size + 1 = Cx at *
    generalize w.heap.size = Bx at *
    go_wp2_with fail
    go_ret
    exact ⟨⟨false, rfl, ⟨(fun h => by cases h), fun h => HQ1.out.2 h.1⟩⟩, g⟩
  · rw [hn1] at HQ1
    by_cases hva : x.va = y.va
    · have hv1 : (x.va == y.va) = true := beq_iff_eq.2 hva
      have HVA := Lib.hid hva
      clear hva
      cases hn2 : (x.st.toList == y.st.toList)
      · rw [hn2] at HQ2
        go_enter Tryz.func109, Tryz.ntmps109
        go_wp2_with fail
        rw [HW.out]
        clear HW
        generalize w.heap.size + 1 = Cx at *
        generalize w.heap.size = Bx at *
        go_wp2_with fail
        go_ret
        exact ⟨⟨false, rfl, ⟨(fun h => by cases h), fun h => HQ2.out.2 h.2.2.1⟩⟩, g⟩
      · rw [hn2] at HQ2
        go_enter Tryz.func109, Tryz.ntmps109
        go_wp2_with fail
        rw [HW.out]
        clear HW
        generalize w.heap.size + 1 = Cx at *
        generalize w.heap.size = Bx at *
        go_wp2_with fail
        refine (HS.out _ g).mono ?_
        rintro e w4 ⟨⟨b, rfl, hb⟩, hg⟩
        have HB := Lib.hid hb.out
        clear hb
        go_wp2_with fail
        go_ret
        exact ⟨⟨b, rfl, ⟨fun h => ⟨HQ1.out.1 (by simp), HVA.out, HQ2.out.1 (by simp), HB.out.1 h⟩, fun h => HB.out.2 h.2.2.2⟩⟩, g.trans hg⟩
    · have hv1 : (x.va == y.va) = false := beq_eq_false_iff_ne.2 hva
      have HVA := Lib.hid hva
      clear hva
      go_enter Tryz.func109, Tryz.ntmps109
      go_wp2_with fail
      rw [HW.out]
      clear HW
      generalize w.heap.size + 1 = Cx at *
      generalize w.heap.size = Bx at *
      go_wp2_with fail
      go_ret
      exact ⟨⟨false, rfl, ⟨(fun h => by cases h), fun h => absurd h.2.1 HVA.out⟩⟩, g⟩
end Go.Proofs.YtnihclhhbegjhaaGreatDoor
namespace Go.Proofs.YtnihclhhbegjhaaGreatDoor
open Go.RowKit Go.Lib
set_option linter.unusedSimpArgs false
set_option linter.unusedVariables false
def mkV (e : EnR) : Value := .agg #[.string e.de, .int .i64 e.nu]
def smk (y x : EnR) : Bool := (y.de == x.de) && (y.nu == x.nu)
theorem smk_iff {y x : EnR} : smk y x = true ↔ y.de = x.de ∧ y.nu = x.nu := by
  unfold smk
  rw [Bool.and_eq_true, beq_toListBytes, beq_iff_eq, beq_iff_eq]
  exact ⟨fun h => ⟨baI h.1, h.2⟩, fun h => ⟨by rw [h.1], h.2⟩⟩
theorem uMkK : Tryz.prog.underlying 198 = some (.map 84 77) := by kernel_rfl
theorem zeroEnK (w : World) : (zeroValue 77).run Tryz.prog w = .ok (.agg #[.string ⟨#[]⟩, .int .i64 0, .int .i64 0, .string ⟨#[]⟩, .int .i64 0, .string ⟨#[]⟩, .slice none 0 0]) w := by kernel_rfl
set_option maxRecDepth 100000 in
theorem mark_eqK (y x : EnR) (w : World) : (Op.equal 84 (mkV y) (mkV x)).run Tryz.prog w = .ok (smk y x) w := by
  obtain ⟨a, b, _, _, _, _, _, _, _, _⟩ := y
  obtain ⟨c, d, _, _, _, _, _, _, _, _⟩ := x
  unfold mkV smk
  simp only
  have hu := run_underlying Tryz.underlying84 w
  have hs : Tryz.prog.stoodInHeld 84 = false := by kernel_rfl
  have hpr : (Go.program).run Tryz.prog w = .ok Tryz.prog w := by rfl
  have hp0 : ∀ (a : ByteArray) (b : Int), (part 9 #[.string a, .int .i64 b] 0).run Tryz.prog w = .ok (.string a) w := fun a b => by kernel_rfl
  have hp1 : ∀ (a : ByteArray) (b : Int), (part 3 #[.string a, .int .i64 b] 1).run Tryz.prog w = .ok (.int .i64 b) w := fun a b => by kernel_rfl
  have he : ∀ x y : Int, (Op.equalIn (9998 + 1) 3 (.int .i64 x) (.int .i64 y)).run Tryz.prog w = .ok (x == y) w := fun x y => by
    have hi : (underlying 3).run Tryz.prog w = .ok (.int .i64) w := run_underlying Tryz.underlying3 w
    generalize 9998 = q
    simp [Op.equalIn, hi]
  have he9 : ∀ x y : ByteArray, (Op.equalIn (9998 + 1) 9 (.string x) (.string y)).run Tryz.prog w = .ok (x == y) w := fun x y => by
    have hi := run_underlying Tryz.underlying9 w
    generalize 9998 = q
    simp [Op.equalIn, hi]
  show (Op.equalIn ((9998 + 1) + 1) 84 _ _).run Tryz.prog w = _
  generalize 9998 + 1 = dd at *
  unfold Op.equalIn
  simp only [Sem.run_bind, hu, Result.andThen_ok, hpr]
  cases h1 : (a == c) <;> by_cases h2 : b = d <;> simp [hs, hp0, hp1, he, he9, h1, h2]
structure MapM (w : World) (g : Nat) (l : List EnR) : Prop where
  mk' ::
  out : ∃ es clock, w.heap[g]? = some (.map ⟨es⟩ clock) ∧ es.map (fun e : MapEntry => (e.key, e.val)) = l.map fun e => (mkV e, enV e)
theorem MapM.gr {w w' : World} {g : Nat} {l : List EnR} (h : MapM w g l) (k : Gr w w') : MapM w' g l := by
  obtain ⟨⟨es, clock, h1, h2⟩⟩ := h
  exact ⟨es, clock, k.block h1, h2⟩
def lookM (l : List EnR) (y : EnR) : Option EnR := l.find? fun x => smk y x
theorem mapM_find (y : EnR) (w : World) : ∀ {es : List MapEntry} {l : List EnR} (i : Nat), es.map (fun e : MapEntry => (e.key, e.val)) = l.map (fun e => (mkV e, enV e)) →
    ∃ r, (Instr.findAsking 84 (mkV y) es i).run Tryz.prog w = .ok r w ∧ r.map (·.2) = (lookM l y).map enV
  | [], [], i, _ => ⟨none, by simp [Instr.findAsking], rfl⟩
  | [], _ :: _, _, h => by simp at h
  | _ :: _, [], _, h => by simp at h
  | e :: es, x :: l, i, h => by
    simp only [List.map_cons, List.cons.injEq, Prod.mk.injEq] at h
    obtain ⟨⟨h1, h2⟩, h3⟩ := h
    obtain ⟨r, hr, hm⟩ := mapM_find y w (i + 1) h3
    cases hq : smk y x
    · refine ⟨r, ?_, ?_⟩
      · simp only [Instr.findAsking, Sem.run_bind, h1, mark_eqK, hq, Result.andThen_ok]
        simpa using hr
      · rw [hm]; unfold lookM; rw [List.find?_cons, hq]
    · refine ⟨some (i, e.val), ?_, ?_⟩
      · simp only [Instr.findAsking, Sem.run_bind, h1, mark_eqK, hq, Result.andThen_ok]
        simp
      · unfold lookM; rw [List.find?_cons, hq]; simp [h2]
theorem run_findKeyM (y : EnR) (es : List MapEntry) (w : World) : (Instr.findKey 84 (mkV y) es).run Tryz.prog w = (Instr.findAsking 84 (mkV y) es 0).run Tryz.prog w := by
  have hu := run_underlying Tryz.underlying84 w
  cases es with
  | nil => simp [Instr.findKey, hu, Instr.findNow, Instr.findAsking]
  | cons e es => simp [Instr.findKey, hu, Instr.findNow, Instr.sameNow]
set_option maxRecDepth 100000 in
theorem checkKeyM (b : Bool) (y : EnR) (w : World) : (Instr.checkKey b 10000 84 (mkV y)).run Tryz.prog w = .ok () w := by
  have hu := run_underlying Tryz.underlying84 w
  have hp0 : ∀ (a : ByteArray) (b : Int), (part 9 #[.string a, .int .i64 b] 0).run Tryz.prog w = .ok (.string a) w := fun a b => by kernel_rfl
  have hp1 : ∀ (a : ByteArray) (b : Int), (part 3 #[.string a, .int .i64 b] 1).run Tryz.prog w = .ok (.int .i64 b) w := fun a b => by kernel_rfl
  have he : ∀ x : Int, (Instr.checkKey b (9998 + 1) 3 (.int .i64 x)).run Tryz.prog w = .ok () w := fun x => by
    have hi : (underlying 3).run Tryz.prog w = .ok (.int .i64) w := run_underlying Tryz.underlying3 w
    generalize 9998 = q
    unfold Instr.checkKey
    simp only [Sem.run_bind, hi, Result.andThen_ok]
    rfl
  have he9 : ∀ x : ByteArray, (Instr.checkKey b (9998 + 1) 9 (.string x)).run Tryz.prog w = .ok () w := fun x => by
    have hi := run_underlying Tryz.underlying9 w
    generalize 9998 = q
    unfold Instr.checkKey
    simp only [Sem.run_bind, hi, Result.andThen_ok]
    rfl
  show (Instr.checkKey b ((9998 + 1) + 1) _ _).run Tryz.prog w = _
  generalize 9998 + 1 = dd at *
  unfold Instr.checkKey mkV
  simp only [Sem.run_bind, hu, Result.andThen_ok]
  simp [hp0, hp1, he, he9]
theorem mapM_look2 {w : World} {g : Nat} {l : List EnR} (h : MapM w g l) (y : EnR) : (Instr.lookup 198 (.map (some g)) (mkV y) true).run Tryz.prog w = .ok (.tuple #[((lookM l y).map enV).getD (.agg #[.string ⟨#[]⟩, .int .i64 0, .int .i64 0, .string ⟨#[]⟩, .int .i64 0, .string ⟨#[]⟩, .slice none 0 0]), .bool (lookM l y).isSome]) w := by
  obtain ⟨⟨es, clock, h1, h2⟩⟩ := h
  have hu := run_underlying uMkK w
  have hg : (getObj g).run Tryz.prog w = .ok (.map ⟨es⟩ clock) w := by simp [getObj, Sem.run, h1]
  obtain ⟨r, hr, hm⟩ := mapM_find y w 0 h2
  have hfk := (run_findKeyM y es w).trans hr
  unfold Instr.lookup
  cases r with
  | none =>
    simp only [Option.map_none] at hm
    have hn : lookM l y = none := by cases hq : lookM l y with | none => rfl | some x => rw [hq] at hm; simp at hm
    rw [hn]
    simp only [Sem.run_bind, hu, Result.andThen_ok, Sem.run_pure, hg, checkKeyM, hfk, zeroEnK]
    simp
  | some p =>
    obtain ⟨i, v⟩ := p
    cases hq : lookM l y with
    | none => rw [hq] at hm; simp at hm
    | some x =>
      rw [hq] at hm
      simp only [Option.map_some, Option.some.injEq] at hm
      simp only [Sem.run_bind, hu, Result.andThen_ok, Sem.run_pure, hg, checkKeyM, hfk]
      simp [hm]
theorem mapM_put {w : World} {g : Nat} {l : List EnR} (h : MapM w g l) (y : EnR) (hn : lookM l y = none) : ∃ ob, (Instr.mapUpdate 198 (.map (some g)) (mkV y) (enV y)).run Tryz.prog w = .ok () (putGB w g ob) ∧ MapM (putGB w g ob) g (l ++ [y]) := by
  obtain ⟨⟨es, clock, h1, h2⟩⟩ := h
  have hu := run_underlying uMkK w
  have hg : (getObj g).run Tryz.prog w = .ok (.map ⟨es⟩ clock) w := by simp [getObj, Sem.run, h1]
  have hset : ∀ ob, (setObj g ob).run Tryz.prog w = .ok () (putGB w g ob) := fun ob => by simp [setObj, Sem.run, h1, putGB]
  have hlt := (Array.getElem?_eq_some_iff.1 h1).1
  have hput : ∀ ob, (putGB w g ob).heap[g]? = some ob := fun ob => by simp [putGB, hlt]
  obtain ⟨r, hr, hm⟩ := mapM_find y w 0 h2
  rw [hn] at hm
  have hr0 : r = none := by cases r with | none => rfl | some p => simp at hm
  subst hr0
  have hfk := (run_findKeyM y es w).trans hr
  refine ⟨.map ⟨es ++ [⟨mkV y, enV y, clock⟩]⟩ (clock + 1), ?_, ⟨_, _, hput _, by simp [h2]⟩⟩
  simp [Instr.mapUpdate, hu, hg, checkKeyM, hfk, hset]
theorem mapM_new (w : World) : MapM (w.alloc (.map #[] 0)) w.heap.size [] := ⟨[], 0, heap_alloc_new _ _, rfl⟩
end Go.Proofs.YtnihclhhbegjhaaGreatDoor
namespace Go.Proofs.YtnihclhhbegjhaaGreatDoor
open Go.RowKit Go.Lib
set_option linter.unusedSimpArgs false
set_option linter.unusedVariables false
structure RetEs (base : Nat) (e : Ending) (w' : World) (L : List EnR) : Prop where
  mk' ::
  out : ∃ q c es, e = .returned (.slice q L.length c) ∧ es.length = L.length ∧ es.map ek = L.map ek ∧ w'.ownsRow base 77 7 (.slice q L.length c) L.length (enCs es) ∧ (∀ f ∈ es, CpS w' base f.p f.n f.cap f.xs) ∧ (L.length ≤ c ∧ c ≤ maxLen)
set_option maxHeartbeats 4000000 in
set_option maxRecDepth 100000 in
theorem copiedE_c {w : World} {p : Option Addr} {l : List EnR} {n cap : Nat} (hn : n = l.length) (h1 : n ≤ 1000) (hr : EnS w p l) (hs : ∀ e ∈ l, e.n ≤ 1000) (hl : ∀ e ∈ l, ∀ x ∈ e.xs, x.xs.length ≤ 1000) :
    Calls Tryz.prog 105 #[.slice p n cap, .func (.func 77) #[] #[]] w fun e w' => RetEs w.heap.size e w' l ∧ Gr w w' := by
  obtain ⟨i0, hi, hz0, hz1, hz2⟩ := info_parts infoEnP
  have HI0 := Lib.hid (And.intro hi (And.intro hz0 (And.intro hz1 hz2)))
  have HN := Lib.hid hn
  have HR := Lib.hid hr.out
  have HFW := Lib.hid hl
  have HSS := Lib.hid hs
  clear hr hl hs hn hi hz0 hz1 hz2
  go_enter Tryz.func105, Tryz.ntmps105
  go_wp2_with fail
  go_loopg [5, 10] n (fun gk s5 s10 wr => ∃ (i : Nat) (es : List EnR), s10 = .int .i64 (i : Int) ∧ gk + i = n ∧ Hid (wr.ownsRow w.heap.size 77 7 s5 i (enCs es)) ∧ Hid (es.length = i) ∧ Hid (es.map ek = (l.take i).map ek) ∧ Hid (∀ f ∈ es, CpS wr w.heap.size f.p f.n f.cap f.xs) ∧ Hid (Gr w wr))
  case atStart => exact ⟨0, [], rfl, by omega, World.ownsRow_nil _ _ _ _, rfl, rfl, (fun f hf => by cases hf), Gr.refl _⟩
  case round =>
    obtain ⟨i, es, rfl, hgk2, HOWN, HEL, HEK, HCP, HG2⟩ := hrel
    have hsz := HG2.out.size
    by_cases hlt : i < n
    · obtain ⟨x, hx⟩ : ∃ x, l[i]? = some x := ⟨l[i]'(by have := HN.out; omega), List.getElem?_eq_getElem _⟩
      obtain ⟨b, off, rfl, hc⟩ := HR.out (by have := HN.out; omega)
      have hat := (hc i x hx).gr HG2.out
      obtain ⟨a0, a1, a2, a3, a4, a5, a6, hrx⟩ := hat
      have hlt2 : (i : Int) < (n : Int) := by omega
      have HTT : Hid ((l.take (i + 1)).map ek = (l.take i).map ek ++ [ek x]) := by rw [Hid, List.take_add_one, hx]; simp
      have g1 := (Gr.refl wr).alloc (.cells #[.string x.de, .int .i64 x.nu, .int .i64 x.ck, .string x.ro, .int .i64 x.va, .string x.st, .slice x.p x.n x.cap] 77)
      have HCE0 := Lib.hid (copyEn_c (hrx.gr g1) (HSS.out x (List.mem_of_getElem? hx)) (fun y hy => HFW.out x (List.mem_of_getElem? hx) y hy))
      unfold enV at HCE0
      simp only at HCE0
      have HG1 := Lib.hid g1
      clear hx hc hrx g1
      go_wp2_with fail
      refine HCE0.out.mono ?_
      rintro e V ⟨pq, pk, ys, rfl, hcp, hrk, hg⟩
      have gV := HG1.out.trans hg
      have hownV := own_kept HOWN.out gV
      have HGV : Hid (Gr w V) := HG2.out.trans gV
      have hszV := HGV.out.size
      have hcpl := hcp.low (show w.heap.size ≤ _ from Nat.le_trans HG2.out.size HG1.out.size)
      have HCV : Hid (∀ f ∈ es, CpS V w.heap.size f.p f.n f.cap f.xs) := fun f hf => (HCP.out f hf).gr gV
      obtain ⟨hi, hz0, hz1, hz2⟩ := HI0.out
      have gA := (Gr.refl V).alloc (.cells #[.string x.de, .int .i64 x.nu, .int .i64 x.ck, .string x.ro, .int .i64 x.va, .string x.st, .slice pq x.n pk] 77)
      have hownA := own_kept hownV gA
      clear hg gV hcp HCP HOWN HCE0 a0 a1 a2 a3 a4 a5 a6
      go_wp2_with (at_builtin; refine wpList_append_own _ rfl _ _ 22 rfl w.heap.size 77 i0 (.agg #[.string ⟨#[]⟩, .int .i64 0, .int .i64 0, .string ⟨#[]⟩, .int .i64 0, .string ⟨#[]⟩, .slice none 0 0]) 7 96 Tryz.underlying22 hi hz0 hz1 hz2 rfl (by decide) _ _ _ rfl (hownA) ⟨V.heap.size, 0, none⟩ 1 1 [.string x.de, .int .i64 x.nu, .int .i64 x.ck, .string x.ro, .int .i64 x.va, .string x.st, .slice pq x.n pk] rfl rfl (cell_seven _ _ _ _ _ _ _ _ _) (one_seven _ _ _ _ _ _ _ _ _) (by unfold maxLen; omega) (by omega) (by simp; omega) ?_; intro v1 w1 hown1 hgrow1 hnil)
      have HGR : Hid (Gr w w1) := Below.grown (HGV.out.alloc _) hgrow1 (by simp; omega) (fun q hq => (own_in hownV hq).2)
      have HO1 := Lib.hid hown1
      have HC1 : Hid (∀ f ∈ es ++ [({ x with p := pq, cap := pk, xs := ys } : EnR)], CpS w1 w.heap.size f.p f.n f.cap f.xs) := by
        intro f hf
        rcases List.mem_append.1 hf with hf | hf
        · exact ((HCV.out f hf).gr gA).apart hownA (by decide) (by decide) hgrow1
        · rw [List.mem_singleton] at hf
          subst hf
          exact (hcpl.gr gA).apart hownA (by decide) (by decide) hgrow1
      have hek : ek ({ x with p := pq, cap := pk, xs := ys } : EnR) = ek x := by unfold ek; simp only; rw [hrk]
      have HEK1 : Hid ((es ++ [({ x with p := pq, cap := pk, xs := ys } : EnR)]).map ek = (l.take (i + 1)).map ek) := by
        rw [Hid, List.map_append, HTT.out, HEK.out, List.map_singleton, hek]
      have HEL1 : Hid ((es ++ [({ x with p := pq, cap := pk, xs := ys } : EnR)]).length = i + 1) := by
        rw [Hid, List.length_append, HEL.out]; rfl
      clear hown1 hgrow1 hownV hownA hnil gA hi hz0 hz1 hz2 hcpl hrk hek HCV
      go_wp2_with fail
      go_roundg (gk - 1)
      case measure => omega
      case rel => exact ⟨i + 1, _, by go_num, by omega, by rw [enCs_add]; exact HO1.out, HEL1.out, HEK1.out, HC1.out, HGR.out⟩
    · obtain rfl : n = i := by omega
      have hlt2 : ¬ (n : Int) < (n : Int) := by omega
      have hli : l.take n = l := List.take_of_length_le (by have := HN.out; omega)
      have ho := HOWN.out
      rw [hli] at HEK
      obtain ⟨qq, cc, rfl, hc1, hc2⟩ := own_shape ho
      have HRET : Hid (RetEs w.heap.size (.returned (.slice qq n cc)) wr l) := by
        have hnl := HN.out
        exact ⟨qq, cc, es, by rw [← hnl], by rw [HEL.out, hnl], HEK.out, by rw [← hnl]; exact ho, HCP.out, by omega, hc2⟩
      clear ho HOWN hc1 hc2
      go_wp2_with fail
      go_ret
      exact ⟨HRET.out, HG2.out⟩
end Go.Proofs.YtnihclhhbegjhaaGreatDoor
namespace Go.Proofs.YtnihclhhbegjhaaGreatDoor
open Go.RowKit Go.Lib
set_option linter.unusedSimpArgs false
set_option linter.unusedVariables false
end Go.Proofs.YtnihclhhbegjhaaGreatDoor
namespace Go.Proofs.YtnihclhhbegjhaaGreatDoor
open Go.RowKit Go.Lib
set_option linter.unusedSimpArgs false
set_option linter.unusedVariables false
theorem run_append_any {P : Program} {w : World} (base : Nat) (t ty e : TypeId) (i : TypeInfo) (z : Value) (size bytes : Nat) (ht : P.underlying t = some (.slice e)) (hi : P.info? e = some i) (hz : i.zero = some z)
    (hsize : i.size = size) (hby : i.bytes = bytes) (hzs : z.cells.size = size) (hsz : 0 < size)
    (v : Value) (n : Nat) (xs : List Value) (hown : w.ownsRow base e size v n xs)
    (q : Option Addr) (m c : Nat) (hq : q = none → m = 0) (news : List Value) (hl : news.length = m * size) (hnews : ∀ ad, q = some ad → ∀ j u, news[j]? = some u → w.cell? (ad.add j) = some u) (h1 : ∀ u ∈ news, u.oneCell' = true)
    (h63 : n + m ≤ maxLen) (hbytes : (n + m) * bytes ≤ 140737488355328) (hbase : base ≤ w.heap.size) :
    ∃ v' w', (Builtin.append_ #[t, t] ty #[v, .slice q m c]).run P w = .ok v' w' ∧ w'.ownsRow base e size v' (n + m) (xs ++ news) ∧ ∀ w0 : World, Gr w0 w → w0.heap.size ≤ base → Gr w0 w' := by
  cases q with
  | none =>
    obtain rfl := hq rfl
    have hn0 : news = [] := List.eq_nil_of_length_eq_zero (by simpa using hl)
    subst hn0
    refine ⟨v, w, ?_, by simpa using hown, fun w0 g _ => g⟩
    subst hsize
    rcases hown.2 with ⟨rfl, rfl⟩ | ⟨g, cap, cur, rfl, _, _, hnc, _⟩
    · simp [Builtin.append_, run_underlying ht, sizeOf, typeInfo, hi, Builtin.lenOf, Builtin.firstCells]
    · simp [Builtin.append_, run_underlying ht, sizeOf, typeInfo, hi, Builtin.lenOf, Builtin.firstCells, hnc, storeCells]
  | some ad =>
    obtain ⟨v', w', hr, h2, h3, _, _⟩ := run_append_own_at (P := P) w base t ty e i z size bytes ht hi hz hsize hby hzs hsz v n xs hown ad m c news hl (hnews ad rfl) h1 h63 hbytes hbase
    exact ⟨v', w', hr, h2, fun w0 g hb => Below.grown g h3 g.size (fun j hj => Nat.le_trans hb (hown.lt j hj).1)⟩
theorem step_append_any {P : Program} {w : World} {o : Oper} {a : Act} {K : Act → World → Prop} {Q : Exit → Act → World → Prop} (s x : Operand) (t : TypeId) (ho : o.op = .call { callee := .builtin .append, args := #[s, x], argTypes := #[t, t] })
    (base : Nat) (e : TypeId) (i : TypeInfo) (z : Value) (size bytes : Nat) (ht : P.underlying t = some (.slice e)) (hi : P.info? e = some i) (hz : i.zero = some z)
    (hsize : i.size = size) (hby : i.bytes = bytes) (hzs : z.cells.size = size) (hsz : 0 < size)
    (v : Value) (n : Nat) (xs : List Value) (hs : a.eval s = v) (hown : w.ownsRow base e size v n xs)
    (q : Option Addr) (m c : Nat) (hq : q = none → m = 0) (news : List Value) (hx : a.eval x = .slice q m c) (hl : news.length = m * size) (hnews : ∀ ad, q = some ad → ∀ j u, news[j]? = some u → w.cell? (ad.add j) = some u) (h1 : ∀ u ∈ news, u.oneCell' = true)
    (h63 : n + m ≤ maxLen) (hbytes : (n + m) * bytes ≤ 140737488355328) (hbase : base ≤ w.heap.size)
    (h : ∀ v' w', w'.ownsRow base e size v' (n + m) (xs ++ news) → (∀ w0 : World, Gr w0 w → w0.heap.size ≤ base → Gr w0 w') → K (a.put o.dst v') w') : Oper.wp P o a w K Q := by
  obtain ⟨v', w', hr, h2, h3⟩ := run_append_any (P := P) (w := w) base t o.type e i z size bytes ht hi hz hsize hby hzs hsz v n xs hown q m c hq news hl hnews h1 h63 hbytes hbase
  unfold Oper.wp execOp
  simp only [ho, resolve, invoke, builtin, Sem.run_bind, Sem.run_pure, Result.andThen_ok, List.map_toArray, List.map_cons, List.map_nil, hs, hx, hr]
  exact h v' w' h2 h3
theorem wpList_append_any {P : Program} {w : World} {ops : Array Oper} {rest : List Oper} {o : Oper} {a : Act} {Q : Exit → Act → World → Prop} (hgd : o.guard = none) (s x : Operand) (t : TypeId) (ho : o.op = .call { callee := .builtin .append, args := #[s, x], argTypes := #[t, t] })
    (base : Nat) (e : TypeId) (i : TypeInfo) (z : Value) (size bytes : Nat) (ht : P.underlying t = some (.slice e)) (hi : P.info? e = some i) (hz : i.zero = some z)
    (hsize : i.size = size) (hby : i.bytes = bytes) (hzs : z.cells.size = size) (hsz : 0 < size)
    (v : Value) (n : Nat) (xs : List Value) (hs : a.eval s = v) (hown : w.ownsRow base e size v n xs)
    (q : Option Addr) (m c : Nat) (hq : q = none → m = 0) (news : List Value) (hx : a.eval x = .slice q m c) (hl : news.length = m * size) (hnews : ∀ ad, q = some ad → ∀ j u, news[j]? = some u → w.cell? (ad.add j) = some u) (h1 : ∀ u ∈ news, u.oneCell' = true)
    (h63 : n + m ≤ maxLen) (hbytes : (n + m) * bytes ≤ 140737488355328) (hbase : base ≤ w.heap.size)
    (h : ∀ v' w', w'.ownsRow base e size v' (n + m) (xs ++ news) → (∀ w0 : World, Gr w0 w → w0.heap.size ≤ base → Gr w0 w') → wpList P ops Q rest (a.put o.dst v') w') :
    wpList P ops Q (o :: rest) a w := by
  refine wpList_plain hgd fun K hK => ?_
  exact step_append_any s x t ho base e i z size bytes ht hi hz hsize hby hzs hsz v n xs hs hown q m c hq news hx hl hnews h1 h63 hbytes hbase fun v' w' h2 h3 => hK _ _ (h v' w' h2 h3)
theorem own_emptyT {w : World} {g base k : Nat} {T : TypeId} (h : w.heap[g]? = some (.cells #[] T (0, 0))) (hb : base ≤ g) : w.ownsRow base T k (.slice (some ⟨g, 0, none⟩) 0 0) 0 [] :=
  ⟨by simp, .inr ⟨g, 0, #[], rfl, hb, h, Nat.le_refl _, by unfold maxLen; omega, by simp, by simp⟩⟩
end Go.Proofs.YtnihclhhbegjhaaGreatDoor
namespace Go.Proofs.YtnihclhhbegjhaaGreatDoor
open Go.RowKit Go.Lib Go.Sort Go.Proofs
set_option linter.unusedSimpArgs false
set_option linter.unusedVariables false
theorem ltS_irr (a : ByteArray) : ltS a a = false := less_self _
theorem arch_clocks {l : List EnR} (h : archE l = 0) : l.Pairwise fun a b => befB a b = true ∧ (a.de.toList = b.de.toList → a.ck < b.ck) := by
  have ha := errG_all l.length 0 (by omega) h
  have hf : ∀ x y : Int, firstE [x, y] = if x = 0 then (if y = 0 then 0 else y) else x := fun _ _ => rfl
  have h1 : ∀ i x, l[i]? = some x → ordE l i x = false := fun i x hx => by
    have h0 := ha i x (Nat.zero_le _) hx
    unfold enE at h0
    rw [hf] at h0
    by_cases he : enErr x = 0
    · cases ho : ordE l i x with
      | false => rfl
      | true => rw [he, ho] at h0; simp at h0
    · rw [if_neg he] at h0; exact absurd h0 he
  have hadj : ∀ i a b, l[i]? = some a → l[i + 1]? = some b → befB a b = true ∧ (a.de.toList = b.de.toList → a.ck < b.ck) := fun i a b hia hib => by
    have := h1 (i + 1) b hib
    simp only [ordE, hia, ordB] at this
    rw [Bool.or_eq_false_iff] at this
    refine ⟨by simpa using this.1, fun e => ?_⟩
    have h2 := this.2
    rw [e] at h2
    simpa using h2
  have htr : ∀ a b c : EnR, (befB a b = true ∧ (a.de.toList = b.de.toList → a.ck < b.ck)) → (befB b c = true ∧ (b.de.toList = c.de.toList → b.ck < c.ck)) → (befB a c = true ∧ (a.de.toList = c.de.toList → a.ck < c.ck)) := by
    intro a b c ⟨p1, p2⟩ ⟨q1, q2⟩
    refine ⟨befB_trans p1 q1, fun e => ?_⟩
    have hab : a.de.toList = b.de.toList := by
      unfold befB at p1 q1
      simp only [Bool.or_eq_true, Bool.and_eq_true, beq_iff_eq] at p1 q1
      rcases p1 with p1 | ⟨p1, _⟩
      · rcases q1 with q1 | ⟨q1, _⟩
        · have := less_trans _ _ _ p1 q1
          rw [← e, less_self] at this; cases this
        · exact e.trans q1.symm
      · exact p1
    have := p2 hab
    have := q2 (hab.symm.trans e)
    omega
  rw [List.pairwise_iff_getElem]
  intro i j hi hj hij
  obtain ⟨d, rfl⟩ : ∃ d, j = i + 1 + d := ⟨j - (i + 1), by omega⟩
  clear hij
  induction d with
  | zero => exact hadj i _ _ (List.getElem?_eq_getElem hi) (List.getElem?_eq_getElem hj)
  | succ d ih =>
    have hj2 : i + 1 + d < l.length := by omega
    exact htr _ _ _ (ih hj2) (hadj (i + 1 + d) _ _ (List.getElem?_eq_getElem hj2) (List.getElem?_eq_getElem hj))
end Go.Proofs.YtnihclhhbegjhaaGreatDoor
namespace Go.Proofs.YtnihclhhbegjhaaGreatDoor
open Go.RowKit Go.Lib
set_option linter.unusedSimpArgs false
set_option linter.unusedVariables false
def mrgE : List EnR → List EnR → List EnR
  | [], b => b
  | x :: a, [] => x :: a
  | x :: a, y :: b => if mkO x y < 0 then x :: mrgE a (y :: b) else if mkO x y = 0 then x :: mrgE a b else y :: mrgE (x :: a) b
termination_by a b => a.length + b.length
theorem mrgE_nil (b : List EnR) : mrgE [] b = b := by rw [mrgE]
theorem mrgE_nil2 (a : List EnR) : mrgE a [] = a := by cases a <;> rw [mrgE]
theorem mrgE_lt {x y : EnR} {a b : List EnR} (h : mkO x y < 0) : mrgE (x :: a) (y :: b) = x :: mrgE a (y :: b) := by rw [mrgE, if_pos h]
theorem mrgE_eq {x y : EnR} {a b : List EnR} (h : mkO x y = 0) : mrgE (x :: a) (y :: b) = x :: mrgE a b := by rw [mrgE, if_neg (by omega), if_pos h]
theorem mrgE_gt {x y : EnR} {a b : List EnR} (h : 0 < mkO x y) : mrgE (x :: a) (y :: b) = y :: mrgE (x :: a) b := by rw [mrgE, if_neg (by omega), if_neg (by omega)]
theorem mrgE_len : ∀ (n : Nat) (a b : List EnR), a.length + b.length ≤ n → (mrgE a b).length ≤ a.length + b.length := by
  intro n
  induction n with
  | zero =>
    intro a b h
    have h1 : a = [] := List.eq_nil_of_length_eq_zero (by omega)
    subst h1
    rw [mrgE_nil]; simp
  | succ n ih =>
    intro a b h
    cases a with
    | nil => rw [mrgE_nil]; simp
    | cons x a =>
      cases b with
      | nil => rw [mrgE_nil2]; simp
      | cons y b =>
        simp only [List.length_cons] at h
        rcases Int.lt_trichotomy (mkO x y) 0 with h1 | h1 | h1
        · rw [mrgE_lt h1]; have := ih a (y :: b) (by simp only [List.length_cons]; omega); simp only [List.length_cons] at this ⊢; omega
        · rw [mrgE_eq h1]; have := ih a b (by omega); simp only [List.length_cons] at this ⊢; omega
        · rw [mrgE_gt h1]; have := ih (x :: a) b (by simp only [List.length_cons]; omega); simp only [List.length_cons] at this ⊢; omega
theorem mrgE_len_le (a b : List EnR) : (mrgE a b).length ≤ a.length + b.length := mrgE_len _ a b (Nat.le_refl _)
theorem mrgE_mem : ∀ (n : Nat) (a b : List EnR), a.length + b.length ≤ n → ∀ e ∈ mrgE a b, e ∈ a ∨ e ∈ b := by
  intro n
  induction n with
  | zero =>
    intro a b h e he
    have h1 : a = [] := List.eq_nil_of_length_eq_zero (by omega)
    subst h1
    rw [mrgE_nil] at he; exact .inr he
  | succ n ih =>
    intro a b h e he
    cases a with
    | nil => rw [mrgE_nil] at he; exact .inr he
    | cons x a =>
      cases b with
      | nil => rw [mrgE_nil2] at he; exact .inl he
      | cons y b =>
        simp only [List.length_cons] at h
        rcases Int.lt_trichotomy (mkO x y) 0 with h1 | h1 | h1
        · rw [mrgE_lt h1] at he
          rcases List.mem_cons.1 he with rfl | he
          · exact .inl (List.mem_cons_self ..)
          · rcases ih a (y :: b) (by simp only [List.length_cons]; omega) e he with h2 | h2
            · exact .inl (List.mem_cons_of_mem _ h2)
            · exact .inr h2
        · rw [mrgE_eq h1] at he
          rcases List.mem_cons.1 he with rfl | he
          · exact .inl (List.mem_cons_self ..)
          · rcases ih a b (by omega) e he with h2 | h2
            · exact .inl (List.mem_cons_of_mem _ h2)
            · exact .inr (List.mem_cons_of_mem _ h2)
        · rw [mrgE_gt h1] at he
          rcases List.mem_cons.1 he with rfl | he
          · exact .inr (List.mem_cons_self ..)
          · rcases ih (x :: a) b (by simp only [List.length_cons]; omega) e he with h2 | h2
            · exact .inl h2
            · exact .inr (List.mem_cons_of_mem _ h2)
theorem mrgE_sub {a b : List EnR} {e : EnR} (he : e ∈ mrgE a b) : e ∈ a ∨ e ∈ b := mrgE_mem _ a b (Nat.le_refl _) e he
theorem cmpS_neg (x y : ByteArray) : cmpS x y = - cmpS y x := by
  unfold cmpS
  by_cases h1 : ltS x y = true
  · have h2 : ltS y x = false := by
      cases h : ltS y x
      · rfl
      · have := less_trans _ _ _ h1 h
        rw [show Op.bytesLess x.toList x.toList = ltS x x from rfl, ltS_irr] at this; cases this
    have h3 : ¬ x.toList = y.toList := fun e => by
      have := ltS_eq e; rw [h1] at this; cases this
    rw [if_pos h1, h2]
    have : (y.toList == x.toList) = false := beq_eq_false_iff_ne.2 (fun e => h3 e.symm)
    rw [this]; simp
  · have h1' : ltS x y = false := by simpa using h1
    rw [if_neg h1, h1']
    by_cases he : x.toList = y.toList
    · have e2 := ltS_eq he.symm
      rw [e2]
      simp [he]
    · have h2 : ltS y x = true := by
        have := less_tri y.toList x.toList
        unfold ltS at *
        rw [h1'] at this
        rw [this]
        simp [he]
      have h3 : (x.toList == y.toList) = false := beq_eq_false_iff_ne.2 he
      rw [h3, if_pos h2]; simp
def AscE (l : List EnR) : Prop := l.Pairwise fun a b => befB a b = true
theorem AscE.of_arch {l : List EnR} (h : archE l = 0) : AscE l := (arch_clocks h).imp (fun h => h.1)
end Go.Proofs.YtnihclhhbegjhaaGreatDoor
namespace Go.Proofs.YtnihclhhbegjhaaGreatDoor
open Go.RowKit Go.Lib
set_option linter.unusedSimpArgs false
set_option linter.unusedVariables false
theorem en_cells {w : World} {b off : Nat} {l : List EnR} (h : ∀ (i : Nat) (e : EnR), l[i]? = some e → EnAt w b (off + i * 7) e) : ∀ (j : Nat) (u : Value), (enCs l)[j]? = some u → w.cell? ((⟨b, off, none⟩ : Addr).add j) = some u := fun j u hu => by
  rw [addr_add]
  have hj := (List.getElem?_eq_some_iff.1 hu).1
  rw [enCs_len] at hj
  obtain ⟨e, he⟩ : ∃ e, l[j / 7]? = some e := ⟨l[j / 7]'(by omega), List.getElem?_eq_getElem _⟩
  obtain ⟨c0, c1, c2, c3, c4, c5, c6, _⟩ := h _ e he
  have hr : j % 7 < 7 := Nat.mod_lt _ (by omega)
  have hs : j = j / 7 * 7 + j % 7 := by omega
  have hc := enCs_at he (j % 7) hr
  rw [← hs, hu] at hc
  have ho : off + j = off + j / 7 * 7 + j % 7 := by omega
  rw [ho]
  generalize j % 7 = r at *
  unfold enC at hc
  match r, hr with
  | 0, _ => simp at hc; rw [hc]; exact c0
  | 1, _ => simp at hc; rw [hc]; exact c1
  | 2, _ => simp at hc; rw [hc]; exact c2
  | 3, _ => simp at hc; rw [hc]; exact c3
  | 4, _ => simp at hc; rw [hc]; exact c4
  | 5, _ => simp at hc; rw [hc]; exact c5
  | 6, _ => simp at hc; rw [hc]; exact c6
theorem one_enCs (l : List EnR) : ∀ u ∈ enCs l, u.oneCell' = true := fun u hu => by
  unfold enCs at hu
  obtain ⟨e, _, he⟩ := List.mem_flatMap.1 hu
  exact one_seven _ _ _ _ _ _ _ _ _ u he
theorem EnS.rowsX {w : World} {q : Option Addr} {l : List EnR} (h : EnS w q l) : ∀ e ∈ l, RowsX w e.p e.n e.cap e.xs := fun e he => by
  obtain ⟨i, hi⟩ := List.getElem?_of_mem he
  obtain ⟨b, off, _, hc⟩ := h.out (by have := (List.getElem?_eq_some_iff.1 hi).1; omega)
  exact (hc i e hi).rows
end Go.Proofs.YtnihclhhbegjhaaGreatDoor
