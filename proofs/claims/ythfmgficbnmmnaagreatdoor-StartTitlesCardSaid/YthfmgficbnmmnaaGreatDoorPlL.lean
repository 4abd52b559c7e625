/- Places: the law, walked. -/
import Derived.Test.YthfmgficbnmmnaaGreatDoorPlK
namespace Go.Proofs.YthfmgficbnmmnaaGreatDoor
open Go.RowKit Go.Lib
set_option linter.unusedSimpArgs false
set_option linter.unusedVariables false
def rdV (y : Rd) : Value := .slice y.p y.n y.c
theorem own_apartT {w w' : World} {b1 b2 s1 s2 n1 n2 : Nat} {T1 T2 : TypeId} {v1 v2 : Value} {l1 l2 : List Value} (h1 : w.ownsRow b1 T1 s1 v1 n1 l1) (h2 : w.ownsRow b2 T2 s2 v2 n2 l2) (hT : T1 ≠ T2) (hg : w.grownBy w' v2.ownBlock) : w'.ownsRow b1 T1 s1 v1 n1 l1 := by
  refine ⟨h1.1, ?_⟩
  rcases h1.2 with hn | ⟨g, cap, cur, rfl, hb, hgg, rest⟩
  · exact .inl hn
  · exact .inr ⟨g, cap, cur, rfl, hb, own_far h2 hg hgg hT, rest⟩
/-- the copies that the law has made -/
structure Cps (base : Nat) (w : World) (xs ys : List Rd) : Prop where
  mk' ::
  out : ∀ (j : Nat) (y : Rd), ys[j]? = some y → ∃ x, xs[j]? = some x ∧ y.l = x.l ∧ y.l.length = y.n ∧ w.ownsRow base 91 3 (rdV y) y.n (raCs y.l)
theorem Cps.gr {base : Nat} {w w' : World} {xs ys : List Rd} (h : Cps base w xs ys) (g : Gr w w') : Cps base w' xs ys := ⟨fun j y hy => by
  obtain ⟨x, h1, h2, h3, h4⟩ := h.out j y hy
  exact ⟨x, h1, h2, h3, own_kept h4 g⟩⟩
theorem Cps.grown {base : Nat} {w w' : World} {xs ys : List Rd} {b2 s2 n2 : Nat} {v2 : Value} {l2 : List Value} (h : Cps base w xs ys) (h2 : w.ownsRow b2 28 s2 v2 n2 l2) (hg : w.grownBy w' v2.ownBlock) : Cps base w' xs ys := ⟨fun j y hy => by
  obtain ⟨x, h1, h3, h4, h5⟩ := h.out j y hy
  exact ⟨x, h1, h3, h4, own_apartT h5 h2 (by decide) hg⟩⟩
theorem Cps.add {base : Nat} {w : World} {xs ys : List Rd} {x y : Rd} (h : Cps base w xs ys) (hx : xs[ys.length]? = some x) (e : y.l = x.l) (hl : y.l.length = y.n) (ho : w.ownsRow base 91 3 (rdV y) y.n (raCs y.l)) : Cps base w xs (ys ++ [y]) := ⟨fun j z hz => by
  rcases Nat.lt_or_ge j ys.length with hj | hj
  · rw [List.getElem?_append_left hj] at hz
    exact h.out j z hz
  · rw [List.getElem?_append_right hj] at hz
    have hj2 : j = ys.length := by
      rcases Nat.lt_or_ge (j - ys.length) 1 with h1 | h1
      · omega
      · rw [List.getElem?_eq_none (by simpa using h1)] at hz; cases hz
    subst hj2
    simp at hz
    subst hz
    exact ⟨x, hx, e, hl, ho⟩⟩
theorem rd_own {w : World} {base : Nat} {y : Rd} (hl : y.l.length = y.n) (h : w.ownsRow base 91 3 (rdV y) y.n (raCs y.l)) : RdOk w y := by
  obtain ⟨p, c, e, h1, h2⟩ := own_shape h
  unfold rdV at e h
  simp only [Value.slice.injEq] at e
  obtain ⟨rfl, _, rfl⟩ := e
  exact ⟨hl, h1, h2, RaS.of_own h hl⟩
theorem Cps.ats {base b2 n : Nat} {w : World} {xs ys : List Rd} {v : Value} (h : Cps base w xs ys) (hn : ys.length = n) (ho : w.ownsRow b2 28 1 v n (ys.map rdV)) : RdAts w v ys := by
  subst hn
  rcases ho.2 with ⟨rfl, h0⟩ | ⟨g, cap, cur, rfl, _, _, hle, hmx, _, _⟩
  · exact ⟨none, 0, by rw [h0], ⟨by omega, by unfold maxLen; omega⟩, fun h => by omega⟩
  · refine ⟨some ⟨g, 0, none⟩, cap, rfl, ⟨hle, hmx⟩, fun _ => ⟨g, 0, rfl, fun i y hy => ?_⟩⟩
    have c0 := ho.cells (g := g) rfl i (rdV y) (by simp [hy])
    rw [addr_add] at c0
    obtain ⟨x, _, _, hl, ho2⟩ := h.out i y hy
    exact ⟨c0, rd_own hl ho2⟩
end Go.Proofs.YthfmgficbnmmnaaGreatDoor
