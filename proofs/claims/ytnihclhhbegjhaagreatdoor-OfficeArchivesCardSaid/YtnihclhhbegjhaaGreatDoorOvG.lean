/- Archives (chapter 10): marks: copied, few, compared. -/
import Derived.Test.YtnihclhhbegjhaaGreatDoorOvF
import Derived.Deep.CutRange
namespace Go.Proofs.YtnihclhhbegjhaaGreatDoor
open Go.RowKit Go.Lib
set_option linter.unusedSimpArgs false
set_option linter.unusedVariables false
structure MkR where
  de : ByteArray
  nu : Int
def mkC (r : MkR) : List Value := [.string r.de, .int .i64 r.nu]
def mkCs (l : List MkR) : List Value := l.flatMap mkC
theorem mkCs_at {xs : List MkR} {i : Nat} {x : MkR} (h : xs[i]? = some x) (j : Nat) (hj : j < 2) : (mkCs xs)[i * 2 + j]? = (mkC x)[j]? := by
  induction xs generalizing i with
  | nil => simp at h
  | cons y ys ih =>
    have e : mkCs (y :: ys) = mkC y ++ mkCs ys := rfl
    rw [e]
    cases i with
    | zero =>
      simp only [List.getElem?_cons_zero, Option.some.injEq] at h
      subst h
      rw [show 0 * 2 + j = j by omega, List.getElem?_append_left (by simp [mkC]; omega)]
    | succ i =>
      rw [List.getElem?_append_right (by simp [mkC]; omega)]
      have := ih (i := i) (by simpa using h)
      rw [← this]
      congr 1
      simp [mkC]; omega
structure MkS (w : World) (q : Option Addr) (l : List MkR) : Prop where
  mk' ::
  out : 0 < l.length → ∃ b off, q = some ⟨b, off, none⟩ ∧ ∀ (i : Nat) (r : MkR), l[i]? = some r → w.cell? ⟨b, off + i * 2, none⟩ = some (.string r.de) ∧ w.cell? ⟨b, off + i * 2 + 1, none⟩ = some (.int .i64 r.nu)
theorem MkS.gr {w w' : World} {q : Option Addr} {l : List MkR} (h : MkS w q l) (k : Gr w w') : MkS w' q l := ⟨fun h0 => by
  obtain ⟨g, off, e, hc⟩ := h.out h0
  exact ⟨g, off, e, fun i r hr => ⟨k.cell (hc i r hr).1, k.cell (hc i r hr).2⟩⟩⟩
theorem MkS.of_own {w : World} {b n : Nat} {T : TypeId} {q : Option Addr} {c : Nat} {l : List MkR} (h : w.ownsRow b T 2 (.slice q n c) n (mkCs l)) (hn : l.length = n) : MkS w q l := ⟨fun h0 => by
  rcases h.2 with ⟨e, hz⟩ | ⟨g, cap, cur, e, _, _, hle, hmx, _, _⟩
  · omega
  · simp only [Value.slice.injEq] at e
    obtain ⟨rfl, _, rfl⟩ := e
    refine ⟨g, 0, rfl, fun i r hr => ?_⟩
    have hi := (List.getElem?_eq_some_iff.1 hr).1
    have c0 := h.cellAt (i * 2 + 0) (by omega)
    have c1 := h.cellAt (i * 2 + 1) (by omega)
    rw [mkCs_at hr _ (by omega)] at c0 c1
    rw [Nat.zero_add]
    exact ⟨c0, c1⟩⟩
end Go.Proofs.YtnihclhhbegjhaaGreatDoor
