/- Rows of the call's own: small facts. -/
import Derived.Test.YtjkiidkacpffnaaGreatDoorGNames
import Derived.Laws.AppendOwn
import Derived.Laws.OwnMore
import Derived.Deep.Onto
import Derived.Maps.AppendAt
import Derived.Test.YtjkiidkacpffnaaGreatDoorGRkD
namespace Go.Proofs.YtjkiidkacpffnaaGreatDoor
open Go.RowKit Go.Lib
set_option linter.unusedSimpArgs false
set_option linter.unusedVariables false
theorem own_at {w : World} {base n : Nat} {T : TypeId} {v : Value} {l : List Value} (h : w.ownsRow base T 1 v n l) (h0 : 0 < n) : ∃ g c, v = .slice (some ⟨g, 0, none⟩) n c ∧ base ≤ g ∧ g < w.heap.size ∧ (n ≤ c ∧ c ≤ maxLen) ∧ ∀ i u, l[i]? = some u → w.cell? ⟨g, i, none⟩ = some u := by
  have hh := h
  rcases h.2 with ⟨rfl, h0'⟩ | ⟨g, cap, cur, rfl, hb, hcur, hle, hmx, _, _⟩
  · omega
  · refine ⟨g, cap, rfl, hb, (Array.getElem?_eq_some_iff.1 hcur).1, ⟨hle, hmx⟩, fun i u hu => ?_⟩
    have c := hh.cells (g := g) rfl i u hu
    rwa [show (⟨g, 0, none⟩ : Addr).add i = ⟨g, i, none⟩ by unfold Addr.add; split <;> simp_all] at c
end Go.Proofs.YtjkiidkacpffnaaGreatDoor
namespace Go.Proofs.YtjkiidkacpffnaaGreatDoor
open Go.RowKit Go.Lib
set_option linter.unusedSimpArgs false
set_option linter.unusedVariables false
theorem addr_add (b o j : Nat) : (⟨b, o, none⟩ : Addr).add j = ⟨b, o + j, none⟩ := by unfold Addr.add; split <;> simp_all
/-- the slice holds these integers -/
structure IntS (w : World) (q : Option Addr) (m : Nat) (zs : List Int) : Prop where
  mk' ::
  len : zs.length = m
  out : 0 < m → ∃ b off, q = some ⟨b, off, none⟩ ∧ ∀ (i : Nat) (z : Int), zs[i]? = some z → w.cell? ⟨b, off + i, none⟩ = some (.int .i64 z)
theorem IntS.gr {w w' : World} {q : Option Addr} {m : Nat} {zs : List Int} (h : IntS w q m zs) (k : Gr w w') : IntS w' q m zs := ⟨h.len, fun h0 => by
  obtain ⟨g, off, e, hc⟩ := h.out h0
  exact ⟨g, off, e, fun i a ha => k.cell (hc i a ha)⟩⟩
theorem IntS.at_ {w : World} {ad : Addr} {m : Nat} {zs : List Int} (h : IntS w (some ad) m zs) : ∀ (j : Nat) (u : Value), (ints zs)[j]? = some u → w.cell? (ad.add j) = some u := fun j u hu => by
  unfold ints at hu
  rw [List.getElem?_map] at hu
  cases hz : zs[j]? with
  | none => rw [hz] at hu; cases hu
  | some z =>
    rw [hz] at hu
    cases hu
    obtain ⟨b, off, e, hc⟩ := h.out (by have := (List.getElem?_eq_some_iff.1 hz).1; have := h.len; omega)
    cases e
    rw [addr_add]
    exact hc j z hz
theorem IntS.of_own {w : World} {b n : Nat} {q : Option Addr} {c : Nat} {zs : List Int} (h : w.ownsRow b 3 1 (.slice q n c) n (ints zs)) : IntS w q n zs := by
  have hl : zs.length = n := by have := h.1; unfold ints at this; simpa using this
  refine ⟨hl, fun h0 => ?_⟩
  obtain ⟨g, c2, e, _, _, _, hc⟩ := own_at h h0
  simp only [Value.slice.injEq] at e
  exact ⟨g, 0, e.1, fun i z hz => by rw [Nat.zero_add]; exact hc i _ (by unfold ints; rw [List.getElem?_map, hz]; rfl)⟩
end Go.Proofs.YtjkiidkacpffnaaGreatDoor
namespace Go.Proofs.YtjkiidkacpffnaaGreatDoor
open Go.RowKit Go.Lib
set_option linter.unusedSimpArgs false
set_option linter.unusedVariables false
/-- the three cells of a result at a place, and its values, however many -/
structure Row0 (w : World) (b off : Nat) (x : RowR) : Prop where
  nm : w.cell? ⟨b, off, none⟩ = some (.string x.nm)
  st : w.cell? ⟨b, off + 1, none⟩ = some (.string x.st)
  u : w.cell? ⟨b, off + 2, none⟩ = some x.u
  val : IntsV w x.u x.xs
theorem Row0.at {w : World} {b off : Nat} {x : RowR} (h : Row0 w b off x) (hl : x.xs.length ≤ 1000) : RowAt w b off x := ⟨h.nm, h.st, h.u, h.val, hl⟩
theorem Row0.gr {w w' : World} {b off : Nat} {x : RowR} (h : Row0 w b off x) (k : Gr w w') : Row0 w' b off x := ⟨k.cell h.nm, k.cell h.st, k.cell h.u, h.val.gr k⟩
end Go.Proofs.YtjkiidkacpffnaaGreatDoor
