/- Open values: lists of them; the reference's CheckOpen. -/
import Derived.Test.YtjhgjlgoigpgnaaGreatDoorNamesB
import Derived.Test.YtjhgjlgoigpgnaaGreatDoorResA
import Derived.BigQuiet
namespace Go.Proofs.YtjhgjlgoigpgnaaGreatDoor
open Go.RowKit Go.Lib
set_option linter.unusedSimpArgs false
set_option linter.unusedVariables false
/-- a climber with an open value -/
structure OpR where
  nm : ByteArray
  lo : Int
  hi : Int
/-- the three cells of a climber at a place -/
structure OpAt (w : World) (b off : Nat) (x : OpR) : Prop where
  nm : w.cell? ⟨b, off, none⟩ = some (.string x.nm)
  lo : w.cell? ⟨b, off + 1, none⟩ = some (.int .i64 x.lo)
  hi : w.cell? ⟨b, off + 2, none⟩ = some (.int .i64 x.hi)
theorem OpAt.gr {w w' : World} {b off : Nat} {x : OpR} (h : OpAt w b off x) (k : Gr w w') : OpAt w' b off x := ⟨k.cell h.nm, k.cell h.lo, k.cell h.hi⟩
/-- the slice v reads as the climbers xs -/
structure OpsV (w : World) (v : Value) (xs : List OpR) : Prop where
  mk' ::
  out : ∃ p cap, v = .slice p xs.length cap ∧ (xs.length ≤ cap ∧ cap ≤ maxLen) ∧ (0 < xs.length → ∃ b off, p = some ⟨b, off, none⟩ ∧ ∀ i x, xs[i]? = some x → OpAt w b (off + i * 3) x)
theorem OpsV.gr {w w' : World} {v : Value} {xs : List OpR} (h : OpsV w v xs) (k : Gr w w') : OpsV w' v xs := by
  obtain ⟨⟨p, cap, rfl, hcap, hh⟩⟩ := h
  refine ⟨p, cap, rfl, hcap, fun h0 => ?_⟩
  obtain ⟨b, off, h1, h2⟩ := hh h0
  exact ⟨b, off, h1, fun i x hx => (h2 i x hx).gr k⟩
/-- one before has the name -/
def dupB (xs : List OpR) (i : Nat) (nm : ByteArray) : Bool := (xs.take i).any fun y => y.nm.toList == nm.toList
/-- the error of a climber at a place -/
def errAt (xs : List OpR) (i : Nat) (x : OpR) : Int :=
  firstE [if !decide (Nm x.nm) then 8 else 0, if dupB xs i x.nm then 9 else 0, outE x.lo 0 99999, outE x.hi 0 99999, if decide (x.hi < x.lo) then 11 else 0]
/-- the first error from a place on -/
def errFrom (xs : List OpR) : Nat → Nat → Int
  | 0, _ => 0
  | k + 1, i => match xs[i]? with
    | some x => if errAt xs i x = 0 then errFrom xs k (i + 1) else errAt xs i x
    | none => 0
theorem errFrom_step {xs : List OpR} {i : Nat} {x : OpR} (h : xs[i]? = some x) : errFrom xs (xs.length - i) i = if errAt xs i x = 0 then errFrom xs (xs.length - (i + 1)) (i + 1) else errAt xs i x := by
  have hi := (List.getElem?_eq_some_iff.1 h).1
  obtain ⟨k, hk⟩ : ∃ k, xs.length - i = k + 1 := ⟨xs.length - i - 1, by omega⟩
  have hk2 : xs.length - (i + 1) = k := by omega
  rw [hk, hk2]
  simp only [errFrom, h]
theorem errFrom_end {xs : List OpR} {i : Nat} (h : xs.length ≤ i) : errFrom xs (xs.length - i) i = 0 := by
  rw [show xs.length - i = 0 by omega]; rfl
/-- the error of open values -/
def openE (xs : List OpR) : Int := if xs.length = 0 then 12 else if 160 < xs.length then 5 else errFrom xs (xs.length - 0) 0
theorem errAt_eq (xs : List OpR) (i : Nat) (x : OpR) : errAt xs i x = if decide (Nm x.nm) = false then 8 else if dupB xs i x.nm = true then 9 else if (decide (x.lo < 0) || decide (99999 < x.lo) || decide (x.hi < 0) || decide (99999 < x.hi)) = true then 3 else if decide (x.hi < x.lo) = true then 11 else 0 := by
  unfold errAt firstE firstE firstE firstE firstE firstE outE outB
  cases decide (Nm x.nm) <;> cases dupB xs i x.nm <;> cases decide (x.lo < 0) <;> cases decide (99999 < x.lo) <;> cases decide (x.hi < 0) <;> cases decide (99999 < x.hi) <;> cases decide (x.hi < x.lo) <;> rfl
theorem dupB_succ {xs : List OpR} {k : Nat} {y : OpR} (h : xs[k]? = some y) (nm : ByteArray) : dupB xs (k + 1) nm = (dupB xs k nm || (y.nm.toList == nm.toList)) := by
  unfold dupB
  rw [List.take_add_one, h]
  simp
theorem dupB_le {xs : List OpR} {k i : Nat} (hk : k ≤ i) {nm : ByteArray} (h : dupB xs k nm = true) : dupB xs i nm = true := by
  unfold dupB at *
  simp only [List.any_eq_true] at *
  obtain ⟨y, hy, e⟩ := h
  exact ⟨y, List.take_subset_take_left _ hk hy, e⟩
end Go.Proofs.YtjhgjlgoigpgnaaGreatDoor
