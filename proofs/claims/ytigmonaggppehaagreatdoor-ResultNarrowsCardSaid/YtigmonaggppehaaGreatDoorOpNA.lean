/- Small things that many texts of chapter 7 take: a box of three cells, check.If under a name, an operation of a region. -/
import Derived.Test.YtigmonaggppehaaGreatDoorChecks
import Derived.Test.YtigmonaggppehaaGreatDoorNamesAB
import Derived.BigQuiet
namespace Go.Proofs.YtigmonaggppehaaGreatDoor
open Go.RowKit Go.Lib
set_option linter.unusedSimpArgs false
set_option linter.unusedVariables false
theorem box3 (w : World) (a0 a1 a2 : Value) (T : Nat) : ∃ W, w.alloc (.cells #[a0, a1, a2] T) = W ∧ Gr w W ∧ W.cell? ⟨w.heap.size, 0, none⟩ = some a0 ∧ W.cell? ⟨w.heap.size, 1, none⟩ = some a1 ∧ W.cell? ⟨w.heap.size, 2, none⟩ = some a2 :=
  ⟨_, rfl, (Gr.refl w).alloc _, cell_new w #[a0, a1, a2] T 0 (by simp), cell_new w #[a0, a1, a2] T 1 (by simp), cell_new w #[a0, a1, a2] T 2 (by simp)⟩
/-- check.If, its answer under a name -/
theorem if_e (b : Bool) (n : Int) : ∃ z, z = (if b then n else 0) ∧ ∀ W, Calls Tryz.prog 36 #[.bool b, .int .i64 n] W fun e w' => e = .returned (.int .i64 z) ∧ W = w' :=
  ⟨_, rfl, fun W => if_c b n W⟩
theorem firstE_last (a b c d e : Int) : firstE [a, b, c, d, e] = if firstE [a, b, c, d] = 0 then e else firstE [a, b, c, d] := by
  unfold firstE firstE firstE firstE firstE firstE
  by_cases h1 : a = 0 <;> by_cases h2 : b = 0 <;> by_cases h3 : c = 0 <;> by_cases h4 : d = 0 <;> by_cases h5 : e = 0 <;> simp [*]
/-- an operation of a region that is written out -/
theorem op_at {l : List Oper} {i : Nat} {o : Oper} (h : l[i]? = some o) : l.toArray[i]? = some o := by rw [List.getElem?_toArray]; exact h
/-- the states' table lies in the world -/
def StatesIn (w : World) : Prop := ∃ t fr, w.heap[0]? = some (.cells #[.string ⟨#[]⟩, .string ⟨#[100, 110, 115]⟩, .string ⟨#[100, 110, 102]⟩, .string ⟨#[100, 115, 113]⟩] t fr)
theorem StatesIn.gr {w w' : World} (h : StatesIn w) (k : Gr w w') : StatesIn w' := by
  obtain ⟨t, fr, h⟩ := h
  exact ⟨t, fr, k.block h⟩
theorem StatesIn.cells {w : World} (h : StatesIn w) : w.cell? ⟨0, 0, none⟩ = some (.string ⟨#[]⟩) ∧ w.cell? ⟨0, 1, none⟩ = some (.string ⟨#[100, 110, 115]⟩) ∧ w.cell? ⟨0, 2, none⟩ = some (.string ⟨#[100, 110, 102]⟩) ∧ w.cell? ⟨0, 3, none⟩ = some (.string ⟨#[100, 115, 113]⟩) := by
  obtain ⟨t, fr, h⟩ := h
  simp [World.cell?, h]
end Go.Proofs.YtigmonaggppehaaGreatDoor
namespace Go.Proofs.YtigmonaggppehaaGreatDoor
open Go.RowKit Go.Lib
set_option linter.unusedSimpArgs false
set_option linter.unusedVariables false
/-- a climber with an open value -/
structure OpR where
  nm : ByteArray
  lo : Int
  hi : Int
/-- the three cells of a climber at a place -/
structure OpAt (w : World) (b off : Nat) (x : OpR) : Prop where
  nm : w.cell? ⟨b, off, none⟩ = some (.string x.nm)
  lo : w.cell? ⟨b, off + 1, none⟩ = some (.int .i64 x.lo)
  hi : w.cell? ⟨b, off + 2, none⟩ = some (.int .i64 x.hi)
theorem OpAt.gr {w w' : World} {b off : Nat} {x : OpR} (h : OpAt w b off x) (k : Gr w w') : OpAt w' b off x := ⟨k.cell h.nm, k.cell h.lo, k.cell h.hi⟩
/-- the slice v reads as the climbers xs -/
structure OpsV (w : World) (v : Value) (xs : List OpR) : Prop where
  mk' ::
  out : ∃ p cap, v = .slice p xs.length cap ∧ (xs.length ≤ cap ∧ cap ≤ maxLen) ∧ (0 < xs.length → ∃ b off, p = some ⟨b, off, none⟩ ∧ ∀ i x, xs[i]? = some x → OpAt w b (off + i * 3) x)
theorem OpsV.gr {w w' : World} {v : Value} {xs : List OpR} (h : OpsV w v xs) (k : Gr w w') : OpsV w' v xs := by
  obtain ⟨⟨p, cap, rfl, hcap, hh⟩⟩ := h
  refine ⟨p, cap, rfl, hcap, fun h0 => ?_⟩
  obtain ⟨b, off, h1, h2⟩ := hh h0
  exact ⟨b, off, h1, fun i x hx => (h2 i x hx).gr k⟩
/-- one before has the name -/
def dupB (xs : List OpR) (i : Nat) (nm : ByteArray) : Bool := (xs.take i).any fun y => y.nm.toList == nm.toList
/-- the error of a climber at a place -/
def errAt (xs : List OpR) (i : Nat) (x : OpR) : Int :=
  firstE [if !decide (Nm x.nm) then 8 else 0, if dupB xs i x.nm then 9 else 0, outE x.lo 0 99999, outE x.hi 0 99999, if decide (x.hi < x.lo) then 11 else 0]
/-- the first error from a place on -/
def errFrom (xs : List OpR) : Nat → Nat → Int
  | 0, _ => 0
  | k + 1, i => match xs[i]? with
    | some x => if errAt xs i x = 0 then errFrom xs k (i + 1) else errAt xs i x
    | none => 0
theorem errFrom_step {xs : List OpR} {i : Nat} {x : OpR} (h : xs[i]? = some x) : errFrom xs (xs.length - i) i = if errAt xs i x = 0 then errFrom xs (xs.length - (i + 1)) (i + 1) else errAt xs i x := by
  have hi := (List.getElem?_eq_some_iff.1 h).1
  obtain ⟨k, hk⟩ : ∃ k, xs.length - i = k + 1 := ⟨xs.length - i - 1, by omega⟩
  have hk2 : xs.length - (i + 1) = k := by omega
  rw [hk, hk2]
  simp only [errFrom, h]
theorem errFrom_end {xs : List OpR} {i : Nat} (h : xs.length ≤ i) : errFrom xs (xs.length - i) i = 0 := by
  rw [show xs.length - i = 0 by omega]; rfl
/-- the error of open values -/
def openE (xs : List OpR) : Int := if xs.length = 0 then 12 else if 160 < xs.length then 5 else errFrom xs (xs.length - 0) 0
theorem errAt_eq (xs : List OpR) (i : Nat) (x : OpR) : errAt xs i x = if decide (Nm x.nm) = false then 8 else if dupB xs i x.nm = true then 9 else if (decide (x.lo < 0) || decide (99999 < x.lo) || decide (x.hi < 0) || decide (99999 < x.hi)) = true then 3 else if decide (x.hi < x.lo) = true then 11 else 0 := by
  unfold errAt firstE firstE firstE firstE firstE firstE outE outB
  cases decide (Nm x.nm) <;> cases dupB xs i x.nm <;> cases decide (x.lo < 0) <;> cases decide (99999 < x.lo) <;> cases decide (x.hi < 0) <;> cases decide (99999 < x.hi) <;> cases decide (x.hi < x.lo) <;> rfl
theorem dupB_succ {xs : List OpR} {k : Nat} {y : OpR} (h : xs[k]? = some y) (nm : ByteArray) : dupB xs (k + 1) nm = (dupB xs k nm || (y.nm.toList == nm.toList)) := by
  unfold dupB
  rw [List.take_add_one, h]
  simp
theorem dupB_le {xs : List OpR} {k i : Nat} (hk : k ≤ i) {nm : ByteArray} (h : dupB xs k nm = true) : dupB xs i nm = true := by
  unfold dupB at *
  simp only [List.any_eq_true] at *
  obtain ⟨y, hy, e⟩ := h
  exact ⟨y, List.take_subset_take_left _ hk hy, e⟩
end Go.Proofs.YtigmonaggppehaaGreatDoor
