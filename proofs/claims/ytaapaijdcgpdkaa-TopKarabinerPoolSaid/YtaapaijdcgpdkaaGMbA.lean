/- Members: lists of anything: the first element with a property, the first error; names and days. -/
import Derived.Test.YtaapaijdcgpdkaaGChecks
namespace Go.Proofs.Ytaapaijdcgpdkaa
open Go.RowKit Go.Lib
set_option linter.unusedSimpArgs false
set_option linter.unusedVariables false
/-- the first element with a property, from a place on -/
def idxQ {α : Type} (Q : α → Bool) (xs : List α) : Nat → Nat → Int
  | 0, _ => -1
  | k + 1, i => match xs[i]? with
    | some x => if Q x then i else idxQ Q xs k (i + 1)
    | none => -1
theorem idxQ_step {α : Type} {Q : α → Bool} {xs : List α} {i n : Nat} {x : α} (h : xs[i]? = some x) (hi : i < n) : idxQ Q xs (n - i) i = if Q x then (i : Int) else idxQ Q xs (n - (i + 1)) (i + 1) := by
  obtain ⟨k, hk⟩ : ∃ k, n - i = k + 1 := ⟨n - i - 1, by omega⟩
  rw [hk, show n - (i + 1) = k by omega]
  simp only [idxQ, h]
theorem idxQ_end {α : Type} {Q : α → Bool} {xs : List α} {i n : Nat} (h : n ≤ i) : idxQ Q xs (n - i) i = -1 := by
  rw [show n - i = 0 by omega]; rfl
theorem idxQ_any {α : Type} (Q : α → Bool) (xs : List α) : ∀ (k i : Nat), i + k ≤ xs.length → decide (0 ≤ idxQ Q xs k i) = ((xs.drop i).take k).any Q
  | 0, i, h => by simp [idxQ]
  | k + 1, i, h => by
    have hi : i < xs.length := by omega
    rw [List.drop_eq_getElem_cons hi, List.take_succ_cons, List.any_cons, ← idxQ_any Q xs k (i + 1) (by omega)]
    simp only [idxQ, List.getElem?_eq_getElem hi]
    cases Q xs[i] <;> simp
/-- the first error, from a place on -/
def errG {α : Type} (E : Nat → α → Int) (xs : List α) : Nat → Nat → Int
  | 0, _ => 0
  | k + 1, i => match xs[i]? with
    | some x => if E i x = 0 then errG E xs k (i + 1) else E i x
    | none => 0
theorem errG_step {α : Type} {E : Nat → α → Int} {xs : List α} {n i : Nat} {x : α} (hi : i < n) (h : xs[i]? = some x) : errG E xs (n - i) i = if E i x = 0 then errG E xs (n - (i + 1)) (i + 1) else E i x := by
  obtain ⟨k, hk⟩ : ∃ k, n - i = k + 1 := ⟨n - i - 1, by omega⟩
  have hk2 : n - (i + 1) = k := by omega
  rw [hk, hk2]
  simp only [errG, h]
theorem errG_zero {α : Type} {E : Nat → α → Int} {xs : List α} : ∀ (k i : Nat), errG E xs k i = 0 → i + k ≤ xs.length → ∀ j x, i ≤ j → j < i + k → xs[j]? = some x → E j x = 0
  | 0, i, _, _, j, x, h1, h2, _ => by omega
  | k + 1, i, h, hl, j, x, h1, h2, hx => by
    have hi : i < xs.length := by omega
    simp only [errG, List.getElem?_eq_getElem hi] at h
    split at h
    · rename_i h0
      rcases Nat.lt_or_ge i j with h3 | h3
      · exact errG_zero k (i + 1) h (by omega) j x (by omega) (by omega) hx
      · obtain rfl : i = j := by omega
        rw [List.getElem?_eq_getElem hi] at hx
        simp only [Option.some.injEq] at hx
        rw [← hx]; exact h0
    · rename_i h0
      exact absurd h h0
/-- the error of a list of at most so many elements -/
def listE {α : Type} (m : Nat) (E : Nat → α → Int) (xs : List α) : Int := if m < xs.length then 5 else errG E xs xs.length 0
/-- whether a name stands before -/
def dupN {α : Type} (f : α → ByteArray) (xs : List α) (i : Nat) (nm : ByteArray) : Bool := (xs.take i).any fun y => (f y).toList == nm.toList
def isN {α : Type} (f : α → ByteArray) (nm : ByteArray) (y : α) : Bool := (f y).toList == nm.toList
/-- the error of a name -/
def nmE (s : ByteArray) : Int := if Nm s then 0 else 8
theorem bx5 (w : World) (a0 a1 a2 a3 a4 : Value) (T : Nat) : ∃ W, w.alloc (.cells #[a0, a1, a2, a3, a4] T) = W ∧ Gr w W ∧ W.cell? ⟨w.heap.size, 0, none⟩ = some a0 ∧ W.cell? ⟨w.heap.size, 1, none⟩ = some a1 ∧ W.cell? ⟨w.heap.size, 2, none⟩ = some a2 ∧ W.cell? ⟨w.heap.size, 3, none⟩ = some a3 ∧ W.cell? ⟨w.heap.size, 4, none⟩ = some a4 :=
  ⟨_, rfl, (Gr.refl w).alloc _, cell_new w #[a0, a1, a2, a3, a4] T 0 (by simp), cell_new w #[a0, a1, a2, a3, a4] T 1 (by simp), cell_new w #[a0, a1, a2, a3, a4] T 2 (by simp), cell_new w #[a0, a1, a2, a3, a4] T 3 (by simp), cell_new w #[a0, a1, a2, a3, a4] T 4 (by simp)⟩
theorem fst5 (x y z u q : Int) (b cap : Nat) (w : World) (hx : w.cell? ⟨b, 0, none⟩ = some (.int .i64 x)) (hy : w.cell? ⟨b, 1, none⟩ = some (.int .i64 y)) (hz : w.cell? ⟨b, 2, none⟩ = some (.int .i64 z)) (hu : w.cell? ⟨b, 3, none⟩ = some (.int .i64 u)) (hq : w.cell? ⟨b, 4, none⟩ = some (.int .i64 q)) :
    Calls Try.prog 22 #[.slice (some ⟨b, 0, none⟩) 5 cap] w fun e w' => e = .returned (.int .i64 (firstE [x, y, z, u, q])) ∧ w = w' :=
  first_c0 b 5 cap [x, y, z, u, q] w rfl (fun i v h => by
    rcases i with _ | _ | _ | _ | _ | i <;> simp at h <;> subst h <;> assumption) (by omega)
theorem box_two (w : World) (a0 b0 : Value) (T U : Nat) : ∃ W, (w.alloc (.cells #[a0] T)).alloc (.cells #[b0] U) = W ∧ Gr w W ∧ W.cell? ⟨w.heap.size, 0, none⟩ = some a0 ∧ W.cell? ⟨w.heap.size + 1, 0, none⟩ = some b0 := by
  obtain ⟨W1, h1, g1, a1⟩ := box1 w a0 T
  obtain ⟨W2, h2, g2, a2⟩ := box1 W1 b0 U
  refine ⟨W2, by rw [h1, h2], g1.trans g2, g2.cell a1, ?_⟩
  have : W1.heap.size = w.heap.size + 1 := by rw [← h1]; simp
  rw [← this]; exact a2
/-- the range with its answer under a name -/
theorem range_e (n l h : Int) : ∃ z, z = outE n l h ∧ ∀ W, Calls Try.prog 43 #[.int .i64 n, .int .i64 l, .int .i64 h] W fun e w' => e = .returned (.int .i64 z) ∧ W = w' :=
  ⟨_, rfl, fun W => range_c n l h W⟩
theorem memName_c (s : ByteArray) (w : World) :
    Calls Try.prog 38 #[.string s] w fun e w' => e = .returned (.int .i64 (nmE s)) ∧ Gr w w' := by
  have HN := Lib.hid (isName_c s w)
  have HI := Lib.hid (fun b W => if_c b 8 W)
  cases h : decide (Nm s)
  · have HE : Hid (nmE s = 8) := by unfold Hid nmE; rw [if_neg (of_decide_eq_false h)]
    rw [h] at HN
    go_enter Try.func38, Try.ntmps38
    go_wp2_with fail
    refine HN.out.mono ?_
    rintro e w4 ⟨rfl, hg⟩
    go_wp2_with fail
    refine (HI.out _ _).mono ?_
    rintro e w5 ⟨rfl, rfl⟩
    go_wp2_with fail
    go_ret
    exact ⟨by rw [HE.out]; rfl, hg⟩
  · have HE : Hid (nmE s = 0) := by unfold Hid nmE; rw [if_pos (of_decide_eq_true h)]
    rw [h] at HN
    go_enter Try.func38, Try.ntmps38
    go_wp2_with fail
    refine HN.out.mono ?_
    rintro e w4 ⟨rfl, hg⟩
    go_wp2_with fail
    refine (HI.out _ _).mono ?_
    rintro e w5 ⟨rfl, rfl⟩
    go_wp2_with fail
    go_ret
    exact ⟨by rw [HE.out]; rfl, hg⟩
theorem name_e (s : ByteArray) : ∃ z, z = nmE s ∧ ∀ W, Calls Try.prog 38 #[.string s] W fun e w' => e = .returned (.int .i64 z) ∧ Gr W w' :=
  ⟨_, rfl, fun W => memName_c s W⟩
theorem memDay_c (d : Int) (w : World) :
    Calls Try.prog 26 #[.int .i64 d] w fun e w' => e = .returned (.int .i64 (outE d 0 99999)) ∧ w = w' := by
  have HI := Lib.hid (range_c d 0 99999 w)
  generalize outE d 0 99999 = z at *
  go_enter Try.func26, Try.ntmps26
  go_wp2_with fail
  refine HI.out.mono ?_
  rintro e w4 ⟨rfl, rfl⟩
  go_wp2_with fail
  go_ret
  exact ⟨rfl, rfl⟩
theorem day_e (d : Int) : ∃ z, z = outE d 0 99999 ∧ ∀ W, Calls Try.prog 26 #[.int .i64 d] W fun e w' => e = .returned (.int .i64 z) ∧ W = w' :=
  ⟨_, rfl, fun W => memDay_c d W⟩
end Go.Proofs.Ytaapaijdcgpdkaa
namespace Go.Proofs.Ytaapaijdcgpdkaa
open Go.RowKit Go.Lib
end Go.Proofs.Ytaapaijdcgpdkaa
namespace Go.Proofs.Ytaapaijdcgpdkaa
open Go.RowKit Go.Lib
set_option linter.unusedSimpArgs false
set_option linter.unusedVariables false
structure CatR where
  nm : ByteArray
  lo : Int
  hi : Int
/-- the cells of one at a place -/
structure CatAt (w : World) (b off : Nat) (x : CatR) : Prop where
  nm : w.cell? ⟨b, off, none⟩ = some (.string x.nm)
  lo : w.cell? ⟨b, off + 1, none⟩ = some (.int .i64 x.lo)
  hi : w.cell? ⟨b, off + 2, none⟩ = some (.int .i64 x.hi)
theorem CatAt.gr {w w' : World} {b off : Nat} {x : CatR} (h : CatAt w b off x) (k : Gr w w') : CatAt w' b off x := ⟨k.cell h.nm, k.cell h.lo, k.cell h.hi⟩
def catV (x : CatR) : Value := .agg #[.string x.nm, .int .i64 x.lo, .int .i64 x.hi]
/-- the slice v reads as these -/
structure CatAts (w : World) (v : Value) (xs : List CatR) : Prop where
  mk' ::
  out : ∃ p cap, v = .slice p xs.length cap ∧ (xs.length ≤ cap ∧ cap ≤ maxLen) ∧ (0 < xs.length → ∃ b off, p = some ⟨b, off, none⟩ ∧ ∀ i x, xs[i]? = some x → CatAt w b (off + i * 3) x)
theorem CatAts.gr {w w' : World} {v : Value} {xs : List CatR} (h : CatAts w v xs) (k : Gr w w') : CatAts w' v xs := by
  obtain ⟨⟨p, cap, rfl, hcap, hh⟩⟩ := h
  refine ⟨p, cap, rfl, hcap, fun h0 => ?_⟩
  obtain ⟨b, off, h1, h2⟩ := hh h0
  exact ⟨b, off, h1, fun i x hx => (h2 i x hx).gr k⟩
/-- the error of a category -/
def catE (xs : List CatR) (i : Nat) (x : CatR) : Int :=
  firstE [nmE x.nm, if dupN (fun y : CatR => y.nm) xs i x.nm then 9 else 0, outE x.lo 0 120, outE x.hi 0 120, if decide (x.hi < x.lo) then 11 else 0]
end Go.Proofs.Ytaapaijdcgpdkaa
