/- Small things that many texts of chapter 7 take: a box of three cells, check.If under a name, an operation of a region. -/
import Derived.Test.YtcnpmebihdonoaaGreatDoorGNames
import Derived.Test.YtcnpmebihdonoaaGreatDoorNamesB
import Derived.Shelf.SlSortCmp.Kit1
import Derived.Sort.Grow
namespace Go.Proofs.YtcnpmebihdonoaaGreatDoor
open Go.RowKit Go.Lib
set_option linter.unusedSimpArgs false
set_option linter.unusedVariables false
theorem box3 (w : World) (a0 a1 a2 : Value) (T : Nat) : ∃ W, w.alloc (.cells #[a0, a1, a2] T) = W ∧ Gr w W ∧ W.cell? ⟨w.heap.size, 0, none⟩ = some a0 ∧ W.cell? ⟨w.heap.size, 1, none⟩ = some a1 ∧ W.cell? ⟨w.heap.size, 2, none⟩ = some a2 :=
  ⟨_, rfl, (Gr.refl w).alloc _, cell_new w #[a0, a1, a2] T 0 (by simp), cell_new w #[a0, a1, a2] T 1 (by simp), cell_new w #[a0, a1, a2] T 2 (by simp)⟩
/-- check.If, its answer under a name -/
theorem if_e (b : Bool) (n : Int) : ∃ z, z = (if b then n else 0) ∧ ∀ W, Calls Tryz.prog 54 #[.bool b, .int .i64 n] W fun e w' => e = .returned (.int .i64 z) ∧ W = w' :=
  ⟨_, rfl, fun W => if_c b n W⟩
theorem firstE_last (a b c d e : Int) : firstE [a, b, c, d, e] = if firstE [a, b, c, d] = 0 then e else firstE [a, b, c, d] := by
  unfold firstE firstE firstE firstE firstE firstE
  by_cases h1 : a = 0 <;> by_cases h2 : b = 0 <;> by_cases h3 : c = 0 <;> by_cases h4 : d = 0 <;> by_cases h5 : e = 0 <;> simp [*]
/-- an operation of a region that is written out -/
theorem op_at {l : List Oper} {i : Nat} {o : Oper} (h : l[i]? = some o) : l.toArray[i]? = some o := by rw [List.getElem?_toArray]; exact h
/-- the states' table lies in the world -/
def StatesIn (w : World) : Prop := ∃ t fr, w.heap[0]? = some (.cells #[.string ⟨#[]⟩, .string ⟨#[100, 110, 115]⟩, .string ⟨#[100, 110, 102]⟩, .string ⟨#[100, 115, 113]⟩] t fr)
theorem StatesIn.gr {w w' : World} (h : StatesIn w) (k : Gr w w') : StatesIn w' := by
  obtain ⟨t, fr, h⟩ := h
  exact ⟨t, fr, k.block h⟩
theorem StatesIn.cells {w : World} (h : StatesIn w) : w.cell? ⟨0, 0, none⟩ = some (.string ⟨#[]⟩) ∧ w.cell? ⟨0, 1, none⟩ = some (.string ⟨#[100, 110, 115]⟩) ∧ w.cell? ⟨0, 2, none⟩ = some (.string ⟨#[100, 110, 102]⟩) ∧ w.cell? ⟨0, 3, none⟩ = some (.string ⟨#[100, 115, 113]⟩) := by
  obtain ⟨t, fr, h⟩ := h
  simp [World.cell?, h]
theorem box1 (w : World) (a0 : Value) (T : Nat) : ∃ W, w.alloc (.cells #[a0] T) = W ∧ Gr w W ∧ W.cell? ⟨w.heap.size, 0, none⟩ = some a0 :=
  ⟨_, rfl, (Gr.refl w).alloc _, cell_new w #[a0] T 0 (by simp)⟩
theorem info3 : (Tryz.prog.info? 3).map (fun i => (i.zero, i.size, i.bytes)) = some (some (.int .i64 0), 1, 8) := by kernel_rfl
def ints (xs : List Int) : List Value := xs.map (Value.int .i64)
theorem first_three (x y z : Int) (b cap : Nat) (w : World) (hx : w.cell? ⟨b, 0, none⟩ = some (.int .i64 x)) (hy : w.cell? ⟨b, 1, none⟩ = some (.int .i64 y)) (hz : w.cell? ⟨b, 2, none⟩ = some (.int .i64 z)) :
    Calls Tryz.prog 49 #[.slice (some ⟨b, 0, none⟩) 3 cap] w fun e w' => e = .returned (.int .i64 (firstE [x, y, z])) ∧ w = w' :=
  first_c0 b 3 cap [x, y, z] w rfl (fun i v h => by
    rcases i with _ | _ | _ | i <;> simp at h <;> subst h <;> assumption) (by omega)
theorem first_pair (x y : Int) (b cap : Nat) (w : World) (hx : w.cell? ⟨b, 0, none⟩ = some (.int .i64 x)) (hy : w.cell? ⟨b, 1, none⟩ = some (.int .i64 y)) :
    Calls Tryz.prog 49 #[.slice (some ⟨b, 0, none⟩) 2 cap] w fun e w' => e = .returned (.int .i64 (firstE [x, y])) ∧ w = w' :=
  first_c0 b 2 cap [x, y] w rfl (fun i v h => by
    rcases i with _ | _ | i <;> simp at h <;> subst h <;> assumption) (by omega)
theorem cell_one_new (w : World) (a : Value) (T : TypeId) : ∀ (j : Nat) (u : Value), [a][j]? = some u → (w.alloc (.cells #[a] T)).cell? ((⟨w.heap.size, 0, none⟩ : Addr).add j) = some u := by
  intro j u h
  have e : (⟨w.heap.size, 0, none⟩ : Addr).add j = ⟨w.heap.size, j, none⟩ := by unfold Addr.add; split <;> simp_all
  rw [e]
  rcases j with _ | j
  · simp at h; subst h; exact cell_new w #[a] T 0 (by simp)
  · simp at h
/-- what is owned stays so -/
theorem own_gr {w w' : World} {base n size : Nat} {T : TypeId} {v : Value} {l : List Value} (h : w.ownsRow base T size v n l) (g : Gr w w') : w'.ownsRow base T size v n l :=
  h.kept (row := none) ⟨g.os, g.tape, g.output, g.size, fun k hk _ => Below.block g k hk⟩ (Classical.em _)
end Go.Proofs.YtcnpmebihdonoaaGreatDoor
namespace Go.Proofs.YtcnpmebihdonoaaGreatDoor
open Go.RowKit Go.Lib
set_option linter.unusedSimpArgs false
set_option linter.unusedVariables false
/-- the first element with a property, from a place on -/
def idxQ {α : Type} (Q : α → Bool) (xs : List α) : Nat → Nat → Int
  | 0, _ => -1
  | k + 1, i => match xs[i]? with
    | some x => if Q x then i else idxQ Q xs k (i + 1)
    | none => -1
theorem idxQ_step {α : Type} {Q : α → Bool} {xs : List α} {i n : Nat} {x : α} (h : xs[i]? = some x) (hi : i < n) : idxQ Q xs (n - i) i = if Q x then (i : Int) else idxQ Q xs (n - (i + 1)) (i + 1) := by
  obtain ⟨k, hk⟩ : ∃ k, n - i = k + 1 := ⟨n - i - 1, by omega⟩
  rw [hk, show n - (i + 1) = k by omega]
  simp only [idxQ, h]
theorem idxQ_end {α : Type} {Q : α → Bool} {xs : List α} {i n : Nat} (h : n ≤ i) : idxQ Q xs (n - i) i = -1 := by
  rw [show n - i = 0 by omega]; rfl
theorem idxQ_any {α : Type} (Q : α → Bool) (xs : List α) : ∀ (k i : Nat), i + k ≤ xs.length → decide (0 ≤ idxQ Q xs k i) = ((xs.drop i).take k).any Q
  | 0, i, h => by simp [idxQ]
  | k + 1, i, h => by
    have hi : i < xs.length := by omega
    rw [List.drop_eq_getElem_cons hi, List.take_succ_cons, List.any_cons, ← idxQ_any Q xs k (i + 1) (by omega)]
    simp only [idxQ, List.getElem?_eq_getElem hi]
    cases Q xs[i] <;> simp
/-- the first error, from a place on -/
def errG {α : Type} (E : Nat → α → Int) (xs : List α) : Nat → Nat → Int
  | 0, _ => 0
  | k + 1, i => match xs[i]? with
    | some x => if E i x = 0 then errG E xs k (i + 1) else E i x
    | none => 0
theorem errG_step {α : Type} {E : Nat → α → Int} {xs : List α} {n i : Nat} {x : α} (hi : i < n) (h : xs[i]? = some x) : errG E xs (n - i) i = if E i x = 0 then errG E xs (n - (i + 1)) (i + 1) else E i x := by
  obtain ⟨k, hk⟩ : ∃ k, n - i = k + 1 := ⟨n - i - 1, by omega⟩
  have hk2 : n - (i + 1) = k := by omega
  rw [hk, hk2]
  simp only [errG, h]
theorem errG_zero {α : Type} {E : Nat → α → Int} {xs : List α} : ∀ (k i : Nat), errG E xs k i = 0 → i + k ≤ xs.length → ∀ j x, i ≤ j → j < i + k → xs[j]? = some x → E j x = 0
  | 0, i, _, _, j, x, h1, h2, _ => by omega
  | k + 1, i, h, hl, j, x, h1, h2, hx => by
    have hi : i < xs.length := by omega
    simp only [errG, List.getElem?_eq_getElem hi] at h
    split at h
    · rename_i h0
      rcases Nat.lt_or_ge i j with h3 | h3
      · exact errG_zero k (i + 1) h (by omega) j x (by omega) (by omega) hx
      · obtain rfl : i = j := by omega
        rw [List.getElem?_eq_getElem hi] at hx
        simp only [Option.some.injEq] at hx
        rw [← hx]; exact h0
    · rename_i h0
      exact absurd h h0
/-- the error of a list of at most so many elements -/
def listE {α : Type} (m : Nat) (E : Nat → α → Int) (xs : List α) : Int := if m < xs.length then 5 else errG E xs xs.length 0
/-- whether a name stands before -/
def dupN {α : Type} (f : α → ByteArray) (xs : List α) (i : Nat) (nm : ByteArray) : Bool := (xs.take i).any fun y => (f y).toList == nm.toList
def isN {α : Type} (f : α → ByteArray) (nm : ByteArray) (y : α) : Bool := (f y).toList == nm.toList
/-- the error of a name -/
def nmE (s : ByteArray) : Int := if Nm s then 0 else 8
theorem bx5 (w : World) (a0 a1 a2 a3 a4 : Value) (T : Nat) : ∃ W, w.alloc (.cells #[a0, a1, a2, a3, a4] T) = W ∧ Gr w W ∧ W.cell? ⟨w.heap.size, 0, none⟩ = some a0 ∧ W.cell? ⟨w.heap.size, 1, none⟩ = some a1 ∧ W.cell? ⟨w.heap.size, 2, none⟩ = some a2 ∧ W.cell? ⟨w.heap.size, 3, none⟩ = some a3 ∧ W.cell? ⟨w.heap.size, 4, none⟩ = some a4 :=
  ⟨_, rfl, (Gr.refl w).alloc _, cell_new w #[a0, a1, a2, a3, a4] T 0 (by simp), cell_new w #[a0, a1, a2, a3, a4] T 1 (by simp), cell_new w #[a0, a1, a2, a3, a4] T 2 (by simp), cell_new w #[a0, a1, a2, a3, a4] T 3 (by simp), cell_new w #[a0, a1, a2, a3, a4] T 4 (by simp)⟩
theorem fst5 (x y z u q : Int) (b cap : Nat) (w : World) (hx : w.cell? ⟨b, 0, none⟩ = some (.int .i64 x)) (hy : w.cell? ⟨b, 1, none⟩ = some (.int .i64 y)) (hz : w.cell? ⟨b, 2, none⟩ = some (.int .i64 z)) (hu : w.cell? ⟨b, 3, none⟩ = some (.int .i64 u)) (hq : w.cell? ⟨b, 4, none⟩ = some (.int .i64 q)) :
    Calls Tryz.prog 49 #[.slice (some ⟨b, 0, none⟩) 5 cap] w fun e w' => e = .returned (.int .i64 (firstE [x, y, z, u, q])) ∧ w = w' :=
  first_c0 b 5 cap [x, y, z, u, q] w rfl (fun i v h => by
    rcases i with _ | _ | _ | _ | _ | i <;> simp at h <;> subst h <;> assumption) (by omega)
theorem box_two (w : World) (a0 b0 : Value) (T U : Nat) : ∃ W, (w.alloc (.cells #[a0] T)).alloc (.cells #[b0] U) = W ∧ Gr w W ∧ W.cell? ⟨w.heap.size, 0, none⟩ = some a0 ∧ W.cell? ⟨w.heap.size + 1, 0, none⟩ = some b0 := by
  obtain ⟨W1, h1, g1, a1⟩ := box1 w a0 T
  obtain ⟨W2, h2, g2, a2⟩ := box1 W1 b0 U
  refine ⟨W2, by rw [h1, h2], g1.trans g2, g2.cell a1, ?_⟩
  have : W1.heap.size = w.heap.size + 1 := by rw [← h1]; simp
  rw [← this]; exact a2
/-- the range with its answer under a name -/
theorem range_e (n l h : Int) : ∃ z, z = outE n l h ∧ ∀ W, Calls Tryz.prog 50 #[.int .i64 n, .int .i64 l, .int .i64 h] W fun e w' => e = .returned (.int .i64 z) ∧ W = w' :=
  ⟨_, rfl, fun W => range_c n l h W⟩
end Go.Proofs.YtcnpmebihdonoaaGreatDoor
namespace Go.Proofs.YtcnpmebihdonoaaGreatDoor
open Go.RowKit Go.Lib
set_option linter.unusedSimpArgs false
set_option linter.unusedVariables false
structure EntR where
  nm : ByteArray
  na : ByteArray
  sd : Int
/-- the cells of one at a place -/
structure EntAt (w : World) (b off : Nat) (x : EntR) : Prop where
  nm : w.cell? ⟨b, off, none⟩ = some (.string x.nm)
  na : w.cell? ⟨b, off + 1, none⟩ = some (.string x.na)
  sd : w.cell? ⟨b, off + 2, none⟩ = some (.int .i64 x.sd)
theorem EntAt.gr {w w' : World} {b off : Nat} {x : EntR} (h : EntAt w b off x) (k : Gr w w') : EntAt w' b off x := ⟨k.cell h.nm, k.cell h.na, k.cell h.sd⟩
def entV (x : EntR) : Value := .agg #[.string x.nm, .string x.na, .int .i64 x.sd]
/-- the slice v reads as these -/
structure EntAts (w : World) (v : Value) (xs : List EntR) : Prop where
  mk' ::
  out : ∃ p cap, v = .slice p xs.length cap ∧ (xs.length ≤ cap ∧ cap ≤ maxLen) ∧ (0 < xs.length → ∃ b off, p = some ⟨b, off, none⟩ ∧ ∀ i x, xs[i]? = some x → EntAt w b (off + i * 3) x)
theorem EntAts.gr {w w' : World} {v : Value} {xs : List EntR} (h : EntAts w v xs) (k : Gr w w') : EntAts w' v xs := by
  obtain ⟨⟨p, cap, rfl, hcap, hh⟩⟩ := h
  refine ⟨p, cap, rfl, hcap, fun h0 => ?_⟩
  obtain ⟨b, off, h1, h2⟩ := hh h0
  exact ⟨b, off, h1, fun i x hx => (h2 i x hx).gr k⟩
theorem sameEnt_c (y : EntR) (B : Nat) (nm : ByteArray) (w : World) (h : w.cell? ⟨B, 0, none⟩ = some (.string nm)) :
    Calls Tryz.prog 80 #[entV y, .pointer (some ⟨B, 0, none⟩)] w fun e w' => e = .returned (.bool (isN (fun y : EntR => y.nm) nm y)) ∧ Gr w w' := by
  unfold entV isN
  obtain ⟨W, hW, g, a0, a1, a2⟩ := box3 w (.string y.nm) (.string y.na) (.int .i64 y.sd) 53
  have hB := g.cell h
  rw [← hW] at hB
  have HG := Lib.hid (show Gr w (w.alloc (.cells #[.string y.nm, .string y.na, .int .i64 y.sd] 53)) from (Gr.refl w).alloc _)
  clear hW h g a0 a1 a2
  go_enter Tryz.func80, Tryz.ntmps80
  go_wp2_with fail
  go_ret
  exact ⟨rfl, HG.out⟩
set_option maxHeartbeats 1000000 in
set_option maxRecDepth 100000 in
theorem indexEnt_pos (xs : List EntR) (n b off cap : Nat) (B : Nat) (nm : ByteArray) (w : World) (hn : n ≤ xs.length) (h1 : n ≤ 1000) (hc : ∀ i x, xs[i]? = some x → EntAt w b (off + i * 3) x) (hB : w.cell? ⟨B, 0, none⟩ = some (.string nm)) :
    Calls Tryz.prog 124 #[.slice (some ⟨b, off, none⟩) n cap, .func (.func 80) #[] #[.pointer (some ⟨B, 0, none⟩)]] w fun e w' => e = .returned (.int .i64 (idxQ (isN (fun y : EntR => y.nm) nm) xs n 0)) ∧ Gr w w' := by
  have HC := Lib.hid hc
  have HN := Lib.hid hn
  have HE : Hid (idxQ (isN (fun y : EntR => y.nm) nm) xs n 0 = idxQ (isN (fun y : EntR => y.nm) nm) xs (n - 0) 0) := rfl
  clear hc hn
  go_enter Tryz.func124, Tryz.ntmps124
  go_wp2_with fail
  go_loopg [8] n (fun gk s8 wr => ∃ i : Nat, s8 = .int .i64 i ∧ gk + i = n ∧ Gr w wr ∧ Hid (idxQ (isN (fun y : EntR => y.nm) nm) xs (n - i) i = idxQ (isN (fun y : EntR => y.nm) nm) xs (n - 0) 0))
  case atStart => exact ⟨0, rfl, by omega, Gr.refl _, rfl⟩
  case round =>
    obtain ⟨i, rfl, hi, hg, HF⟩ := hrel
    by_cases hlt : i < n
    · obtain ⟨x, hx⟩ : ∃ x, xs[i]? = some x := ⟨xs[i]'(by have := HN.out; omega), List.getElem?_eq_getElem _⟩
      obtain ⟨c0, c1, c2⟩ := (HC.out i x hx).gr hg
      have hf := idxQ_step (Q := (isN (fun y : EntR => y.nm) nm)) hx hlt
      have hi2 : (i : Int) < n := by omega
      have HT := Lib.hid (sameEnt_c x B nm wr (hg.cell hB))
      clear hx
      try unfold entV at HT
      cases e1 : (isN (fun y : EntR => y.nm) nm) x
      · rw [e1] at hf HT
        simp only [Bool.false_eq_true, if_false] at hf
        have HF2 := Lib.hid hf
        clear hf e1
        go_wp2_with (refine HT.out.mono ?_; rintro e w4 ⟨rfl, hg2⟩)
        go_roundg (gk - 1)
        case measure => omega
        case rel => exact ⟨i + 1, by go_num, by omega, hg.trans hg2, by unfold Hid; rw [← HF2.out, HF.out]⟩
      · rw [e1] at hf HT
        simp only [if_true] at hf
        have HF2 := Lib.hid hf
        clear hf e1
        go_wp2_with (refine HT.out.mono ?_; rintro e w4 ⟨rfl, hg2⟩)
        go_ret
        exact ⟨by rw [HE.out, ← HF.out, HF2.out]; rfl, hg.trans hg2⟩
    · have HE2 := Lib.hid (idxQ_end (Q := (isN (fun y : EntR => y.nm) nm)) (xs := xs) (i := i) (n := n) (by omega))
      have hi2 : (n : Int) ≤ i := by omega
      go_wp2_with fail
      go_ret
      exact ⟨by rw [HE.out, ← HF.out, HE2.out]; rfl, hg⟩
theorem containsEnt_pos (xs : List EntR) (n b off cap : Nat) (B : Nat) (nm : ByteArray) (w : World) (hn : n ≤ xs.length) (h1 : n ≤ 1000) (hc : ∀ i x, xs[i]? = some x → EntAt w b (off + i * 3) x) (hB : w.cell? ⟨B, 0, none⟩ = some (.string nm)) :
    Calls Tryz.prog 82 #[.slice (some ⟨b, off, none⟩) n cap, .func (.func 80) #[] #[.pointer (some ⟨B, 0, none⟩)]] w fun e w' => e = .returned (.bool (dupN (fun y : EntR => y.nm) xs n nm)) ∧ Gr w w' := by
  have HI := Lib.hid (indexEnt_pos xs n b off cap B nm w hn h1 hc hB)
  have HE : Hid ((dupN (fun y : EntR => y.nm) xs n nm) = decide (0 ≤ idxQ (isN (fun y : EntR => y.nm) nm) xs n 0)) := by
    unfold Hid
    rw [idxQ_any (isN (fun y : EntR => y.nm) nm) xs n 0 (by omega), List.drop_zero]
    all_goals rfl
  clear hc
  generalize idxQ (isN (fun y : EntR => y.nm) nm) xs n 0 = z at *
  go_enter Tryz.func82, Tryz.ntmps82
  go_wp2_with fail
  refine HI.out.mono ?_
  rintro e w4 ⟨rfl, hg⟩
  go_wp2_with fail
  go_ret
  exact ⟨by rw [HE.out]; rfl, hg⟩
theorem nmE_if (nm : ByteArray) : nmE nm = if (!decide (Nm nm)) then 8 else 0 := by
  unfold nmE
  by_cases h : Nm nm <;> simp [h]
/-- the error of a starter -/
def entE (xs : List EntR) (i : Nat) (x : EntR) : Int := firstE [nmE x.nm, if dupN (fun y : EntR => y.nm) xs i x.nm then 9 else 0, nmE x.na, outE x.sd 0 999999999]
set_option maxHeartbeats 1000000 in
set_option maxRecDepth 100000 in
theorem oneEnt_c (xs : List EntR) (i n b off cap L : Nat) (x : EntR) (w : World) (hn : xs.length = n) (hi : i < n) (h1 : n ≤ 1000) (hcap : n ≤ cap) (hmx : cap ≤ maxLen) (hc : ∀ i x, xs[i]? = some x → EntAt w b (off + i * 3) x) (hL : w.cell? ⟨L, 0, none⟩ = some (.slice (some ⟨b, off, none⟩) n cap)) :
    Calls Tryz.prog 79 #[.int .i64 i, entV x, .pointer (some ⟨L, 0, none⟩)] w fun e w' => e = .returned (.int .i64 (entE xs i x)) ∧ Gr w w' := by
  have hR : entE xs i x = firstE [nmE x.nm, if dupN (fun y : EntR => y.nm) xs i x.nm then 9 else 0, nmE x.na, outE x.sd 0 999999999] := rfl
  have HD := Lib.hid (fun (Bx : Nat) (W : World) (g : Gr w W) hB => containsEnt_pos xs i b off cap Bx x.nm W (by omega) (by omega) (fun i x hx => (hc i x hx).gr g) hB)
  generalize dupN (fun y : EntR => y.nm) xs i x.nm = d at *
  rw [nmE_if, nmE_if] at hR
  have HN1 := Lib.hid (fun W (_ : Gr w W) => isName_c x.nm W)
  have HN2 := Lib.hid (fun W (_ : Gr w W) => isName_c x.na W)
  generalize decide (Nm x.nm) = p1 at *
  generalize decide (Nm x.na) = p2 at *
  obtain ⟨e1, h1', H1⟩ := if_e (!p1) 8
  obtain ⟨e2, h2', H2⟩ := if_e d 9
  obtain ⟨e3, h3', H3⟩ := if_e (!p2) 8
  obtain ⟨e4, h4', H4⟩ := range_e x.sd 0 999999999
  rw [← h1', ← h2', ← h3', ← h4'] at hR
  have hF := first_four e1 e2 e3 e4
  rw [← hR] at hF
  generalize entE xs i x = err at *
  replace H1 := Lib.hid H1
  replace H2 := Lib.hid H2
  replace H3 := Lib.hid H3
  replace H4 := Lib.hid H4
  have HF := Lib.hid hF
  unfold entV
  obtain ⟨W, hW, g, a0, a1, a2⟩ := box3 w (.string x.nm) (.string x.na) (.int .i64 x.sd) 53
  have l0 := g.cell hL
  have HW := Lib.hid hW
  have hi1 : (i : Int) ≤ cap := by omega
  have hi0 : (0 : Int) ≤ i := by omega
  clear hW hc hF hR h1' h2' h3' h4' hL hn
  go_enter Tryz.func79, Tryz.ntmps79
  go_wp2_with fail
  rw [HW.out]
  generalize w.heap.size = Bx at *
  clear HW
  have gd := (Gr.refl W).drew
  replace a0 := gd.cell a0
  replace a1 := gd.cell a1
  replace a2 := gd.cell a2
  replace l0 := gd.cell l0
  replace g := g.trans gd
  clear gd
  refine wp_region_held_drew (S := (fun w' => (w'.cell? ⟨Bx, 0, none⟩ = some (.string x.nm) ∧ w'.cell? ⟨Bx, 1, none⟩ = some (.string x.na) ∧ w'.cell? ⟨Bx, 2, none⟩ = some (.int .i64 x.sd)) ∧ w'.cell? ⟨L, 0, none⟩ = some (.slice (some ⟨b, off, none⟩) n cap))) (by kernel_rfl) ⟨⟨a0, a1, a2⟩, l0⟩ (fun hHeld => ?_)
  generalize W.drew = V at *
  refine wpAnyH_take (i := 0) (v := (.pointer (some ⟨Bx, 0, none⟩))) (op_at rfl) (by kernel_rfl) (by kernel_rfl) (by kernel_rfl) (fun _ _ _ h => h) (Or.inl ⟨rfl, fun w hSw => ?_⟩) (by assumption) ?_
  · (try dsimp only at hSw); go_simp; try with_reducible rfl
  (try simp only [Act.put, List.setIfInBounds_toArray, List.set_cons_zero, List.set_cons_succ])
  refine wpAnyH_take (i := 1) (v := (.string x.nm)) (op_at rfl) (by kernel_rfl) (by kernel_rfl) (by kernel_rfl) (fun _ _ _ h => h) (Or.inl ⟨rfl, fun w hSw => ?_⟩) (by assumption) ?_
  · (try dsimp only at hSw); go_simp; try with_reducible rfl
  (try simp only [Act.put, List.setIfInBounds_toArray, List.set_cons_zero, List.set_cons_succ])
  refine wpAnyH_take (i := 5) (v := (.slice (some ⟨b, off, none⟩) n cap)) (op_at rfl) (by kernel_rfl) (by kernel_rfl) (by kernel_rfl) (fun _ _ _ h => h) (Or.inl ⟨rfl, fun w hSw => ?_⟩) (by assumption) ?_
  · (try dsimp only at hSw); go_simp; try with_reducible rfl
  (try simp only [Act.put, List.setIfInBounds_toArray, List.set_cons_zero, List.set_cons_succ])
  refine wpAnyH_take (i := 6) (v := (.int .i64 i)) (op_at rfl) (by kernel_rfl) (by kernel_rfl) (by kernel_rfl) (fun _ _ _ h => h) (Or.inl ⟨rfl, fun w hSw => ?_⟩) (by assumption) ?_
  · (try dsimp only at hSw); go_simp; try with_reducible rfl
  (try simp only [Act.put, List.setIfInBounds_toArray, List.set_cons_zero, List.set_cons_succ])
  refine wpAnyH_take (i := 7) (v := (.slice (some ⟨b, off, none⟩) i cap)) (op_at rfl) (by kernel_rfl) (by kernel_rfl) (by kernel_rfl) (fun _ _ _ h => h) (Or.inl ⟨rfl, fun w hSw => ?_⟩) (by assumption) ?_
  · (try dsimp only at hSw); go_simp; try with_reducible rfl
  (try simp only [Act.put, List.setIfInBounds_toArray, List.set_cons_zero, List.set_cons_succ])
  refine wpAnyH_take (i := 8) (v := (.func (.func 80) #[] #[.pointer (some ⟨Bx, 0, none⟩)])) (op_at rfl) (by kernel_rfl) (by kernel_rfl) (by kernel_rfl) (fun _ _ _ h => h) (Or.inl ⟨rfl, fun w hSw => ?_⟩) (by assumption) ?_
  · (try dsimp only at hSw); go_simp; try with_reducible rfl
  (try simp only [Act.put, List.setIfInBounds_toArray, List.set_cons_zero, List.set_cons_succ])
  refine wpAnyH_take (i := 11) (v := (.pointer (some ⟨Bx, 1, none⟩))) (op_at rfl) (by kernel_rfl) (by kernel_rfl) (by kernel_rfl) (fun _ _ _ h => h) (Or.inl ⟨rfl, fun w hSw => ?_⟩) (by assumption) ?_
  · (try dsimp only at hSw); go_simp; try with_reducible rfl
  (try simp only [Act.put, List.setIfInBounds_toArray, List.set_cons_zero, List.set_cons_succ])
  refine wpAnyH_take (i := 12) (v := (.string x.na)) (op_at rfl) (by kernel_rfl) (by kernel_rfl) (by kernel_rfl) (fun _ _ _ h => h) (Or.inl ⟨rfl, fun w hSw => ?_⟩) (by assumption) ?_
  · (try dsimp only at hSw); go_simp; try with_reducible rfl
  (try simp only [Act.put, List.setIfInBounds_toArray, List.set_cons_zero, List.set_cons_succ])
  refine wpAnyH_take (i := 16) (v := (.pointer (some ⟨Bx, 2, none⟩))) (op_at rfl) (by kernel_rfl) (by kernel_rfl) (by kernel_rfl) (fun _ _ _ h => h) (Or.inl ⟨rfl, fun w hSw => ?_⟩) (by assumption) ?_
  · (try dsimp only at hSw); go_simp; try with_reducible rfl
  (try simp only [Act.put, List.setIfInBounds_toArray, List.set_cons_zero, List.set_cons_succ])
  refine wpAnyH_take (i := 17) (v := (.int .i64 x.sd)) (op_at rfl) (by kernel_rfl) (by kernel_rfl) (by kernel_rfl) (fun _ _ _ h => h) (Or.inl ⟨rfl, fun w hSw => ?_⟩) (by assumption) ?_
  · (try dsimp only at hSw); go_simp; try with_reducible rfl
  (try simp only [Act.put, List.setIfInBounds_toArray, List.set_cons_zero, List.set_cons_succ])
  refine wpAnyH_ready (rs := [2]) (by kernel_rfl) (by simp) (AllReadyH.cons (op_at rfl) (fun K hK => ?_) AllReadyH.nil)
  go_simp
  (refine (HN1.out _ g).mono ?_; rintro e W1 ⟨rfl, hg⟩; replace a0 := hg.cell a0; replace a1 := hg.cell a1; replace a2 := hg.cell a2; replace l0 := hg.cell l0; replace g := g.trans hg; clear hg)
  go_wp2_with fail
  refine hK.out _ _ ⟨⟨a0, a1, a2⟩, l0⟩ (fun hHeld => ?_)
  clear hK K
  (try simp only [Act.put, List.setIfInBounds_toArray, List.set_cons_zero, List.set_cons_succ])
  refine wpAnyH_take (i := 3) (v := (.bool (!p1))) (op_at rfl) (by kernel_rfl) (by kernel_rfl) (by kernel_rfl) (fun _ _ _ h => h) (Or.inl ⟨rfl, fun w hSw => ?_⟩) (by assumption) ?_
  · (try dsimp only at hSw); go_simp; try with_reducible rfl
  (try simp only [Act.put, List.setIfInBounds_toArray, List.set_cons_zero, List.set_cons_succ])
  refine wpAnyH_ready (rs := [4]) (by kernel_rfl) (by simp) (AllReadyH.cons (op_at rfl) (fun K hK => ?_) AllReadyH.nil)
  go_simp
  (refine (H1.out _).mono ?_; rintro e w' ⟨rfl, rfl⟩)
  go_wp2_with fail
  refine hK.out _ _ ⟨⟨a0, a1, a2⟩, l0⟩ (fun hHeld => ?_)
  clear hK K
  (try simp only [Act.put, List.setIfInBounds_toArray, List.set_cons_zero, List.set_cons_succ])
  refine wpAnyH_ready (rs := [9]) (by kernel_rfl) (by simp) (AllReadyH.cons (op_at rfl) (fun K hK => ?_) AllReadyH.nil)
  go_simp
  (refine (HD.out Bx _ g a0).mono ?_; rintro e W2 ⟨rfl, hg⟩; replace a0 := hg.cell a0; replace a1 := hg.cell a1; replace a2 := hg.cell a2; replace l0 := hg.cell l0; replace g := g.trans hg; clear hg)
  go_wp2_with fail
  refine hK.out _ _ ⟨⟨a0, a1, a2⟩, l0⟩ (fun hHeld => ?_)
  clear hK K
  (try simp only [Act.put, List.setIfInBounds_toArray, List.set_cons_zero, List.set_cons_succ])
  refine wpAnyH_ready (rs := [10]) (by kernel_rfl) (by simp) (AllReadyH.cons (op_at rfl) (fun K hK => ?_) AllReadyH.nil)
  go_simp
  (refine (H2.out _).mono ?_; rintro e w' ⟨rfl, rfl⟩)
  go_wp2_with fail
  refine hK.out _ _ ⟨⟨a0, a1, a2⟩, l0⟩ (fun hHeld => ?_)
  clear hK K
  (try simp only [Act.put, List.setIfInBounds_toArray, List.set_cons_zero, List.set_cons_succ])
  refine wpAnyH_ready (rs := [13]) (by kernel_rfl) (by simp) (AllReadyH.cons (op_at rfl) (fun K hK => ?_) AllReadyH.nil)
  go_simp
  (refine (HN2.out _ g).mono ?_; rintro e W3 ⟨rfl, hg⟩; replace a0 := hg.cell a0; replace a1 := hg.cell a1; replace a2 := hg.cell a2; replace l0 := hg.cell l0; replace g := g.trans hg; clear hg)
  go_wp2_with fail
  refine hK.out _ _ ⟨⟨a0, a1, a2⟩, l0⟩ (fun hHeld => ?_)
  clear hK K
  (try simp only [Act.put, List.setIfInBounds_toArray, List.set_cons_zero, List.set_cons_succ])
  refine wpAnyH_take (i := 14) (v := (.bool (!p2))) (op_at rfl) (by kernel_rfl) (by kernel_rfl) (by kernel_rfl) (fun _ _ _ h => h) (Or.inl ⟨rfl, fun w hSw => ?_⟩) (by assumption) ?_
  · (try dsimp only at hSw); go_simp; try with_reducible rfl
  (try simp only [Act.put, List.setIfInBounds_toArray, List.set_cons_zero, List.set_cons_succ])
  refine wpAnyH_ready (rs := [15]) (by kernel_rfl) (by simp) (AllReadyH.cons (op_at rfl) (fun K hK => ?_) AllReadyH.nil)
  go_simp
  (refine (H3.out _).mono ?_; rintro e w' ⟨rfl, rfl⟩)
  go_wp2_with fail
  refine hK.out _ _ ⟨⟨a0, a1, a2⟩, l0⟩ (fun hHeld => ?_)
  clear hK K
  (try simp only [Act.put, List.setIfInBounds_toArray, List.set_cons_zero, List.set_cons_succ])
  refine wpAnyH_ready (rs := [18]) (by kernel_rfl) (by simp) (AllReadyH.cons (op_at rfl) (fun K hK => ?_) AllReadyH.nil)
  go_simp
  (refine (H4.out _).mono ?_; rintro e w' ⟨rfl, rfl⟩)
  go_wp2_with fail
  refine hK.out _ _ ⟨⟨a0, a1, a2⟩, l0⟩ (fun hHeld => ?_)
  clear hK K
  (try simp only [Act.put, List.setIfInBounds_toArray, List.set_cons_zero, List.set_cons_succ])
  refine wpAnyH_ready (rs := [19]) (by kernel_rfl) (by simp) (AllReadyH.cons (op_at rfl) (fun K hK => ?_) AllReadyH.nil)
  go_simp
  obtain ⟨WW, hWW, gW, s0, s1, s2, s3⟩ := box4 W3 (.int .i64 e1) (.int .i64 e2) (.int .i64 e3) (.int .i64 e4) 28
  rw [hWW]
  clear hWW
  replace a0 := gW.cell a0
  replace a1 := gW.cell a1
  replace a2 := gW.cell a2
  replace l0 := gW.cell l0
  replace g := g.trans gW
  refine hK.out _ _ ⟨⟨a0, a1, a2⟩, l0⟩ (fun hHeld => ?_)
  clear hK K
  (try simp only [Act.put, List.setIfInBounds_toArray, List.set_cons_zero, List.set_cons_succ])
  refine wpAnyH_ready (rs := [20]) (by kernel_rfl) (by simp) (AllReadyH.cons (op_at rfl) (fun K hK => ?_) AllReadyH.nil)
  go_simp
  (refine (HF.out _ _ WW s0 s1 s2 s3).mono ?_; rintro e w8 ⟨rfl, rfl⟩)
  go_wp2_with fail
  refine hK.out _ _ ⟨⟨a0, a1, a2⟩, l0⟩ (fun hHeld => ?_)
  clear hK K
  (try simp only [Act.put, List.setIfInBounds_toArray, List.set_cons_zero, List.set_cons_succ])
  refine wpAnyH_take (i := 21) (v := (.int .i64 err)) (op_at rfl) (by kernel_rfl) (by kernel_rfl) (by kernel_rfl) (fun _ _ _ h => h) (Or.inl ⟨rfl, fun w hSw => ?_⟩) (by assumption) ?_
  · (try dsimp only at hSw); go_simp; try with_reducible rfl
  (try simp only [Act.put, List.setIfInBounds_toArray, List.set_cons_zero, List.set_cons_succ])
  refine wpAnyH_done (by kernel_rfl) ?_ _
  go_wp2_with fail
  go_ret
  exact ⟨rfl, g⟩
end Go.Proofs.YtcnpmebihdonoaaGreatDoor
namespace Go.Proofs.YtcnpmebihdonoaaGreatDoor
open Go.RowKit Go.Lib
set_option linter.unusedSimpArgs false
set_option linter.unusedVariables false
theorem dupN_succ {α : Type} (f : α → ByteArray) {xs : List α} {k : Nat} {y : α} (h : xs[k]? = some y) (nm : ByteArray) : dupN f xs (k + 1) nm = (dupN f xs k nm || ((f y).toList == nm.toList)) := by
  unfold dupN
  rw [List.take_add_one, h]
  simp
theorem dupN_le {α : Type} (f : α → ByteArray) {xs : List α} {k i : Nat} (hk : k ≤ i) {nm : ByteArray} (h : dupN f xs k nm = true) : dupN f xs i nm = true := by
  unfold dupN at *
  simp only [List.any_eq_true] at *
  obtain ⟨y, hy, e⟩ := h
  exact ⟨y, List.take_subset_take_left _ hk hy, e⟩
end Go.Proofs.YtcnpmebihdonoaaGreatDoor
namespace Go.Proofs.YtcnpmebihdonoaaGreatDoor
open Go.RowKit Go.Lib
set_option linter.unusedSimpArgs false
set_option linter.unusedVariables false
theorem outside6_c (n l h : Int) (w : World) :
    Calls Tryz.prog 40 #[.int .i64 n, .int .i64 l, .int .i64 h] w fun e w' => e = .returned (.int .i64 (if outB n l h = true then 3 else 0)) ∧ w = w' := by
  have HE : Hid (outB n l h = (decide (n < l) || decide (h < n))) := rfl
  obtain ⟨z, hz⟩ : ∃ z, z = (if outB n l h = true then (3 : Int) else 0) := ⟨_, rfl⟩
  rw [← hz]
  have HZ := Lib.hid hz
  clear hz
  cases h1 : decide (n < l) <;> cases h2 : decide (h < n)
  all_goals
    rw [h1, h2] at HE
    go_enter Tryz.func40, Tryz.ntmps40
    go_wp2_with fail
    go_ret
    exact ⟨by rw [HZ.out, HE.out]; rfl, rfl⟩
theorem entE_eq (xs : List EntR) (i : Nat) (x : EntR) : entE xs i x = if (!decide (Nm x.nm)) = true then 8 else if dupN (fun y : EntR => y.nm) xs i x.nm = true then 9 else if (!decide (Nm x.na)) = true then 8 else if outB x.sd 0 999999999 = true then 3 else 0 := by
  unfold entE nmE outE
  by_cases q0 : Nm x.nm <;> by_cases q1 : Nm x.na <;> cases dupN (fun y : EntR => y.nm) xs i x.nm <;> cases outB x.sd 0 999999999 <;> simp [firstE, q0, q1]
set_option maxHeartbeats 1000000 in
set_option maxRecDepth 100000 in
theorem refEnts_pos (xs : List EntR) (n b off cap : Nat) (w : World) (hn : xs.length = n) (h1 : n ≤ 160) (hc : ∀ i x, xs[i]? = some x → EntAt w b (off + i * 3) x) :
    Calls Tryz.prog 15 #[.slice (some ⟨b, off, none⟩) n cap] w fun e w' => e = .returned (.int .i64 (errG (entE xs) xs n 0)) ∧ Gr w w' := by
  have HC := Lib.hid hc
  have HN := Lib.hid hn
  clear hc hn
  have hz2 : decide ((160 : Int) < n) = false := by simp; omega
  go_enter Tryz.func15, Tryz.ntmps15
  go_wp2_with fail
  go_loopg [3] n (fun gk s3 wr => ∃ i : Nat, s3 = .int .i64 i ∧ gk + i = n ∧ Gr w wr ∧ Hid (errG (entE xs) xs (n - i) i = errG (entE xs) xs n 0))
  case atStart => exact ⟨0, rfl, by omega, Gr.refl _, by simp [Hid]⟩
  case round =>
    obtain ⟨i, rfl, hi, hg, HF⟩ := hrel
    obtain ⟨gO, rfl⟩ : ∃ q, q = gk := ⟨gk, rfl⟩
    by_cases hlt : i < n
    · obtain ⟨x, hx⟩ : ∃ x, xs[i]? = some x := ⟨xs[i]'(by have := HN.out; omega), List.getElem?_eq_getElem _⟩
      have hcell := HC.out i x hx
      obtain ⟨c0, c1, c2⟩ := hcell.gr hg
      have hf := errG_step (E := entE xs) hlt hx
      rw [entE_eq] at hf
      have hi2 : (i : Int) < n := by omega
      have hN0 := fun W => refIsName_c x.nm W
      have hN1 := fun W => refIsName_c x.na W
      have hO := fun W => outside6_c x.sd 0 999999999 W
      clear hx hcell
      generalize decide (Nm x.nm) = n0 at hf hN0
      generalize decide (Nm x.na) = n1 at hf hN1
      generalize outB x.sd 0 999999999 = o0 at hf hO
      replace hN0 := Lib.hid hN0
      replace hN1 := Lib.hid hN1
      have HF0 := Lib.hid hf
      clear hf
      cases n0
      · have HF1 := HF0.out
        simp only [Bool.not_false, if_true, show ¬ (8 : Int) = 0 by decide, if_false] at HF1
        have HF2 := Lib.hid HF1
        clear HF1 HF0 hO
        go_wp2_with fail
        refine (hN0.out _).mono ?_
        rintro e w4 ⟨rfl, rfl⟩
        go_wp2_with fail
        go_ret
        exact ⟨by rw [← HF.out, HF2.out]; rfl, hg⟩
      have HF1 := HF0.out
      simp only [Bool.not_true, Bool.false_eq_true, if_false] at HF1
      have HF2 := Lib.hid HF1
      clear HF1 HF0
      replace hO := Lib.hid hO
      go_wp2_with fail
      refine (hN0.out _).mono ?_
      rintro e w4 ⟨rfl, rfl⟩
      go_wp2_with fail
      go_loopg [4] i (fun g2 s5 wr2 => ∃ k : Nat, s5 = .int .i64 k ∧ g2 + k = i ∧ Gr wr wr2 ∧ Hid (dupN (fun y : EntR => y.nm) xs k x.nm = false))
      case atStart => exact ⟨0, rfl, by omega, Gr.refl _, by simp [Hid, dupN]⟩
      case round =>
        obtain ⟨k, rfl, hk, hg2, HD⟩ := hrel
        replace c0 := hg2.cell c0
        replace c1 := hg2.cell c1
        replace c2 := hg2.cell c2
        replace hg := hg.trans hg2
        by_cases hlk : k < i
        · obtain ⟨y, hy⟩ : ∃ y, xs[k]? = some y := ⟨xs[k]'(by have := HN.out; omega), List.getElem?_eq_getElem _⟩
          have d0 := ((HC.out k y hy).gr hg).nm
          have hk2 : (k : Int) < i := by omega
          have hk3 : (k : Int) < n := by omega
          have hdp := dupN_succ (fun y : EntR => y.nm) hy x.nm
          rw [HD.out, Bool.false_or] at hdp
          clear hy
          cases e2 : (y.nm.toList == x.nm.toList)
          · simp only [e2] at hdp
            have HD2 := Lib.hid hdp
            clear hdp
            go_wp2_with fail
            go_big_quiet (fail)
            go_wp2_with fail
            go_roundg (gk - 1)
            case measure => omega
            case rel => exact ⟨k + 1, by go_num, by omega, hg2.drewN _, HD2⟩
          · simp only [e2] at hdp
            have HD2 := Lib.hid (dupN_le (fun y : EntR => y.nm) (i := i) (by omega) hdp)
            clear hdp
            rw [if_pos HD2.out, if_neg (by decide)] at HF2
            go_wp2_with fail
            go_big_quiet (fail)
            go_wp2_with fail
            go_ret
            exact ⟨by rw [← HF.out, HF2.out]; rfl, hg.drewN _⟩
        · have hki : k = i := by omega
          subst hki
          have HF3 := HF2.out
          rw [HD.out] at HF3
          simp only [Bool.false_eq_true, if_false] at HF3
          have hnk : ¬ (k : Int) < k := by omega
          clear HF2
          cases n1 <;> cases o0
          all_goals
            simp only [Bool.not_true, Bool.not_false, Bool.false_eq_true, if_true, if_false, show ¬ (8 : Int) = 0 by decide, show ¬ (3 : Int) = 0 by decide] at HF3
            have HF2 := Lib.hid HF3
            clear HF3
            have HO2 := hO.out
            simp only [Bool.false_eq_true, if_true, if_false] at HO2
            replace HO2 := Lib.hid HO2
            go_wp2_with fail
            refine (hN1.out _).mono ?_
            rintro e w4 ⟨rfl, rfl⟩
            go_wp2_with fail
            try (refine (HO2.out _).mono ?_; rintro e w4 ⟨rfl, rfl⟩; go_wp2_with fail)
            first
              | (go_ret
                 exact ⟨by rw [← HF.out, HF2.out]; rfl, hg⟩)
              | (go_roundg (gO - 1)
                 case measure => omega
                 case rel => exact ⟨k + 1, by go_num, by omega, hg, by unfold Hid; rw [← HF2.out, HF.out]⟩)
    · have hin : i = n := by omega
      have HE2 : Hid (errG (entE xs) xs (n - i) i = 0) := by unfold Hid; rw [hin, Nat.sub_self]; rfl
      have hi2 : (n : Int) ≤ i := by omega
      clear hin
      go_wp2_with fail
      go_ret
      exact ⟨by rw [← HF.out, HE2.out]; rfl, hg⟩
theorem refEnts_c {v : Value} {xs : List EntR} {w : World} (h : EntAts w v xs) :
    Calls Tryz.prog 15 #[v] w fun e w' => e = .returned (.int .i64 (listE 160 (entE xs) xs)) ∧ Gr w w' := by
  obtain ⟨⟨p, cap, rfl, _, hh⟩⟩ := h
  rcases Nat.lt_or_ge 160 xs.length with hl | hl
  · have HE : Hid (listE 160 (entE xs) xs = 5) := by unfold Hid listE; rw [if_pos hl]
    have hz2 : decide ((160 : Int) < xs.length) = true := decide_eq_true (by omega)
    clear hh
    go_enter Tryz.func15, Tryz.ntmps15
    go_wp2_with fail
    go_ret
    exact ⟨by rw [HE.out]; rfl, Gr.refl _⟩
  · have HE : listE 160 (entE xs) xs = errG (entE xs) xs xs.length 0 := by unfold listE; rw [if_neg (by omega)]
    rw [HE]
    rcases Nat.eq_zero_or_pos xs.length with h0 | h0
    · have hx : xs = [] := List.eq_nil_of_length_eq_zero h0
      subst hx
      go_enter Tryz.func15, Tryz.ntmps15
      go_wp2_with fail
      refine wp_loop_rounds 2 ?_
      rw [rounds_succ]
      go_wp2_with fail
      go_ret
      exact ⟨rfl, Gr.refl _⟩
    · obtain ⟨b, off, rfl, hc⟩ := hh h0
      exact refEnts_pos xs _ b off cap w rfl hl hc
end Go.Proofs.YtcnpmebihdonoaaGreatDoor
namespace Go.Proofs.YtcnpmebihdonoaaGreatDoor
open Go.RowKit Go.Lib
set_option linter.unusedSimpArgs false
set_option linter.unusedVariables false
variable {Mx : Nat}
/-- -1, 0 or 1 -/
def cmpY (a b : Int) : Int := if decide (a < b) then -1 else if decide (b < a) then 1 else 0
theorem isNaNY_c (x : Int) (w : World) :
    Calls Tryz.prog 85 #[.int .i64 x] w fun e w' => e = .returned (.bool false) ∧ w = w' := by
  go_enter Tryz.func85, Tryz.ntmps85
  go_wp2_with fail
  go_ret
  exact ⟨by simp, rfl⟩
theorem cmpYInt_c (x y : Int) (w : World) :
    Calls Tryz.prog 46 #[.int .i64 x, .int .i64 y] w fun e w' => e = .returned (.int .i64 (cmpY x y)) ∧ w = w' := by
  have HX := Lib.hid (fun W => isNaNY_c x W)
  have HY := Lib.hid (fun W => isNaNY_c y W)
  have HE : Hid (cmpY x y = if decide (x < y) then -1 else if decide (y < x) then 1 else 0) := rfl
  cases h1 : decide (x < y) <;> cases h2 : decide (y < x)
  all_goals
    rw [h1, h2] at HE
    go_enter Tryz.func46, Tryz.ntmps46
    go_wp2_with fail
    repeat (first
      | (with_reducible refine (HX.out _).mono ?_; rintro e w4 ⟨rfl, rfl⟩; go_wp2_with fail)
      | (with_reducible refine (HY.out _).mono ?_; rintro e w4 ⟨rfl, rfl⟩; go_wp2_with fail))
    go_ret
    exact ⟨by rw [HE.out]; rfl, rfl⟩
theorem cmpY_lt (a b : Int) : cmpY a b < 0 ↔ a < b := by
  unfold cmpY
  by_cases h1 : a < b
  · simp [h1]
  · by_cases h2 : b < a <;> simp [h1, h2]
def cmpK (key : Fin (Mx + 1) → Int) (a b : Fin (Mx + 1)) : Int := cmpY (key a) (key b)
theorem lt_cmpK (key : Fin (Mx + 1) → Int) (a b : Fin (Mx + 1)) : ltOf (cmpK key) a b = decide (key a < key b) := by
  unfold ltOf
  exact decide_eq_decide.2 (cmpY_lt _ _)
theorem swo_cmpK (key : Fin (Mx + 1) → Int) : Go.Sort.SWO (ltOf (cmpK key)) where
  irrefl x := by rw [lt_cmpK]; simp
  trans x y z h1 h2 := by rw [lt_cmpK, decide_eq_true_eq] at *; omega
  ntrans x y z h1 h2 := by rw [lt_cmpK, decide_eq_false_iff_not] at *; omega
def encN (s : Fin (Mx + 1)) : Value := .int .i64 (s.val : Int)
open Go.Sort Go.Shelf in
/-- what the library's insertion sort does -/
structure InsNOK : Prop where
  some : ∀ (Mx : Nat) (m : Fin (Mx + 1) → Int) (cb : Array Value) (blk off cap a b : Nat) (d0 d : Array (Fin (Mx + 1))) (w0 w : World), CmpLays1 Tryz.prog 88 cb encN (cmpK m) blk off d0.size w0 → Row1 encN w0 blk off d0 → d0.size = d.size → SW encN w0 blk off d w → a ≤ b → b ≤ d.size → d.size < 4611686018427387904 →
    Calls Tryz.prog 145 #[.slice (some ⟨blk, off, none⟩) d.size cap, .int .i64 a, .int .i64 b, .func (.func 88) #[] cb] w fun e w' =>
      e = .returned (.tuple #[]) ∧ SW encN w0 blk off (Sort.insertionSort (ltOf (cmpK m)) d a b) w'
open Go.Sort Go.Shelf in
set_option maxHeartbeats 1000000 in
set_option maxRecDepth 100000 in
theorem stableI_c (I : InsNOK) (m : Fin (Mx + 1) → Int) (cb : Array Value) (blk off cap : Nat) (d : Array (Fin (Mx + 1))) (w0 w : World) (hl : CmpLays1 Tryz.prog 88 cb encN (cmpK m) blk off d.size w0) (hR : Row1 encN w0 blk off d) (hS : SW encN w0 blk off d w) (hn : d.size < 20) :
    Calls Tryz.prog 127 #[.slice (some ⟨blk, off, none⟩) d.size cap, .int .i64 d.size, .func (.func 88) #[] cb] w fun e w' =>
      e = .returned (.tuple #[]) ∧ SW encN w0 blk off (Sort.insertionSort (ltOf (cmpK m)) d 0 d.size) w' := by
  have HI := Lib.hid (I.some _ m cb blk off cap 0 d.size d d w0 w hl hR rfl hS (by omega) (by omega) (by omega))
  clear hl hR hS I
  generalize Sort.insertionSort (ltOf (cmpK m)) d 0 d.size = dd at *
  generalize hnn : d.size = n at *
  have h1 : ¬ ((20 : Int) ≤ (n : Int)) := by omega
  have h2 : ¬ ((20 : Int) < (n : Int)) := by omega
  have h1' : (decide ((20 : Int) ≤ (n : Int))) = false := decide_eq_false h1
  have h2' : (decide ((20 : Int) < (n : Int))) = false := decide_eq_false h2
  clear hnn
  go_enter Tryz.func127, Tryz.ntmps127
  go_wp2_with fail
  go_loopg [7, 8] 0 (fun gk s7 s8 wr => gk = 0 ∧ s7 = .int .i64 0 ∧ s8 = .int .i64 20 ∧ wr = w)
  case atStart => exact ⟨rfl, rfl, rfl, rfl⟩
  case round =>
    obtain ⟨rfl, rfl, rfl, rfl⟩ := hrel
    rw [Int.natCast_zero] at HI
    go_wp2_with (refine HI.out.mono ?_; rintro e w4 ⟨rfl, HW⟩)
    go_loopg [6, 7, 8, 9] 0 (fun gk s6 s7 s8 s9 wr => gk = 0 ∧ s6 = .int .i64 20 ∧ s7 = .int .i64 0 ∧ wr = w4)
    case atStart => exact ⟨rfl, rfl, rfl, rfl⟩
    case round =>
      obtain ⟨rfl, rfl, rfl, rfl⟩ := hrel
      go_wp2_with fail
      go_end0
      exact ⟨rfl, HW⟩
open Go.Sort Go.Shelf in
set_option maxHeartbeats 1000000 in
set_option maxRecDepth 100000 in
theorem sortII_c (I : InsNOK) (m : Fin (Mx + 1) → Int) (cb : Array Value) (blk off cap : Nat) (d : Array (Fin (Mx + 1))) (w0 w : World) (hl : CmpLays1 Tryz.prog 88 cb encN (cmpK m) blk off d.size w0) (hR : Row1 encN w0 blk off d) (hS : SW encN w0 blk off d w) (hn : d.size < 20) :
    Calls Tryz.prog 87 #[.slice (some ⟨blk, off, none⟩) d.size cap, .func (.func 88) #[] cb] w fun e w' =>
      e = .returned (.tuple #[]) ∧ SW encN w0 blk off (Sort.insertionSort (ltOf (cmpK m)) d 0 d.size) w' := by
  have HI := Lib.hid (stableI_c I m cb blk off cap d w0 w hl hR hS hn)
  clear hl hR hS I hn
  generalize Sort.insertionSort (ltOf (cmpK m)) d 0 d.size = dd at *
  generalize d.size = n at *
  go_enter Tryz.func87, Tryz.ntmps87
  go_wp2_with (refine HI.out.mono ?_; rintro e w4 ⟨rfl, HW⟩)
  go_end0
  exact ⟨rfl, HW⟩
theorem insI_0 (p : Option Addr) (cap : Nat) (f : Value) (w : World) :
    Calls Tryz.prog 145 #[.slice p 0 cap, .int .i64 0, .int .i64 0, f] w fun e w' => e = .returned (.tuple #[]) ∧ w' = w := by
  go_enter Tryz.func145, Tryz.ntmps145
  go_wp2_with fail
  refine wp_loop_rounds 2 ?_
  rw [rounds_succ]
  go_wp2_with fail
  go_end0
  exact ⟨rfl, rfl⟩
theorem stableI_0 (p : Option Addr) (cap : Nat) (f : Value) (w : World) :
    Calls Tryz.prog 127 #[.slice p 0 cap, .int .i64 0, f] w fun e w' => e = .returned (.tuple #[]) ∧ w' = w := by
  have HI := Lib.hid (insI_0 p cap f)
  go_enter Tryz.func127, Tryz.ntmps127
  go_wp2_with fail
  refine wp_loop_rounds 2 ?_
  rw [rounds_succ]
  go_wp2_with (refine (HI.out _).mono ?_; rintro e w4 ⟨rfl, rfl⟩)
  refine wp_loop_rounds 2 ?_
  rw [rounds_succ]
  go_wp2_with fail
  go_end0
  exact ⟨rfl, rfl⟩
theorem sortII_0 (p : Option Addr) (cap : Nat) (f : Value) (w : World) :
    Calls Tryz.prog 87 #[.slice p 0 cap, f] w fun e w' => e = .returned (.tuple #[]) ∧ w' = w := by
  have HI := Lib.hid (stableI_0 p cap f)
  go_enter Tryz.func87, Tryz.ntmps87
  go_wp2_with (refine (HI.out _).mono ?_; rintro e w4 ⟨rfl, rfl⟩)
  go_end0
  exact ⟨rfl, rfl⟩
end Go.Proofs.YtcnpmebihdonoaaGreatDoor
namespace Go.Proofs.YtcnpmebihdonoaaGreatDoor
open Go.RowKit Go.Lib
set_option linter.unusedSimpArgs false
set_option linter.unusedVariables false
/-- the place of a state -/
def gradeZ (l : List UInt8) : Int := if l = [] then 0 else if l = [100, 110, 115] then 1 else if l = [100, 110, 102] then 2 else if l = [100, 115, 113] then 3 else -1
inductive Grade (l : List UInt8) : Prop where
  | none (h : l = [])
  | dns (h : l = [100, 110, 115])
  | dnf (h : l = [100, 110, 102])
  | dsq (h : l = [100, 115, 113])
  | other (h0 : l.isEmpty = false) (h1 : (l == [100, 110, 115]) = false) (h2 : (l == [100, 110, 102]) = false) (h3 : (l == [100, 115, 113]) = false)
theorem grade_of (l : List UInt8) : Grade l := by
  by_cases h0 : l = []
  · exact .none h0
  by_cases h1 : l = [100, 110, 115]
  · exact .dns h1
  by_cases h2 : l = [100, 110, 102]
  · exact .dnf h2
  by_cases h3 : l = [100, 115, 113]
  · exact .dsq h3
  exact .other (by cases l with | nil => exact absurd rfl h0 | cons _ _ => rfl) (by simpa using h1) (by simpa using h2) (by simpa using h3)
theorem gradeZ_other {l : List UInt8} (h0 : l.isEmpty = false) (h1 : (l == [100, 110, 115]) = false) (h2 : (l == [100, 110, 102]) = false) (h3 : (l == [100, 115, 113]) = false) : gradeZ l = -1 := by
  unfold gradeZ
  rw [if_neg (by intro e; rw [e] at h0; cases h0), if_neg (by simpa using h1), if_neg (by simpa using h2), if_neg (by simpa using h3)]
theorem beq_flip {a b : List UInt8} (h : (a == b) = false) : (b == a) = false := by
  cases hh : b == a with
  | false => rfl
  | true => rw [eq_of_beq hh] at h; simp at h
end Go.Proofs.YtcnpmebihdonoaaGreatDoor
namespace Go.Proofs.YtcnpmebihdonoaaGreatDoor
open Go.RowKit Go.Lib
set_option linter.unusedSimpArgs false
set_option linter.unusedVariables false
/-- the error of values -/
def valsE (xs : List Int) : Int := firstE (xs.map fun n => outE n (-999999999) 999999999)
theorem valsE_drop {xs : List Int} {k : Nat} {x : Int} (h : xs[k]? = some x) : valsE (xs.drop k) = if outE x (-999999999) 999999999 = 0 then valsE (xs.drop (k + 1)) else outE x (-999999999) 999999999 := by
  unfold valsE
  rw [List.map_drop, List.map_drop]
  exact firstE_drop (by rw [List.getElem?_map, h]; rfl)
end Go.Proofs.YtcnpmebihdonoaaGreatDoor
namespace Go.Proofs.YtcnpmebihdonoaaGreatDoor
open Go.RowKit Go.Lib
set_option linter.unusedSimpArgs false
set_option linter.unusedVariables false
/-- the error of a result -/
def resE (c s : ByteArray) (xs : List Int) : Int :=
  firstE [if !decide (Nm c) then 8 else 0, if gradeZ s.toList == -1 then 13 else 0, if !s.toList.isEmpty && decide (0 < xs.length) then 1 else 0, if decide ((8 : Int) < xs.length) then 5 else 0, valsE xs]
/-- a result's value -/
def resV (c s : ByteArray) (v : Value) : Value := .agg #[.string c, .string s, v]
end Go.Proofs.YtcnpmebihdonoaaGreatDoor
