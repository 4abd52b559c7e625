/- Small things that many texts of chapter 7 take: a box of three cells, check.If under a name, an operation of a region. -/
import Derived.Test.YtjojbcgppkfidaaGreatGNat
namespace Go.Proofs.YtjojbcgppkfidaaGreat
open Go.RowKit Go.Lib
set_option linter.unusedSimpArgs false
set_option linter.unusedVariables false
theorem box3 (w : World) (a0 a1 a2 : Value) (T : Nat) : ∃ W, w.alloc (.cells #[a0, a1, a2] T) = W ∧ Gr w W ∧ W.cell? ⟨w.heap.size, 0, none⟩ = some a0 ∧ W.cell? ⟨w.heap.size, 1, none⟩ = some a1 ∧ W.cell? ⟨w.heap.size, 2, none⟩ = some a2 :=
  ⟨_, rfl, (Gr.refl w).alloc _, cell_new w #[a0, a1, a2] T 0 (by simp), cell_new w #[a0, a1, a2] T 1 (by simp), cell_new w #[a0, a1, a2] T 2 (by simp)⟩
/-- check.If, its answer under a name -/
theorem if_e (b : Bool) (n : Int) : ∃ z, z = (if b then n else 0) ∧ ∀ W, Calls Tryz.prog 47 #[.bool b, .int .i64 n] W fun e w' => e = .returned (.int .i64 z) ∧ W = w' :=
  ⟨_, rfl, fun W => if_c b n W⟩
theorem firstE_last (a b c d e : Int) : firstE [a, b, c, d, e] = if firstE [a, b, c, d] = 0 then e else firstE [a, b, c, d] := by
  unfold firstE firstE firstE firstE firstE firstE
  by_cases h1 : a = 0 <;> by_cases h2 : b = 0 <;> by_cases h3 : c = 0 <;> by_cases h4 : d = 0 <;> by_cases h5 : e = 0 <;> simp [*]
/-- an operation of a region that is written out -/
theorem op_at {l : List Oper} {i : Nat} {o : Oper} (h : l[i]? = some o) : l.toArray[i]? = some o := by rw [List.getElem?_toArray]; exact h
/-- the states' table lies in the world -/
def StatesIn (w : World) : Prop := ∃ t fr, w.heap[0]? = some (.cells #[.string ⟨#[]⟩, .string ⟨#[100, 110, 115]⟩, .string ⟨#[100, 110, 102]⟩, .string ⟨#[100, 115, 113]⟩] t fr)
theorem StatesIn.gr {w w' : World} (h : StatesIn w) (k : Gr w w') : StatesIn w' := by
  obtain ⟨t, fr, h⟩ := h
  exact ⟨t, fr, k.block h⟩
theorem StatesIn.cells {w : World} (h : StatesIn w) : w.cell? ⟨0, 0, none⟩ = some (.string ⟨#[]⟩) ∧ w.cell? ⟨0, 1, none⟩ = some (.string ⟨#[100, 110, 115]⟩) ∧ w.cell? ⟨0, 2, none⟩ = some (.string ⟨#[100, 110, 102]⟩) ∧ w.cell? ⟨0, 3, none⟩ = some (.string ⟨#[100, 115, 113]⟩) := by
  obtain ⟨t, fr, h⟩ := h
  simp [World.cell?, h]
theorem box1 (w : World) (a0 : Value) (T : Nat) : ∃ W, w.alloc (.cells #[a0] T) = W ∧ Gr w W ∧ W.cell? ⟨w.heap.size, 0, none⟩ = some a0 :=
  ⟨_, rfl, (Gr.refl w).alloc _, cell_new w #[a0] T 0 (by simp)⟩
theorem info3 : (Tryz.prog.info? 3).map (fun i => (i.zero, i.size, i.bytes)) = some (some (.int .i64 0), 1, 8) := by kernel_rfl
def ints (xs : List Int) : List Value := xs.map (Value.int .i64)
theorem first_three (x y z : Int) (b cap : Nat) (w : World) (hx : w.cell? ⟨b, 0, none⟩ = some (.int .i64 x)) (hy : w.cell? ⟨b, 1, none⟩ = some (.int .i64 y)) (hz : w.cell? ⟨b, 2, none⟩ = some (.int .i64 z)) :
    Calls Tryz.prog 37 #[.slice (some ⟨b, 0, none⟩) 3 cap] w fun e w' => e = .returned (.int .i64 (firstE [x, y, z])) ∧ w = w' :=
  first_c0 b 3 cap [x, y, z] w rfl (fun i v h => by
    rcases i with _ | _ | _ | i <;> simp at h <;> subst h <;> assumption) (by omega)
theorem first_pair (x y : Int) (b cap : Nat) (w : World) (hx : w.cell? ⟨b, 0, none⟩ = some (.int .i64 x)) (hy : w.cell? ⟨b, 1, none⟩ = some (.int .i64 y)) :
    Calls Tryz.prog 37 #[.slice (some ⟨b, 0, none⟩) 2 cap] w fun e w' => e = .returned (.int .i64 (firstE [x, y])) ∧ w = w' :=
  first_c0 b 2 cap [x, y] w rfl (fun i v h => by
    rcases i with _ | _ | i <;> simp at h <;> subst h <;> assumption) (by omega)
theorem cell_one_new (w : World) (a : Value) (T : TypeId) : ∀ (j : Nat) (u : Value), [a][j]? = some u → (w.alloc (.cells #[a] T)).cell? ((⟨w.heap.size, 0, none⟩ : Addr).add j) = some u := by
  intro j u h
  have e : (⟨w.heap.size, 0, none⟩ : Addr).add j = ⟨w.heap.size, j, none⟩ := by unfold Addr.add; split <;> simp_all
  rw [e]
  rcases j with _ | j
  · simp at h; subst h; exact cell_new w #[a] T 0 (by simp)
  · simp at h
/-- what is owned stays so -/
theorem own_gr {w w' : World} {base n size : Nat} {T : TypeId} {v : Value} {l : List Value} (h : w.ownsRow base T size v n l) (g : Gr w w') : w'.ownsRow base T size v n l :=
  h.kept (row := none) ⟨g.os, g.tape, g.output, g.size, fun k hk _ => Below.block g k hk⟩ (Classical.em _)
end Go.Proofs.YtjojbcgppkfidaaGreat
namespace Go.Proofs.YtjojbcgppkfidaaGreat
open Go.RowKit Go.Lib
set_option linter.unusedSimpArgs false
set_option linter.unusedVariables false
/-- the first element with a property, from a place on -/
def idxQ {α : Type} (Q : α → Bool) (xs : List α) : Nat → Nat → Int
  | 0, _ => -1
  | k + 1, i => match xs[i]? with
    | some x => if Q x then i else idxQ Q xs k (i + 1)
    | none => -1
theorem idxQ_step {α : Type} {Q : α → Bool} {xs : List α} {i n : Nat} {x : α} (h : xs[i]? = some x) (hi : i < n) : idxQ Q xs (n - i) i = if Q x then (i : Int) else idxQ Q xs (n - (i + 1)) (i + 1) := by
  obtain ⟨k, hk⟩ : ∃ k, n - i = k + 1 := ⟨n - i - 1, by omega⟩
  rw [hk, show n - (i + 1) = k by omega]
  simp only [idxQ, h]
theorem idxQ_end {α : Type} {Q : α → Bool} {xs : List α} {i n : Nat} (h : n ≤ i) : idxQ Q xs (n - i) i = -1 := by
  rw [show n - i = 0 by omega]; rfl
theorem idxQ_any {α : Type} (Q : α → Bool) (xs : List α) : ∀ (k i : Nat), i + k ≤ xs.length → decide (0 ≤ idxQ Q xs k i) = ((xs.drop i).take k).any Q
  | 0, i, h => by simp [idxQ]
  | k + 1, i, h => by
    have hi : i < xs.length := by omega
    rw [List.drop_eq_getElem_cons hi, List.take_succ_cons, List.any_cons, ← idxQ_any Q xs k (i + 1) (by omega)]
    simp only [idxQ, List.getElem?_eq_getElem hi]
    cases Q xs[i] <;> simp
/-- the first error, from a place on -/
def errG {α : Type} (E : Nat → α → Int) (xs : List α) : Nat → Nat → Int
  | 0, _ => 0
  | k + 1, i => match xs[i]? with
    | some x => if E i x = 0 then errG E xs k (i + 1) else E i x
    | none => 0
theorem errG_step {α : Type} {E : Nat → α → Int} {xs : List α} {n i : Nat} {x : α} (hi : i < n) (h : xs[i]? = some x) : errG E xs (n - i) i = if E i x = 0 then errG E xs (n - (i + 1)) (i + 1) else E i x := by
  obtain ⟨k, hk⟩ : ∃ k, n - i = k + 1 := ⟨n - i - 1, by omega⟩
  have hk2 : n - (i + 1) = k := by omega
  rw [hk, hk2]
  simp only [errG, h]
theorem errG_zero {α : Type} {E : Nat → α → Int} {xs : List α} : ∀ (k i : Nat), errG E xs k i = 0 → i + k ≤ xs.length → ∀ j x, i ≤ j → j < i + k → xs[j]? = some x → E j x = 0
  | 0, i, _, _, j, x, h1, h2, _ => by omega
  | k + 1, i, h, hl, j, x, h1, h2, hx => by
    have hi : i < xs.length := by omega
    simp only [errG, List.getElem?_eq_getElem hi] at h
    split at h
    · rename_i h0
      rcases Nat.lt_or_ge i j with h3 | h3
      · exact errG_zero k (i + 1) h (by omega) j x (by omega) (by omega) hx
      · obtain rfl : i = j := by omega
        rw [List.getElem?_eq_getElem hi] at hx
        simp only [Option.some.injEq] at hx
        rw [← hx]; exact h0
    · rename_i h0
      exact absurd h h0
/-- the error of a list of at most so many elements -/
def listE {α : Type} (m : Nat) (E : Nat → α → Int) (xs : List α) : Int := if m < xs.length then 5 else errG E xs xs.length 0
/-- whether a name stands before -/
def dupN {α : Type} (f : α → ByteArray) (xs : List α) (i : Nat) (nm : ByteArray) : Bool := (xs.take i).any fun y => (f y).toList == nm.toList
def isN {α : Type} (f : α → ByteArray) (nm : ByteArray) (y : α) : Bool := (f y).toList == nm.toList
/-- the error of a name -/
def nmE (s : ByteArray) : Int := if Nm s then 0 else 8
theorem bx5 (w : World) (a0 a1 a2 a3 a4 : Value) (T : Nat) : ∃ W, w.alloc (.cells #[a0, a1, a2, a3, a4] T) = W ∧ Gr w W ∧ W.cell? ⟨w.heap.size, 0, none⟩ = some a0 ∧ W.cell? ⟨w.heap.size, 1, none⟩ = some a1 ∧ W.cell? ⟨w.heap.size, 2, none⟩ = some a2 ∧ W.cell? ⟨w.heap.size, 3, none⟩ = some a3 ∧ W.cell? ⟨w.heap.size, 4, none⟩ = some a4 :=
  ⟨_, rfl, (Gr.refl w).alloc _, cell_new w #[a0, a1, a2, a3, a4] T 0 (by simp), cell_new w #[a0, a1, a2, a3, a4] T 1 (by simp), cell_new w #[a0, a1, a2, a3, a4] T 2 (by simp), cell_new w #[a0, a1, a2, a3, a4] T 3 (by simp), cell_new w #[a0, a1, a2, a3, a4] T 4 (by simp)⟩
theorem fst5 (x y z u q : Int) (b cap : Nat) (w : World) (hx : w.cell? ⟨b, 0, none⟩ = some (.int .i64 x)) (hy : w.cell? ⟨b, 1, none⟩ = some (.int .i64 y)) (hz : w.cell? ⟨b, 2, none⟩ = some (.int .i64 z)) (hu : w.cell? ⟨b, 3, none⟩ = some (.int .i64 u)) (hq : w.cell? ⟨b, 4, none⟩ = some (.int .i64 q)) :
    Calls Tryz.prog 37 #[.slice (some ⟨b, 0, none⟩) 5 cap] w fun e w' => e = .returned (.int .i64 (firstE [x, y, z, u, q])) ∧ w = w' :=
  first_c0 b 5 cap [x, y, z, u, q] w rfl (fun i v h => by
    rcases i with _ | _ | _ | _ | _ | i <;> simp at h <;> subst h <;> assumption) (by omega)
theorem box_two (w : World) (a0 b0 : Value) (T U : Nat) : ∃ W, (w.alloc (.cells #[a0] T)).alloc (.cells #[b0] U) = W ∧ Gr w W ∧ W.cell? ⟨w.heap.size, 0, none⟩ = some a0 ∧ W.cell? ⟨w.heap.size + 1, 0, none⟩ = some b0 := by
  obtain ⟨W1, h1, g1, a1⟩ := box1 w a0 T
  obtain ⟨W2, h2, g2, a2⟩ := box1 W1 b0 U
  refine ⟨W2, by rw [h1, h2], g1.trans g2, g2.cell a1, ?_⟩
  have : W1.heap.size = w.heap.size + 1 := by rw [← h1]; simp
  rw [← this]; exact a2
/-- the range with its answer under a name -/
theorem range_e (n l h : Int) : ∃ z, z = outE n l h ∧ ∀ W, Calls Tryz.prog 82 #[.int .i64 n, .int .i64 l, .int .i64 h] W fun e w' => e = .returned (.int .i64 z) ∧ W = w' :=
  ⟨_, rfl, fun W => range_c n l h W⟩
theorem memName_c (s : ByteArray) (w : World) :
    Calls Tryz.prog 56 #[.string s] w fun e w' => e = .returned (.int .i64 (nmE s)) ∧ Gr w w' := by
  have HN := Lib.hid (isName_c s w)
  have HI := Lib.hid (fun b W => if_c b 8 W)
  cases h : decide (Nm s)
  · have HE : Hid (nmE s = 8) := by unfold Hid nmE; rw [if_neg (of_decide_eq_false h)]
    rw [h] at HN
    go_enter Tryz.func56, Tryz.ntmps56
    go_wp2_with fail
    refine HN.out.mono ?_
    rintro e w4 ⟨rfl, hg⟩
    go_wp2_with fail
    refine (HI.out _ _).mono ?_
    rintro e w5 ⟨rfl, rfl⟩
    go_wp2_with fail
    go_ret
    exact ⟨by rw [HE.out]; rfl, hg⟩
  · have HE : Hid (nmE s = 0) := by unfold Hid nmE; rw [if_pos (of_decide_eq_true h)]
    rw [h] at HN
    go_enter Tryz.func56, Tryz.ntmps56
    go_wp2_with fail
    refine HN.out.mono ?_
    rintro e w4 ⟨rfl, hg⟩
    go_wp2_with fail
    refine (HI.out _ _).mono ?_
    rintro e w5 ⟨rfl, rfl⟩
    go_wp2_with fail
    go_ret
    exact ⟨by rw [HE.out]; rfl, hg⟩
theorem name_e (s : ByteArray) : ∃ z, z = nmE s ∧ ∀ W, Calls Tryz.prog 56 #[.string s] W fun e w' => e = .returned (.int .i64 z) ∧ Gr W w' :=
  ⟨_, rfl, fun W => memName_c s W⟩
theorem memDay_c (d : Int) (w : World) :
    Calls Tryz.prog 57 #[.int .i64 d] w fun e w' => e = .returned (.int .i64 (outE d 0 99999)) ∧ w = w' := by
  have HI := Lib.hid (range_c d 0 99999 w)
  generalize outE d 0 99999 = z at *
  go_enter Tryz.func57, Tryz.ntmps57
  go_wp2_with fail
  refine HI.out.mono ?_
  rintro e w4 ⟨rfl, rfl⟩
  go_wp2_with fail
  go_ret
  exact ⟨rfl, rfl⟩
theorem day_e (d : Int) : ∃ z, z = outE d 0 99999 ∧ ∀ W, Calls Tryz.prog 57 #[.int .i64 d] W fun e w' => e = .returned (.int .i64 z) ∧ W = w' :=
  ⟨_, rfl, fun W => memDay_c d W⟩
end Go.Proofs.YtjojbcgppkfidaaGreat
namespace Go.Proofs.YtjojbcgppkfidaaGreat
open Go.RowKit Go.Lib
set_option linter.unusedSimpArgs false
set_option linter.unusedVariables false
/-- the cell of a word -/
structure StrAt (w : World) (b off : Nat) (x : ByteArray) : Prop where
  nm : w.cell? ⟨b, off, none⟩ = some (.string x)
theorem StrAt.gr {w w' : World} {b off : Nat} {x : ByteArray} (h : StrAt w b off x) (k : Gr w w') : StrAt w' b off x := ⟨k.cell h.nm⟩
/-- the slice v reads as these words -/
structure StrAts (w : World) (v : Value) (xs : List ByteArray) : Prop where
  mk' ::
  out : ∃ p cap, v = .slice p xs.length cap ∧ (xs.length ≤ cap ∧ cap ≤ maxLen) ∧ (0 < xs.length → ∃ b off, p = some ⟨b, off, none⟩ ∧ ∀ i x, xs[i]? = some x → StrAt w b (off + i) x)
theorem StrAts.gr {w w' : World} {v : Value} {xs : List ByteArray} (h : StrAts w v xs) (k : Gr w w') : StrAts w' v xs := by
  obtain ⟨⟨p, cap, rfl, hcap, hh⟩⟩ := h
  refine ⟨p, cap, rfl, hcap, fun h0 => ?_⟩
  obtain ⟨b, off, h1, h2⟩ := hh h0
  exact ⟨b, off, h1, fun i x hx => (h2 i x hx).gr k⟩
set_option maxHeartbeats 1000000 in
set_option maxRecDepth 100000 in
theorem wrapStr_c (z : Int) (i n b off cap Ef L : Nat) (x : ByteArray) (w : World) (hi : i < n) (hcap : n ≤ cap) (hmx : cap ≤ maxLen)
    (ho : ∀ W, Gr w W → Calls Tryz.prog 105 #[.slice (some ⟨b, off, none⟩) i cap, .string x] W fun e w' => e = .returned (.int .i64 z) ∧ Gr W w')
    (hE : w.cell? ⟨Ef, 0, none⟩ = some (.func (.func 105) #[] #[])) (hL : w.cell? ⟨L, 0, none⟩ = some (.slice (some ⟨b, off, none⟩) n cap)) :
    Calls Tryz.prog 136 #[.int .i64 i, .string x, .pointer (some ⟨Ef, 0, none⟩), .pointer (some ⟨L, 0, none⟩)] w fun e w' => e = .returned (.int .i64 z) ∧ Gr w w' := by
  have HO := Lib.hid ho
  have hi1 : (i : Int) ≤ cap := by omega
  have hi0 : (0 : Int) ≤ i := by omega
  have gd := (Gr.refl w).drew
  have e0 := gd.cell hE
  have l0 := gd.cell hL
  have g := gd
  clear ho hE hL gd
  go_enter Tryz.func136, Tryz.ntmps136
  go_wp2_with fail
  refine wp_region_held_drew (S := (fun w' => w'.cell? ⟨Ef, 0, none⟩ = some (.func (.func 105) #[] #[]) ∧ w'.cell? ⟨L, 0, none⟩ = some (.slice (some ⟨b, off, none⟩) n cap))) (by kernel_rfl) ⟨e0, l0⟩ (fun hHeld => ?_)
  generalize w.drew = V at *
  refine wpAnyH_take (i := 0) (v := (.func (.func 105) #[] #[])) (op_at rfl) (by kernel_rfl) (by kernel_rfl) (by kernel_rfl) (fun _ _ _ h => h) (Or.inl ⟨rfl, fun w hSw => ?_⟩) (by assumption) ?_
  · (try dsimp only at hSw); go_simp; try with_reducible rfl
  (try simp only [Act.put, List.setIfInBounds_toArray, List.set_cons_zero, List.set_cons_succ])
  refine wpAnyH_take (i := 1) (v := (.slice (some ⟨b, off, none⟩) n cap)) (op_at rfl) (by kernel_rfl) (by kernel_rfl) (by kernel_rfl) (fun _ _ _ h => h) (Or.inl ⟨rfl, fun w hSw => ?_⟩) (by assumption) ?_
  · (try dsimp only at hSw); go_simp; try with_reducible rfl
  (try simp only [Act.put, List.setIfInBounds_toArray, List.set_cons_zero, List.set_cons_succ])
  refine wpAnyH_take (i := 2) (v := (.int .i64 i)) (op_at rfl) (by kernel_rfl) (by kernel_rfl) (by kernel_rfl) (fun _ _ _ h => h) (Or.inl ⟨rfl, fun w hSw => ?_⟩) (by assumption) ?_
  · (try dsimp only at hSw); go_simp; try with_reducible rfl
  (try simp only [Act.put, List.setIfInBounds_toArray, List.set_cons_zero, List.set_cons_succ])
  refine wpAnyH_take (i := 3) (v := (.slice (some ⟨b, off, none⟩) i cap)) (op_at rfl) (by kernel_rfl) (by kernel_rfl) (by kernel_rfl) (fun _ _ _ h => h) (Or.inl ⟨rfl, fun w hSw => ?_⟩) (by assumption) ?_
  · (try dsimp only at hSw); go_simp; try with_reducible rfl
  (try simp only [Act.put, List.setIfInBounds_toArray, List.set_cons_zero, List.set_cons_succ])
  refine wpAnyH_take (i := 4) (v := (.string x)) (op_at rfl) (by kernel_rfl) (by kernel_rfl) (by kernel_rfl) (fun _ _ _ h => h) (Or.inl ⟨rfl, fun w hSw => ?_⟩) (by assumption) ?_
  · (try dsimp only at hSw); go_simp; try with_reducible rfl
  (try simp only [Act.put, List.setIfInBounds_toArray, List.set_cons_zero, List.set_cons_succ])
  refine wpAnyH_ready (rs := [5]) (by kernel_rfl) (by simp) (AllReadyH.cons (op_at rfl) (fun K hK => ?_) AllReadyH.nil)
  go_simp
  (refine (HO.out _ g).mono ?_; rintro e W1 ⟨rfl, hg⟩; replace e0 := hg.cell e0; replace l0 := hg.cell l0; replace g := g.trans hg; clear hg)
  go_wp2_with fail
  refine hK.out _ _ ⟨e0, l0⟩ (fun hHeld => ?_)
  clear hK K
  (try simp only [Act.put, List.setIfInBounds_toArray, List.set_cons_zero, List.set_cons_succ])
  refine wpAnyH_take (i := 6) (v := (.int .i64 z)) (op_at rfl) (by kernel_rfl) (by kernel_rfl) (by kernel_rfl) (fun _ _ _ h => h) (Or.inl ⟨rfl, fun w hSw => ?_⟩) (by assumption) ?_
  · (try dsimp only at hSw); go_simp; try with_reducible rfl
  (try simp only [Act.put, List.setIfInBounds_toArray, List.set_cons_zero, List.set_cons_succ])
  refine wpAnyH_done (by kernel_rfl) ?_ _
  go_wp2_with fail
  go_ret
  exact ⟨rfl, g⟩
set_option maxHeartbeats 1000000 in
set_option maxRecDepth 100000 in
theorem findStr_pos (E : Nat → ByteArray → Int) (xs : List ByteArray) (n b off cap Ef L : Nat) (w : World) (hn : xs.length = n) (h1 : n ≤ 1000) (hcap : n ≤ cap) (hmx : cap ≤ maxLen)
    (hc : ∀ i x, xs[i]? = some x → StrAt w b (off + i) x) (ho : ∀ (i : Nat) (x : ByteArray) (W : World), i < n → xs[i]? = some x → Gr w W → Calls Tryz.prog 105 #[.slice (some ⟨b, off, none⟩) i cap, .string x] W fun e w' => e = .returned (.int .i64 (E i x)) ∧ Gr W w') (hE : w.cell? ⟨Ef, 0, none⟩ = some (.func (.func 105) #[] #[])) (hL : w.cell? ⟨L, 0, none⟩ = some (.slice (some ⟨b, off, none⟩) n cap)) :
    Calls Tryz.prog 149 #[.slice (some ⟨b, off, none⟩) n cap, .func (.func 136) #[] #[.pointer (some ⟨Ef, 0, none⟩), .pointer (some ⟨L, 0, none⟩)]] w fun e w' => (∃ i : Int, e = .returned (.tuple #[.int .i64 i, .int .i64 (errG E xs n 0)])) ∧ Gr w w' := by
  have HC := Lib.hid hc
  have HN := Lib.hid hn
  have HO := Lib.hid (fun (i : Nat) (x : ByteArray) (W : World) (hi : i < n) (hx : xs[i]? = some x) (hg : Gr w W) => wrapStr_c (E i x) i n b off cap Ef L x W hi hcap hmx (fun W2 hg2 => ho i x W2 hi hx (hg.trans hg2)) (hg.cell hE) (hg.cell hL))
  clear hc hL hn hE ho
  go_enter Tryz.func149, Tryz.ntmps149
  go_wp2_with fail
  go_loopg [11] n (fun gk s11 wr => ∃ i : Nat, s11 = .int .i64 i ∧ gk + i = n ∧ Gr w wr ∧ Hid (errG E xs (n - i) i = errG E xs n 0))
  case atStart => exact ⟨0, rfl, by omega, Gr.refl _, rfl⟩
  case round =>
    obtain ⟨i, rfl, hi, hg, HF⟩ := hrel
    by_cases hlt : i < n
    · obtain ⟨x, hx⟩ : ∃ x, xs[i]? = some x := ⟨xs[i]'(by have := HN.out; omega), List.getElem?_eq_getElem _⟩
      obtain ⟨c0⟩ := (HC.out i x hx).gr hg
      have hf := errG_step (E := E) hlt hx
      have hi2 : (i : Int) < n := by omega
      have hT := fun W hg2 => HO.out i x W hlt hx hg2
      clear hx
      have gW := hg
      by_cases h0 : E i x = 0
      · rw [h0] at hT hf
        rw [if_pos rfl] at hf
        have HT := Lib.hid hT
        have HF2 := Lib.hid hf
        clear hT hf h0
        go_wp2_with fail
        refine (HT.out _ gW).mono ?_
        rintro e w4 ⟨rfl, hg2⟩
        go_wp2_with fail
        go_roundg (gk - 1)
        case measure => omega
        case rel => exact ⟨i + 1, by go_num, by omega, gW.trans hg2, by unfold Hid; rw [← HF2.out, HF.out]⟩
      · rw [if_neg h0] at hf
        generalize E i x = z at *
        have q1 : (z == 0) = false := by simpa using h0
        have q2 : (z != 0) = true := by simpa [bne] using q1
        have HT := Lib.hid hT
        have HF2 := Lib.hid hf
        clear hT hf
        go_wp2_with fail
        refine (HT.out _ gW).mono ?_
        rintro e w4 ⟨rfl, hg2⟩
        go_wp2_with fail
        exact bodyPost_ret (v := .tuple #[.int .i64 i, .int .i64 z]) (by simp [results, Tryz.results149, go_sem]) rfl ⟨⟨i, by rw [← HF.out, HF2.out]⟩, gW.trans hg2⟩
    · have hin : i = n := by omega
      have HE2 : Hid (errG E xs (n - i) i = 0) := by unfold Hid; rw [hin, Nat.sub_self]; rfl
      have hi2 : (n : Int) ≤ i := by omega
      clear hin
      go_wp2_with fail
      exact bodyPost_ret (v := .tuple #[.int .i64 0, .int .i64 0]) (by simp [results, Tryz.results149, go_sem]) rfl ⟨⟨0, by rw [← HF.out, HE2.out]⟩, hg⟩
theorem eachStr_pos (E : Nat → ByteArray → Int) (xs : List ByteArray) (n b off cap Ef L : Nat) (w : World) (hn : xs.length = n) (h1 : n ≤ 1000) (hcap : n ≤ cap) (hmx : cap ≤ maxLen)
    (hc : ∀ i x, xs[i]? = some x → StrAt w b (off + i) x) (ho : ∀ (i : Nat) (x : ByteArray) (W : World), i < n → xs[i]? = some x → Gr w W → Calls Tryz.prog 105 #[.slice (some ⟨b, off, none⟩) i cap, .string x] W fun e w' => e = .returned (.int .i64 (E i x)) ∧ Gr W w') (hE : w.cell? ⟨Ef, 0, none⟩ = some (.func (.func 105) #[] #[])) (hL : w.cell? ⟨L, 0, none⟩ = some (.slice (some ⟨b, off, none⟩) n cap)) :
    Calls Tryz.prog 135 #[.slice (some ⟨b, off, none⟩) n cap, .func (.func 136) #[] #[.pointer (some ⟨Ef, 0, none⟩), .pointer (some ⟨L, 0, none⟩)]] w fun e w' => e = .returned (.int .i64 (errG E xs n 0)) ∧ Gr w w' := by
  have HF := Lib.hid (findStr_pos E xs n b off cap Ef L w hn h1 hcap hmx hc ho hE hL)
  generalize errG E xs n 0 = z at *
  clear hc hL hn hE ho
  go_enter Tryz.func135, Tryz.ntmps135
  go_wp2_with fail
  refine HF.out.mono ?_
  rintro e w4 ⟨⟨i, rfl⟩, hg⟩
  go_wp2_with fail
  go_ret
  exact ⟨rfl, hg⟩
theorem findStr_nil (p : Option Addr) (cap Ef L : Nat) (w : World) :
    Calls Tryz.prog 149 #[.slice p 0 cap, .func (.func 136) #[] #[.pointer (some ⟨Ef, 0, none⟩), .pointer (some ⟨L, 0, none⟩)]] w fun e w' => (∃ i : Int, e = .returned (.tuple #[.int .i64 i, .int .i64 0])) ∧ w = w' := by
  go_enter Tryz.func149, Tryz.ntmps149
  go_wp2_with fail
  refine wp_loop_rounds 2 ?_
  rw [rounds_succ]
  go_wp2_with fail
  exact bodyPost_ret (v := .tuple #[.int .i64 0, .int .i64 0]) (by simp [results, Tryz.results149, go_sem]) rfl ⟨⟨0, rfl⟩, rfl⟩
theorem eachStr_nil (p : Option Addr) (cap Ef L : Nat) (w : World) :
    Calls Tryz.prog 135 #[.slice p 0 cap, .func (.func 136) #[] #[.pointer (some ⟨Ef, 0, none⟩), .pointer (some ⟨L, 0, none⟩)]] w fun e w' => e = .returned (.int .i64 0) ∧ w = w' := by
  have HF := Lib.hid (findStr_nil p cap Ef L w)
  go_enter Tryz.func135, Tryz.ntmps135
  go_wp2_with fail
  refine HF.out.mono ?_
  rintro e w4 ⟨⟨i, rfl⟩, rfl⟩
  go_wp2_with fail
  go_ret
  exact ⟨rfl, rfl⟩
set_option maxHeartbeats 1000000 in
set_option maxRecDepth 100000 in
theorem listStr_c (E : Nat → ByteArray → Int) (xs : List ByteArray) (m : Nat) (v : Value) (w : World) (hm : m ≤ 1000) (hv : StrAts w v xs)
    (ho : ∀ (p : Option Addr) (b off cap : Nat), v = .slice (some ⟨b, off, none⟩) xs.length cap → xs.length ≤ m → ∀ (i : Nat) (x : ByteArray) (W : World), i < xs.length → xs[i]? = some x → Gr w W → Calls Tryz.prog 105 #[.slice (some ⟨b, off, none⟩) i cap, .string x] W fun e w' => e = .returned (.int .i64 (E i x)) ∧ Gr W w') :
    Calls Tryz.prog 104 #[v, .int .i64 m, .func (.func 105) #[] #[]] w fun e w' => e = .returned (.int .i64 (listE m E xs)) ∧ Gr w w' := by
  obtain ⟨⟨p, cap, rfl, ⟨hcap, hmx⟩, hh⟩⟩ := hv
  rcases Nat.lt_or_ge m xs.length with hl | hl
  · have HE : Hid (listE m E xs = 5) := by unfold Hid listE; rw [if_pos hl]
    have hl2 : decide ((m : Int) < (xs.length : Int)) = true := decide_eq_true (by omega)
    have hl3 : (m : Int) < (xs.length : Int) := by omega
    generalize xs.length = n at *
    obtain ⟨W, hW, g, a0, e0⟩ := box_two w (.slice p n cap) (.func (.func 105) #[] #[]) 47 158
    have HW := Lib.hid hW
    clear hW hh ho
    go_enter Tryz.func104, Tryz.ntmps104
    go_wp2_with fail
    all_goals
      go_ret
      exact ⟨by rw [HE.out]; rfl, by rw [HW.out]; exact g⟩
  · have HE : Hid (listE m E xs = errG E xs xs.length 0) := by unfold Hid listE; rw [if_neg (by omega)]
    have hl2 : decide ((m : Int) < (xs.length : Int)) = false := decide_eq_false (by omega)
    have hl3 : ¬ (m : Int) < (xs.length : Int) := by omega
    rcases Nat.eq_zero_or_pos xs.length with h0 | h0
    · have HE2 : Hid (errG E xs xs.length 0 = 0) := by unfold Hid; rw [h0]; rfl
      rw [h0] at hl2 hl3 ⊢
      obtain ⟨W, hW, g, a0, e0⟩ := box_two w (.slice p 0 cap) (.func (.func 105) #[] #[]) 47 158
      have HW := Lib.hid hW
      have HK := Lib.hid (fun W => eachStr_nil p cap (w.heap.size + 1) w.heap.size W)
      clear hW hh ho h0
      go_enter Tryz.func104, Tryz.ntmps104
      go_wp2_with fail
      refine (HK.out _).mono ?_
      rintro e w4 ⟨rfl, rfl⟩
      go_wp2_with fail
      go_ret
      exact ⟨by rw [HE.out, HE2.out]; rfl, by rw [HW.out]; exact g⟩
    · obtain ⟨b, off, rfl, hc⟩ := hh h0
      obtain ⟨W, hW, g, a0, e0⟩ := box_two w (.slice (some ⟨b, off, none⟩) xs.length cap) (.func (.func 105) #[] #[]) 47 158
      have HW := Lib.hid hW
      have HK := Lib.hid (eachStr_pos E xs xs.length b off cap (w.heap.size + 1) w.heap.size W rfl (by omega) hcap hmx (fun i x hx => (hc i x hx).gr g) (fun i x W2 hi hx hg => ho none b off cap rfl hl i x W2 hi hx (g.trans hg)) e0 a0)
      rw [← HE.out] at HK
      generalize listE m E xs = z at *
      generalize xs.length = n at *
      clear hW hh ho hc HE
      go_enter Tryz.func104, Tryz.ntmps104
      go_wp2_with fail
      rw [HW.out]
      refine HK.out.mono ?_
      rintro e w4 ⟨rfl, hg⟩
      go_wp2_with fail
      go_ret
      exact ⟨rfl, g.trans hg⟩
end Go.Proofs.YtjojbcgppkfidaaGreat
namespace Go.Proofs.YtjojbcgppkfidaaGreat
open Go.RowKit Go.Lib
set_option linter.unusedSimpArgs false
set_option linter.unusedVariables false
/-- whether a name is among names -/
def hasS (ns : List ByteArray) (s : ByteArray) : Bool := ns.any fun t => s.toList == t.toList
/-- the first place of a name, from a place on -/
def findS (s : ByteArray) (ns : List ByteArray) : Nat → Nat → Int
  | 0, _ => -1
  | k + 1, i => match ns[i]? with
    | some t => if s.toList == t.toList then i else findS s ns k (i + 1)
    | none => -1
theorem findS_step {s : ByteArray} {ns : List ByteArray} {i n : Nat} {t : ByteArray} (h : ns[i]? = some t) (hi : i < n) : findS s ns (n - i) i = if s.toList == t.toList then (i : Int) else findS s ns (n - (i + 1)) (i + 1) := by
  obtain ⟨k, hk⟩ : ∃ k, n - i = k + 1 := ⟨n - i - 1, by omega⟩
  rw [hk, show n - (i + 1) = k by omega]
  simp only [findS, h]
theorem findS_any (s : ByteArray) (ns : List ByteArray) : ∀ (k i : Nat), i + k ≤ ns.length → decide (0 ≤ findS s ns k i) = hasS ((ns.drop i).take k) s
  | 0, i, h => by simp [findS, hasS]
  | k + 1, i, h => by
    have hi : i < ns.length := by omega
    have ih := findS_any s ns k (i + 1) (by omega)
    unfold hasS at *
    rw [List.drop_eq_getElem_cons hi, List.take_succ_cons, List.any_cons, ← ih]
    simp only [findS, List.getElem?_eq_getElem hi]
    cases s.toList == ns[i].toList <;> simp
set_option maxHeartbeats 1000000 in
set_option maxRecDepth 100000 in
theorem indexS_pos (ns : List ByteArray) (n b off cap : Nat) (s : ByteArray) (w : World) (hn : n ≤ ns.length) (h1 : n ≤ 1000) (hc : ∀ i t, ns[i]? = some t → w.cell? ⟨b, off + i, none⟩ = some (.string t)) :
    Calls Tryz.prog 119 #[.slice (some ⟨b, off, none⟩) n cap, .string s] w fun e w' => e = .returned (.int .i64 (findS s ns n 0)) ∧ w = w' := by
  have HC := Lib.hid hc
  have HX := Lib.hid (fun k (h : k < n) => (show ∃ x, ns[k]? = some x from ⟨ns[k]'(by omega), List.getElem?_eq_getElem _⟩))
  have HS := Lib.hid (fun i t (h : ns[i]? = some t) (hi : i < n) => findS_step (s := s) h hi)
  have HE : Hid (findS s ns 0 n = -1) := rfl
  clear hc hn
  generalize findS s ns = F at *
  go_enter Tryz.func119, Tryz.ntmps119
  go_wp2_with fail
  go_loopg [8] n (fun gk s8 wr => ∃ i : Nat, s8 = .int .i64 i ∧ gk + i = n ∧ wr = w ∧ Hid (F (n - i) i = F n 0))
  case atStart => exact ⟨0, rfl, by omega, rfl, by simp [Hid]⟩
  case round =>
    obtain ⟨i, rfl, hi, rfl, HF⟩ := hrel
    by_cases hlt : i < n
    · obtain ⟨t, ht⟩ := HX.out i hlt
      have c0 := HC.out i t ht
      have hst := HS.out i t ht hlt
      have hi2 : (i : Int) < n := by omega
      cases hh : (s.toList == t.toList)
      · rw [hh] at hst
        have HST := Lib.hid hst
        have hne : ¬ s.toList = t.toList := by simpa using hh
        clear hst ht
        go_wp2_with fail
        go_roundg (gk - 1)
        case measure => omega
        case rel => exact ⟨i + 1, by go_num, by omega, rfl, by have := HF.out; rw [HST.out] at this; simpa [Hid] using this⟩
      · rw [hh] at hst
        have HST := Lib.hid hst
        have hne : s.toList = t.toList := by simpa using hh
        clear hst ht
        go_wp2_with fail
        go_ret
        have q : F n 0 = i := by have := HF.out; rw [HST.out] at this; simpa using this.symm
        exact ⟨by rw [q]; rfl, rfl⟩
    · obtain rfl : i = n := by omega
      have := HF.out
      rw [Nat.sub_self, HE.out] at this
      have HT := Lib.hid this
      clear this
      go_wp2_with fail
      go_ret
      exact ⟨by rw [← HT.out]; rfl, rfl⟩
theorem containsS_pos (ns : List ByteArray) (n b off cap : Nat) (s : ByteArray) (w : World) (hn : n ≤ ns.length) (h1 : n ≤ 1000) (hc : ∀ i t, ns[i]? = some t → w.cell? ⟨b, off + i, none⟩ = some (.string t)) :
    Calls Tryz.prog 87 #[.slice (some ⟨b, off, none⟩) n cap, .string s] w fun e w' => e = .returned (.bool (hasS (ns.take n) s)) ∧ w = w' := by
  have HI := Lib.hid (indexS_pos ns n b off cap s w hn h1 hc)
  have HE : Hid (hasS (ns.take n) s = decide (0 ≤ findS s ns n 0)) := by
    unfold Hid; rw [findS_any s ns n 0 (by omega), List.drop_zero]
  clear hc
  generalize findS s ns n 0 = z at *
  go_enter Tryz.func87, Tryz.ntmps87
  go_wp2_with (refine HI.out.mono ?_; rintro e w4 ⟨rfl, rfl⟩)
  go_ret
  exact ⟨by rw [HE.out]; rfl, rfl⟩
theorem indexS_nil (p : Option Addr) (cap : Nat) (s : ByteArray) (w : World) :
    Calls Tryz.prog 119 #[.slice p 0 cap, .string s] w fun e w' => e = .returned (.int .i64 (-1)) ∧ w = w' := by
  go_enter Tryz.func119, Tryz.ntmps119
  go_wp2_with fail
  refine wp_loop_rounds 2 ?_
  rw [rounds_succ]
  go_wp2_with fail
  go_ret
  exact ⟨rfl, rfl⟩
theorem containsS_nil (p : Option Addr) (cap : Nat) (s : ByteArray) (w : World) :
    Calls Tryz.prog 87 #[.slice p 0 cap, .string s] w fun e w' => e = .returned (.bool false) ∧ w = w' := by
  have HI := Lib.hid (indexS_nil p cap s w)
  go_enter Tryz.func87, Tryz.ntmps87
  go_wp2_with (refine HI.out.mono ?_; rintro e w4 ⟨rfl, rfl⟩)
  go_ret
  exact ⟨rfl, rfl⟩
theorem hasS_succ {ns : List ByteArray} {k : Nat} {t : ByteArray} (h : ns[k]? = some t) (s : ByteArray) : hasS (ns.take (k + 1)) s = (hasS (ns.take k) s || (s.toList == t.toList)) := by
  rw [List.take_add_one, h]; unfold hasS; simp
theorem hasS_le {ns : List ByteArray} {s : ByteArray} {j n : Nat} (hj : j ≤ n) (h : hasS (ns.take j) s = true) : hasS (ns.take n) s = true := by
  unfold hasS at *
  rw [List.any_eq_true] at *
  obtain ⟨t, ht, he⟩ := h
  exact ⟨t, (List.take_subset_take_left ns hj) ht, he⟩
set_option maxHeartbeats 1000000 in
set_option maxRecDepth 100000 in
theorem hasWordT_c (ns : List ByteArray) (q : Option Addr) (n c : Nat) (s : ByteArray) (w : World) (hn : n ≤ ns.length) (h1 : n ≤ 1000) (hh : 0 < n → ∃ b off, q = some ⟨b, off, none⟩ ∧ ∀ i t, ns[i]? = some t → w.cell? ⟨b, off + i, none⟩ = some (.string t)) :
    Calls Tryz.prog 45 #[.slice q n c, .string s] w fun e w' => e = .returned (.bool (hasS (ns.take n) s)) ∧ w = w' := by
  have HS := Lib.hid (fun k (h : k < n) => (show ∃ x, ns[k]? = some x from ⟨ns[k]'(by omega), List.getElem?_eq_getElem _⟩))
  have HH := Lib.hid hh
  have HL := Lib.hid (fun j (h : hasS (ns.take j) s = true) (hj : j ≤ n) => hasS_le hj h)
  clear hh hn
  go_enter Tryz.func45, Tryz.ntmps45
  go_wp2_with fail
  go_loopg [5] n (fun gk s5 wr => ∃ i : Nat, s5 = .int .i64 i ∧ gk + i = n ∧ wr = w ∧ Hid (hasS (ns.take i) s = false))
  case atStart => exact ⟨0, rfl, by omega, rfl, by simp [Hid, hasS]⟩
  case round =>
    obtain ⟨i, rfl, hi, rfl, HF⟩ := hrel
    by_cases hlt : i < n
    · obtain ⟨t, ht⟩ := HS.out i hlt
      obtain ⟨b, off, rfl, hc⟩ := HH.out (by omega)
      have c0 := hc i t ht
      have hst := hasS_succ ht s
      rw [HF.out, Bool.false_or] at hst
      have hi2 : (i : Int) < n := by omega
      clear ht hc
      by_cases hne : t.toList = s.toList
      · have hb : (s.toList == t.toList) = true := by rw [hne]; simp
        have hb2 : (t.toList == s.toList) = true := by rw [hne]; simp
        rw [hb] at hst
        have HQ : Hid (hasS (ns.take n) s = true) := HL.out _ hst (by omega)
        clear hst hb
        go_wp2_with fail
        go_ret
        exact ⟨by rw [HQ.out]; rfl, rfl⟩
      · have hb : (s.toList == t.toList) = false := beq_eq_false_iff_ne.2 (fun e => hne e.symm)
        have hb2 : (t.toList == s.toList) = false := beq_eq_false_iff_ne.2 hne
        rw [hb] at hst
        have HST := Lib.hid hst
        clear hst hb
        go_wp2_with fail
        go_roundg (gk - 1)
        case measure => omega
        case rel => exact ⟨i + 1, by go_num, by omega, rfl, HST⟩
    · obtain rfl : i = n := by omega
      have HQ : Hid (hasS (ns.take i) s = false) := HF
      go_wp2_with fail
      go_ret
      exact ⟨by rw [HQ.out]; rfl, rfl⟩
end Go.Proofs.YtjojbcgppkfidaaGreat
namespace Go.Proofs.YtjojbcgppkfidaaGreat
open Go.RowKit Go.Lib
set_option linter.unusedSimpArgs false
set_option linter.unusedVariables false
theorem refOutside_c (n l h : Int) (w : World) :
    Calls Tryz.prog 36 #[.int .i64 n, .int .i64 l, .int .i64 h] w fun e w' => e = .returned (.bool (outB n l h)) ∧ w = w' := by
  have HE : Hid (outB n l h = (decide (n < l) || decide (h < n))) := rfl
  cases h1 : decide (n < l) <;> cases h2 : decide (h < n)
  all_goals
    rw [h1, h2] at HE
    go_enter Tryz.func36, Tryz.ntmps36
    go_wp2_with fail
    go_ret
    exact ⟨by rw [HE.out]; rfl, rfl⟩
theorem dupN_succ {α : Type} (f : α → ByteArray) {xs : List α} {k : Nat} {y : α} (h : xs[k]? = some y) (nm : ByteArray) : dupN f xs (k + 1) nm = (dupN f xs k nm || ((f y).toList == nm.toList)) := by
  unfold dupN
  rw [List.take_add_one, h]
  simp
theorem dupN_le {α : Type} (f : α → ByteArray) {xs : List α} {k i : Nat} (hk : k ≤ i) {nm : ByteArray} (h : dupN f xs k nm = true) : dupN f xs i nm = true := by
  unfold dupN at *
  simp only [List.any_eq_true] at *
  obtain ⟨y, hy, e⟩ := h
  exact ⟨y, List.take_subset_take_left _ hk hy, e⟩
end Go.Proofs.YtjojbcgppkfidaaGreat
