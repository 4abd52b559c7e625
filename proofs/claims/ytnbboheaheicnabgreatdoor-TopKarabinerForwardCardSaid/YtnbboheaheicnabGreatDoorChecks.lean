/- What checks have in common: check.If, Range, First, Find and Each over integers. -/
import Derived.Test.YtnbboheaheicnabGreatDoorNames
namespace Go.Proofs.YtnbboheaheicnabGreatDoor
open Go.RowKit Go.Lib
set_option linter.unusedSimpArgs false
set_option linter.unusedVariables false
/-- out of a range -/
def outB (n l h : Int) : Bool := decide (n < l) || decide (h < n)
def outE (n l h : Int) : Int := if outB n l h then 3 else 0
theorem if_c (b : Bool) (n : Int) (w : World) :
    Calls Tryz.prog 46 #[.bool b, .int .i64 n] w fun e w' => e = .returned (.int .i64 (if b then n else 0)) ∧ w = w' := by
  cases b
  · go_enter Tryz.func46, Tryz.ntmps46
    go_wp2_with fail
    go_ret
    exact ⟨rfl, rfl⟩
  · go_enter Tryz.func46, Tryz.ntmps46
    go_wp2_with fail
    go_ret
    exact ⟨rfl, rfl⟩
theorem range_c (n l h : Int) (w : World) :
    Calls Tryz.prog 23 #[.int .i64 n, .int .i64 l, .int .i64 h] w fun e w' => e = .returned (.int .i64 (outE n l h)) ∧ w = w' := by
  have HI := Lib.hid (fun b W => if_c b 3 W)
  cases h1 : decide (n < l)
  · cases h2 : decide (h < n)
    · have HE : Hid (outE n l h = 0) := by unfold Hid outE outB; rw [h1, h2]; rfl
      go_enter Tryz.func23, Tryz.ntmps23
      go_wp2_with fail
      refine (HI.out _ _).mono ?_
      rintro e w4 ⟨rfl, rfl⟩
      go_wp2_with fail
      go_ret
      exact ⟨by rw [HE.out]; rfl, rfl⟩
    · have HE : Hid (outE n l h = 3) := by unfold Hid outE outB; rw [h1, h2]; rfl
      go_enter Tryz.func23, Tryz.ntmps23
      go_wp2_with fail
      refine (HI.out _ _).mono ?_
      rintro e w4 ⟨rfl, rfl⟩
      go_wp2_with fail
      go_ret
      exact ⟨by rw [HE.out]; rfl, rfl⟩
  · have HE : Hid (outE n l h = 3) := by unfold Hid outE outB; rw [h1]; rfl
    go_enter Tryz.func23, Tryz.ntmps23
    go_wp2_with fail
    refine (HI.out _ _).mono ?_
    rintro e w4 ⟨rfl, rfl⟩
    go_wp2_with fail
    go_ret
    exact ⟨by rw [HE.out]; rfl, rfl⟩
/-- the first error that is not 0 -/
def firstE : List Int → Int
  | [] => 0
  | e :: r => if e = 0 then firstE r else e
theorem firstE_drop {es : List Int} {k : Nat} {x : Int} (h : es[k]? = some x) : firstE (es.drop k) = if x = 0 then firstE (es.drop (k + 1)) else x := by
  have hk : k < es.length := by
    rcases Nat.lt_or_ge k es.length with h2 | h2
    · exact h2
    · rw [List.getElem?_eq_none h2] at h; cases h
  rw [List.drop_eq_getElem_cons hk]
  rw [List.getElem?_eq_getElem hk] at h
  simp only [Option.some.injEq] at h
  rw [h]; rfl
set_option maxHeartbeats 1000000 in
set_option maxRecDepth 100000 in
theorem first_c0 (b n cap : Nat) (es : List Int) (w : World) (hn : es.length = n) (hc : ∀ i x, es[i]? = some x → w.cell? ⟨b, i, none⟩ = some (.int .i64 x)) (hs : n ≤ 1000) :
    Calls Tryz.prog 21 #[.slice (some ⟨b, 0, none⟩) n cap] w fun e w' => e = .returned (.int .i64 (firstE es)) ∧ w = w' := by
  have HN := Lib.hid hn
  have HC := Lib.hid hc
  clear hc
  go_enter Tryz.func21, Tryz.ntmps21
  go_wp2_with fail
  go_loopg [7] n (fun g s7 wr => ∃ k : Nat, s7 = .int .i64 k ∧ g + k = n ∧ wr = w ∧ Hid (firstE (es.drop k) = firstE es))
  case atStart => exact ⟨0, rfl, by omega, rfl, by simp [Hid]⟩
  case round =>
    obtain ⟨k, rfl, hk, rfl, HF⟩ := hrel
    by_cases hlt : k < n
    · obtain ⟨x, hx⟩ : ∃ x, es[k]? = some x := ⟨es[k]'(by omega), List.getElem?_eq_getElem (by omega)⟩
      have hcell := HC.out k x hx
      have hf := firstE_drop hx
      by_cases h0 : x = 0
      · subst h0
        rw [if_pos rfl] at hf
        have HF2 := Lib.hid hf
        clear hf hx
        go_wp2_with fail
        go_roundg (gk - 1)
        case measure => omega
        case rel => exact ⟨k + 1, by go_num, by omega, rfl, by unfold Hid; rw [← HF2.out, HF.out]⟩
      · rw [if_neg h0] at hf
        have HF2 := Lib.hid hf
        have h1 : (x == 0) = false := by simpa using h0
        have h2 : (x != 0) = true := by simpa [bne] using h1
        clear hf hx h0
        go_wp2_with fail
        go_ret
        exact ⟨by rw [← HF.out, HF2.out]; rfl, rfl⟩
    · have : es.drop k = [] := List.drop_of_length_le (by omega)
      have HE : Hid (firstE es = 0) := by unfold Hid; rw [← HF.out, this]; rfl
      clear this
      go_wp2_with fail
      go_ret
      exact ⟨by rw [HE.out]; rfl, rfl⟩
/-- a call that changes nothing, in a region that draws -/
theorem quietE {P : Program} {f : FuncId} {args : Array Value} {w : World} {n : Nat} {v : Value} (h : Calls P f args (w.drewN n) fun e w' => e = .returned v ∧ w.drewN n = w') : Calls P f args (w.drewN n) fun e w'' => e = .returned v ∧ ∃ m, w'' = w.drewN m :=
  h.mono fun _ _ ⟨he, hm⟩ => ⟨he, n, hm.symm⟩
theorem cell_new (W : World) (C : Array Value) (T j : Nat) (hj : j < C.size) : (W.alloc (.cells C T)).cell? ⟨W.heap.size, j, none⟩ = some C[j] := by
  simp only [World.cell?, heap_alloc_new]
  simp [hj]
theorem box2 (w : World) (a0 a1 : Value) (T : Nat) : ∃ W, w.alloc (.cells #[a0, a1] T) = W ∧ Gr w W ∧ W.cell? ⟨w.heap.size, 0, none⟩ = some a0 ∧ W.cell? ⟨w.heap.size, 1, none⟩ = some a1 :=
  ⟨_, rfl, (Gr.refl w).alloc _, cell_new w #[a0, a1] T 0 (by simp), cell_new w #[a0, a1] T 1 (by simp)⟩
theorem outE_zero {n l h : Int} : outE n l h = 0 ↔ l ≤ n ∧ n ≤ h := by
  unfold outE outB
  by_cases h1 : n < l
  · simp [h1] <;> omega
  · by_cases h2 : h < n
    · simp [h2] <;> omega
    · simp [h1, h2] <;> omega
theorem outE_or (n l h : Int) : outE n l h = 0 ∨ outE n l h = 3 := by
  unfold outE
  split
  · exact .inr rfl
  · exact .inl rfl
theorem first_four (x y z u : Int) (b cap : Nat) (w : World) (hx : w.cell? ⟨b, 0, none⟩ = some (.int .i64 x)) (hy : w.cell? ⟨b, 1, none⟩ = some (.int .i64 y)) (hz : w.cell? ⟨b, 2, none⟩ = some (.int .i64 z)) (hu : w.cell? ⟨b, 3, none⟩ = some (.int .i64 u)) :
    Calls Tryz.prog 21 #[.slice (some ⟨b, 0, none⟩) 4 cap] w fun e w' => e = .returned (.int .i64 (firstE [x, y, z, u])) ∧ w = w' :=
  first_c0 b 4 cap [x, y, z, u] w rfl (fun i v h => by
    rcases i with _ | _ | _ | _ | i <;> simp at h <;> subst h <;> assumption) (by omega)
theorem firstE_zero : ∀ {l : List Int}, firstE l = 0 → ∀ x ∈ l, x = 0
  | [], _, x, hx => by cases hx
  | y :: l, h, x, hx => by
    unfold firstE at h
    split at h
    · rename_i hy
      cases hx with
      | head => exact hy
      | tail _ hx => exact firstE_zero h x hx
    · rename_i hy
      exact absurd h hy
theorem box4 (w : World) (a0 a1 a2 a3 : Value) (T : Nat) : ∃ W, w.alloc (.cells #[a0, a1, a2, a3] T) = W ∧ Gr w W ∧ W.cell? ⟨w.heap.size, 0, none⟩ = some a0 ∧ W.cell? ⟨w.heap.size, 1, none⟩ = some a1 ∧ W.cell? ⟨w.heap.size, 2, none⟩ = some a2 ∧ W.cell? ⟨w.heap.size, 3, none⟩ = some a3 :=
  ⟨_, rfl, (Gr.refl w).alloc _, cell_new w #[a0, a1, a2, a3] T 0 (by simp), cell_new w #[a0, a1, a2, a3] T 1 (by simp), cell_new w #[a0, a1, a2, a3] T 2 (by simp), cell_new w #[a0, a1, a2, a3] T 3 (by simp)⟩
/-- the slice v reads as the integers xs -/
structure IntsV (w : World) (v : Value) (xs : List Int) : Prop where
  mk' ::
  out : ∃ p cap, v = .slice p xs.length cap ∧ (0 < xs.length → ∃ b off, p = some ⟨b, off, none⟩ ∧ ∀ i x, xs[i]? = some x → w.cell? ⟨b, off + i, none⟩ = some (.int .i64 x))
theorem IntsV.gr {w w' : World} {v : Value} {xs : List Int} (h : IntsV w v xs) (k : Gr w w') : IntsV w' v xs := by
  obtain ⟨⟨p, cap, rfl, hh⟩⟩ := h
  refine ⟨p, cap, rfl, fun h0 => ?_⟩
  obtain ⟨b, off, h1, h2⟩ := hh h0
  exact ⟨b, off, h1, fun i x hx => k.cell (h2 i x hx)⟩
end Go.Proofs.YtnbboheaheicnabGreatDoor
