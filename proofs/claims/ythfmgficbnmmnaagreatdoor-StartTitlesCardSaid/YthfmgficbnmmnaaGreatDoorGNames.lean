/- Names: number.IsName and the reference's. -/
import Derived.Test.YthfmgficbnmmnaaGreatDoorGNat
import Derived.Laws.RangeAny
import Derived.Deep.LoopGhost
import Derived.Deep.DrawnRows
import Derived.Deep.RegionHeld3
import Derived.BigCall
import Derived.Maps.AppendAt
import Derived.Laws.AppendOwn
import Derived.Laws.OwnMore
import Derived.Deep.Onto
import Derived.BigQuiet
import Derived.KernelRfl
namespace Go.Proofs.YthfmgficbnmmnaaGreatDoor
set_option linter.unusedSimpArgs false
set_option linter.unusedVariables false
open Go.RowKit Go.Lib
/-- letters, digits and the underline -/
def letB (c : Int) : Bool := (decide (65 ≤ c) && decide (c ≤ 90)) || (decide (97 ≤ c) && decide (c ≤ 122))
def digB (c : Int) : Bool := decide (48 ≤ c) && decide (c ≤ 57)
theorem isLetter_c (n : Int) (w : World) :
    Calls Tryz.prog 132 #[.int .i32 n] w fun e w' => e = .returned (.bool (letB n)) ∧ w = w' := by
  have HE : Hid (letB n = ((decide (65 ≤ n) && decide (n ≤ 90)) || (decide (97 ≤ n) && decide (n ≤ 122)))) := rfl
  cases h1 : decide (65 ≤ n) <;> cases h2 : decide (n ≤ 90) <;> cases h3 : decide (97 ≤ n) <;> cases h4 : decide (n ≤ 122)
  all_goals
    rw [h1, h2, h3, h4] at HE
    go_enter Tryz.func132, Tryz.ntmps132
    go_wp2_with fail
    go_ret
    exact ⟨by rw [HE.out]; rfl, rfl⟩
theorem isDigit_c (n : Int) (w : World) :
    Calls Tryz.prog 133 #[.int .i32 n] w fun e w' => e = .returned (.bool (digB n)) ∧ w = w' := by
  have HE : Hid (digB n = (decide (48 ≤ n) && decide (n ≤ 57))) := rfl
  cases h1 : decide (48 ≤ n) <;> cases h2 : decide (n ≤ 57)
  all_goals
    rw [h1, h2] at HE
    go_enter Tryz.func133, Tryz.ntmps133
    go_wp2_with fail
    go_ret
    exact ⟨by rw [HE.out]; rfl, rfl⟩
/-- what a name may have at a place -/
def nmB (i : Nat) (c : Int) : Bool := letB c || (!(i == 0) && (digB c || c == 95))
/-- names, with any length -/
def AllN (s : ByteArray) : Prop := ∀ i c, s.data.toList[i]? = some c → nmB i (c.toNat : Int) = true
instance (s : ByteArray) : Decidable (AllN s) := decidable_of_iff (∀ i : Fin s.data.toList.length, nmB i (s.data.toList[i].toNat : Int) = true)
  ⟨fun h i c hc => by
    obtain ⟨hi, rfl⟩ := List.getElem?_eq_some_iff.1 hc
    exact h ⟨i, hi⟩, fun h i => h i _ (List.getElem?_eq_getElem i.2)⟩
/-- a name -/
def Nm (s : ByteArray) : Prop := AllN s ∧ 0 < s.size ∧ s.size ≤ 24
instance (s : ByteArray) : Decidable (Nm s) := by unfold Nm; infer_instance
theorem gr_iter (w : World) (s : ByteArray) (pos : Nat) : Gr w (w.iter s pos) := (Gr.refl w).alloc _
theorem byte_at (s : ByteArray) (pos : Nat) (h : pos < s.size) : s.data.toList[pos]? = some (s[pos]'h) := by
  rw [List.getElem?_eq_getElem (by simpa using h)]; rfl
theorem tl (s : ByteArray) : s.toList = s.data.toList := ByteArray.toList_eq s
/-- a rune at a place: a byte, or no letter -/
theorem rune_at (s : ByteArray) (pos : Nat) (h : pos < s.size) : ((s[pos]'h).toNat < 128 ∧ Utf8.decode s pos = ((s[pos]'h).toNat, 1)) ∨ (128 ≤ (s[pos]'h).toNat ∧ 128 ≤ (Utf8.decode s pos).1) := by
  by_cases ha : (s[pos]'h).toNat < 128
  · exact .inl ⟨ha, decode_ascii s pos h ha⟩
  · exact .inr ⟨by omega, (decode_high s pos h (by omega)).1⟩
theorem nmB_high (i : Nat) {c : Int} (h : 128 ≤ c) : nmB i c = false := by
  have h1 : letB c = false := by unfold letB; simp; omega
  have h2 : digB c = false := by unfold digB; simp; omega
  have h3 : (c == 95) = false := by simp; omega
  unfold nmB
  rw [h1, h2, h3]; simp
end Go.Proofs.YthfmgficbnmmnaaGreatDoor
namespace Go.Proofs.YthfmgficbnmmnaaGreatDoor
open Go.RowKit Go.Lib
set_option linter.unusedSimpArgs false
set_option linter.unusedVariables false
/-- out of a range -/
def outB (n l h : Int) : Bool := decide (n < l) || decide (h < n)
def outE (n l h : Int) : Int := if outB n l h then 3 else 0
theorem if_c (b : Bool) (n : Int) (w : World) :
    Calls Tryz.prog 61 #[.bool b, .int .i64 n] w fun e w' => e = .returned (.int .i64 (if b then n else 0)) ∧ w = w' := by
  cases b
  · go_enter Tryz.func61, Tryz.ntmps61
    go_wp2_with fail
    go_ret
    exact ⟨rfl, rfl⟩
  · go_enter Tryz.func61, Tryz.ntmps61
    go_wp2_with fail
    go_ret
    exact ⟨rfl, rfl⟩
theorem range_c (n l h : Int) (w : World) :
    Calls Tryz.prog 66 #[.int .i64 n, .int .i64 l, .int .i64 h] w fun e w' => e = .returned (.int .i64 (outE n l h)) ∧ w = w' := by
  have HI := Lib.hid (fun b W => if_c b 3 W)
  cases h1 : decide (n < l)
  · cases h2 : decide (h < n)
    · have HE : Hid (outE n l h = 0) := by unfold Hid outE outB; rw [h1, h2]; rfl
      go_enter Tryz.func66, Tryz.ntmps66
      go_wp2_with fail
      refine (HI.out _ _).mono ?_
      rintro e w4 ⟨rfl, rfl⟩
      go_wp2_with fail
      go_ret
      exact ⟨by rw [HE.out]; rfl, rfl⟩
    · have HE : Hid (outE n l h = 3) := by unfold Hid outE outB; rw [h1, h2]; rfl
      go_enter Tryz.func66, Tryz.ntmps66
      go_wp2_with fail
      refine (HI.out _ _).mono ?_
      rintro e w4 ⟨rfl, rfl⟩
      go_wp2_with fail
      go_ret
      exact ⟨by rw [HE.out]; rfl, rfl⟩
  · have HE : Hid (outE n l h = 3) := by unfold Hid outE outB; rw [h1]; rfl
    go_enter Tryz.func66, Tryz.ntmps66
    go_wp2_with fail
    refine (HI.out _ _).mono ?_
    rintro e w4 ⟨rfl, rfl⟩
    go_wp2_with fail
    go_ret
    exact ⟨by rw [HE.out]; rfl, rfl⟩
/-- the first error that is not 0 -/
def firstE : List Int → Int
  | [] => 0
  | e :: r => if e = 0 then firstE r else e
theorem firstE_drop {es : List Int} {k : Nat} {x : Int} (h : es[k]? = some x) : firstE (es.drop k) = if x = 0 then firstE (es.drop (k + 1)) else x := by
  have hk : k < es.length := by
    rcases Nat.lt_or_ge k es.length with h2 | h2
    · exact h2
    · rw [List.getElem?_eq_none h2] at h; cases h
  rw [List.drop_eq_getElem_cons hk]
  rw [List.getElem?_eq_getElem hk] at h
  simp only [Option.some.injEq] at h
  rw [h]; rfl
set_option maxHeartbeats 1000000 in
set_option maxRecDepth 100000 in
theorem first_c0 (b n cap : Nat) (es : List Int) (w : World) (hn : es.length = n) (hc : ∀ i x, es[i]? = some x → w.cell? ⟨b, i, none⟩ = some (.int .i64 x)) (hs : n ≤ 1000) :
    Calls Tryz.prog 41 #[.slice (some ⟨b, 0, none⟩) n cap] w fun e w' => e = .returned (.int .i64 (firstE es)) ∧ w = w' := by
  have HN := Lib.hid hn
  have HC := Lib.hid hc
  clear hc
  go_enter Tryz.func41, Tryz.ntmps41
  go_wp2_with fail
  go_loopg [7] n (fun g s7 wr => ∃ k : Nat, s7 = .int .i64 k ∧ g + k = n ∧ wr = w ∧ Hid (firstE (es.drop k) = firstE es))
  case atStart => exact ⟨0, rfl, by omega, rfl, by simp [Hid]⟩
  case round =>
    obtain ⟨k, rfl, hk, rfl, HF⟩ := hrel
    by_cases hlt : k < n
    · obtain ⟨x, hx⟩ : ∃ x, es[k]? = some x := ⟨es[k]'(by omega), List.getElem?_eq_getElem (by omega)⟩
      have hcell := HC.out k x hx
      have hf := firstE_drop hx
      by_cases h0 : x = 0
      · subst h0
        rw [if_pos rfl] at hf
        have HF2 := Lib.hid hf
        clear hf hx
        go_wp2_with fail
        go_roundg (gk - 1)
        case measure => omega
        case rel => exact ⟨k + 1, by go_num, by omega, rfl, by unfold Hid; rw [← HF2.out, HF.out]⟩
      · rw [if_neg h0] at hf
        have HF2 := Lib.hid hf
        have h1 : (x == 0) = false := by simpa using h0
        have h2 : (x != 0) = true := by simpa [bne] using h1
        clear hf hx h0
        go_wp2_with fail
        go_ret
        exact ⟨by rw [← HF.out, HF2.out]; rfl, rfl⟩
    · have : es.drop k = [] := List.drop_of_length_le (by omega)
      have HE : Hid (firstE es = 0) := by unfold Hid; rw [← HF.out, this]; rfl
      clear this
      go_wp2_with fail
      go_ret
      exact ⟨by rw [HE.out]; rfl, rfl⟩
theorem cell_new (W : World) (C : Array Value) (T j : Nat) (hj : j < C.size) : (W.alloc (.cells C T)).cell? ⟨W.heap.size, j, none⟩ = some C[j] := by
  simp only [World.cell?, heap_alloc_new]
  simp [hj]
theorem box2 (w : World) (a0 a1 : Value) (T : Nat) : ∃ W, w.alloc (.cells #[a0, a1] T) = W ∧ Gr w W ∧ W.cell? ⟨w.heap.size, 0, none⟩ = some a0 ∧ W.cell? ⟨w.heap.size, 1, none⟩ = some a1 :=
  ⟨_, rfl, (Gr.refl w).alloc _, cell_new w #[a0, a1] T 0 (by simp), cell_new w #[a0, a1] T 1 (by simp)⟩
theorem outE_zero {n l h : Int} : outE n l h = 0 ↔ l ≤ n ∧ n ≤ h := by
  unfold outE outB
  by_cases h1 : n < l
  · simp [h1] <;> omega
  · by_cases h2 : h < n
    · simp [h2] <;> omega
    · simp [h1, h2] <;> omega
theorem first_four (x y z u : Int) (b cap : Nat) (w : World) (hx : w.cell? ⟨b, 0, none⟩ = some (.int .i64 x)) (hy : w.cell? ⟨b, 1, none⟩ = some (.int .i64 y)) (hz : w.cell? ⟨b, 2, none⟩ = some (.int .i64 z)) (hu : w.cell? ⟨b, 3, none⟩ = some (.int .i64 u)) :
    Calls Tryz.prog 41 #[.slice (some ⟨b, 0, none⟩) 4 cap] w fun e w' => e = .returned (.int .i64 (firstE [x, y, z, u])) ∧ w = w' :=
  first_c0 b 4 cap [x, y, z, u] w rfl (fun i v h => by
    rcases i with _ | _ | _ | _ | i <;> simp at h <;> subst h <;> assumption) (by omega)
theorem firstE_zero : ∀ {l : List Int}, firstE l = 0 → ∀ x ∈ l, x = 0
  | [], _, x, hx => by cases hx
  | y :: l, h, x, hx => by
    unfold firstE at h
    split at h
    · rename_i hy
      cases hx with
      | head => exact hy
      | tail _ hx => exact firstE_zero h x hx
    · rename_i hy
      exact absurd h hy
theorem box4 (w : World) (a0 a1 a2 a3 : Value) (T : Nat) : ∃ W, w.alloc (.cells #[a0, a1, a2, a3] T) = W ∧ Gr w W ∧ W.cell? ⟨w.heap.size, 0, none⟩ = some a0 ∧ W.cell? ⟨w.heap.size, 1, none⟩ = some a1 ∧ W.cell? ⟨w.heap.size, 2, none⟩ = some a2 ∧ W.cell? ⟨w.heap.size, 3, none⟩ = some a3 :=
  ⟨_, rfl, (Gr.refl w).alloc _, cell_new w #[a0, a1, a2, a3] T 0 (by simp), cell_new w #[a0, a1, a2, a3] T 1 (by simp), cell_new w #[a0, a1, a2, a3] T 2 (by simp), cell_new w #[a0, a1, a2, a3] T 3 (by simp)⟩
/-- the slice v reads as the integers xs -/
structure IntsV (w : World) (v : Value) (xs : List Int) : Prop where
  mk' ::
  out : ∃ p cap, v = .slice p xs.length cap ∧ (0 < xs.length → ∃ b off, p = some ⟨b, off, none⟩ ∧ ∀ i x, xs[i]? = some x → w.cell? ⟨b, off + i, none⟩ = some (.int .i64 x))
theorem IntsV.gr {w w' : World} {v : Value} {xs : List Int} (h : IntsV w v xs) (k : Gr w w') : IntsV w' v xs := by
  obtain ⟨⟨p, cap, rfl, hh⟩⟩ := h
  refine ⟨p, cap, rfl, fun h0 => ?_⟩
  obtain ⟨b, off, h1, h2⟩ := hh h0
  exact ⟨b, off, h1, fun i x hx => k.cell (h2 i x hx)⟩
end Go.Proofs.YthfmgficbnmmnaaGreatDoor
namespace Go.Proofs.YthfmgficbnmmnaaGreatDoor
open Go.RowKit Go.Lib
set_option linter.unusedSimpArgs false
set_option linter.unusedVariables false
theorem nm_no {s : ByteArray} {pos : Nat} {c : UInt8} (h : s.data.toList[pos]? = some c) (hc : nmB pos (c.toNat : Int) = false) : ¬ Nm s := fun hn => by
  have := hn.1 pos c h
  rw [hc] at this; cases this
theorem nm_end {s : ByteArray} (h : AllN s) : (s.size = 0 ∧ decide (Nm s) = false) ∨ ((0 < s.size ∧ s.size ≤ 24) ∧ decide (Nm s) = true) ∨ (24 < s.size ∧ decide (Nm s) = false) := by
  rcases Nat.eq_zero_or_pos s.size with h0 | h0
  · exact .inl ⟨h0, decide_eq_false (fun hn => by have := hn.2.1; omega)⟩
  · rcases Nat.lt_or_ge 24 s.size with h1 | h1
    · exact .inr (.inr ⟨h1, decide_eq_false (fun hn => by have := hn.2.2; omega)⟩)
    · exact .inr (.inl ⟨⟨h0, h1⟩, decide_eq_true ⟨h, h0, h1⟩⟩)
set_option maxHeartbeats 1000000 in
set_option maxRecDepth 100000 in
theorem isName_c (s : ByteArray) (w : World) :
    Calls Tryz.prog 95 #[.string s] w fun e w' => e = .returned (.bool (decide (Nm s))) ∧ Gr w w' := by
  go_enter Tryz.func95, Tryz.ntmps95
  go_wp2_with fail
  go_loopg [4] s.size (fun g s4 wr => ∃ pos : Nat, wr = w.iter s pos ∧ g + pos = s.size ∧ Hid (∀ i c, i < pos → s.data.toList[i]? = some c → nmB i (c.toNat : Int) = true))
  case atStart => exact ⟨0, rfl, by omega, fun i c h => absurd h (by omega)⟩
  case round =>
    obtain ⟨pos, rfl, hp, HI⟩ := hrel
    by_cases h : pos < s.size
    · have hnx : ∀ ty, (Instr.next (.pointer (some ⟨w.heap.size, 0, none⟩)) true ty).run Tryz.prog (w.iter s pos) = _ := fun ty => run_next_any w s pos ty h
      have hb := byte_at s pos h
      have hr := rune_at s pos h
      generalize s[pos]'h = c at *
      obtain ⟨x, y, hxy⟩ : ∃ x y, Utf8.decode s pos = (x, y) := ⟨_, _, rfl⟩
      have hc : (y = 1 ∧ (x : Int) = (c.toNat : Int) ∧ nmB pos (c.toNat : Int) = nmB pos x) ∨ (nmB pos x = false ∧ nmB pos (c.toNat : Int) = false) := by
        rcases hr with ⟨_, e⟩ | ⟨e1, e2⟩
        · rw [hxy] at e
          simp only [Prod.mk.injEq] at e
          obtain ⟨rfl, rfl⟩ := e
          exact .inl ⟨rfl, rfl, rfl⟩
        · rw [hxy] at e2
          exact .inr ⟨nmB_high pos (by simp at e2; omega), nmB_high pos (by omega)⟩
      rw [hxy] at hnx
      clear hr hxy
      have hE : nmB pos x = (letB x || (!(pos == 0) && (digB x || (x : Int) == 95))) := rfl
      have HL := fun W => isLetter_c x W
      have HD := fun W => isDigit_c x W
      have fin : nmB pos x = true → ∀ i d, i < pos + y → s.data.toList[i]? = some d → nmB i (d.toNat : Int) = true := by
        intro ht i d hi hd
        rcases hc with ⟨rfl, hx, e⟩ | ⟨e, _⟩
        · rcases Nat.lt_or_ge i pos with h2 | h2
          · exact HI.out i d h2 hd
          · obtain rfl : i = pos := by omega
            rw [hb] at hd
            simp only [Option.some.injEq] at hd
            rw [← hd, e, ht]
        · rw [e] at ht; cases ht
      have hy : nmB pos x = true → y = 1 := by
        intro ht
        rcases hc with ⟨rfl, _⟩ | ⟨e, _⟩
        · rfl
        · rw [e] at ht; cases ht
      have bad : nmB pos x = false → ¬ Nm s := by
        intro hf
        refine nm_no hb ?_
        rcases hc with ⟨_, _, e⟩ | ⟨_, e⟩
        · rw [e, hf]
        · exact e
      clear hc hb
      have hp0 : ((pos : Int) == 0) = (pos == 0) := by
        cases hh : pos == 0
        · have h1 : ¬ pos = 0 := by simpa using hh
          simpa using h1
        · have h1 : pos = 0 := by simpa using hh
          simpa using h1
      cases h1 : letB x <;> cases h0 : (pos == 0) <;> cases h2 : digB x <;> cases h3 : ((x : Int) == 95)
      all_goals
        rw [h1, h0, h2, h3] at hE
        rw [h0] at hp0
        rw [h1] at HL
        rw [h2] at HD
        simp only [Bool.false_or, Bool.true_or, Bool.and_false, Bool.and_true, Bool.not_true, Bool.not_false, Bool.false_and, Bool.true_and] at hE
        replace HL := Lib.hid HL
        replace HD := Lib.hid HD
        have FIN := Lib.hid fin
        have BAD := Lib.hid bad
        have HE := Lib.hid hE
        have HY := Lib.hid hy
        clear fin bad hE hy h1 h2 h0
        go_wp2_with (first
          | (go_at_call 132; refine (HL.out _).mono ?_; rintro e w' ⟨rfl, rfl⟩)
          | (go_at_call 133; refine (HD.out _).mono ?_; rintro e w' ⟨rfl, rfl⟩))
        first
          | (go_ret
             exact ⟨by rw [decide_eq_false (BAD.out HE.out)]; rfl, gr_iter _ _ _⟩)
          | (obtain rfl := HY.out HE.out
             go_roundg (gk - 1)
             case measure => omega
             case rel => exact ⟨pos + 1, rfl, by omega, FIN.out HE.out⟩)
    · have hnx : ∀ ty, (Instr.next (.pointer (some ⟨w.heap.size, 0, none⟩)) true ty).run Tryz.prog (w.iter s pos) = _ := fun ty => run_next_end w s pos ty h
      have hyes : AllN s := by
        intro i c hc
        have hi : i < s.size := by
          have := (List.getElem?_eq_some_iff.1 hc).1
          simpa using this
        exact HI.out i c (by omega) hc
      rcases nm_end hyes with ⟨h0, HY⟩ | ⟨⟨h0, h1⟩, HY⟩ | ⟨h0, HY⟩
      all_goals
        replace HY := Lib.hid HY
        clear hyes
        go_wp2_with fail
        go_ret
        exact ⟨by rw [HY.out]; first | rfl | (simp [Act.tmps]; omega) | (simp; omega), gr_iter _ _ _⟩
end Go.Proofs.YthfmgficbnmmnaaGreatDoor
namespace Go.Proofs.YthfmgficbnmmnaaGreatDoor
open Go.RowKit Go.Lib
set_option linter.unusedSimpArgs false
set_option linter.unusedVariables false
theorem nm_step {s : ByteArray} {k : Nat} {c : UInt8} (h : s.data.toList[k]? = some c) (hc : nmB k (c.toNat : Int) = true) (HI : ∀ i c, i < k → s.data.toList[i]? = some c → nmB i (c.toNat : Int) = true) :
    ∀ i c, i < k + 1 → s.data.toList[i]? = some c → nmB i (c.toNat : Int) = true := by
  intro i d hi hd
  rcases Nat.lt_or_ge i k with h2 | h2
  · exact HI i d h2 hd
  · obtain rfl : i = k := by omega
    rw [h] at hd
    simp only [Option.some.injEq] at hd
    rw [← hd, hc]
theorem nm_all {s : ByteArray} {k : Nat} (hk : s.size ≤ k) (HI : ∀ i c, i < k → s.data.toList[i]? = some c → nmB i (c.toNat : Int) = true) : AllN s := by
  intro i c hc
  have hi : i < s.size := by
    have := (List.getElem?_eq_some_iff.1 hc).1
    simpa using this
  exact HI i c (by omega) hc
/-- what the tests of a byte say -/
structure Zone (c : Int) (a b d e f g h : Bool) : Prop where
  a : decide (97 ≤ c) = a
  b : decide (c ≤ 122) = b
  d : decide (65 ≤ c) = d
  e : decide (c ≤ 90) = e
  f : decide (48 ≤ c) = f
  g : decide (c ≤ 57) = g
  h : (c == 95) = h
theorem Zone.nm {c : Int} {a b d e f g h : Bool} (z : Zone c a b d e f g h) (k : Nat) : nmB k c = ((d && e) || (a && b) || (!(k == 0) && ((f && g) || h))) := by
  unfold nmB letB digB
  rw [z.a, z.b, z.d, z.e, z.f, z.g, z.h]
theorem zones (c : Int) : Zone c false true false true false true false ∨ Zone c false true false true true true false ∨ Zone c false true false true true false false ∨ Zone c false true true true true false false ∨ Zone c false true true false true false false ∨ Zone c false true true false true false true ∨ Zone c false true true false true false false ∨ Zone c true true true false true false false ∨ Zone c true false true false true false false := by
  have h : c < 48 ∨ (48 ≤ c ∧ c ≤ 57) ∨ (58 ≤ c ∧ c ≤ 64) ∨ (65 ≤ c ∧ c ≤ 90) ∨ (91 ≤ c ∧ c ≤ 94) ∨ c = 95 ∨ c = 96 ∨ (97 ≤ c ∧ c ≤ 122) ∨ 123 ≤ c := by omega
  rcases h with h | h | h | h | h | h | h | h | h
  · exact .inl ⟨by simp; omega, by simp; omega, by simp; omega, by simp; omega, by simp; omega, by simp; omega, by simp; omega⟩
  · exact .inr (.inl ⟨by simp; omega, by simp; omega, by simp; omega, by simp; omega, by simp; omega, by simp; omega, by simp; omega⟩)
  · exact .inr (.inr (.inl ⟨by simp; omega, by simp; omega, by simp; omega, by simp; omega, by simp; omega, by simp; omega, by simp; omega⟩))
  · exact .inr (.inr (.inr (.inl ⟨by simp; omega, by simp; omega, by simp; omega, by simp; omega, by simp; omega, by simp; omega, by simp; omega⟩)))
  · exact .inr (.inr (.inr (.inr (.inl ⟨by simp; omega, by simp; omega, by simp; omega, by simp; omega, by simp; omega, by simp; omega, by simp; omega⟩))))
  · exact .inr (.inr (.inr (.inr (.inr (.inl ⟨by simp; omega, by simp; omega, by simp; omega, by simp; omega, by simp; omega, by simp; omega, by simp; omega⟩)))))
  · exact .inr (.inr (.inr (.inr (.inr (.inr (.inl ⟨by simp; omega, by simp; omega, by simp; omega, by simp; omega, by simp; omega, by simp; omega, by simp; omega⟩))))))
  · exact .inr (.inr (.inr (.inr (.inr (.inr (.inr (.inl ⟨by simp; omega, by simp; omega, by simp; omega, by simp; omega, by simp; omega, by simp; omega, by simp; omega⟩)))))))
  · exact .inr (.inr (.inr (.inr (.inr (.inr (.inr (.inr (⟨by simp; omega, by simp; omega, by simp; omega, by simp; omega, by simp; omega, by simp; omega, by simp; omega⟩))))))))
set_option maxHeartbeats 1000000 in
set_option maxRecDepth 100000 in
theorem refIsName_c (s : ByteArray) (w : World) :
    Calls Tryz.prog 53 #[.string s] w fun e w' => e = .returned (.bool (decide (Nm s))) ∧ w = w' := by
  rcases Nat.eq_zero_or_pos s.size with h0 | hl0
  · have HE := Lib.hid (show decide (Nm s) = false from decide_eq_false (fun hn => by have := hn.2.1; omega))
    go_enter Tryz.func53, Tryz.ntmps53
    go_wp2_with fail
    go_ret
    exact ⟨by rw [HE.out]; rfl, rfl⟩
  rcases Nat.lt_or_ge 24 s.size with hl1 | hl1
  · have HE := Lib.hid (show decide (Nm s) = false from decide_eq_false (fun hn => by have := hn.2.2; omega))
    go_enter Tryz.func53, Tryz.ntmps53
    go_wp2_with fail
    go_ret
    exact ⟨by rw [HE.out]; rfl, rfl⟩
  go_enter Tryz.func53, Tryz.ntmps53
  go_wp2_with fail
  go_loopg [3] s.size (fun g s3 wr => ∃ k : Nat, s3 = .int .i64 k ∧ g + k = s.size ∧ wr = w ∧ Hid (∀ i c, i < k → s.data.toList[i]? = some c → nmB i (c.toNat : Int) = true))
  case atStart => exact ⟨0, rfl, by omega, rfl, fun i c h => absurd h (by omega)⟩
  case round =>
    obtain ⟨k, rfl, hk, rfl, HI⟩ := hrel
    by_cases h : k < s.size
    · have HB := Lib.hid (byte_at s k h)
      by_cases hk0 : k = 0
      · subst hk0
        have hk0' : True := trivial
        rcases zones ((s[0]'h).toNat : Int) with z | z | z | z | z | z | z | z | z
        all_goals
          obtain ⟨z1, z2, z3, z4, z5, z6, z7⟩ := z
          have HZ := Lib.hid (Zone.mk z1 z2 z3 z4 z5 z6 z7)
          go_wp2_with fail
          first
            | (go_ret
               exact ⟨by rw [decide_eq_false (nm_no HB.out (by rw [HZ.out.nm]; simp [hk0']))]; rfl, rfl⟩)
            | (go_roundg (gk - 1)
               case measure => omega
               case rel => exact ⟨1, rfl, by omega, rfl, nm_step HB.out (by rw [HZ.out.nm]; simp [hk0']) HI.out⟩)
      · have hk1 : 0 < k := by omega
        have hk0' : (k == 0) = false := by simpa using hk0
        have hk2 : ((k : Int) == 0) = false := by simpa using hk0
        rcases zones ((s[k]'h).toNat : Int) with z | z | z | z | z | z | z | z | z
        all_goals
          obtain ⟨z1, z2, z3, z4, z5, z6, z7⟩ := z
          have HZ := Lib.hid (Zone.mk z1 z2 z3 z4 z5 z6 z7)
          go_wp2_with fail
          first
            | (go_ret
               exact ⟨by rw [decide_eq_false (nm_no HB.out (by rw [HZ.out.nm]; simp [hk0']))]; rfl, rfl⟩)
            | (go_roundg (gk - 1)
               case measure => omega
               case rel => exact ⟨k + 1, by go_num, by omega, rfl, nm_step HB.out (by rw [HZ.out.nm]; simp [hk0']) HI.out⟩)
    · have HE := Lib.hid (show decide (Nm s) = true from decide_eq_true ⟨nm_all (k := k) (by omega) HI.out, hl0, hl1⟩)
      go_wp2_with fail
      go_ret
      exact ⟨by rw [HE.out]; rfl, rfl⟩
end Go.Proofs.YthfmgficbnmmnaaGreatDoor
namespace Go.Proofs.YthfmgficbnmmnaaGreatDoor
open Go.RowKit Go.Lib
set_option linter.unusedSimpArgs false
set_option linter.unusedVariables false
theorem box3 (w : World) (a0 a1 a2 : Value) (T : Nat) : ∃ W, w.alloc (.cells #[a0, a1, a2] T) = W ∧ Gr w W ∧ W.cell? ⟨w.heap.size, 0, none⟩ = some a0 ∧ W.cell? ⟨w.heap.size, 1, none⟩ = some a1 ∧ W.cell? ⟨w.heap.size, 2, none⟩ = some a2 :=
  ⟨_, rfl, (Gr.refl w).alloc _, cell_new w #[a0, a1, a2] T 0 (by simp), cell_new w #[a0, a1, a2] T 1 (by simp), cell_new w #[a0, a1, a2] T 2 (by simp)⟩
/-- check.If, its answer under a name -/
theorem if_e (b : Bool) (n : Int) : ∃ z, z = (if b then n else 0) ∧ ∀ W, Calls Tryz.prog 61 #[.bool b, .int .i64 n] W fun e w' => e = .returned (.int .i64 z) ∧ W = w' :=
  ⟨_, rfl, fun W => if_c b n W⟩
/-- an operation of a region that is written out -/
theorem op_at {l : List Oper} {i : Nat} {o : Oper} (h : l[i]? = some o) : l.toArray[i]? = some o := by rw [List.getElem?_toArray]; exact h
/-- the states' table lies in the world -/
def StatesIn (w : World) : Prop := ∃ t fr, w.heap[0]? = some (.cells #[.string ⟨#[]⟩, .string ⟨#[100, 110, 115]⟩, .string ⟨#[100, 110, 102]⟩, .string ⟨#[100, 115, 113]⟩] t fr)
theorem StatesIn.gr {w w' : World} (h : StatesIn w) (k : Gr w w') : StatesIn w' := by
  obtain ⟨t, fr, h⟩ := h
  exact ⟨t, fr, k.block h⟩
theorem StatesIn.cells {w : World} (h : StatesIn w) : w.cell? ⟨0, 0, none⟩ = some (.string ⟨#[]⟩) ∧ w.cell? ⟨0, 1, none⟩ = some (.string ⟨#[100, 110, 115]⟩) ∧ w.cell? ⟨0, 2, none⟩ = some (.string ⟨#[100, 110, 102]⟩) ∧ w.cell? ⟨0, 3, none⟩ = some (.string ⟨#[100, 115, 113]⟩) := by
  obtain ⟨t, fr, h⟩ := h
  simp [World.cell?, h]
theorem box1 (w : World) (a0 : Value) (T : Nat) : ∃ W, w.alloc (.cells #[a0] T) = W ∧ Gr w W ∧ W.cell? ⟨w.heap.size, 0, none⟩ = some a0 :=
  ⟨_, rfl, (Gr.refl w).alloc _, cell_new w #[a0] T 0 (by simp)⟩
theorem info3 : (Tryz.prog.info? 3).map (fun i => (i.zero, i.size, i.bytes)) = some (some (.int .i64 0), 1, 8) := by kernel_rfl
def ints (xs : List Int) : List Value := xs.map (Value.int .i64)
theorem first_three (x y z : Int) (b cap : Nat) (w : World) (hx : w.cell? ⟨b, 0, none⟩ = some (.int .i64 x)) (hy : w.cell? ⟨b, 1, none⟩ = some (.int .i64 y)) (hz : w.cell? ⟨b, 2, none⟩ = some (.int .i64 z)) :
    Calls Tryz.prog 41 #[.slice (some ⟨b, 0, none⟩) 3 cap] w fun e w' => e = .returned (.int .i64 (firstE [x, y, z])) ∧ w = w' :=
  first_c0 b 3 cap [x, y, z] w rfl (fun i v h => by
    rcases i with _ | _ | _ | i <;> simp at h <;> subst h <;> assumption) (by omega)
theorem first_pair (x y : Int) (b cap : Nat) (w : World) (hx : w.cell? ⟨b, 0, none⟩ = some (.int .i64 x)) (hy : w.cell? ⟨b, 1, none⟩ = some (.int .i64 y)) :
    Calls Tryz.prog 41 #[.slice (some ⟨b, 0, none⟩) 2 cap] w fun e w' => e = .returned (.int .i64 (firstE [x, y])) ∧ w = w' :=
  first_c0 b 2 cap [x, y] w rfl (fun i v h => by
    rcases i with _ | _ | i <;> simp at h <;> subst h <;> assumption) (by omega)
end Go.Proofs.YthfmgficbnmmnaaGreatDoor
namespace Go.Proofs.YthfmgficbnmmnaaGreatDoor
open Go.RowKit Go.Lib
set_option linter.unusedSimpArgs false
set_option linter.unusedVariables false
theorem own_at {w : World} {base n : Nat} {T : TypeId} {v : Value} {l : List Value} (h : w.ownsRow base T 1 v n l) (h0 : 0 < n) : ∃ g c, v = .slice (some ⟨g, 0, none⟩) n c ∧ base ≤ g ∧ g < w.heap.size ∧ (n ≤ c ∧ c ≤ maxLen) ∧ ∀ i u, l[i]? = some u → w.cell? ⟨g, i, none⟩ = some u := by
  have hh := h
  rcases h.2 with ⟨rfl, h0'⟩ | ⟨g, cap, cur, rfl, hb, hcur, hle, hmx, _, _⟩
  · omega
  · refine ⟨g, cap, rfl, hb, (Array.getElem?_eq_some_iff.1 hcur).1, ⟨hle, hmx⟩, fun i u hu => ?_⟩
    have c := hh.cells (g := g) rfl i u hu
    rwa [show (⟨g, 0, none⟩ : Addr).add i = ⟨g, i, none⟩ by unfold Addr.add; split <;> simp_all] at c
theorem own_low {w : World} {b b' size n : Nat} {T : TypeId} {v : Value} {xs : List Value} (h : w.ownsRow b T size v n xs) (hb : b' ≤ b) : w.ownsRow b' T size v n xs := by
  refine ⟨h.1, ?_⟩
  rcases h.2 with hn | ⟨g, cap, cur, rfl, hg, rest⟩
  · exact .inl hn
  · exact .inr ⟨g, cap, cur, rfl, by omega, rest⟩
theorem own_kept {w w' : World} {b s n : Nat} {T : TypeId} {v : Value} {l : List Value} (h : w.ownsRow b T s v n l) (k : Gr w w') : w'.ownsRow b T s v n l := by
  refine ⟨h.1, ?_⟩
  rcases h.2 with hn | ⟨g, cap, cur, rfl, hb, hgg, rest⟩
  · exact .inl hn
  · exact .inr ⟨g, cap, cur, rfl, hb, k.block hgg, rest⟩
theorem own_same {w w' : World} {b s n : Nat} {T : TypeId} {v : Value} {l : List Value} (h : w.ownsRow b T s v n l) (k : ∀ g, v.ownBlock = some g → w'.heap[g]? = w.heap[g]?) : w'.ownsRow b T s v n l := by
  refine ⟨h.1, ?_⟩
  rcases h.2 with hn | ⟨g, cap, cur, rfl, hb, hgg, rest⟩
  · exact .inl hn
  · exact .inr ⟨g, cap, cur, rfl, hb, by rw [k g rfl]; exact hgg, rest⟩
theorem own_in {w : World} {b s n : Nat} {T : TypeId} {v : Value} {l : List Value} (h : w.ownsRow b T s v n l) {g : Nat} (hg : v.ownBlock = some g) : g < w.heap.size ∧ b ≤ g := by
  rcases h.2 with ⟨rfl, _⟩ | ⟨g', cap, cur, rfl, hb, hgg, rest⟩
  · cases hg
  · cases hg
    exact ⟨(Array.getElem?_eq_some_iff.1 hgg).1, hb⟩
end Go.Proofs.YthfmgficbnmmnaaGreatDoor
namespace Go.Proofs.YthfmgficbnmmnaaGreatDoor
open Go.RowKit Go.Lib
set_option linter.unusedSimpArgs false
set_option linter.unusedVariables false
theorem cell_two_new (w : World) (a b : Value) (T : TypeId) : ∀ (j : Nat) (u : Value), [a, b][j]? = some u → (w.alloc (.cells #[a, b] T)).cell? ((⟨w.heap.size, 0, none⟩ : Addr).add j) = some u := by
  intro j u h
  have e : (⟨w.heap.size, 0, none⟩ : Addr).add j = ⟨w.heap.size, j, none⟩ := by unfold Addr.add; split <;> simp_all
  rw [e]
  rcases j with _ | _ | j
  · simp at h; subst h; exact cell_new w #[a, b] T 0 (by simp)
  · simp at h; subst h; exact cell_new w #[a, b] T 1 (by simp)
  · simp at h
/-- the slots of twice as many -/
def dblK (L : Int) : List Int → List Int
  | [] => []
  | s :: l => s :: (2 * L + 1 - s) :: dblK L l
def growB : Nat → List Int
  | 0 => [1]
  | k + 1 => dblK (growB k).length (growB k)
theorem dblK_len (L : Int) : ∀ l, (dblK L l).length = 2 * l.length
  | [] => rfl
  | s :: l => by simp [dblK, dblK_len L l]; omega
theorem growB_len : ∀ k, (growB k).length = 2 ^ k
  | 0 => rfl
  | k + 1 => by rw [growB, dblK_len, growB_len k, Nat.pow_succ]; omega
theorem dblK_append (L : Int) : ∀ l r, dblK L (l ++ r) = dblK L l ++ dblK L r
  | [], r => rfl
  | s :: l, r => by simp [dblK, dblK_append L l r]
theorem dblK_take (L : Int) (l : List Int) (j : Nat) (x : Int) (h : l[j]? = some x) : dblK L (l.take (j + 1)) = dblK L (l.take j) ++ [x, 2 * L + 1 - x] := by
  obtain ⟨hj, rfl⟩ := List.getElem?_eq_some_iff.1 h
  rw [List.take_succ_eq_append_getElem hj, dblK_append]
  rfl
theorem growB_range : ∀ k x, x ∈ growB k → 1 ≤ x ∧ x ≤ 2 ^ k := by
  intro k
  induction k with
  | zero => intro x hx; simp [growB] at hx; subst hx; decide
  | succ k ih =>
    have key : ∀ l : List Int, (∀ x ∈ l, 1 ≤ x ∧ x ≤ 2 ^ k) → ∀ x ∈ dblK (2 ^ k : Nat) l, 1 ≤ x ∧ x ≤ 2 * 2 ^ k := by
      intro l
      induction l with
      | nil => intro _ x hx; cases hx
      | cons s l ih2 =>
        intro hl x hx
        have hs := hl s (by simp)
        simp only [dblK, List.mem_cons] at hx
        have e : ((2 ^ k : Nat) : Int) = 2 ^ k := by simp
        rcases hx with rfl | rfl | hx
        · omega
        · omega
        · exact ih2 (fun y hy => hl y (by simp [hy])) x hx
    intro x hx
    rw [growB, growB_len] at hx
    have := key _ ih x hx
    rw [Int.pow_succ]
    omega
/-- seeds that nobody has are 0 -/
def zK (n : Int) : List Int → List Int
  | [] => []
  | s :: l => (if n < s then 0 else s) :: zK n l
theorem zK_len (n : Int) : ∀ l, (zK n l).length = l.length
  | [] => rfl
  | s :: l => by simp [zK, zK_len n l]
theorem zK_append (n : Int) : ∀ l r, zK n (l ++ r) = zK n l ++ zK n r
  | [], r => rfl
  | s :: l, r => by simp [zK, zK_append n l r]
/-- the first i done -/
def zAt (n : Int) (xs : List Int) (i : Nat) : List Int := zK n (xs.take i) ++ xs.drop i
theorem zAt_get {n : Int} {xs : List Int} {i : Nat} {x : Int} (h : xs[i]? = some x) : (zAt n xs i)[i]? = some x := by
  obtain ⟨hj, rfl⟩ := List.getElem?_eq_some_iff.1 h
  have hl : (zK n (xs.take i)).length = i := by rw [zK_len]; simp; omega
  unfold zAt
  rw [List.getElem?_append_right (by omega), hl]
  simp
theorem zAt_step {n : Int} {xs : List Int} {i : Nat} {x : Int} (h : xs[i]? = some x) : zAt n xs (i + 1) = (zAt n xs i).set i (if n < x then 0 else x) := by
  obtain ⟨hj, rfl⟩ := List.getElem?_eq_some_iff.1 h
  have hl : (zK n (xs.take i)).length = i := by rw [zK_len]; simp; omega
  unfold zAt
  rw [List.take_succ_eq_append_getElem hj, zK_append, List.set_append_right _ _ (by omega), hl, Nat.sub_self, List.drop_eq_getElem_cons (i := i) hj, List.set_cons_zero, List.append_assoc]
  rfl
theorem set_same {l : List Int} {i : Nat} {x : Int} (h : l[i]? = some x) : l.set i x = l := by
  obtain ⟨hj, rfl⟩ := List.getElem?_eq_some_iff.1 h
  exact List.set_getElem_self hj
theorem ownsRow_base {w : World} {b b' : Nat} {e : TypeId} {s n : Nat} {v : Value} {xs : List Value} (h : w.ownsRow b e s v n xs) (hb : b' ≤ b) : w.ownsRow b' e s v n xs := by
  refine ⟨h.1, ?_⟩
  rcases h.2 with h | ⟨g, cap, cur, h1, h2, h3⟩
  · exact .inl h
  · exact .inr ⟨g, cap, cur, h1, by omega, h3⟩
theorem reads_pos {w : World} {base : Nat} {v : Value} {n : Nat} {xs : List Int} (h : w.ownsRow base 3 1 v n (ints xs)) (hn : 0 < n) : ∃ g cap, v = .slice (some ⟨g, 0, none⟩) n cap ∧ base ≤ g ∧ g < w.heap.size ∧ ∀ i x, xs[i]? = some x → w.cell? ⟨g, i, none⟩ = some (.int .i64 x) := by
  rcases h.2 with ⟨_, h0⟩ | ⟨g, cap, cur, rfl, hb, hg, _⟩
  · omega
  · refine ⟨g, cap, rfl, hb, (Array.getElem?_eq_some_iff.1 hg).1, fun i x hx => ?_⟩
    have := h.cells (g := g) rfl i (.int .i64 x) (by simp [ints, hx])
    rwa [show (⟨g, 0, none⟩ : Addr).add i = ⟨g, i, none⟩ by unfold Addr.add; split <;> simp_all] at this
set_option maxHeartbeats 1000000 in
set_option maxRecDepth 100000 in
theorem bracket_c (n : Int) (hn : 1 ≤ n ∧ n ≤ 64) (w : World) :
    Calls Tryz.prog 57 #[.int .i64 n] w fun x w' => ∃ v k, x = .returned v ∧ (n ≤ ((2 ^ k : Nat) : Int)) ∧ (((2 ^ k : Nat) : Int) < 2 * n) ∧ w'.ownsRow w.heap.size 3 1 v (2 ^ k) (ints (zK n (growB k))) ∧ Gr w w' := by
  obtain ⟨i0, hi, hz0, hz1, hz2⟩ := info_parts info3
  go_enter Tryz.func57, Tryz.ntmps57
  go_wp2_with fail
  go_loopg [3] 7 (fun gk v wr => ∃ (k : Nat) (u : Value), u = v ∧ gk + k = 7 ∧ (((2 ^ k : Nat) : Int) < 2 * n) ∧ wr.ownsRow w.heap.size 3 1 u (2 ^ k) (ints (growB k)) ∧ Below w.heap.size w wr)
  case atStart =>
    refine ⟨0, _, rfl, rfl, by simp; omega, ⟨rfl, .inr ⟨w.heap.size, 1, #[.int .i64 1], rfl, Nat.le_refl _, heap_alloc_new _ _, by decide, by decide, rfl, rfl⟩⟩, (Below.refl _ _).alloc (Nat.le_refl _) _⟩
  case round =>
    obtain ⟨k, u, rfl, hgk, hkn, hown, hnx⟩ := hrel
    obtain ⟨W1, rfl⟩ : ∃ W1, W1 = wr := ⟨_, rfl⟩
    have hpos : 0 < 2 ^ k := Nat.two_pow_pos k
    obtain ⟨g, cap, rfl, hbg, hgw, hcell⟩ := reads_pos hown hpos
    have hrow : ∃ cur, W1.heap[g]? = some (.cells cur 3 (0, 0)) ∧ 2 ^ k ≤ cap ∧ cap ≤ maxLen ∧ cur.size = cap * 1 ∧ cur.toList.take (2 ^ k * 1) = ints (growB k) := by
      rcases hown.2 with ⟨h, _⟩ | ⟨g', cap', cur, h1, _, h2⟩
      · simp at h
      · simp only [Value.slice.injEq, Option.some.injEq, Addr.mk.injEq, and_true] at h1
        obtain ⟨rfl, _, rfl⟩ := h1
        exact ⟨cur, h2⟩
    have hr := growB_range k
    have hlen := growB_len k
    have hdk : growB (k + 1) = dblK (2 ^ k : Nat) (growB k) := by rw [growB, hlen]
    have hp2 : 2 ^ (k + 1) = 2 ^ k * 2 := Nat.pow_succ ..
    have hpc : (2 : Int) ^ k = ((2 ^ k : Nat) : Int) := by simp
    rw [hpc] at hr
    have hk7 : 2 ^ k < 128 := by omega
    have hk6 : 2 ^ k < 64 → k < 6 := fun h => Nat.lt_of_not_le fun hh => absurd (Nat.pow_le_pow_right (show 0 < 2 by decide) hh) (by omega)
    generalize hLk : 2 ^ k = L at *
    generalize hG : growB k = xs at *
    by_cases hLn : (L : Int) < n
    · go_wp2_with fail
      go_loopw [4, 16] (fun nx i wr2 => ∃ (j : Nat) (u2 : Value), u2 = nx ∧ j ≤ L ∧ i = .int .i64 j ∧ wr2.ownsRow W1.heap.size 3 1 u2 (2 * j) (ints (dblK L (xs.take j))) ∧ Below W1.heap.size W1 wr2) (fun _ i _ => L - (intOf i).toNat)
      case atStart => exact ⟨0, _, rfl, Nat.zero_le _, rfl, World.ownsRow_nil _ _ _ _, Below.refl _ _⟩
      case round =>
        obtain ⟨j, u2, rfl, hj, rfl, hown2, hnx2⟩ := hrel
        have hsz2 := hnx2.size
        by_cases hjL : (j : Int) < L
        · have hjl : j < xs.length := by omega
          have hx : xs[j]? = some xs[j] := List.getElem?_eq_getElem hjl
          have hxr := hr xs[j] (List.getElem_mem hjl)
          have hc := Gr.cell (show Gr W1 wr from hnx2) (hcell j _ hx)
          have hd := dblK_take L xs j _ hx
          generalize xs[j] = x at *
          have HD := Lib.hid hd
          clear hd hx hcell hr
          go_wp2_with (first
            | (at_builtin; refine wpList_append_own _ rfl _ _ 62 rfl W1.heap.size 3 i0 (.int .i64 0) 1 8 Tryz.underlying62 hi hz0 hz1 hz2 rfl (by decide) _ _ _ rfl (hown2.alloc _) ⟨wr.heap.size, 0, none⟩ 2 2 [.int .i64 x, .int .i64 (2 * L + 1 - x)] rfl rfl (cell_two_new _ _ _ _) (by intro u hu; simp at hu; rcases hu with rfl | rfl <;> rfl) (by unfold maxLen; omega) (by omega) (by simp; omega) ?_; intro v1 w1 hown1 hgrow1 hnil1))
          go_roundw
          case rel =>
            exact ⟨j + 1, _, rfl, by omega, by go_num, by rw [HD.out]; simpa [ints, Nat.mul_add] using hown1, (hnx2.alloc hsz2 _).grown hgrow1 (by simp; omega) (fun q hq => (hown2.lt q hq).1)⟩
          case measure => simp [intOf]; omega
        · have hjj : j = L := by omega
          subst hjj
          go_wp2_with fail
          have hk5 := hk6 (by omega)
          go_roundg (gk - 1)
          case measure => omega
          case rel =>
            refine ⟨k + 1, _, rfl, by omega, by rw [hp2]; omega, ?_, (show Gr w wr from Gr.trans hnx hnx2)⟩
            rw [hdk, hp2, Nat.mul_comm]
            have := ownsRow_base hown2 hnx.size
            rwa [List.take_of_length_le (by omega)] at this
    · have hkeep : n ≤ (L : Int) ∧ (L : Int) < 2 * n := by omega
      obtain ⟨cur0, hr0, hcap, hmax, hcs, hct⟩ := hrow
      have hzl := fun i => zK_len n (xs.take i)
      go_wp2_with fail
      go_loopw [34] (fun ix wr => ∃ (i : Nat) (cur : Array Value), i ≤ L ∧ ix = .int .i64 i ∧ wr.heap[g]? = some (.cells cur 3 (0, 0)) ∧ cur.size = cap ∧ cur.toList.take L = ints (zAt n xs i) ∧ Below w.heap.size w wr) (fun ix _ => L - (intOf ix).toNat)
      case atStart => exact ⟨0, cur0, Nat.zero_le _, rfl, hr0, by omega, by simpa [zAt, zK] using hct, hnx⟩
      case round =>
        obtain ⟨i, cur, hiL, rfl, hgc, hcc, hct2, hnx2⟩ := hrel
        by_cases hlt : (i : Int) < L
        · have hil : i < xs.length := by omega
          have hx : xs[i]? = some xs[i] := List.getElem?_eq_getElem hil
          have hz := zAt_get (n := n) hx
          have hstep := zAt_step (n := n) hx
          have hcell2 : wr.cell? ⟨g, i, none⟩ = some (.int .i64 xs[i]) := by
            rw [cell_of_row wr g i cur 3 (0, 0) hgc]
            have : (cur.toList.take L)[i]? = some (.int .i64 xs[i]) := by rw [hct2]; simp [ints, hz]
            rw [List.getElem?_take, if_pos (by omega)] at this
            simpa using this
          have hfz : wr.frozen? ⟨g, i, none⟩ = false := frozen_of_row wr g i cur 3 hgc
          have hset := heap_setCell_same wr g i cur 3 (.int .i64 0) hgc
          have hsame : (zAt n xs i).set i xs[i] = zAt n xs i := set_same hz
          generalize xs[i] = x at *
          have HS := Lib.hid hset
          have HC := Lib.hid hgc
          have HT := Lib.hid hct2
          clear hset hgc hct2 hz hx hcell hr
          by_cases hxn : n < x
          · rw [if_pos hxn] at hstep
            have HZ := Lib.hid hstep
            clear hstep hsame
            go_wp2_with fail
            go_roundw
            case rel =>
              refine ⟨i + 1, _, by omega, by go_num, HS.out, by simpa using hcc, ?_, hnx2.setCell hbg _⟩
              rw [HZ.out]
              have e : (cur.setIfInBounds i (.int .i64 0)).toList.take L = (cur.toList.take L).set i (.int .i64 0) := by
                simp [List.take_set]
              rw [e, HT.out]
              simp [ints, List.map_set]
            case measure => simp [intOf]; omega
          · rw [if_neg hxn] at hstep
            rw [hsame] at hstep
            have hd : decide (n < x) = false := by simpa using hxn
            have HZ := Lib.hid hstep
            clear hstep hsame
            go_wp2_with fail
            go_roundw
            case rel => exact ⟨i + 1, cur, by omega, by go_num, HC.out, hcc, by rw [HZ.out]; exact HT.out, hnx2⟩
            case measure => simp [intOf]; omega
        · have hii : i = L := by omega
          subst hii
          go_wp2_with fail
          go_ret
          refine ⟨_, rfl, k, by rw [hpc]; exact hkeep.1, by rw [hpc]; exact hkeep.2, ?_, hnx2⟩
          rw [hLk, hG]
          have hzz : zAt n xs i = zK n xs := by
            unfold zAt
            rw [List.take_of_length_le (by omega), List.drop_of_length_le (by omega), List.append_nil]
          rw [hzz] at hct2
          exact ⟨by simp [ints, zK_len]; omega, .inr ⟨g, cap, cur, rfl, hbg, hgc, hcap, hmax, by omega, by simpa using hct2⟩⟩
end Go.Proofs.YthfmgficbnmmnaaGreatDoor
namespace Go.Proofs.YthfmgficbnmmnaaGreatDoor
open Go.RowKit Go.Lib
set_option linter.unusedSimpArgs false
set_option linter.unusedVariables false
/-- the slice v reads as the integers xs -/
structure ReadsI (w : World) (v : Value) (xs : List Int) : Prop where
  mk' ::
  out : ∃ p cap, v = .slice p xs.length cap ∧ (0 < xs.length → ∃ g, p = some ⟨g, 0, none⟩ ∧ ∀ i x, xs[i]? = some x → w.cell? ⟨g, i, none⟩ = some (.int .i64 x))
theorem ReadsI.gr {w w' : World} {v : Value} {xs : List Int} (h : ReadsI w v xs) (k : Gr w w') : ReadsI w' v xs := by
  obtain ⟨⟨p, cap, rfl, hh⟩⟩ := h
  refine ⟨p, cap, rfl, fun h0 => ?_⟩
  obtain ⟨g, h1, h2⟩ := hh h0
  exact ⟨g, h1, fun i x hx => k.cell (h2 i x hx)⟩
end Go.Proofs.YthfmgficbnmmnaaGreatDoor
namespace Go.Proofs.YthfmgficbnmmnaaGreatDoor
open Go.RowKit Go.Lib
set_option linter.unusedSimpArgs false
set_option linter.unusedVariables false
theorem addr_add (b o j : Nat) : (⟨b, o, none⟩ : Addr).add j = ⟨b, o + j, none⟩ := by unfold Addr.add; split <;> simp_all
theorem own_shape {w : World} {b s n : Nat} {T : TypeId} {v : Value} {l : List Value} (h : w.ownsRow b T s v n l) : ∃ p c, v = .slice p n c ∧ n ≤ c ∧ c ≤ maxLen := by
  rcases h.2 with ⟨rfl, rfl⟩ | ⟨g, cap, cur, rfl, _, _, h1, h2, _⟩
  · exact ⟨none, 0, rfl, Nat.le_refl _, by unfold maxLen; omega⟩
  · exact ⟨_, cap, rfl, h1, h2⟩
/-- the slice holds these integers -/
structure IntS (w : World) (q : Option Addr) (m : Nat) (zs : List Int) : Prop where
  mk' ::
  len : zs.length = m
  out : 0 < m → ∃ b off, q = some ⟨b, off, none⟩ ∧ ∀ (i : Nat) (z : Int), zs[i]? = some z → w.cell? ⟨b, off + i, none⟩ = some (.int .i64 z)
theorem IntS.gr {w w' : World} {q : Option Addr} {m : Nat} {zs : List Int} (h : IntS w q m zs) (k : Gr w w') : IntS w' q m zs := ⟨h.len, fun h0 => by
  obtain ⟨g, off, e, hc⟩ := h.out h0
  exact ⟨g, off, e, fun i a ha => k.cell (hc i a ha)⟩⟩
theorem IntS.of_own {w : World} {b n : Nat} {q : Option Addr} {c : Nat} {zs : List Int} (h : w.ownsRow b 3 1 (.slice q n c) n (ints zs)) : IntS w q n zs := by
  have hl : zs.length = n := by have := h.1; unfold ints at this; simpa using this
  refine ⟨hl, fun h0 => ?_⟩
  obtain ⟨g, c2, e, _, _, _, hc⟩ := own_at h h0
  simp only [Value.slice.injEq] at e
  exact ⟨g, 0, e.1, fun i z hz => by rw [Nat.zero_add]; exact hc i _ (by unfold ints; rw [List.getElem?_map, hz]; rfl)⟩
end Go.Proofs.YthfmgficbnmmnaaGreatDoor
namespace Go.Proofs.YthfmgficbnmmnaaGreatDoor
open Go.RowKit Go.Lib
set_option linter.unusedSimpArgs false
set_option linter.unusedVariables false
end Go.Proofs.YthfmgficbnmmnaaGreatDoor
namespace Go.Proofs.YthfmgficbnmmnaaGreatDoor
open Go.RowKit Go.Lib
set_option linter.unusedSimpArgs false
set_option linter.unusedVariables false
/-- how many digits to the base 2 -/
def bl (d : Int) : Int := if d < 1 then 0 else if d < 2 then 1 else if d < 4 then 2 else if d < 8 then 3 else if d < 16 then 4 else if d < 32 then 5 else 6
end Go.Proofs.YthfmgficbnmmnaaGreatDoor
namespace Go.Proofs.YthfmgficbnmmnaaGreatDoor
open Go.RowKit Go.Lib
/-- where x stands -/
def posOf (x : Int) : List Int → Nat
  | [] => 0
  | s :: l => if s = x then 0 else posOf x l + 1
theorem posOf_get {x : Int} : ∀ {l : List Int}, x ∈ l → l[posOf x l]? = some x ∧ ∀ j y, j < posOf x l → l[j]? = some y → y ≠ x
  | [], h => by cases h
  | s :: l, h => by
    unfold posOf
    split
    · rename_i hs
      subst hs
      exact ⟨by simp, fun j y hj => by omega⟩
    · rename_i hs
      have hl : x ∈ l := by
        cases h with
        | head => exact absurd rfl hs
        | tail _ h => exact h
      obtain ⟨h1, h2⟩ := posOf_get hl
      refine ⟨by simpa using h1, fun j y hj hy => ?_⟩
      cases j with
      | zero => simp at hy; subst hy; exact hs
      | succ j => exact h2 j y (by omega) (by simpa using hy)
theorem zK_get (n : Int) : ∀ (l : List Int) (j : Nat), (zK n l)[j]? = (l[j]?).map fun s => if n < s then 0 else s
  | [], j => by simp [zK]
  | s :: l, 0 => by simp [zK]
  | s :: l, j + 1 => by simpa [zK] using zK_get n l j
/-- the round in which two seeds meet -/
def mtK (l : List Int) (x y : Int) : Int := bl (bits BinOp.xor .i64 (posOf x l) (posOf y l))
/-- what the law says of two seeds -/
structure Pair (k : Nat) (x y : Int) : Prop where
  low : 0 ≤ bits BinOp.xor .i64 (posOf x (growB k)) (posOf y (growB k))
  high : bits BinOp.xor .i64 (posOf x (growB k)) (posOf y (growB k)) ≤ 63
  same : mtK (growB k) x y = mtK (growB k) y x
  pos : 1 ≤ mtK (growB k) x y
  most : mtK (growB k) x y ≤ k
  best : ∀ last, 1 ≤ last → last ≤ k → x ≤ 2 ^ last → y ≤ 2 ^ last → k - (last : Int) < mtK (growB k) x y
def pairB (l : List Int) (k : Nat) (x y : Int) : Bool :=
  decide (0 ≤ bits BinOp.xor .i64 (posOf x l) (posOf y l)) && decide (bits BinOp.xor .i64 (posOf x l) (posOf y l) ≤ 63) && decide (mtK l x y = mtK l y x) && decide (1 ≤ mtK l x y) && decide (mtK l x y ≤ k) &&
    (List.range 7).all fun last => decide (last < 1) || decide (k < last) || decide (2 ^ last < x) || decide (2 ^ last < y) || decide (k - (last : Int) < mtK l x y)
def allB (l : List Int) (k : Nat) : Bool := (List.range (2 ^ k)).all fun i => l.contains ((i : Int) + 1) && (List.range (2 ^ k)).all fun j => Nat.beq i j || pairB l k (i + 1) (j + 1)
theorem grow1 : growB 1 = [1, 2] := by decide +kernel
theorem all1 : allB [1, 2] 1 = true := by decide +kernel
theorem grow2 : growB 2 = [1, 4, 2, 3] := by decide +kernel
theorem all2 : allB [1, 4, 2, 3] 2 = true := by decide +kernel
theorem grow3 : growB 3 = [1, 8, 4, 5, 2, 7, 3, 6] := by decide +kernel
theorem all3 : allB [1, 8, 4, 5, 2, 7, 3, 6] 3 = true := by decide +kernel
theorem grow4 : growB 4 = [1, 16, 8, 9, 4, 13, 5, 12, 2, 15, 7, 10, 3, 14, 6, 11] := by decide +kernel
theorem all4 : allB [1, 16, 8, 9, 4, 13, 5, 12, 2, 15, 7, 10, 3, 14, 6, 11] 4 = true := by decide +kernel
theorem grow5 : growB 5 = [1, 32, 16, 17, 8, 25, 9, 24, 4, 29, 13, 20, 5, 28, 12, 21, 2, 31, 15, 18, 7, 26, 10, 23, 3, 30, 14, 19, 6, 27, 11, 22] := by decide +kernel
theorem all5 : allB [1, 32, 16, 17, 8, 25, 9, 24, 4, 29, 13, 20, 5, 28, 12, 21, 2, 31, 15, 18, 7, 26, 10, 23, 3, 30, 14, 19, 6, 27, 11, 22] 5 = true := by decide +kernel
theorem grow6 : growB 6 = [1, 64, 32, 33, 16, 49, 17, 48, 8, 57, 25, 40, 9, 56, 24, 41, 4, 61, 29, 36, 13, 52, 20, 45, 5, 60, 28, 37, 12, 53, 21, 44, 2, 63, 31, 34, 15, 50, 18, 47, 7, 58, 26, 39, 10, 55, 23, 42, 3, 62, 30, 35, 14, 51, 19, 46, 6, 59, 27, 38, 11, 54, 22, 43] := by decide +kernel
theorem all6 : allB [1, 64, 32, 33, 16, 49, 17, 48, 8, 57, 25, 40, 9, 56, 24, 41, 4, 61, 29, 36, 13, 52, 20, 45, 5, 60, 28, 37, 12, 53, 21, 44, 2, 63, 31, 34, 15, 50, 18, 47, 7, 58, 26, 39, 10, 55, 23, 42, 3, 62, 30, 35, 14, 51, 19, 46, 6, 59, 27, 38, 11, 54, 22, 43] 6 = true := by decide +kernel
theorem allB_all {k : Nat} (h1 : 1 ≤ k) (h6 : k ≤ 6) : allB (growB k) k = true := by
  have : k = 1 ∨ k = 2 ∨ k = 3 ∨ k = 4 ∨ k = 5 ∨ k = 6 := by omega
  rcases this with rfl | rfl | rfl | rfl | rfl | rfl
  · rw [grow1]; exact all1
  · rw [grow2]; exact all2
  · rw [grow3]; exact all3
  · rw [grow4]; exact all4
  · rw [grow5]; exact all5
  · rw [grow6]; exact all6
theorem pair_all {k : Nat} (h1 : 1 ≤ k) (h6 : k ≤ 6) {x y : Int} (hx : 1 ≤ x ∧ x ≤ 2 ^ k) (hy : 1 ≤ y ∧ y ≤ 2 ^ k) : x ∈ growB k ∧ (x ≠ y → Pair k x y) := by
  have h := allB_all h1 h6
  have hp : ((2 ^ k : Nat) : Int) = 2 ^ k := by simp
  unfold allB at h
  rw [List.all_eq_true] at h
  have hi := h (x - 1).toNat (by rw [List.mem_range]; omega)
  simp only [Bool.and_eq_true, List.all_eq_true] at hi
  obtain ⟨hi1, hi2⟩ := hi
  have ex : (((x - 1).toNat : Nat) : Int) + 1 = x := by omega
  rw [ex] at hi1 hi2
  refine ⟨by simpa using hi1, fun hne => ?_⟩
  have hj := hi2 (y - 1).toNat (by rw [List.mem_range]; omega)
  have ey : (((y - 1).toNat : Nat) : Int) + 1 = y := by omega
  rw [ey] at hj
  have hb : Nat.beq (x - 1).toNat (y - 1).toNat = false := by
    cases hb : Nat.beq (x - 1).toNat (y - 1).toNat
    · rfl
    · exact absurd (Nat.eq_of_beq_eq_true hb) (by omega)
  rw [hb, Bool.false_or] at hj
  unfold pairB at hj
  simp only [Bool.and_eq_true, decide_eq_true_eq, List.all_eq_true, Bool.or_eq_true, List.mem_range] at hj
  obtain ⟨⟨⟨⟨⟨a, b⟩, c⟩, d⟩, e⟩, f⟩ := hj
  refine ⟨a, b, c, d, e, fun last l1 l2 l3 l4 => ?_⟩
  have := f last (by omega)
  omega
end Go.Proofs.YthfmgficbnmmnaaGreatDoor
