/- Names: number.IsName and the reference's. -/
import Derived.Test.YtnihclhhbegjhaaGreatDoorGNat
import Derived.Laws.RangeAny
import Derived.Deep.LoopGhost
import Derived.Deep.DrawnRows
import Derived.Deep.RegionHeld3
import Derived.BigCall
import Derived.Maps.AppendAt
import Derived.Sort.Grow
import Derived.Laws.AppendOwn
import Derived.MapKept
namespace Go.Proofs.YtnihclhhbegjhaaGreatDoor
set_option linter.unusedSimpArgs false
set_option linter.unusedVariables false
open Go.RowKit Go.Lib
def letB (c : Int) : Bool := (decide (65 ≤ c) && decide (c ≤ 90)) || (decide (97 ≤ c) && decide (c ≤ 122))
def digB (c : Int) : Bool := decide (48 ≤ c) && decide (c ≤ 57)
theorem isLetter_c (n : Int) (w : World) :
    Calls Tryz.prog 161 #[.int .i32 n] w fun e w' => e = .returned (.bool (letB n)) ∧ w = w' := by
  have HE : Hid (letB n = ((decide (65 ≤ n) && decide (n ≤ 90)) || (decide (97 ≤ n) && decide (n ≤ 122)))) := rfl
  cases h1 : decide (65 ≤ n) <;> cases h2 : decide (n ≤ 90) <;> cases h3 : decide (97 ≤ n) <;> cases h4 : decide (n ≤ 122)
  all_goals
    rw [h1, h2, h3, h4] at HE
    go_enter Tryz.func161, Tryz.ntmps161
    go_wp2_with fail
    go_ret
    exact ⟨by rw [HE.out]; rfl, rfl⟩
theorem isDigit_c (n : Int) (w : World) :
    Calls Tryz.prog 162 #[.int .i32 n] w fun e w' => e = .returned (.bool (digB n)) ∧ w = w' := by
  have HE : Hid (digB n = (decide (48 ≤ n) && decide (n ≤ 57))) := rfl
  cases h1 : decide (48 ≤ n) <;> cases h2 : decide (n ≤ 57)
  all_goals
    rw [h1, h2] at HE
    go_enter Tryz.func162, Tryz.ntmps162
    go_wp2_with fail
    go_ret
    exact ⟨by rw [HE.out]; rfl, rfl⟩
def nmB (i : Nat) (c : Int) : Bool := letB c || (!(i == 0) && (digB c || c == 95))
def AllN (s : ByteArray) : Prop := ∀ i c, s.data.toList[i]? = some c → nmB i (c.toNat : Int) = true
instance (s : ByteArray) : Decidable (AllN s) := decidable_of_iff (∀ i : Fin s.data.toList.length, nmB i (s.data.toList[i].toNat : Int) = true)
  ⟨fun h i c hc => by
    obtain ⟨hi, rfl⟩ := List.getElem?_eq_some_iff.1 hc
    exact h ⟨i, hi⟩, fun h i => h i _ (List.getElem?_eq_getElem i.2)⟩
def Nm (s : ByteArray) : Prop := AllN s ∧ 0 < s.size ∧ s.size ≤ 24
instance (s : ByteArray) : Decidable (Nm s) := by unfold Nm; infer_instance
theorem gr_iter (w : World) (s : ByteArray) (pos : Nat) : Gr w (w.iter s pos) := (Gr.refl w).alloc _
theorem byte_at (s : ByteArray) (pos : Nat) (h : pos < s.size) : s.data.toList[pos]? = some (s[pos]'h) := by
  rw [List.getElem?_eq_getElem (by simpa using h)]; rfl
theorem rune_at (s : ByteArray) (pos : Nat) (h : pos < s.size) : ((s[pos]'h).toNat < 128 ∧ Utf8.decode s pos = ((s[pos]'h).toNat, 1)) ∨ (128 ≤ (s[pos]'h).toNat ∧ 128 ≤ (Utf8.decode s pos).1) := by
  by_cases ha : (s[pos]'h).toNat < 128
  · exact .inl ⟨ha, decode_ascii s pos h ha⟩
  · exact .inr ⟨by omega, (decode_high s pos h (by omega)).1⟩
theorem nmB_high (i : Nat) {c : Int} (h : 128 ≤ c) : nmB i c = false := by
  have h1 : letB c = false := by unfold letB; simp; omega
  have h2 : digB c = false := by unfold digB; simp; omega
  have h3 : (c == 95) = false := by simp; omega
  unfold nmB
  rw [h1, h2, h3]; simp
end Go.Proofs.YtnihclhhbegjhaaGreatDoor
namespace Go.Proofs.YtnihclhhbegjhaaGreatDoor
open Go.RowKit Go.Lib
set_option linter.unusedSimpArgs false
set_option linter.unusedVariables false
def outB (n l h : Int) : Bool := decide (n < l) || decide (h < n)
def outE (n l h : Int) : Int := if outB n l h then 3 else 0
theorem if_c (b : Bool) (n : Int) (w : World) :
    Calls Tryz.prog 55 #[.bool b, .int .i64 n] w fun e w' => e = .returned (.int .i64 (if b then n else 0)) ∧ w = w' := by
  cases b
  · go_enter Tryz.func55, Tryz.ntmps55
    go_wp2_with fail
    go_ret
    exact ⟨rfl, rfl⟩
  · go_enter Tryz.func55, Tryz.ntmps55
    go_wp2_with fail
    go_ret
    exact ⟨rfl, rfl⟩
theorem range_c (n l h : Int) (w : World) :
    Calls Tryz.prog 96 #[.int .i64 n, .int .i64 l, .int .i64 h] w fun e w' => e = .returned (.int .i64 (outE n l h)) ∧ w = w' := by
  have HI := Lib.hid (fun b W => if_c b 3 W)
  cases h1 : decide (n < l)
  · cases h2 : decide (h < n)
    · have HE : Hid (outE n l h = 0) := by unfold Hid outE outB; rw [h1, h2]; rfl
      go_enter Tryz.func96, Tryz.ntmps96
      go_wp2_with fail
      refine (HI.out _ _).mono ?_
      rintro e w4 ⟨rfl, rfl⟩
      go_wp2_with fail
      go_ret
      exact ⟨by rw [HE.out]; rfl, rfl⟩
    · have HE : Hid (outE n l h = 3) := by unfold Hid outE outB; rw [h1, h2]; rfl
      go_enter Tryz.func96, Tryz.ntmps96
      go_wp2_with fail
      refine (HI.out _ _).mono ?_
      rintro e w4 ⟨rfl, rfl⟩
      go_wp2_with fail
      go_ret
      exact ⟨by rw [HE.out]; rfl, rfl⟩
  · have HE : Hid (outE n l h = 3) := by unfold Hid outE outB; rw [h1]; rfl
    go_enter Tryz.func96, Tryz.ntmps96
    go_wp2_with fail
    refine (HI.out _ _).mono ?_
    rintro e w4 ⟨rfl, rfl⟩
    go_wp2_with fail
    go_ret
    exact ⟨by rw [HE.out]; rfl, rfl⟩
def firstE : List Int → Int
  | [] => 0
  | e :: r => if e = 0 then firstE r else e
theorem firstE_drop {es : List Int} {k : Nat} {x : Int} (h : es[k]? = some x) : firstE (es.drop k) = if x = 0 then firstE (es.drop (k + 1)) else x := by
  have hk : k < es.length := by
    rcases Nat.lt_or_ge k es.length with h2 | h2
    · exact h2
    · rw [List.getElem?_eq_none h2] at h; cases h
  rw [List.drop_eq_getElem_cons hk]
  rw [List.getElem?_eq_getElem hk] at h
  simp only [Option.some.injEq] at h
  rw [h]; rfl
set_option maxHeartbeats 1000000 in
set_option maxRecDepth 100000 in
theorem first_c0 (b n cap : Nat) (es : List Int) (w : World) (hn : es.length = n) (hc : ∀ i x, es[i]? = some x → w.cell? ⟨b, i, none⟩ = some (.int .i64 x)) (hs : n ≤ 1000) :
    Calls Tryz.prog 53 #[.slice (some ⟨b, 0, none⟩) n cap] w fun e w' => e = .returned (.int .i64 (firstE es)) ∧ w = w' := by
  have HN := Lib.hid hn
  have HC := Lib.hid hc
  clear hc
  go_enter Tryz.func53, Tryz.ntmps53
  go_wp2_with fail
  go_loopg [7] n (fun g s7 wr => ∃ k : Nat, s7 = .int .i64 k ∧ g + k = n ∧ wr = w ∧ Hid (firstE (es.drop k) = firstE es))
  case atStart => exact ⟨0, rfl, by omega, rfl, by simp [Hid]⟩
  case round =>
    obtain ⟨k, rfl, hk, rfl, HF⟩ := hrel
    by_cases hlt : k < n
    · obtain ⟨x, hx⟩ : ∃ x, es[k]? = some x := ⟨es[k]'(by omega), List.getElem?_eq_getElem (by omega)⟩
      have hcell := HC.out k x hx
      have hf := firstE_drop hx
      by_cases h0 : x = 0
      · subst h0
        rw [if_pos rfl] at hf
        have HF2 := Lib.hid hf
        clear hf hx
        go_wp2_with fail
        go_roundg (gk - 1)
        case measure => omega
        case rel => exact ⟨k + 1, by go_num, by omega, rfl, by unfold Hid; rw [← HF2.out, HF.out]⟩
      · rw [if_neg h0] at hf
        have HF2 := Lib.hid hf
        have h1 : (x == 0) = false := by simpa using h0
        have h2 : (x != 0) = true := by simpa [bne] using h1
        clear hf hx h0
        go_wp2_with fail
        go_ret
        exact ⟨by rw [← HF.out, HF2.out]; rfl, rfl⟩
    · have : es.drop k = [] := List.drop_of_length_le (by omega)
      have HE : Hid (firstE es = 0) := by unfold Hid; rw [← HF.out, this]; rfl
      clear this
      go_wp2_with fail
      go_ret
      exact ⟨by rw [HE.out]; rfl, rfl⟩
theorem cell_new (W : World) (C : Array Value) (T j : Nat) (hj : j < C.size) : (W.alloc (.cells C T)).cell? ⟨W.heap.size, j, none⟩ = some C[j] := by
  simp only [World.cell?, heap_alloc_new]
  simp [hj]
theorem box2 (w : World) (a0 a1 : Value) (T : Nat) : ∃ W, w.alloc (.cells #[a0, a1] T) = W ∧ Gr w W ∧ W.cell? ⟨w.heap.size, 0, none⟩ = some a0 ∧ W.cell? ⟨w.heap.size, 1, none⟩ = some a1 :=
  ⟨_, rfl, (Gr.refl w).alloc _, cell_new w #[a0, a1] T 0 (by simp), cell_new w #[a0, a1] T 1 (by simp)⟩
theorem outE_or (n l h : Int) : outE n l h = 0 ∨ outE n l h = 3 := by
  unfold outE
  split
  · exact .inr rfl
  · exact .inl rfl
theorem first_four (x y z u : Int) (b cap : Nat) (w : World) (hx : w.cell? ⟨b, 0, none⟩ = some (.int .i64 x)) (hy : w.cell? ⟨b, 1, none⟩ = some (.int .i64 y)) (hz : w.cell? ⟨b, 2, none⟩ = some (.int .i64 z)) (hu : w.cell? ⟨b, 3, none⟩ = some (.int .i64 u)) :
    Calls Tryz.prog 53 #[.slice (some ⟨b, 0, none⟩) 4 cap] w fun e w' => e = .returned (.int .i64 (firstE [x, y, z, u])) ∧ w = w' :=
  first_c0 b 4 cap [x, y, z, u] w rfl (fun i v h => by
    rcases i with _ | _ | _ | _ | i <;> simp at h <;> subst h <;> assumption) (by omega)
theorem firstE_zero : ∀ {l : List Int}, firstE l = 0 → ∀ x ∈ l, x = 0
  | [], _, x, hx => by cases hx
  | y :: l, h, x, hx => by
    unfold firstE at h
    split at h
    · rename_i hy
      cases hx with
      | head => exact hy
      | tail _ hx => exact firstE_zero h x hx
    · rename_i hy
      exact absurd h hy
theorem box4 (w : World) (a0 a1 a2 a3 : Value) (T : Nat) : ∃ W, w.alloc (.cells #[a0, a1, a2, a3] T) = W ∧ Gr w W ∧ W.cell? ⟨w.heap.size, 0, none⟩ = some a0 ∧ W.cell? ⟨w.heap.size, 1, none⟩ = some a1 ∧ W.cell? ⟨w.heap.size, 2, none⟩ = some a2 ∧ W.cell? ⟨w.heap.size, 3, none⟩ = some a3 :=
  ⟨_, rfl, (Gr.refl w).alloc _, cell_new w #[a0, a1, a2, a3] T 0 (by simp), cell_new w #[a0, a1, a2, a3] T 1 (by simp), cell_new w #[a0, a1, a2, a3] T 2 (by simp), cell_new w #[a0, a1, a2, a3] T 3 (by simp)⟩
structure IntsV (w : World) (v : Value) (xs : List Int) : Prop where
  mk' ::
  out : ∃ p cap, v = .slice p xs.length cap ∧ (0 < xs.length → ∃ b off, p = some ⟨b, off, none⟩ ∧ ∀ i x, xs[i]? = some x → w.cell? ⟨b, off + i, none⟩ = some (.int .i64 x))
theorem IntsV.gr {w w' : World} {v : Value} {xs : List Int} (h : IntsV w v xs) (k : Gr w w') : IntsV w' v xs := by
  obtain ⟨⟨p, cap, rfl, hh⟩⟩ := h
  refine ⟨p, cap, rfl, fun h0 => ?_⟩
  obtain ⟨b, off, h1, h2⟩ := hh h0
  exact ⟨b, off, h1, fun i x hx => k.cell (h2 i x hx)⟩
end Go.Proofs.YtnihclhhbegjhaaGreatDoor
namespace Go.Proofs.YtnihclhhbegjhaaGreatDoor
open Go.RowKit Go.Lib
set_option linter.unusedSimpArgs false
set_option linter.unusedVariables false
theorem nm_no {s : ByteArray} {pos : Nat} {c : UInt8} (h : s.data.toList[pos]? = some c) (hc : nmB pos (c.toNat : Int) = false) : ¬ Nm s := fun hn => by
  have := hn.1 pos c h
  rw [hc] at this; cases this
theorem nm_end {s : ByteArray} (h : AllN s) : (s.size = 0 ∧ decide (Nm s) = false) ∨ ((0 < s.size ∧ s.size ≤ 24) ∧ decide (Nm s) = true) ∨ (24 < s.size ∧ decide (Nm s) = false) := by
  rcases Nat.eq_zero_or_pos s.size with h0 | h0
  · exact .inl ⟨h0, decide_eq_false (fun hn => by have := hn.2.1; omega)⟩
  · rcases Nat.lt_or_ge 24 s.size with h1 | h1
    · exact .inr (.inr ⟨h1, decide_eq_false (fun hn => by have := hn.2.2; omega)⟩)
    · exact .inr (.inl ⟨⟨h0, h1⟩, decide_eq_true ⟨h, h0, h1⟩⟩)
set_option maxHeartbeats 1000000 in
set_option maxRecDepth 100000 in
theorem isName_c (s : ByteArray) (w : World) :
    Calls Tryz.prog 98 #[.string s] w fun e w' => e = .returned (.bool (decide (Nm s))) ∧ Gr w w' := by
  go_enter Tryz.func98, Tryz.ntmps98
  go_wp2_with fail
  go_loopg [4] s.size (fun g s4 wr => ∃ pos : Nat, wr = w.iter s pos ∧ g + pos = s.size ∧ Hid (∀ i c, i < pos → s.data.toList[i]? = some c → nmB i (c.toNat : Int) = true))
  case atStart => exact ⟨0, rfl, by omega, fun i c h => absurd h (by omega)⟩
  case round =>
    obtain ⟨pos, rfl, hp, HI⟩ := hrel
    by_cases h : pos < s.size
    · have hnx : ∀ ty, (Instr.next (.pointer (some ⟨w.heap.size, 0, none⟩)) true ty).run Tryz.prog (w.iter s pos) = _ := fun ty => run_next_any w s pos ty h
      have hb := byte_at s pos h
      have hr := rune_at s pos h
      generalize s[pos]'h = c at *
      obtain ⟨x, y, hxy⟩ : ∃ x y, Utf8.decode s pos = (x, y) := ⟨_, _, rfl⟩
      have hc : (y = 1 ∧ (x : Int) = (c.toNat : Int) ∧ nmB pos (c.toNat : Int) = nmB pos x) ∨ (nmB pos x = false ∧ nmB pos (c.toNat : Int) = false) := by
        rcases hr with ⟨_, e⟩ | ⟨e1, e2⟩
        · rw [hxy] at e
          simp only [Prod.mk.injEq] at e
          obtain ⟨rfl, rfl⟩ := e
          exact .inl ⟨rfl, rfl, rfl⟩
        · rw [hxy] at e2
          exact .inr ⟨nmB_high pos (by simp at e2; omega), nmB_high pos (by omega)⟩
      rw [hxy] at hnx
      clear hr hxy
      have hE : nmB pos x = (letB x || (!(pos == 0) && (digB x || (x : Int) == 95))) := rfl
      have HL := fun W => isLetter_c x W
      have HD := fun W => isDigit_c x W
      have fin : nmB pos x = true → ∀ i d, i < pos + y → s.data.toList[i]? = some d → nmB i (d.toNat : Int) = true := by
        intro ht i d hi hd
        rcases hc with ⟨rfl, hx, e⟩ | ⟨e, _⟩
        · rcases Nat.lt_or_ge i pos with h2 | h2
          · exact HI.out i d h2 hd
          · obtain rfl : i = pos := by omega
            rw [hb] at hd
            simp only [Option.some.injEq] at hd
            rw [← hd, e, ht]
        · rw [e] at ht; cases ht
      have hy : nmB pos x = true → y = 1 := by
        intro ht
        rcases hc with ⟨rfl, _⟩ | ⟨e, _⟩
        · rfl
        · rw [e] at ht; cases ht
      have bad : nmB pos x = false → ¬ Nm s := by
        intro hf
        refine nm_no hb ?_
        rcases hc with ⟨_, _, e⟩ | ⟨_, e⟩
        · rw [e, hf]
        · exact e
      clear hc hb
      have hp0 : ((pos : Int) == 0) = (pos == 0) := by
        cases hh : pos == 0
        · have h1 : ¬ pos = 0 := by simpa using hh
          simpa using h1
        · have h1 : pos = 0 := by simpa using hh
          simpa using h1
      cases h1 : letB x <;> cases h0 : (pos == 0) <;> cases h2 : digB x <;> cases h3 : ((x : Int) == 95)
      all_goals
        rw [h1, h0, h2, h3] at hE
        rw [h0] at hp0
        rw [h1] at HL
        rw [h2] at HD
        simp only [Bool.false_or, Bool.true_or, Bool.and_false, Bool.and_true, Bool.not_true, Bool.not_false, Bool.false_and, Bool.true_and] at hE
        replace HL := Lib.hid HL
        replace HD := Lib.hid HD
        have FIN := Lib.hid fin
        have BAD := Lib.hid bad
        have HE := Lib.hid hE
        have HY := Lib.hid hy
        clear fin bad hE hy h1 h2 h0
        go_wp2_with (first
          | (go_at_call 161; refine (HL.out _).mono ?_; rintro e w' ⟨rfl, rfl⟩)
          | (go_at_call 162; refine (HD.out _).mono ?_; rintro e w' ⟨rfl, rfl⟩))
        first
          | (go_ret
             exact ⟨by rw [decide_eq_false (BAD.out HE.out)]; rfl, gr_iter _ _ _⟩)
          | (obtain rfl := HY.out HE.out
             go_roundg (gk - 1)
             case measure => omega
             case rel => exact ⟨pos + 1, rfl, by omega, FIN.out HE.out⟩)
    · have hnx : ∀ ty, (Instr.next (.pointer (some ⟨w.heap.size, 0, none⟩)) true ty).run Tryz.prog (w.iter s pos) = _ := fun ty => run_next_end w s pos ty h
      have hyes : AllN s := by
        intro i c hc
        have hi : i < s.size := by
          have := (List.getElem?_eq_some_iff.1 hc).1
          simpa using this
        exact HI.out i c (by omega) hc
      rcases nm_end hyes with ⟨h0, HY⟩ | ⟨⟨h0, h1⟩, HY⟩ | ⟨h0, HY⟩
      all_goals
        replace HY := Lib.hid HY
        clear hyes
        go_wp2_with fail
        go_ret
        exact ⟨by rw [HY.out]; first | rfl | (simp [Act.tmps]; omega) | (simp; omega), gr_iter _ _ _⟩
end Go.Proofs.YtnihclhhbegjhaaGreatDoor
namespace Go.Proofs.YtnihclhhbegjhaaGreatDoor
open Go.RowKit Go.Lib
set_option linter.unusedSimpArgs false
set_option linter.unusedVariables false
theorem nm_step {s : ByteArray} {k : Nat} {c : UInt8} (h : s.data.toList[k]? = some c) (hc : nmB k (c.toNat : Int) = true) (HI : ∀ i c, i < k → s.data.toList[i]? = some c → nmB i (c.toNat : Int) = true) :
    ∀ i c, i < k + 1 → s.data.toList[i]? = some c → nmB i (c.toNat : Int) = true := by
  intro i d hi hd
  rcases Nat.lt_or_ge i k with h2 | h2
  · exact HI i d h2 hd
  · obtain rfl : i = k := by omega
    rw [h] at hd
    simp only [Option.some.injEq] at hd
    rw [← hd, hc]
theorem nm_all {s : ByteArray} {k : Nat} (hk : s.size ≤ k) (HI : ∀ i c, i < k → s.data.toList[i]? = some c → nmB i (c.toNat : Int) = true) : AllN s := by
  intro i c hc
  have hi : i < s.size := by
    have := (List.getElem?_eq_some_iff.1 hc).1
    simpa using this
  exact HI i c (by omega) hc
structure Zone (c : Int) (a b d e f g h : Bool) : Prop where
  a : decide (97 ≤ c) = a
  b : decide (c ≤ 122) = b
  d : decide (65 ≤ c) = d
  e : decide (c ≤ 90) = e
  f : decide (48 ≤ c) = f
  g : decide (c ≤ 57) = g
  h : (c == 95) = h
theorem Zone.nm {c : Int} {a b d e f g h : Bool} (z : Zone c a b d e f g h) (k : Nat) : nmB k c = ((d && e) || (a && b) || (!(k == 0) && ((f && g) || h))) := by
  unfold nmB letB digB
  rw [z.a, z.b, z.d, z.e, z.f, z.g, z.h]
theorem zones (c : Int) : Zone c false true false true false true false ∨ Zone c false true false true true true false ∨ Zone c false true false true true false false ∨ Zone c false true true true true false false ∨ Zone c false true true false true false false ∨ Zone c false true true false true false true ∨ Zone c false true true false true false false ∨ Zone c true true true false true false false ∨ Zone c true false true false true false false := by
  have h : c < 48 ∨ (48 ≤ c ∧ c ≤ 57) ∨ (58 ≤ c ∧ c ≤ 64) ∨ (65 ≤ c ∧ c ≤ 90) ∨ (91 ≤ c ∧ c ≤ 94) ∨ c = 95 ∨ c = 96 ∨ (97 ≤ c ∧ c ≤ 122) ∨ 123 ≤ c := by omega
  rcases h with h | h | h | h | h | h | h | h | h
  · exact .inl ⟨by simp; omega, by simp; omega, by simp; omega, by simp; omega, by simp; omega, by simp; omega, by simp; omega⟩
  · exact .inr (.inl ⟨by simp; omega, by simp; omega, by simp; omega, by simp; omega, by simp; omega, by simp; omega, by simp; omega⟩)
  · exact .inr (.inr (.inl ⟨by simp; omega, by simp; omega, by simp; omega, by simp; omega, by simp; omega, by simp; omega, by simp; omega⟩))
  · exact .inr (.inr (.inr (.inl ⟨by simp; omega, by simp; omega, by simp; omega, by simp; omega, by simp; omega, by simp; omega, by simp; omega⟩)))
  · exact .inr (.inr (.inr (.inr (.inl ⟨by simp; omega, by simp; omega, by simp; omega, by simp; omega, by simp; omega, by simp; omega, by simp; omega⟩))))
  · exact .inr (.inr (.inr (.inr (.inr (.inl ⟨by simp; omega, by simp; omega, by simp; omega, by simp; omega, by simp; omega, by simp; omega, by simp; omega⟩)))))
  · exact .inr (.inr (.inr (.inr (.inr (.inr (.inl ⟨by simp; omega, by simp; omega, by simp; omega, by simp; omega, by simp; omega, by simp; omega, by simp; omega⟩))))))
  · exact .inr (.inr (.inr (.inr (.inr (.inr (.inr (.inl ⟨by simp; omega, by simp; omega, by simp; omega, by simp; omega, by simp; omega, by simp; omega, by simp; omega⟩)))))))
  · exact .inr (.inr (.inr (.inr (.inr (.inr (.inr (.inr (⟨by simp; omega, by simp; omega, by simp; omega, by simp; omega, by simp; omega, by simp; omega, by simp; omega⟩))))))))
set_option maxHeartbeats 1000000 in
set_option maxRecDepth 100000 in
theorem refIsName_c (s : ByteArray) (w : World) :
    Calls Tryz.prog 62 #[.string s] w fun e w' => e = .returned (.bool (decide (Nm s))) ∧ w = w' := by
  rcases Nat.eq_zero_or_pos s.size with h0 | hl0
  · have HE := Lib.hid (show decide (Nm s) = false from decide_eq_false (fun hn => by have := hn.2.1; omega))
    go_enter Tryz.func62, Tryz.ntmps62
    go_wp2_with fail
    go_ret
    exact ⟨by rw [HE.out]; rfl, rfl⟩
  rcases Nat.lt_or_ge 24 s.size with hl1 | hl1
  · have HE := Lib.hid (show decide (Nm s) = false from decide_eq_false (fun hn => by have := hn.2.2; omega))
    go_enter Tryz.func62, Tryz.ntmps62
    go_wp2_with fail
    go_ret
    exact ⟨by rw [HE.out]; rfl, rfl⟩
  go_enter Tryz.func62, Tryz.ntmps62
  go_wp2_with fail
  go_loopg [3] s.size (fun g s3 wr => ∃ k : Nat, s3 = .int .i64 k ∧ g + k = s.size ∧ wr = w ∧ Hid (∀ i c, i < k → s.data.toList[i]? = some c → nmB i (c.toNat : Int) = true))
  case atStart => exact ⟨0, rfl, by omega, rfl, fun i c h => absurd h (by omega)⟩
  case round =>
    obtain ⟨k, rfl, hk, rfl, HI⟩ := hrel
    by_cases h : k < s.size
    · have HB := Lib.hid (byte_at s k h)
      by_cases hk0 : k = 0
      · subst hk0
        have hk0' : True := trivial
        rcases zones ((s[0]'h).toNat : Int) with z | z | z | z | z | z | z | z | z
        all_goals
          obtain ⟨z1, z2, z3, z4, z5, z6, z7⟩ := z
          have HZ := Lib.hid (Zone.mk z1 z2 z3 z4 z5 z6 z7)
          go_wp2_with fail
          first
            | (go_ret
               exact ⟨by rw [decide_eq_false (nm_no HB.out (by rw [HZ.out.nm]; simp [hk0']))]; rfl, rfl⟩)
            | (go_roundg (gk - 1)
               case measure => omega
               case rel => exact ⟨1, rfl, by omega, rfl, nm_step HB.out (by rw [HZ.out.nm]; simp [hk0']) HI.out⟩)
      · have hk1 : 0 < k := by omega
        have hk0' : (k == 0) = false := by simpa using hk0
        have hk2 : ((k : Int) == 0) = false := by simpa using hk0
        rcases zones ((s[k]'h).toNat : Int) with z | z | z | z | z | z | z | z | z
        all_goals
          obtain ⟨z1, z2, z3, z4, z5, z6, z7⟩ := z
          have HZ := Lib.hid (Zone.mk z1 z2 z3 z4 z5 z6 z7)
          go_wp2_with fail
          first
            | (go_ret
               exact ⟨by rw [decide_eq_false (nm_no HB.out (by rw [HZ.out.nm]; simp [hk0']))]; rfl, rfl⟩)
            | (go_roundg (gk - 1)
               case measure => omega
               case rel => exact ⟨k + 1, by go_num, by omega, rfl, nm_step HB.out (by rw [HZ.out.nm]; simp [hk0']) HI.out⟩)
    · have HE := Lib.hid (show decide (Nm s) = true from decide_eq_true ⟨nm_all (k := k) (by omega) HI.out, hl0, hl1⟩)
      go_wp2_with fail
      go_ret
      exact ⟨by rw [HE.out]; rfl, rfl⟩
end Go.Proofs.YtnihclhhbegjhaaGreatDoor
namespace Go.Proofs.YtnihclhhbegjhaaGreatDoor
open Go.RowKit Go.Lib
set_option linter.unusedSimpArgs false
set_option linter.unusedVariables false
theorem box3 (w : World) (a0 a1 a2 : Value) (T : Nat) : ∃ W, w.alloc (.cells #[a0, a1, a2] T) = W ∧ Gr w W ∧ W.cell? ⟨w.heap.size, 0, none⟩ = some a0 ∧ W.cell? ⟨w.heap.size, 1, none⟩ = some a1 ∧ W.cell? ⟨w.heap.size, 2, none⟩ = some a2 :=
  ⟨_, rfl, (Gr.refl w).alloc _, cell_new w #[a0, a1, a2] T 0 (by simp), cell_new w #[a0, a1, a2] T 1 (by simp), cell_new w #[a0, a1, a2] T 2 (by simp)⟩
theorem if_e (b : Bool) (n : Int) : ∃ z, z = (if b then n else 0) ∧ ∀ W, Calls Tryz.prog 55 #[.bool b, .int .i64 n] W fun e w' => e = .returned (.int .i64 z) ∧ W = w' :=
  ⟨_, rfl, fun W => if_c b n W⟩
theorem op_at {l : List Oper} {i : Nat} {o : Oper} (h : l[i]? = some o) : l.toArray[i]? = some o := by rw [List.getElem?_toArray]; exact h
def StatesIn (w : World) : Prop := ∃ t fr, w.heap[0]? = some (.cells #[.string ⟨#[]⟩, .string ⟨#[100, 110, 115]⟩, .string ⟨#[100, 110, 102]⟩, .string ⟨#[100, 115, 113]⟩] t fr)
theorem StatesIn.gr {w w' : World} (h : StatesIn w) (k : Gr w w') : StatesIn w' := by
  obtain ⟨t, fr, h⟩ := h
  exact ⟨t, fr, k.block h⟩
theorem StatesIn.cells {w : World} (h : StatesIn w) : w.cell? ⟨0, 0, none⟩ = some (.string ⟨#[]⟩) ∧ w.cell? ⟨0, 1, none⟩ = some (.string ⟨#[100, 110, 115]⟩) ∧ w.cell? ⟨0, 2, none⟩ = some (.string ⟨#[100, 110, 102]⟩) ∧ w.cell? ⟨0, 3, none⟩ = some (.string ⟨#[100, 115, 113]⟩) := by
  obtain ⟨t, fr, h⟩ := h
  simp [World.cell?, h]
theorem box1 (w : World) (a0 : Value) (T : Nat) : ∃ W, w.alloc (.cells #[a0] T) = W ∧ Gr w W ∧ W.cell? ⟨w.heap.size, 0, none⟩ = some a0 :=
  ⟨_, rfl, (Gr.refl w).alloc _, cell_new w #[a0] T 0 (by simp)⟩
theorem info3 : (Tryz.prog.info? 3).map (fun i => (i.zero, i.size, i.bytes)) = some (some (.int .i64 0), 1, 8) := by kernel_rfl
def ints (xs : List Int) : List Value := xs.map (Value.int .i64)
end Go.Proofs.YtnihclhhbegjhaaGreatDoor
namespace Go.Proofs.YtnihclhhbegjhaaGreatDoor
open Go.RowKit Go.Lib
set_option linter.unusedSimpArgs false
set_option linter.unusedVariables false
def gradeZ (l : List UInt8) : Int := if l = [] then 0 else if l = [100, 110, 115] then 1 else if l = [100, 110, 102] then 2 else if l = [100, 115, 113] then 3 else -1
inductive Grade (l : List UInt8) : Prop where
  | none (h : l = [])
  | dns (h : l = [100, 110, 115])
  | dnf (h : l = [100, 110, 102])
  | dsq (h : l = [100, 115, 113])
  | other (h0 : l.isEmpty = false) (h1 : (l == [100, 110, 115]) = false) (h2 : (l == [100, 110, 102]) = false) (h3 : (l == [100, 115, 113]) = false)
theorem grade_of (l : List UInt8) : Grade l := by
  by_cases h0 : l = []
  · exact .none h0
  by_cases h1 : l = [100, 110, 115]
  · exact .dns h1
  by_cases h2 : l = [100, 110, 102]
  · exact .dnf h2
  by_cases h3 : l = [100, 115, 113]
  · exact .dsq h3
  exact .other (by cases l with | nil => exact absurd rfl h0 | cons _ _ => rfl) (by simpa using h1) (by simpa using h2) (by simpa using h3)
theorem gradeZ_other {l : List UInt8} (h0 : l.isEmpty = false) (h1 : (l == [100, 110, 115]) = false) (h2 : (l == [100, 110, 102]) = false) (h3 : (l == [100, 115, 113]) = false) : gradeZ l = -1 := by
  unfold gradeZ
  rw [if_neg (by intro e; rw [e] at h0; cases h0), if_neg (by simpa using h1), if_neg (by simpa using h2), if_neg (by simpa using h3)]
theorem beq_flip {a b : List UInt8} (h : (a == b) = false) : (b == a) = false := by
  cases hh : b == a with
  | false => rfl
  | true => rw [eq_of_beq hh] at h; simp at h
end Go.Proofs.YtnihclhhbegjhaaGreatDoor
namespace Go.Proofs.YtnihclhhbegjhaaGreatDoor
open Go.RowKit Go.Lib
set_option linter.unusedSimpArgs false
set_option linter.unusedVariables false
def valsE (xs : List Int) : Int := firstE (xs.map fun n => outE n (-999999999) 999999999)
theorem valsE_drop {xs : List Int} {k : Nat} {x : Int} (h : xs[k]? = some x) : valsE (xs.drop k) = if outE x (-999999999) 999999999 = 0 then valsE (xs.drop (k + 1)) else outE x (-999999999) 999999999 := by
  unfold valsE
  rw [List.map_drop, List.map_drop]
  exact firstE_drop (by rw [List.getElem?_map, h]; rfl)
end Go.Proofs.YtnihclhhbegjhaaGreatDoor
namespace Go.Proofs.YtnihclhhbegjhaaGreatDoor
open Go.RowKit Go.Lib
set_option linter.unusedSimpArgs false
set_option linter.unusedVariables false
end Go.Proofs.YtnihclhhbegjhaaGreatDoor
namespace Go.Proofs.YtnihclhhbegjhaaGreatDoor
open Go.RowKit Go.Lib
set_option linter.unusedSimpArgs false
set_option linter.unusedVariables false
def cmpZ (a b : Int) : Int := if decide (a < b) then -1 else if decide (b < a) then 1 else 0
theorem cmpZ_zero {a b : Int} (h : cmpZ a b = 0) : a = b := by
  unfold cmpZ at h
  split at h
  · cases h
  split at h
  · cases h
  · rename_i h1 h2
    simp at h1 h2; omega
theorem isNaN_c (x : Int) (w : World) :
    Calls Tryz.prog 169 #[.int .i64 x] w fun e w' => e = .returned (.bool false) ∧ w = w' := by
  go_enter Tryz.func169, Tryz.ntmps169
  go_wp2_with fail
  go_ret
  exact ⟨by simp, rfl⟩
theorem cmpInt_c (x y : Int) (w : World) :
    Calls Tryz.prog 113 #[.int .i64 x, .int .i64 y] w fun e w' => e = .returned (.int .i64 (cmpZ x y)) ∧ w = w' := by
  have HX := Lib.hid (fun W => isNaN_c x W)
  have HY := Lib.hid (fun W => isNaN_c y W)
  have HE : Hid (cmpZ x y = if decide (x < y) then -1 else if decide (y < x) then 1 else 0) := rfl
  cases h1 : decide (x < y) <;> cases h2 : decide (y < x)
  all_goals
    rw [h1, h2] at HE
    go_enter Tryz.func113, Tryz.ntmps113
    go_wp2_with fail
    repeat (first
      | (with_reducible refine (HX.out _).mono ?_; rintro e w4 ⟨rfl, rfl⟩; go_wp2_with fail)
      | (with_reducible refine (HY.out _).mono ?_; rintro e w4 ⟨rfl, rfl⟩; go_wp2_with fail))
    go_ret
    exact ⟨by rw [HE.out]; rfl, rfl⟩
set_option maxRecDepth 100000 in
theorem or_c (x y : Int) (b cap : Nat) (w : World) (hx : w.cell? ⟨b, 0, none⟩ = some (.int .i64 x)) (hy : w.cell? ⟨b, 1, none⟩ = some (.int .i64 y)) :
    Calls Tryz.prog 112 #[.slice (some ⟨b, 0, none⟩) 2 cap] w fun e w' => e = .returned (.int .i64 (firstE [x, y])) ∧ Gr w w' := by
  have HE : Hid (firstE [x, y] = if x = 0 then (if y = 0 then 0 else y) else x) := rfl
  go_enter Tryz.func112, Tryz.ntmps112
  go_wp2_with fail
  refine wp_loop_rounds 3 ?_
  rw [rounds_succ]
  by_cases h1 : x = 0
  · subst h1
    rw [if_pos rfl] at HE
    go_wp2_with fail
    rw [rounds_succ]
    by_cases h2 : y = 0
    · subst h2
      go_wp2_with fail
      rw [rounds_succ]
      go_wp2_with fail
      go_ret
      exact ⟨by rw [HE.out]; rfl, Gr.refl _⟩
    · have hd : (y == 0) = false := by simpa using h2
      have hd2 : (y != 0) = true := by simpa [bne] using hd
      rw [if_neg h2] at HE
      clear h2
      go_wp2_with fail
      go_ret
      exact ⟨by rw [HE.out]; rfl, Gr.refl _⟩
  · have hd : (x == 0) = false := by simpa using h1
    have hd2 : (x != 0) = true := by simpa [bne] using hd
    rw [if_neg h1] at HE
    clear h1
    go_wp2_with fail
    go_ret
    exact ⟨by rw [HE.out]; rfl, Gr.refl _⟩
end Go.Proofs.YtnihclhhbegjhaaGreatDoor
namespace Go.Proofs.YtnihclhhbegjhaaGreatDoor
open Go.RowKit Go.Lib
set_option linter.unusedSimpArgs false
set_option linter.unusedVariables false
end Go.Proofs.YtnihclhhbegjhaaGreatDoor
namespace Go.Proofs.YtnihclhhbegjhaaGreatDoor
open Go.RowKit Go.Lib
set_option linter.unusedSimpArgs false
set_option linter.unusedVariables false
end Go.Proofs.YtnihclhhbegjhaaGreatDoor
namespace Go.Proofs.YtnihclhhbegjhaaGreatDoor
open Go.RowKit Go.Lib
set_option linter.unusedSimpArgs false
set_option linter.unusedVariables false
structure Gd (w w' : World) : Prop where
  gr : Gr w w'
  dr : w.drawn ≤ w'.drawn
theorem Gd.refl (w : World) : Gd w w := ⟨Gr.refl w, Nat.le_refl _⟩
theorem Gd.trans {a b c : World} (h : Gd a b) (k : Gd b c) : Gd a c := ⟨h.gr.trans k.gr, Nat.le_trans h.dr k.dr⟩
theorem Gd.drew {w w' : World} (h : Gd w w') : Gd w w'.drew := ⟨h.gr.drew, Nat.le_succ_of_le h.dr⟩
theorem Gd.drewN {w w' : World} (h : Gd w w') (n : Nat) : Gd w (w'.drewN n) := ⟨h.gr.drewN n, Nat.le_trans h.dr (Nat.le_add_right _ _)⟩
theorem Gd.alloc {w w' : World} (h : Gd w w') (o : Obj) : Gd w (w'.alloc o) := ⟨h.gr.alloc o, h.dr⟩
theorem Gd.cell {w w' : World} (h : Gd w w') {p : Addr} {v : Value} (hp : w.cell? p = some v) : w'.cell? p = some v := h.gr.cell hp
end Go.Proofs.YtnihclhhbegjhaaGreatDoor
namespace Go.Proofs.YtnihclhhbegjhaaGreatDoor
open Go.RowKit Go.Lib
set_option linter.unusedSimpArgs false
set_option linter.unusedVariables false
structure RowR where
  nm : ByteArray
  st : ByteArray
  u : Value
  xs : List Int
structure RowAt (w : World) (b off : Nat) (x : RowR) : Prop where
  nm : w.cell? ⟨b, off, none⟩ = some (.string x.nm)
  st : w.cell? ⟨b, off + 1, none⟩ = some (.string x.st)
  u : w.cell? ⟨b, off + 2, none⟩ = some x.u
  val : IntsV w x.u x.xs
  len : x.xs.length ≤ 1000
theorem RowAt.gr {w w' : World} {b off : Nat} {x : RowR} (h : RowAt w b off x) (k : Gr w w') : RowAt w' b off x := ⟨k.cell h.nm, k.cell h.st, k.cell h.u, h.val.gr k, h.len⟩
end Go.Proofs.YtnihclhhbegjhaaGreatDoor
namespace Go.Proofs.YtnihclhhbegjhaaGreatDoor
open Go.RowKit Go.Lib
set_option linter.unusedSimpArgs false
set_option linter.unusedVariables false
def firstP (Q : RowR → Bool) (xs : List RowR) : Nat → Nat → Int
  | 0, _ => -1
  | k + 1, i => match xs[i]? with
    | some x => if Q x then i else firstP Q xs k (i + 1)
    | none => -1
theorem firstP_step {Q : RowR → Bool} {xs : List RowR} {i n : Nat} {x : RowR} (h : xs[i]? = some x) (hi : i < n) : firstP Q xs (n - i) i = if Q x then (i : Int) else firstP Q xs (n - (i + 1)) (i + 1) := by
  obtain ⟨k, hk⟩ : ∃ k, n - i = k + 1 := ⟨n - i - 1, by omega⟩
  rw [hk, show n - (i + 1) = k by omega]
  simp only [firstP, h]
theorem firstP_end {Q : RowR → Bool} {xs : List RowR} {i n : Nat} (h : n ≤ i) : firstP Q xs (n - i) i = -1 := by
  rw [show n - i = 0 by omega]; rfl
def dupR (xs : List RowR) (i : Nat) (nm : ByteArray) : Bool := (xs.take i).any fun y => y.nm.toList == nm.toList
def isNm (nm : ByteArray) (y : RowR) : Bool := y.nm.toList == nm.toList
end Go.Proofs.YtnihclhhbegjhaaGreatDoor
namespace Go.Proofs.YtnihclhhbegjhaaGreatDoor
open Go.RowKit Go.Lib
set_option linter.unusedSimpArgs false
set_option linter.unusedVariables false
end Go.Proofs.YtnihclhhbegjhaaGreatDoor
namespace Go.Proofs.YtnihclhhbegjhaaGreatDoor
open Go.RowKit Go.Lib
set_option linter.unusedSimpArgs false
set_option linter.unusedVariables false
structure RowsV (w : World) (v : Value) (xs : List RowR) : Prop where
  mk' ::
  out : ∃ p cap, v = .slice p xs.length cap ∧ (xs.length ≤ cap ∧ cap ≤ maxLen) ∧ (0 < xs.length → ∃ b off, p = some ⟨b, off, none⟩ ∧ ∀ i x, xs[i]? = some x → RowAt w b (off + i * 3) x)
theorem RowsV.gr {w w' : World} {v : Value} {xs : List RowR} (h : RowsV w v xs) (k : Gr w w') : RowsV w' v xs := by
  obtain ⟨⟨p, cap, rfl, hcap, hh⟩⟩ := h
  refine ⟨p, cap, rfl, hcap, fun h0 => ?_⟩
  obtain ⟨b, off, h1, h2⟩ := hh h0
  exact ⟨b, off, h1, fun i x hx => (h2 i x hx).gr k⟩
end Go.Proofs.YtnihclhhbegjhaaGreatDoor
namespace Go.Proofs.YtnihclhhbegjhaaGreatDoor
open Go.RowKit Go.Lib
set_option linter.unusedSimpArgs false
set_option linter.unusedVariables false
def errG {α : Type} (E : Nat → α → Int) (xs : List α) : Nat → Nat → Int
  | 0, _ => 0
  | k + 1, i => match xs[i]? with
    | some x => if E i x = 0 then errG E xs k (i + 1) else E i x
    | none => 0
theorem errG_step {α : Type} {E : Nat → α → Int} {xs : List α} {n i : Nat} {x : α} (hi : i < n) (h : xs[i]? = some x) : errG E xs (n - i) i = if E i x = 0 then errG E xs (n - (i + 1)) (i + 1) else E i x := by
  obtain ⟨k, hk⟩ : ∃ k, n - i = k + 1 := ⟨n - i - 1, by omega⟩
  have hk2 : n - (i + 1) = k := by omega
  rw [hk, hk2]
  simp only [errG, h]
def nmE (s : ByteArray) : Int := if Nm s then 0 else 8
theorem bx5 (w : World) (a0 a1 a2 a3 a4 : Value) (T : Nat) : ∃ W, w.alloc (.cells #[a0, a1, a2, a3, a4] T) = W ∧ Gr w W ∧ W.cell? ⟨w.heap.size, 0, none⟩ = some a0 ∧ W.cell? ⟨w.heap.size, 1, none⟩ = some a1 ∧ W.cell? ⟨w.heap.size, 2, none⟩ = some a2 ∧ W.cell? ⟨w.heap.size, 3, none⟩ = some a3 ∧ W.cell? ⟨w.heap.size, 4, none⟩ = some a4 :=
  ⟨_, rfl, (Gr.refl w).alloc _, cell_new w #[a0, a1, a2, a3, a4] T 0 (by simp), cell_new w #[a0, a1, a2, a3, a4] T 1 (by simp), cell_new w #[a0, a1, a2, a3, a4] T 2 (by simp), cell_new w #[a0, a1, a2, a3, a4] T 3 (by simp), cell_new w #[a0, a1, a2, a3, a4] T 4 (by simp)⟩
theorem fst5 (x y z u q : Int) (b cap : Nat) (w : World) (hx : w.cell? ⟨b, 0, none⟩ = some (.int .i64 x)) (hy : w.cell? ⟨b, 1, none⟩ = some (.int .i64 y)) (hz : w.cell? ⟨b, 2, none⟩ = some (.int .i64 z)) (hu : w.cell? ⟨b, 3, none⟩ = some (.int .i64 u)) (hq : w.cell? ⟨b, 4, none⟩ = some (.int .i64 q)) :
    Calls Tryz.prog 53 #[.slice (some ⟨b, 0, none⟩) 5 cap] w fun e w' => e = .returned (.int .i64 (firstE [x, y, z, u, q])) ∧ w = w' :=
  first_c0 b 5 cap [x, y, z, u, q] w rfl (fun i v h => by
    rcases i with _ | _ | _ | _ | _ | i <;> simp at h <;> subst h <;> assumption) (by omega)
theorem range_e (n l h : Int) : ∃ z, z = outE n l h ∧ ∀ W, Calls Tryz.prog 96 #[.int .i64 n, .int .i64 l, .int .i64 h] W fun e w' => e = .returned (.int .i64 z) ∧ W = w' :=
  ⟨_, rfl, fun W => range_c n l h W⟩
end Go.Proofs.YtnihclhhbegjhaaGreatDoor
namespace Go.Proofs.YtnihclhhbegjhaaGreatDoor
open Go.RowKit Go.Lib
set_option linter.unusedSimpArgs false
set_option linter.unusedVariables false
end Go.Proofs.YtnihclhhbegjhaaGreatDoor
namespace Go.Proofs.YtnihclhhbegjhaaGreatDoor
open Go.RowKit Go.Lib
set_option linter.unusedSimpArgs false
set_option linter.unusedVariables false
theorem offName_c (s : ByteArray) (w : World) :
    Calls Tryz.prog 57 #[.string s] w fun e w' => e = .returned (.int .i64 (nmE s)) ∧ Gr w w' := by
  have HN := Lib.hid (isName_c s w)
  have HI := Lib.hid (fun b W => if_c b 8 W)
  cases h : decide (Nm s)
  · have HE : Hid (nmE s = 8) := by unfold Hid nmE; rw [if_neg (of_decide_eq_false h)]
    rw [h] at HN
    go_enter Tryz.func57, Tryz.ntmps57
    go_wp2_with fail
    refine HN.out.mono ?_
    rintro e w4 ⟨rfl, hg⟩
    go_wp2_with fail
    refine (HI.out _ _).mono ?_
    rintro e w5 ⟨rfl, rfl⟩
    go_wp2_with fail
    go_ret
    exact ⟨by rw [HE.out]; rfl, hg⟩
  · have HE : Hid (nmE s = 0) := by unfold Hid nmE; rw [if_pos (of_decide_eq_true h)]
    rw [h] at HN
    go_enter Tryz.func57, Tryz.ntmps57
    go_wp2_with fail
    refine HN.out.mono ?_
    rintro e w4 ⟨rfl, hg⟩
    go_wp2_with fail
    refine (HI.out _ _).mono ?_
    rintro e w5 ⟨rfl, rfl⟩
    go_wp2_with fail
    go_ret
    exact ⟨by rw [HE.out]; rfl, hg⟩
theorem oname_e (s : ByteArray) : ∃ z, z = nmE s ∧ ∀ W, Calls Tryz.prog 57 #[.string s] W fun e w' => e = .returned (.int .i64 z) ∧ Gr W w' :=
  ⟨_, rfl, fun W => offName_c s W⟩
theorem one_cO (i n : Int) (w : World) :
    Calls Tryz.prog 104 #[.int .i64 i, .int .i64 n] w fun e w' => e = .returned (.int .i64 (outE n (-999999999) 999999999)) ∧ w = w' := by
  have HR := Lib.hid (fun W => range_c n (-999999999) 999999999 W)
  go_enter Tryz.func104, Tryz.ntmps104
  go_wp2_with fail
  refine (HR.out _).mono ?_
  rintro e w4 ⟨rfl, rfl⟩
  go_wp2_with fail
  go_ret
  exact ⟨rfl, rfl⟩
set_option maxHeartbeats 1000000 in
set_option maxRecDepth 100000 in
theorem findV_posO (xs : List Int) (n b off cap : Nat) (w : World) (hn : xs.length = n) (hc : ∀ i x, xs[i]? = some x → w.cell? ⟨b, off + i, none⟩ = some (.int .i64 x)) (hs : n ≤ 1000) :
    Calls Tryz.prog 164 #[.slice (some ⟨b, off, none⟩) n cap, .func (.func 104) #[] #[]] w fun e w' => (∃ i : Int, e = .returned (.tuple #[.int .i64 i, .int .i64 (valsE xs)])) ∧ w = w' := by
  have HN := Lib.hid hn
  have HC := Lib.hid hc
  clear hc
  go_enter Tryz.func164, Tryz.ntmps164
  go_wp2_with fail
  go_loopg [11] n (fun g s11 wr => ∃ k : Nat, s11 = .int .i64 k ∧ g + k = n ∧ wr = w ∧ Hid (valsE (xs.drop k) = valsE xs))
  case atStart => exact ⟨0, rfl, by omega, rfl, by simp [Hid]⟩
  case round =>
    obtain ⟨k, rfl, hk, rfl, HF⟩ := hrel
    by_cases hlt : k < n
    · obtain ⟨x, hx⟩ : ∃ x, xs[k]? = some x := ⟨xs[k]'(by omega), List.getElem?_eq_getElem (by omega)⟩
      have hcell := HC.out k x hx
      have hf := valsE_drop hx
      have HT : ∀ i W, _ := fun i W => one_cO i x W
      clear hx
      rcases outE_or x (-999999999) 999999999 with h0 | h0
      · rw [h0] at HT hf
        rw [if_pos rfl] at hf
        replace HT := Lib.hid HT
        have HF2 := Lib.hid hf
        clear hf h0
        go_wp2_with (refine (HT.out _ _).mono ?_; rintro e w4 ⟨rfl, rfl⟩)
        go_roundg (gk - 1)
        case measure => omega
        case rel => exact ⟨k + 1, by go_num, by omega, rfl, by unfold Hid; rw [← HF2.out, HF.out]⟩
      · rw [h0] at HT hf
        rw [if_neg (by decide)] at hf
        replace HT := Lib.hid HT
        have HF2 := Lib.hid hf
        clear hf h0
        go_wp2_with (refine (HT.out _ _).mono ?_; rintro e w4 ⟨rfl, rfl⟩)
        exact bodyPost_ret (v := .tuple #[.int .i64 k, .int .i64 3]) (by simp [results, Tryz.results164, go_sem]) rfl ⟨⟨k, by rw [← HF.out, HF2.out]⟩, rfl⟩
    · have : xs.drop k = [] := List.drop_of_length_le (by omega)
      have HE : Hid (valsE xs = 0) := by unfold Hid; rw [← HF.out, this]; rfl
      clear this
      go_wp2_with fail
      exact bodyPost_ret (v := .tuple #[.int .i64 0, .int .i64 0]) (by simp [results, Tryz.results164, go_sem]) rfl ⟨⟨0, by rw [HE.out]⟩, rfl⟩
set_option maxRecDepth 100000 in
theorem findV_nilO (p : Option Addr) (cap : Nat) (w : World) :
    Calls Tryz.prog 164 #[.slice p 0 cap, .func (.func 104) #[] #[]] w fun e w' => (∃ i : Int, e = .returned (.tuple #[.int .i64 i, .int .i64 0])) ∧ w = w' := by
  go_enter Tryz.func164, Tryz.ntmps164
  go_wp2_with fail
  refine wp_loop_rounds 1 ?_
  rw [rounds_succ]
  go_wp2_with fail
  exact bodyPost_ret (v := .tuple #[.int .i64 0, .int .i64 0]) (by simp [results, Tryz.results164, go_sem]) rfl ⟨⟨0, rfl⟩, rfl⟩
theorem eachV_cO {v : Value} {xs : List Int} (w : World) (h : IntsV w v xs) (hs : xs.length ≤ 1000) :
    Calls Tryz.prog 103 #[v, .func (.func 104) #[] #[]] w fun e w' => e = .returned (.int .i64 (valsE xs)) ∧ w = w' := by
  have HF : Hid (Calls Tryz.prog 164 #[v, .func (.func 104) #[] #[]] w fun e w' => (∃ i : Int, e = .returned (.tuple #[.int .i64 i, .int .i64 (valsE xs)])) ∧ w = w') := by
    obtain ⟨⟨p, cap, rfl, hh⟩⟩ := h
    by_cases h0 : 0 < xs.length
    · obtain ⟨b, off, rfl, hc⟩ := hh h0
      exact findV_posO xs _ b off cap w rfl hc hs
    · have : xs = [] := List.eq_nil_of_length_eq_zero (by omega)
      subst this
      exact findV_nilO p cap w
  obtain ⟨⟨p, cap, rfl, _⟩⟩ := h
  go_enter Tryz.func103, Tryz.ntmps103
  go_wp2_with fail
  refine HF.out.mono ?_
  rintro e w4 ⟨⟨i, rfl⟩, rfl⟩
  go_wp2_with fail
  go_ret
  exact ⟨rfl, rfl⟩
set_option maxHeartbeats 1000000 in
set_option maxRecDepth 100000 in
theorem isState_c (s : ByteArray) (w : World) (h : s.toList.isEmpty = false) :
    Calls Tryz.prog 101 #[.string s] w fun e w' => e = .returned (.bool (!(gradeZ s.toList == -1))) ∧ w = w' := by
  have HG : ∀ z, (!(gradeZ s.toList == -1)) = z → Hid ((!(gradeZ s.toList == -1)) = z) := fun z h => h
  rcases grade_of s.toList with h1 | h1 | h1 | h1 | ⟨h0, h1, h2, h3⟩
  · rw [h1] at h; cases h
  · replace HG := HG true (by rw [h1]; rfl)
    go_enter Tryz.func101, Tryz.ntmps101
    go_wp2_with fail
    go_ret
    exact ⟨by rw [HG.out]; rfl, rfl⟩
  · replace HG := HG true (by rw [h1]; rfl)
    go_enter Tryz.func101, Tryz.ntmps101
    go_wp2_with fail
    go_ret
    exact ⟨by rw [HG.out]; rfl, rfl⟩
  · replace HG := HG true (by rw [h1]; rfl)
    go_enter Tryz.func101, Tryz.ntmps101
    go_wp2_with fail
    go_ret
    exact ⟨by rw [HG.out]; rfl, rfl⟩
  · replace HG := HG false (by rw [gradeZ_other h0 h1 h2 h3]; rfl)
    go_enter Tryz.func101, Tryz.ntmps101
    go_wp2_with fail
    go_ret
    exact ⟨by rw [HG.out]; rfl, rfl⟩
def st4 : List ByteArray := [⟨#[]⟩, ⟨#[100, 110, 115]⟩, ⟨#[100, 110, 102]⟩, ⟨#[100, 115, 113]⟩]
theorem st4_cells (w : World) (T : TypeId) : ∀ i t, st4[i]? = some t → (w.alloc (.cells #[.string ⟨#[]⟩, .string ⟨#[100, 110, 115]⟩, .string ⟨#[100, 110, 102]⟩, .string ⟨#[100, 115, 113]⟩] T)).cell? ⟨w.heap.size, 0 + i, none⟩ = some (.string t) := by
  intro i t h
  rw [Nat.zero_add]
  rcases i with _ | _ | _ | _ | i
  · simp [st4] at h; subst h; exact cell_new w #[_, _, _, _] T 0 (by simp)
  · simp [st4] at h; subst h; exact cell_new w #[_, _, _, _] T 1 (by simp)
  · simp [st4] at h; subst h; exact cell_new w #[_, _, _, _] T 2 (by simp)
  · simp [st4] at h; subst h; exact cell_new w #[_, _, _, _] T 3 (by simp)
  · simp [st4] at h
def fitO (va : Int) (x : RowR) : Bool := if x.st.toList.isEmpty then decide ((x.xs.length : Int) = va) else decide (x.xs.length = 0)
set_option maxHeartbeats 1000000 in
set_option maxRecDepth 100000 in
theorem fits_c (ro : ByteArray) (va : Int) (st : ByteArray) (v : Value) (x : RowR) (w : World) (hv : IntsV w x.u x.xs) :
    Calls Tryz.prog 102 #[.agg #[.string ro, .int .i64 va, .string st, v], .agg #[.string x.nm, .string x.st, x.u]] w fun e w' => e = .returned (.bool (fitO va x)) ∧ Gr w w' := by
  obtain ⟨⟨pu, cu, hu, _⟩⟩ := id hv
  rw [hu]
  have HFt : ∀ b, fitO va x = b → Hid (fitO va x = b) := fun _ h => h
  cases he : x.st.toList.isEmpty
  · have he2 : ¬ x.st.toList = [] := by intro q; rw [q] at he; cases he
    replace HFt := HFt (decide (x.xs.length = 0)) (by unfold fitO; rw [he]; rfl)
    generalize x.xs.length = n at *
    clear hv hu
    go_enter Tryz.func102, Tryz.ntmps102
    go_wp2_with fail
    go_ret
    exact ⟨by rw [HFt.out]; simp; try (rw [Bool.eq_iff_iff]; simp), ((Gr.refl w).alloc _).alloc _⟩
  · have he2 : x.st.toList = [] := by simpa using he
    replace HFt := HFt (decide ((x.xs.length : Int) = va)) (by unfold fitO; rw [he]; rfl)
    generalize x.xs.length = n at *
    clear hv hu
    go_enter Tryz.func102, Tryz.ntmps102
    go_wp2_with fail
    go_ret
    exact ⟨by rw [HFt.out]; simp; try (rw [Bool.eq_iff_iff]; simp), ((Gr.refl w).alloc _).alloc _⟩
end Go.Proofs.YtnihclhhbegjhaaGreatDoor
namespace Go.Proofs.YtnihclhhbegjhaaGreatDoor
open Go.RowKit Go.Lib
set_option linter.unusedSimpArgs false
set_option linter.unusedVariables false
end Go.Proofs.YtnihclhhbegjhaaGreatDoor
namespace Go.Proofs.YtnihclhhbegjhaaGreatDoor
open Go.RowKit Go.Lib
set_option linter.unusedSimpArgs false
set_option linter.unusedVariables false
structure ReadsI (w : World) (v : Value) (xs : List Int) : Prop where
  mk' ::
  out : ∃ p cap, v = .slice p xs.length cap ∧ (0 < xs.length → ∃ g, p = some ⟨g, 0, none⟩ ∧ ∀ i x, xs[i]? = some x → w.cell? ⟨g, i, none⟩ = some (.int .i64 x))
theorem ReadsI.gr {w w' : World} {v : Value} {xs : List Int} (h : ReadsI w v xs) (k : Gr w w') : ReadsI w' v xs := by
  obtain ⟨⟨p, cap, rfl, hh⟩⟩ := h
  refine ⟨p, cap, rfl, fun h0 => ?_⟩
  obtain ⟨g, h1, h2⟩ := hh h0
  exact ⟨g, h1, fun i x hx => k.cell (h2 i x hx)⟩
end Go.Proofs.YtnihclhhbegjhaaGreatDoor
namespace Go.Proofs.YtnihclhhbegjhaaGreatDoor
open Go.RowKit Go.Lib
set_option linter.unusedSimpArgs false
set_option linter.unusedVariables false
end Go.Proofs.YtnihclhhbegjhaaGreatDoor
namespace Go.Proofs.YtnihclhhbegjhaaGreatDoor
open Go.RowKit Go.Lib
set_option linter.unusedSimpArgs false
set_option linter.unusedVariables false
def lookG {α : Type} (ks : List (ByteArray × α)) (k : ByteArray) : Option α := (ks.find? fun p => p.1.toList == k.toList).map (·.2)
def putG {α : Type} : List (ByteArray × α) → ByteArray → α → List (ByteArray × α)
  | [], k, v => [(k, v)]
  | p :: r, k, v => if p.1.toList == k.toList then (k, v) :: r else p :: putG r k v
def pairG {α : Type} (ev : α → Value) (p : ByteArray × α) : Value × Value := (.string p.1, ev p.2)
section
variable {α : Type} {ev : α → Value}
structure MapG (ev : α → Value) (w : World) (g : Nat) (ks : List (ByteArray × α)) : Prop where
  mk' ::
  out : ∃ es clock, w.heap[g]? = some (.map ⟨es⟩ clock) ∧ es.map (fun e : MapEntry => (e.key, e.val)) = ks.map (pairG ev)
theorem MapG.gr {w w' : World} {g : Nat} {ks : List (ByteArray × α)} (h : MapG ev w g ks) (k : Gr w w') : MapG ev w' g ks := by
  obtain ⟨⟨es, clock, h1, h2⟩⟩ := h
  exact ⟨es, clock, k.block h1, h2⟩
theorem same_strG (a b : ByteArray) : Instr.sameNow .string (.string a) (.string b) = some (b.toList == a.toList) := by
  simp only [Instr.sameNow]
  rw [beq_toListBytes, Bool.beq_comm]
theorem mapG_find {k : ByteArray} : ∀ {es : List MapEntry} {ks : List (ByteArray × α)} (i : Nat), es.map (fun e : MapEntry => (e.key, e.val)) = ks.map (pairG ev) →
    match lookG ks k with
    | some v => ∃ j, Instr.findNow .string (.string k) es i = some (some (i + j, ev v)) ∧ j < es.length ∧ ∃ e s, es[j]? = some e ∧ e.key = .string s ∧ s.toList = k.toList ∧ e.val = ev v ∧ ∀ u, (es.modify j fun e => { e with key := .string k, val := ev u }).map (fun e : MapEntry => (e.key, e.val)) = (putG ks k u).map (pairG ev)
    | none => Instr.findNow .string (.string k) es i = some none ∧ ∀ u, putG ks k u = ks ++ [(k, u)]
  | [], [], i, _ => by simp [Instr.findNow, lookG, putG]
  | [], _ :: _, _, h => by simp at h
  | _ :: _, [], _, h => by simp at h
  | e :: es, z :: ks, i, h => by
    simp only [List.map_cons, List.cons.injEq, pairG, Prod.mk.injEq] at h
    obtain ⟨⟨h1, h2⟩, h3⟩ := h
    have ih := mapG_find (k := k) (i + 1) h3
    by_cases hz : (z.1.toList == k.toList) = true
    · have hl : lookG (z :: ks) k = some z.2 := by simp [lookG, List.find?_cons, hz]
      rw [hl]
      refine ⟨0, ?_, by simp, e, z.1, rfl, h1, by simpa using hz, h2, fun u => ?_⟩
      · simp [Instr.findNow, h1, h2, same_strG, hz]
      · simp [putG, hz, pairG, h3]
    · have hz' : (z.1.toList == k.toList) = false := by simpa using hz
      have hl : lookG (z :: ks) k = lookG ks k := by simp [lookG, List.find?_cons, hz']
      rw [hl]
      cases hq : lookG ks k with
      | some v =>
        rw [hq] at ih
        obtain ⟨j, h4, h5, e2, s, h6, h7, h8, h9, h10⟩ := ih
        refine ⟨j + 1, ?_, by simp; omega, e2, s, by simpa using h6, h7, h8, h9, fun u => ?_⟩
        · rw [show i + (j + 1) = i + 1 + j by omega, ← h4]
          simp [Instr.findNow, h1, same_strG, hz']
        · have := h10 u
          simp only [putG, hz', List.modify_succ_cons, List.map_cons, this, h1, h2]
          simp [pairG]
      | none =>
        rw [hq] at ih
        refine ⟨?_, fun u => by simp [putG, hz', ih.2 u]⟩
        rw [← ih.1]
        simp [Instr.findNow, h1, same_strG, hz']
theorem uStrG : Tryz.prog.underlying 9 = some .string := by kernel_rfl
theorem run_undG {t : TypeId} {d : TypeDesc} (h : Tryz.prog.underlying t = some d) (w : World) : (underlying t).run Tryz.prog w = .ok d w := run_underlying h w
theorem checkKeyG (e : Bool) (k : Value) (w : World) : (Instr.checkKey e 10000 9 k).run Tryz.prog w = .ok () w := by
  unfold Instr.checkKey
  simp only [Sem.run_bind, run_undG uStrG, Result.andThen_ok]
  rfl
def putGB (w : World) (g : Nat) (ob : Obj) : World := { w with heap := w.heap.setIfInBounds g ob }
theorem mapG_look {tm tv : TypeId} {z : Value} (hu : Tryz.prog.underlying tm = some (.map 9 tv)) (hz : ∀ w, (zeroValue tv).run Tryz.prog w = .ok z w) {w : World} {g : Nat} {ks : List (ByteArray × α)} (h : MapG ev w g ks) (k : ByteArray) : (Instr.lookup tm (.map (some g)) (.string k) false).run Tryz.prog w = .ok (((lookG ks k).map ev).getD z) w := by
  obtain ⟨⟨es, clock, h1, h2⟩⟩ := h
  have hg : (getObj g).run Tryz.prog w = .ok (.map ⟨es⟩ clock) w := by simp [getObj, Sem.run, h1]
  have hf := mapG_find (k := k) 0 h2
  unfold Instr.lookup
  cases hk : lookG ks k with
  | some v =>
    rw [hk] at hf
    obtain ⟨j, h3, _⟩ := hf
    have hfk := Go.MapKept.run_findKey (P := Tryz.prog) (w := w) uStrG h3
    simp only [Sem.run_bind, run_undG hu, Result.andThen_ok, Sem.run_pure, hg, checkKeyG, hfk]
    simp
  | none =>
    rw [hk] at hf
    have hfk := Go.MapKept.run_findKey (P := Tryz.prog) (w := w) uStrG hf.1
    simp only [Sem.run_bind, run_undG hu, Result.andThen_ok, Sem.run_pure, hg, checkKeyG, hfk]
    simp [hz]
theorem mapG_put {tm tv : TypeId} (hu : Tryz.prog.underlying tm = some (.map 9 tv)) {w : World} {g : Nat} {ks : List (ByteArray × α)} (h : MapG ev w g ks) (k : ByteArray) (u : α) : ∃ ob, (Instr.mapUpdate tm (.map (some g)) (.string k) (ev u)).run Tryz.prog w = .ok () (putGB w g ob) ∧ MapG ev (putGB w g ob) g (putG ks k u) := by
  obtain ⟨⟨es, clock, h1, h2⟩⟩ := h
  have hg : (getObj g).run Tryz.prog w = .ok (.map ⟨es⟩ clock) w := by simp [getObj, Sem.run, h1]
  have hset : ∀ ob, (setObj g ob).run Tryz.prog w = .ok () (putGB w g ob) := fun ob => by simp [setObj, Sem.run, h1, putGB]
  have hlt := (Array.getElem?_eq_some_iff.1 h1).1
  have hput : ∀ ob, (putGB w g ob).heap[g]? = some ob := fun ob => by simp [putGB, hlt]
  have hf := mapG_find (k := k) 0 h2
  cases hk : lookG ks k with
  | some v =>
    rw [hk] at hf
    obtain ⟨j, h3, h4, e, s, h5, h6, h7, h8, h9⟩ := hf
    rw [Nat.zero_add] at h3
    have hfk := Go.MapKept.run_findKey (P := Tryz.prog) (w := w) uStrG h3
    have hsk : s = k := by
      rw [ByteArray.toList_eq, ByteArray.toList_eq] at h7
      exact ByteArray.ext (Array.toList_inj.1 h7)
    subst hsk
    have hss : (s == s) = true := by rw [beq_toListBytes]; simp
    refine ⟨.map ⟨es.modify j fun e => { e with key := .string s, val := ev u }⟩ clock, ?_, ?_⟩
    · simp [Instr.mapUpdate, run_undG hu, hg, checkKeyG, hfk, hset, h5, h6, Instr.keyThatStays, Instr.sameBits, hss]
    · exact ⟨_, _, hput _, h9 u⟩
  | none =>
    rw [hk] at hf
    have hfk := Go.MapKept.run_findKey (P := Tryz.prog) (w := w) uStrG hf.1
    refine ⟨.map ⟨es ++ [⟨.string k, ev u, clock⟩]⟩ (clock + 1), ?_, ?_⟩
    · simp [Instr.mapUpdate, run_undG hu, hg, checkKeyG, hfk, hset]
    · exact ⟨_, _, hput _, by rw [hf.2 u]; simp [h2, pairG]⟩
theorem mapG_new (w : World) : MapG ev (w.alloc (.map #[] 0)) w.heap.size [] := ⟨[], 0, heap_alloc_new _ _, rfl⟩
theorem gr_putG {w0 w : World} {g : Nat} {ob : Obj} (h : Gr w0 w) (hg : w0.heap.size ≤ g) : Gr w0 (putGB w g ob) := by
  have hsz : (putGB w g ob).heap.size = w.heap.size := by simp [putGB]
  refine ⟨h.os, h.tape, h.output, by rw [hsz]; exact h.size, fun k hk => ?_⟩
  have hne : ¬ g = k := by omega
  rw [← Below.block h k hk]
  simp [putGB, hne]
end
end Go.Proofs.YtnihclhhbegjhaaGreatDoor
