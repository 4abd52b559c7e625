/- Names: number.IsName and the reference's. -/
import Derived.Test.YtcnpmebihdonoaaGreatDoorGNat
import Derived.Laws.RangeAny
import Derived.Deep.LoopGhost
import Derived.Deep.DrawnRows
import Derived.Deep.RegionHeld3
import Derived.BigCall
import Derived.Maps.AppendAt
namespace Go.Proofs.YtcnpmebihdonoaaGreatDoor
set_option linter.unusedSimpArgs false
set_option linter.unusedVariables false
open Go.RowKit Go.Lib
/-- letters, digits and the underline -/
def letB (c : Int) : Bool := (decide (65 ≤ c) && decide (c ≤ 90)) || (decide (97 ≤ c) && decide (c ≤ 122))
def digB (c : Int) : Bool := decide (48 ≤ c) && decide (c ≤ 57)
theorem isLetter_c (n : Int) (w : World) :
    Calls Tryz.prog 122 #[.int .i32 n] w fun e w' => e = .returned (.bool (letB n)) ∧ w = w' := by
  have HE : Hid (letB n = ((decide (65 ≤ n) && decide (n ≤ 90)) || (decide (97 ≤ n) && decide (n ≤ 122)))) := rfl
  cases h1 : decide (65 ≤ n) <;> cases h2 : decide (n ≤ 90) <;> cases h3 : decide (97 ≤ n) <;> cases h4 : decide (n ≤ 122)
  all_goals
    rw [h1, h2, h3, h4] at HE
    go_enter Tryz.func122, Tryz.ntmps122
    go_wp2_with fail
    go_ret
    exact ⟨by rw [HE.out]; rfl, rfl⟩
theorem isDigit_c (n : Int) (w : World) :
    Calls Tryz.prog 123 #[.int .i32 n] w fun e w' => e = .returned (.bool (digB n)) ∧ w = w' := by
  have HE : Hid (digB n = (decide (48 ≤ n) && decide (n ≤ 57))) := rfl
  cases h1 : decide (48 ≤ n) <;> cases h2 : decide (n ≤ 57)
  all_goals
    rw [h1, h2] at HE
    go_enter Tryz.func123, Tryz.ntmps123
    go_wp2_with fail
    go_ret
    exact ⟨by rw [HE.out]; rfl, rfl⟩
/-- what a name may have at a place -/
def nmB (i : Nat) (c : Int) : Bool := letB c || (!(i == 0) && (digB c || c == 95))
/-- names, with any length -/
def AllN (s : ByteArray) : Prop := ∀ i c, s.data.toList[i]? = some c → nmB i (c.toNat : Int) = true
instance (s : ByteArray) : Decidable (AllN s) := decidable_of_iff (∀ i : Fin s.data.toList.length, nmB i (s.data.toList[i].toNat : Int) = true)
  ⟨fun h i c hc => by
    obtain ⟨hi, rfl⟩ := List.getElem?_eq_some_iff.1 hc
    exact h ⟨i, hi⟩, fun h i => h i _ (List.getElem?_eq_getElem i.2)⟩
/-- a name -/
def Nm (s : ByteArray) : Prop := AllN s ∧ 0 < s.size ∧ s.size ≤ 24
instance (s : ByteArray) : Decidable (Nm s) := by unfold Nm; infer_instance
theorem gr_iter (w : World) (s : ByteArray) (pos : Nat) : Gr w (w.iter s pos) := (Gr.refl w).alloc _
theorem byte_at (s : ByteArray) (pos : Nat) (h : pos < s.size) : s.data.toList[pos]? = some (s[pos]'h) := by
  rw [List.getElem?_eq_getElem (by simpa using h)]; rfl
theorem tl (s : ByteArray) : s.toList = s.data.toList := ByteArray.toList_eq s
/-- a rune at a place: a byte, or no letter -/
theorem rune_at (s : ByteArray) (pos : Nat) (h : pos < s.size) : ((s[pos]'h).toNat < 128 ∧ Utf8.decode s pos = ((s[pos]'h).toNat, 1)) ∨ (128 ≤ (s[pos]'h).toNat ∧ 128 ≤ (Utf8.decode s pos).1) := by
  by_cases ha : (s[pos]'h).toNat < 128
  · exact .inl ⟨ha, decode_ascii s pos h ha⟩
  · exact .inr ⟨by omega, (decode_high s pos h (by omega)).1⟩
theorem nmB_high (i : Nat) {c : Int} (h : 128 ≤ c) : nmB i c = false := by
  have h1 : letB c = false := by unfold letB; simp; omega
  have h2 : digB c = false := by unfold digB; simp; omega
  have h3 : (c == 95) = false := by simp; omega
  unfold nmB
  rw [h1, h2, h3]; simp
end Go.Proofs.YtcnpmebihdonoaaGreatDoor
namespace Go.Proofs.YtcnpmebihdonoaaGreatDoor
open Go.RowKit Go.Lib
set_option linter.unusedSimpArgs false
set_option linter.unusedVariables false
/-- out of a range -/
def outB (n l h : Int) : Bool := decide (n < l) || decide (h < n)
def outE (n l h : Int) : Int := if outB n l h then 3 else 0
theorem if_c (b : Bool) (n : Int) (w : World) :
    Calls Tryz.prog 54 #[.bool b, .int .i64 n] w fun e w' => e = .returned (.int .i64 (if b then n else 0)) ∧ w = w' := by
  cases b
  · go_enter Tryz.func54, Tryz.ntmps54
    go_wp2_with fail
    go_ret
    exact ⟨rfl, rfl⟩
  · go_enter Tryz.func54, Tryz.ntmps54
    go_wp2_with fail
    go_ret
    exact ⟨rfl, rfl⟩
theorem range_c (n l h : Int) (w : World) :
    Calls Tryz.prog 50 #[.int .i64 n, .int .i64 l, .int .i64 h] w fun e w' => e = .returned (.int .i64 (outE n l h)) ∧ w = w' := by
  have HI := Lib.hid (fun b W => if_c b 3 W)
  cases h1 : decide (n < l)
  · cases h2 : decide (h < n)
    · have HE : Hid (outE n l h = 0) := by unfold Hid outE outB; rw [h1, h2]; rfl
      go_enter Tryz.func50, Tryz.ntmps50
      go_wp2_with fail
      refine (HI.out _ _).mono ?_
      rintro e w4 ⟨rfl, rfl⟩
      go_wp2_with fail
      go_ret
      exact ⟨by rw [HE.out]; rfl, rfl⟩
    · have HE : Hid (outE n l h = 3) := by unfold Hid outE outB; rw [h1, h2]; rfl
      go_enter Tryz.func50, Tryz.ntmps50
      go_wp2_with fail
      refine (HI.out _ _).mono ?_
      rintro e w4 ⟨rfl, rfl⟩
      go_wp2_with fail
      go_ret
      exact ⟨by rw [HE.out]; rfl, rfl⟩
  · have HE : Hid (outE n l h = 3) := by unfold Hid outE outB; rw [h1]; rfl
    go_enter Tryz.func50, Tryz.ntmps50
    go_wp2_with fail
    refine (HI.out _ _).mono ?_
    rintro e w4 ⟨rfl, rfl⟩
    go_wp2_with fail
    go_ret
    exact ⟨by rw [HE.out]; rfl, rfl⟩
/-- the first error that is not 0 -/
def firstE : List Int → Int
  | [] => 0
  | e :: r => if e = 0 then firstE r else e
theorem firstE_drop {es : List Int} {k : Nat} {x : Int} (h : es[k]? = some x) : firstE (es.drop k) = if x = 0 then firstE (es.drop (k + 1)) else x := by
  have hk : k < es.length := by
    rcases Nat.lt_or_ge k es.length with h2 | h2
    · exact h2
    · rw [List.getElem?_eq_none h2] at h; cases h
  rw [List.drop_eq_getElem_cons hk]
  rw [List.getElem?_eq_getElem hk] at h
  simp only [Option.some.injEq] at h
  rw [h]; rfl
set_option maxHeartbeats 1000000 in
set_option maxRecDepth 100000 in
theorem first_c0 (b n cap : Nat) (es : List Int) (w : World) (hn : es.length = n) (hc : ∀ i x, es[i]? = some x → w.cell? ⟨b, i, none⟩ = some (.int .i64 x)) (hs : n ≤ 1000) :
    Calls Tryz.prog 49 #[.slice (some ⟨b, 0, none⟩) n cap] w fun e w' => e = .returned (.int .i64 (firstE es)) ∧ w = w' := by
  have HN := Lib.hid hn
  have HC := Lib.hid hc
  clear hc
  go_enter Tryz.func49, Tryz.ntmps49
  go_wp2_with fail
  go_loopg [7] n (fun g s7 wr => ∃ k : Nat, s7 = .int .i64 k ∧ g + k = n ∧ wr = w ∧ Hid (firstE (es.drop k) = firstE es))
  case atStart => exact ⟨0, rfl, by omega, rfl, by simp [Hid]⟩
  case round =>
    obtain ⟨k, rfl, hk, rfl, HF⟩ := hrel
    by_cases hlt : k < n
    · obtain ⟨x, hx⟩ : ∃ x, es[k]? = some x := ⟨es[k]'(by omega), List.getElem?_eq_getElem (by omega)⟩
      have hcell := HC.out k x hx
      have hf := firstE_drop hx
      by_cases h0 : x = 0
      · subst h0
        rw [if_pos rfl] at hf
        have HF2 := Lib.hid hf
        clear hf hx
        go_wp2_with fail
        go_roundg (gk - 1)
        case measure => omega
        case rel => exact ⟨k + 1, by go_num, by omega, rfl, by unfold Hid; rw [← HF2.out, HF.out]⟩
      · rw [if_neg h0] at hf
        have HF2 := Lib.hid hf
        have h1 : (x == 0) = false := by simpa using h0
        have h2 : (x != 0) = true := by simpa [bne] using h1
        clear hf hx h0
        go_wp2_with fail
        go_ret
        exact ⟨by rw [← HF.out, HF2.out]; rfl, rfl⟩
    · have : es.drop k = [] := List.drop_of_length_le (by omega)
      have HE : Hid (firstE es = 0) := by unfold Hid; rw [← HF.out, this]; rfl
      clear this
      go_wp2_with fail
      go_ret
      exact ⟨by rw [HE.out]; rfl, rfl⟩
/-- a call that changes nothing, in a region that draws -/
theorem quietE {P : Program} {f : FuncId} {args : Array Value} {w : World} {n : Nat} {v : Value} (h : Calls P f args (w.drewN n) fun e w' => e = .returned v ∧ w.drewN n = w') : Calls P f args (w.drewN n) fun e w'' => e = .returned v ∧ ∃ m, w'' = w.drewN m :=
  h.mono fun _ _ ⟨he, hm⟩ => ⟨he, n, hm.symm⟩
theorem cell_new (W : World) (C : Array Value) (T j : Nat) (hj : j < C.size) : (W.alloc (.cells C T)).cell? ⟨W.heap.size, j, none⟩ = some C[j] := by
  simp only [World.cell?, heap_alloc_new]
  simp [hj]
theorem box2 (w : World) (a0 a1 : Value) (T : Nat) : ∃ W, w.alloc (.cells #[a0, a1] T) = W ∧ Gr w W ∧ W.cell? ⟨w.heap.size, 0, none⟩ = some a0 ∧ W.cell? ⟨w.heap.size, 1, none⟩ = some a1 :=
  ⟨_, rfl, (Gr.refl w).alloc _, cell_new w #[a0, a1] T 0 (by simp), cell_new w #[a0, a1] T 1 (by simp)⟩
theorem outE_zero {n l h : Int} : outE n l h = 0 ↔ l ≤ n ∧ n ≤ h := by
  unfold outE outB
  by_cases h1 : n < l
  · simp [h1] <;> omega
  · by_cases h2 : h < n
    · simp [h2] <;> omega
    · simp [h1, h2] <;> omega
theorem outE_or (n l h : Int) : outE n l h = 0 ∨ outE n l h = 3 := by
  unfold outE
  split
  · exact .inr rfl
  · exact .inl rfl
theorem first_four (x y z u : Int) (b cap : Nat) (w : World) (hx : w.cell? ⟨b, 0, none⟩ = some (.int .i64 x)) (hy : w.cell? ⟨b, 1, none⟩ = some (.int .i64 y)) (hz : w.cell? ⟨b, 2, none⟩ = some (.int .i64 z)) (hu : w.cell? ⟨b, 3, none⟩ = some (.int .i64 u)) :
    Calls Tryz.prog 49 #[.slice (some ⟨b, 0, none⟩) 4 cap] w fun e w' => e = .returned (.int .i64 (firstE [x, y, z, u])) ∧ w = w' :=
  first_c0 b 4 cap [x, y, z, u] w rfl (fun i v h => by
    rcases i with _ | _ | _ | _ | i <;> simp at h <;> subst h <;> assumption) (by omega)
theorem firstE_zero : ∀ {l : List Int}, firstE l = 0 → ∀ x ∈ l, x = 0
  | [], _, x, hx => by cases hx
  | y :: l, h, x, hx => by
    unfold firstE at h
    split at h
    · rename_i hy
      cases hx with
      | head => exact hy
      | tail _ hx => exact firstE_zero h x hx
    · rename_i hy
      exact absurd h hy
theorem box4 (w : World) (a0 a1 a2 a3 : Value) (T : Nat) : ∃ W, w.alloc (.cells #[a0, a1, a2, a3] T) = W ∧ Gr w W ∧ W.cell? ⟨w.heap.size, 0, none⟩ = some a0 ∧ W.cell? ⟨w.heap.size, 1, none⟩ = some a1 ∧ W.cell? ⟨w.heap.size, 2, none⟩ = some a2 ∧ W.cell? ⟨w.heap.size, 3, none⟩ = some a3 :=
  ⟨_, rfl, (Gr.refl w).alloc _, cell_new w #[a0, a1, a2, a3] T 0 (by simp), cell_new w #[a0, a1, a2, a3] T 1 (by simp), cell_new w #[a0, a1, a2, a3] T 2 (by simp), cell_new w #[a0, a1, a2, a3] T 3 (by simp)⟩
/-- the slice v reads as the integers xs -/
structure IntsV (w : World) (v : Value) (xs : List Int) : Prop where
  mk' ::
  out : ∃ p cap, v = .slice p xs.length cap ∧ (0 < xs.length → ∃ b off, p = some ⟨b, off, none⟩ ∧ ∀ i x, xs[i]? = some x → w.cell? ⟨b, off + i, none⟩ = some (.int .i64 x))
theorem IntsV.gr {w w' : World} {v : Value} {xs : List Int} (h : IntsV w v xs) (k : Gr w w') : IntsV w' v xs := by
  obtain ⟨⟨p, cap, rfl, hh⟩⟩ := h
  refine ⟨p, cap, rfl, fun h0 => ?_⟩
  obtain ⟨b, off, h1, h2⟩ := hh h0
  exact ⟨b, off, h1, fun i x hx => k.cell (h2 i x hx)⟩
end Go.Proofs.YtcnpmebihdonoaaGreatDoor
namespace Go.Proofs.YtcnpmebihdonoaaGreatDoor
open Go.RowKit Go.Lib
set_option linter.unusedSimpArgs false
set_option linter.unusedVariables false
theorem nm_no {s : ByteArray} {pos : Nat} {c : UInt8} (h : s.data.toList[pos]? = some c) (hc : nmB pos (c.toNat : Int) = false) : ¬ Nm s := fun hn => by
  have := hn.1 pos c h
  rw [hc] at this; cases this
theorem nm_end {s : ByteArray} (h : AllN s) : (s.size = 0 ∧ decide (Nm s) = false) ∨ ((0 < s.size ∧ s.size ≤ 24) ∧ decide (Nm s) = true) ∨ (24 < s.size ∧ decide (Nm s) = false) := by
  rcases Nat.eq_zero_or_pos s.size with h0 | h0
  · exact .inl ⟨h0, decide_eq_false (fun hn => by have := hn.2.1; omega)⟩
  · rcases Nat.lt_or_ge 24 s.size with h1 | h1
    · exact .inr (.inr ⟨h1, decide_eq_false (fun hn => by have := hn.2.2; omega)⟩)
    · exact .inr (.inl ⟨⟨h0, h1⟩, decide_eq_true ⟨h, h0, h1⟩⟩)
set_option maxHeartbeats 1000000 in
set_option maxRecDepth 100000 in
theorem isName_c (s : ByteArray) (w : World) :
    Calls Tryz.prog 81 #[.string s] w fun e w' => e = .returned (.bool (decide (Nm s))) ∧ Gr w w' := by
  go_enter Tryz.func81, Tryz.ntmps81
  go_wp2_with fail
  go_loopg [4] s.size (fun g s4 wr => ∃ pos : Nat, wr = w.iter s pos ∧ g + pos = s.size ∧ Hid (∀ i c, i < pos → s.data.toList[i]? = some c → nmB i (c.toNat : Int) = true))
  case atStart => exact ⟨0, rfl, by omega, fun i c h => absurd h (by omega)⟩
  case round =>
    obtain ⟨pos, rfl, hp, HI⟩ := hrel
    by_cases h : pos < s.size
    · have hnx : ∀ ty, (Instr.next (.pointer (some ⟨w.heap.size, 0, none⟩)) true ty).run Tryz.prog (w.iter s pos) = _ := fun ty => run_next_any w s pos ty h
      have hb := byte_at s pos h
      have hr := rune_at s pos h
      generalize s[pos]'h = c at *
      obtain ⟨x, y, hxy⟩ : ∃ x y, Utf8.decode s pos = (x, y) := ⟨_, _, rfl⟩
      have hc : (y = 1 ∧ (x : Int) = (c.toNat : Int) ∧ nmB pos (c.toNat : Int) = nmB pos x) ∨ (nmB pos x = false ∧ nmB pos (c.toNat : Int) = false) := by
        rcases hr with ⟨_, e⟩ | ⟨e1, e2⟩
        · rw [hxy] at e
          simp only [Prod.mk.injEq] at e
          obtain ⟨rfl, rfl⟩ := e
          exact .inl ⟨rfl, rfl, rfl⟩
        · rw [hxy] at e2
          exact .inr ⟨nmB_high pos (by simp at e2; omega), nmB_high pos (by omega)⟩
      rw [hxy] at hnx
      clear hr hxy
      have hE : nmB pos x = (letB x || (!(pos == 0) && (digB x || (x : Int) == 95))) := rfl
      have HL := fun W => isLetter_c x W
      have HD := fun W => isDigit_c x W
      have fin : nmB pos x = true → ∀ i d, i < pos + y → s.data.toList[i]? = some d → nmB i (d.toNat : Int) = true := by
        intro ht i d hi hd
        rcases hc with ⟨rfl, hx, e⟩ | ⟨e, _⟩
        · rcases Nat.lt_or_ge i pos with h2 | h2
          · exact HI.out i d h2 hd
          · obtain rfl : i = pos := by omega
            rw [hb] at hd
            simp only [Option.some.injEq] at hd
            rw [← hd, e, ht]
        · rw [e] at ht; cases ht
      have hy : nmB pos x = true → y = 1 := by
        intro ht
        rcases hc with ⟨rfl, _⟩ | ⟨e, _⟩
        · rfl
        · rw [e] at ht; cases ht
      have bad : nmB pos x = false → ¬ Nm s := by
        intro hf
        refine nm_no hb ?_
        rcases hc with ⟨_, _, e⟩ | ⟨_, e⟩
        · rw [e, hf]
        · exact e
      clear hc hb
      have hp0 : ((pos : Int) == 0) = (pos == 0) := by
        cases hh : pos == 0
        · have h1 : ¬ pos = 0 := by simpa using hh
          simpa using h1
        · have h1 : pos = 0 := by simpa using hh
          simpa using h1
      cases h1 : letB x <;> cases h0 : (pos == 0) <;> cases h2 : digB x <;> cases h3 : ((x : Int) == 95)
      all_goals
        rw [h1, h0, h2, h3] at hE
        rw [h0] at hp0
        rw [h1] at HL
        rw [h2] at HD
        simp only [Bool.false_or, Bool.true_or, Bool.and_false, Bool.and_true, Bool.not_true, Bool.not_false, Bool.false_and, Bool.true_and] at hE
        replace HL := Lib.hid HL
        replace HD := Lib.hid HD
        have FIN := Lib.hid fin
        have BAD := Lib.hid bad
        have HE := Lib.hid hE
        have HY := Lib.hid hy
        clear fin bad hE hy h1 h2 h0
        go_wp2_with (first
          | (go_at_call 122; refine (HL.out _).mono ?_; rintro e w' ⟨rfl, rfl⟩)
          | (go_at_call 123; refine (HD.out _).mono ?_; rintro e w' ⟨rfl, rfl⟩))
        first
          | (go_ret
             exact ⟨by rw [decide_eq_false (BAD.out HE.out)]; rfl, gr_iter _ _ _⟩)
          | (obtain rfl := HY.out HE.out
             go_roundg (gk - 1)
             case measure => omega
             case rel => exact ⟨pos + 1, rfl, by omega, FIN.out HE.out⟩)
    · have hnx : ∀ ty, (Instr.next (.pointer (some ⟨w.heap.size, 0, none⟩)) true ty).run Tryz.prog (w.iter s pos) = _ := fun ty => run_next_end w s pos ty h
      have hyes : AllN s := by
        intro i c hc
        have hi : i < s.size := by
          have := (List.getElem?_eq_some_iff.1 hc).1
          simpa using this
        exact HI.out i c (by omega) hc
      rcases nm_end hyes with ⟨h0, HY⟩ | ⟨⟨h0, h1⟩, HY⟩ | ⟨h0, HY⟩
      all_goals
        replace HY := Lib.hid HY
        clear hyes
        go_wp2_with fail
        go_ret
        exact ⟨by rw [HY.out]; first | rfl | (simp [Act.tmps]; omega) | (simp; omega), gr_iter _ _ _⟩
end Go.Proofs.YtcnpmebihdonoaaGreatDoor
