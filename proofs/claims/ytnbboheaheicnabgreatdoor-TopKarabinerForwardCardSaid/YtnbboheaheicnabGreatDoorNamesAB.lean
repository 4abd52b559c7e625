/- Names: number.IsName and the reference's, walked. -/
import Derived.Test.YtnbboheaheicnabGreatDoorNames
namespace Go.Proofs.YtnbboheaheicnabGreatDoor
open Go.RowKit Go.Lib
set_option linter.unusedSimpArgs false
set_option linter.unusedVariables false
theorem nm_no {s : ByteArray} {pos : Nat} {c : UInt8} (h : s.data.toList[pos]? = some c) (hc : nmB pos (c.toNat : Int) = false) : ¬ Nm s := fun hn => by
  have := hn.1 pos c h
  rw [hc] at this; cases this
theorem nm_end {s : ByteArray} (h : AllN s) : (s.size = 0 ∧ decide (Nm s) = false) ∨ ((0 < s.size ∧ s.size ≤ 24) ∧ decide (Nm s) = true) ∨ (24 < s.size ∧ decide (Nm s) = false) := by
  rcases Nat.eq_zero_or_pos s.size with h0 | h0
  · exact .inl ⟨h0, decide_eq_false (fun hn => by have := hn.2.1; omega)⟩
  · rcases Nat.lt_or_ge 24 s.size with h1 | h1
    · exact .inr (.inr ⟨h1, decide_eq_false (fun hn => by have := hn.2.2; omega)⟩)
    · exact .inr (.inl ⟨⟨h0, h1⟩, decide_eq_true ⟨h, h0, h1⟩⟩)
set_option maxHeartbeats 1000000 in
set_option maxRecDepth 100000 in
theorem isName_c (s : ByteArray) (w : World) :
    Calls Tryz.prog 74 #[.string s] w fun e w' => e = .returned (.bool (decide (Nm s))) ∧ Gr w w' := by
  go_enter Tryz.func74, Tryz.ntmps74
  go_wp2_with fail
  go_loopg [4] s.size (fun g s4 wr => ∃ pos : Nat, wr = w.iter s pos ∧ g + pos = s.size ∧ Hid (∀ i c, i < pos → s.data.toList[i]? = some c → nmB i (c.toNat : Int) = true))
  case atStart => exact ⟨0, rfl, by omega, fun i c h => absurd h (by omega)⟩
  case round =>
    obtain ⟨pos, rfl, hp, HI⟩ := hrel
    by_cases h : pos < s.size
    · have hnx : ∀ ty, (Instr.next (.pointer (some ⟨w.heap.size, 0, none⟩)) true ty).run Tryz.prog (w.iter s pos) = _ := fun ty => run_next_any w s pos ty h
      have hb := byte_at s pos h
      have hr := rune_at s pos h
      generalize s[pos]'h = c at *
      obtain ⟨x, y, hxy⟩ : ∃ x y, Utf8.decode s pos = (x, y) := ⟨_, _, rfl⟩
      have hc : (y = 1 ∧ (x : Int) = (c.toNat : Int) ∧ nmB pos (c.toNat : Int) = nmB pos x) ∨ (nmB pos x = false ∧ nmB pos (c.toNat : Int) = false) := by
        rcases hr with ⟨_, e⟩ | ⟨e1, e2⟩
        · rw [hxy] at e
          simp only [Prod.mk.injEq] at e
          obtain ⟨rfl, rfl⟩ := e
          exact .inl ⟨rfl, rfl, rfl⟩
        · rw [hxy] at e2
          exact .inr ⟨nmB_high pos (by simp at e2; omega), nmB_high pos (by omega)⟩
      rw [hxy] at hnx
      clear hr hxy
      have hE : nmB pos x = (letB x || (!(pos == 0) && (digB x || (x : Int) == 95))) := rfl
      have HL := fun W => isLetter_c x W
      have HD := fun W => isDigit_c x W
      have fin : nmB pos x = true → ∀ i d, i < pos + y → s.data.toList[i]? = some d → nmB i (d.toNat : Int) = true := by
        intro ht i d hi hd
        rcases hc with ⟨rfl, hx, e⟩ | ⟨e, _⟩
        · rcases Nat.lt_or_ge i pos with h2 | h2
          · exact HI.out i d h2 hd
          · obtain rfl : i = pos := by omega
            rw [hb] at hd
            simp only [Option.some.injEq] at hd
            rw [← hd, e, ht]
        · rw [e] at ht; cases ht
      have hy : nmB pos x = true → y = 1 := by
        intro ht
        rcases hc with ⟨rfl, _⟩ | ⟨e, _⟩
        · rfl
        · rw [e] at ht; cases ht
      have bad : nmB pos x = false → ¬ Nm s := by
        intro hf
        refine nm_no hb ?_
        rcases hc with ⟨_, _, e⟩ | ⟨_, e⟩
        · rw [e, hf]
        · exact e
      clear hc hb
      have hp0 : ((pos : Int) == 0) = (pos == 0) := by
        cases hh : pos == 0
        · have h1 : ¬ pos = 0 := by simpa using hh
          simpa using h1
        · have h1 : pos = 0 := by simpa using hh
          simpa using h1
      cases h1 : letB x <;> cases h0 : (pos == 0) <;> cases h2 : digB x <;> cases h3 : ((x : Int) == 95)
      all_goals
        rw [h1, h0, h2, h3] at hE
        rw [h0] at hp0
        rw [h1] at HL
        rw [h2] at HD
        simp only [Bool.false_or, Bool.true_or, Bool.and_false, Bool.and_true, Bool.not_true, Bool.not_false, Bool.false_and, Bool.true_and] at hE
        replace HL := Lib.hid HL
        replace HD := Lib.hid HD
        have FIN := Lib.hid fin
        have BAD := Lib.hid bad
        have HE := Lib.hid hE
        have HY := Lib.hid hy
        clear fin bad hE hy h1 h2 h0
        go_wp2_with (first
          | (go_at_call 95; refine (HL.out _).mono ?_; rintro e w' ⟨rfl, rfl⟩)
          | (go_at_call 96; refine (HD.out _).mono ?_; rintro e w' ⟨rfl, rfl⟩))
        first
          | (go_ret
             exact ⟨by rw [decide_eq_false (BAD.out HE.out)]; rfl, gr_iter _ _ _⟩)
          | (obtain rfl := HY.out HE.out
             go_roundg (gk - 1)
             case measure => omega
             case rel => exact ⟨pos + 1, rfl, by omega, FIN.out HE.out⟩)
    · have hnx : ∀ ty, (Instr.next (.pointer (some ⟨w.heap.size, 0, none⟩)) true ty).run Tryz.prog (w.iter s pos) = _ := fun ty => run_next_end w s pos ty h
      have hyes : AllN s := by
        intro i c hc
        have hi : i < s.size := by
          have := (List.getElem?_eq_some_iff.1 hc).1
          simpa using this
        exact HI.out i c (by omega) hc
      rcases nm_end hyes with ⟨h0, HY⟩ | ⟨⟨h0, h1⟩, HY⟩ | ⟨h0, HY⟩
      all_goals
        replace HY := Lib.hid HY
        clear hyes
        go_wp2_with fail
        go_ret
        exact ⟨by rw [HY.out]; first | rfl | (simp [Act.tmps]; omega) | (simp; omega), gr_iter _ _ _⟩
end Go.Proofs.YtnbboheaheicnabGreatDoor
namespace Go.Proofs.YtnbboheaheicnabGreatDoor
open Go.RowKit Go.Lib
set_option linter.unusedSimpArgs false
set_option linter.unusedVariables false
theorem nm_step {s : ByteArray} {k : Nat} {c : UInt8} (h : s.data.toList[k]? = some c) (hc : nmB k (c.toNat : Int) = true) (HI : ∀ i c, i < k → s.data.toList[i]? = some c → nmB i (c.toNat : Int) = true) :
    ∀ i c, i < k + 1 → s.data.toList[i]? = some c → nmB i (c.toNat : Int) = true := by
  intro i d hi hd
  rcases Nat.lt_or_ge i k with h2 | h2
  · exact HI i d h2 hd
  · obtain rfl : i = k := by omega
    rw [h] at hd
    simp only [Option.some.injEq] at hd
    rw [← hd, hc]
theorem nm_all {s : ByteArray} {k : Nat} (hk : s.size ≤ k) (HI : ∀ i c, i < k → s.data.toList[i]? = some c → nmB i (c.toNat : Int) = true) : AllN s := by
  intro i c hc
  have hi : i < s.size := by
    have := (List.getElem?_eq_some_iff.1 hc).1
    simpa using this
  exact HI i c (by omega) hc
/-- what the tests of a byte say -/
structure Zone (c : Int) (a b d e f g h : Bool) : Prop where
  a : decide (97 ≤ c) = a
  b : decide (c ≤ 122) = b
  d : decide (65 ≤ c) = d
  e : decide (c ≤ 90) = e
  f : decide (48 ≤ c) = f
  g : decide (c ≤ 57) = g
  h : (c == 95) = h
theorem Zone.nm {c : Int} {a b d e f g h : Bool} (z : Zone c a b d e f g h) (k : Nat) : nmB k c = ((d && e) || (a && b) || (!(k == 0) && ((f && g) || h))) := by
  unfold nmB letB digB
  rw [z.a, z.b, z.d, z.e, z.f, z.g, z.h]
theorem zones (c : Int) : Zone c false true false true false true false ∨ Zone c false true false true true true false ∨ Zone c false true false true true false false ∨ Zone c false true true true true false false ∨ Zone c false true true false true false false ∨ Zone c false true true false true false true ∨ Zone c false true true false true false false ∨ Zone c true true true false true false false ∨ Zone c true false true false true false false := by
  have h : c < 48 ∨ (48 ≤ c ∧ c ≤ 57) ∨ (58 ≤ c ∧ c ≤ 64) ∨ (65 ≤ c ∧ c ≤ 90) ∨ (91 ≤ c ∧ c ≤ 94) ∨ c = 95 ∨ c = 96 ∨ (97 ≤ c ∧ c ≤ 122) ∨ 123 ≤ c := by omega
  rcases h with h | h | h | h | h | h | h | h | h
  · exact .inl ⟨by simp; omega, by simp; omega, by simp; omega, by simp; omega, by simp; omega, by simp; omega, by simp; omega⟩
  · exact .inr (.inl ⟨by simp; omega, by simp; omega, by simp; omega, by simp; omega, by simp; omega, by simp; omega, by simp; omega⟩)
  · exact .inr (.inr (.inl ⟨by simp; omega, by simp; omega, by simp; omega, by simp; omega, by simp; omega, by simp; omega, by simp; omega⟩))
  · exact .inr (.inr (.inr (.inl ⟨by simp; omega, by simp; omega, by simp; omega, by simp; omega, by simp; omega, by simp; omega, by simp; omega⟩)))
  · exact .inr (.inr (.inr (.inr (.inl ⟨by simp; omega, by simp; omega, by simp; omega, by simp; omega, by simp; omega, by simp; omega, by simp; omega⟩))))
  · exact .inr (.inr (.inr (.inr (.inr (.inl ⟨by simp; omega, by simp; omega, by simp; omega, by simp; omega, by simp; omega, by simp; omega, by simp; omega⟩)))))
  · exact .inr (.inr (.inr (.inr (.inr (.inr (.inl ⟨by simp; omega, by simp; omega, by simp; omega, by simp; omega, by simp; omega, by simp; omega, by simp; omega⟩))))))
  · exact .inr (.inr (.inr (.inr (.inr (.inr (.inr (.inl ⟨by simp; omega, by simp; omega, by simp; omega, by simp; omega, by simp; omega, by simp; omega, by simp; omega⟩)))))))
  · exact .inr (.inr (.inr (.inr (.inr (.inr (.inr (.inr (⟨by simp; omega, by simp; omega, by simp; omega, by simp; omega, by simp; omega, by simp; omega, by simp; omega⟩))))))))
set_option maxHeartbeats 1000000 in
set_option maxRecDepth 100000 in
theorem refIsName_c (s : ByteArray) (w : World) :
    Calls Tryz.prog 31 #[.string s] w fun e w' => e = .returned (.bool (decide (Nm s))) ∧ w = w' := by
  rcases Nat.eq_zero_or_pos s.size with h0 | hl0
  · have HE := Lib.hid (show decide (Nm s) = false from decide_eq_false (fun hn => by have := hn.2.1; omega))
    go_enter Tryz.func31, Tryz.ntmps31
    go_wp2_with fail
    go_ret
    exact ⟨by rw [HE.out]; rfl, rfl⟩
  rcases Nat.lt_or_ge 24 s.size with hl1 | hl1
  · have HE := Lib.hid (show decide (Nm s) = false from decide_eq_false (fun hn => by have := hn.2.2; omega))
    go_enter Tryz.func31, Tryz.ntmps31
    go_wp2_with fail
    go_ret
    exact ⟨by rw [HE.out]; rfl, rfl⟩
  go_enter Tryz.func31, Tryz.ntmps31
  go_wp2_with fail
  go_loopg [3] s.size (fun g s3 wr => ∃ k : Nat, s3 = .int .i64 k ∧ g + k = s.size ∧ wr = w ∧ Hid (∀ i c, i < k → s.data.toList[i]? = some c → nmB i (c.toNat : Int) = true))
  case atStart => exact ⟨0, rfl, by omega, rfl, fun i c h => absurd h (by omega)⟩
  case round =>
    obtain ⟨k, rfl, hk, rfl, HI⟩ := hrel
    by_cases h : k < s.size
    · have HB := Lib.hid (byte_at s k h)
      by_cases hk0 : k = 0
      · subst hk0
        have hk0' : True := trivial
        rcases zones ((s[0]'h).toNat : Int) with z | z | z | z | z | z | z | z | z
        all_goals
          obtain ⟨z1, z2, z3, z4, z5, z6, z7⟩ := z
          have HZ := Lib.hid (Zone.mk z1 z2 z3 z4 z5 z6 z7)
          go_wp2_with fail
          first
            | (go_ret
               exact ⟨by rw [decide_eq_false (nm_no HB.out (by rw [HZ.out.nm]; simp [hk0']))]; rfl, rfl⟩)
            | (go_roundg (gk - 1)
               case measure => omega
               case rel => exact ⟨1, rfl, by omega, rfl, nm_step HB.out (by rw [HZ.out.nm]; simp [hk0']) HI.out⟩)
      · have hk1 : 0 < k := by omega
        have hk0' : (k == 0) = false := by simpa using hk0
        have hk2 : ((k : Int) == 0) = false := by simpa using hk0
        rcases zones ((s[k]'h).toNat : Int) with z | z | z | z | z | z | z | z | z
        all_goals
          obtain ⟨z1, z2, z3, z4, z5, z6, z7⟩ := z
          have HZ := Lib.hid (Zone.mk z1 z2 z3 z4 z5 z6 z7)
          go_wp2_with fail
          first
            | (go_ret
               exact ⟨by rw [decide_eq_false (nm_no HB.out (by rw [HZ.out.nm]; simp [hk0']))]; rfl, rfl⟩)
            | (go_roundg (gk - 1)
               case measure => omega
               case rel => exact ⟨k + 1, by go_num, by omega, rfl, nm_step HB.out (by rw [HZ.out.nm]; simp [hk0']) HI.out⟩)
    · have HE := Lib.hid (show decide (Nm s) = true from decide_eq_true ⟨nm_all (k := k) (by omega) HI.out, hl0, hl1⟩)
      go_wp2_with fail
      go_ret
      exact ⟨by rw [HE.out]; rfl, rfl⟩
end Go.Proofs.YtnbboheaheicnabGreatDoor
