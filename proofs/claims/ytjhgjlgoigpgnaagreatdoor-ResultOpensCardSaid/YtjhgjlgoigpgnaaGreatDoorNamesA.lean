/- Names: number.IsName and the reference's, walked. -/
import Derived.Test.YtjhgjlgoigpgnaaGreatDoorNames
namespace Go.Proofs.YtjhgjlgoigpgnaaGreatDoor
open Go.RowKit Go.Lib
set_option linter.unusedSimpArgs false
theorem nm_no {s : ByteArray} {pos : Nat} {c : UInt8} (h : s.data.toList[pos]? = some c) (hc : nmB pos (c.toNat : Int) = false) : ¬ Nm s := fun hn => by
  have := hn.1 pos c h
  rw [hc] at this; cases this
theorem nm_end {s : ByteArray} (h : AllN s) : (s.size = 0 ∧ decide (Nm s) = false) ∨ ((0 < s.size ∧ s.size ≤ 24) ∧ decide (Nm s) = true) ∨ (24 < s.size ∧ decide (Nm s) = false) := by
  rcases Nat.eq_zero_or_pos s.size with h0 | h0
  · exact .inl ⟨h0, decide_eq_false (fun hn => by have := hn.2.1; omega)⟩
  · rcases Nat.lt_or_ge 24 s.size with h1 | h1
    · exact .inr (.inr ⟨h1, decide_eq_false (fun hn => by have := hn.2.2; omega)⟩)
    · exact .inr (.inl ⟨⟨h0, h1⟩, decide_eq_true ⟨h, h0, h1⟩⟩)
set_option maxHeartbeats 1000000 in
set_option maxRecDepth 100000 in
theorem isName_c (s : ByteArray) (w : World) :
    Calls Tryz.prog 50 #[.string s] w fun e w' => e = .returned (.bool (decide (Nm s))) ∧ Gr w w' := by
  go_enter Tryz.func50, Tryz.ntmps50
  go_wp2_with fail
  go_loopg [4] s.size (fun g s4 wr => ∃ pos : Nat, wr = w.iter s pos ∧ g + pos = s.size ∧ Hid (∀ i c, i < pos → s.data.toList[i]? = some c → nmB i (c.toNat : Int) = true))
  case atStart => exact ⟨0, rfl, by omega, fun i c h => absurd h (by omega)⟩
  case round =>
    obtain ⟨pos, rfl, hp, HI⟩ := hrel
    by_cases h : pos < s.size
    · have hnx : ∀ ty, (Instr.next (.pointer (some ⟨w.heap.size, 0, none⟩)) true ty).run Tryz.prog (w.iter s pos) = _ := fun ty => run_next_any w s pos ty h
      have hb := byte_at s pos h
      have hr := rune_at s pos h
      generalize s[pos]'h = c at *
      obtain ⟨x, y, hxy⟩ : ∃ x y, Utf8.decode s pos = (x, y) := ⟨_, _, rfl⟩
      have hc : (y = 1 ∧ (x : Int) = (c.toNat : Int) ∧ nmB pos (c.toNat : Int) = nmB pos x) ∨ (nmB pos x = false ∧ nmB pos (c.toNat : Int) = false) := by
        rcases hr with ⟨_, e⟩ | ⟨e1, e2⟩
        · rw [hxy] at e
          simp only [Prod.mk.injEq] at e
          obtain ⟨rfl, rfl⟩ := e
          exact .inl ⟨rfl, rfl, rfl⟩
        · rw [hxy] at e2
          exact .inr ⟨nmB_high pos (by simp at e2; omega), nmB_high pos (by omega)⟩
      rw [hxy] at hnx
      clear hr hxy
      have hE : nmB pos x = (letB x || (!(pos == 0) && (digB x || (x : Int) == 95))) := rfl
      have HL := fun W => isLetter_c x W
      have HD := fun W => isDigit_c x W
      have fin : nmB pos x = true → ∀ i d, i < pos + y → s.data.toList[i]? = some d → nmB i (d.toNat : Int) = true := by
        intro ht i d hi hd
        rcases hc with ⟨rfl, hx, e⟩ | ⟨e, _⟩
        · rcases Nat.lt_or_ge i pos with h2 | h2
          · exact HI.out i d h2 hd
          · obtain rfl : i = pos := by omega
            rw [hb] at hd
            simp only [Option.some.injEq] at hd
            rw [← hd, e, ht]
        · rw [e] at ht; cases ht
      have hy : nmB pos x = true → y = 1 := by
        intro ht
        rcases hc with ⟨rfl, _⟩ | ⟨e, _⟩
        · rfl
        · rw [e] at ht; cases ht
      have bad : nmB pos x = false → ¬ Nm s := by
        intro hf
        refine nm_no hb ?_
        rcases hc with ⟨_, _, e⟩ | ⟨_, e⟩
        · rw [e, hf]
        · exact e
      clear hc hb
      have hp0 : ((pos : Int) == 0) = (pos == 0) := by
        cases hh : pos == 0
        · have h1 : ¬ pos = 0 := by simpa using hh
          simpa using h1
        · have h1 : pos = 0 := by simpa using hh
          simpa using h1
      cases h1 : letB x <;> cases h0 : (pos == 0) <;> cases h2 : digB x <;> cases h3 : ((x : Int) == 95)
      all_goals
        rw [h1, h0, h2, h3] at hE
        rw [h0] at hp0
        rw [h1] at HL
        rw [h2] at HD
        simp only [Bool.false_or, Bool.true_or, Bool.and_false, Bool.and_true, Bool.not_true, Bool.not_false, Bool.false_and, Bool.true_and] at hE
        replace HL := Lib.hid HL
        replace HD := Lib.hid HD
        have FIN := Lib.hid fin
        have BAD := Lib.hid bad
        have HE := Lib.hid hE
        have HY := Lib.hid hy
        clear fin bad hE hy h1 h2 h0
        go_wp2_with (first
          | (go_at_call 105; refine (HL.out _).mono ?_; rintro e w' ⟨rfl, rfl⟩)
          | (go_at_call 106; refine (HD.out _).mono ?_; rintro e w' ⟨rfl, rfl⟩))
        first
          | (go_ret
             exact ⟨by rw [decide_eq_false (BAD.out HE.out)]; rfl, gr_iter _ _ _⟩)
          | (obtain rfl := HY.out HE.out
             go_roundg (gk - 1)
             case measure => omega
             case rel => exact ⟨pos + 1, rfl, by omega, FIN.out HE.out⟩)
    · have hnx : ∀ ty, (Instr.next (.pointer (some ⟨w.heap.size, 0, none⟩)) true ty).run Tryz.prog (w.iter s pos) = _ := fun ty => run_next_end w s pos ty h
      have hyes : AllN s := by
        intro i c hc
        have hi : i < s.size := by
          have := (List.getElem?_eq_some_iff.1 hc).1
          simpa using this
        exact HI.out i c (by omega) hc
      rcases nm_end hyes with ⟨h0, HY⟩ | ⟨⟨h0, h1⟩, HY⟩ | ⟨h0, HY⟩
      all_goals
        replace HY := Lib.hid HY
        clear hyes
        go_wp2_with fail
        go_ret
        exact ⟨by rw [HY.out]; first | rfl | (simp [Act.tmps]; omega) | (simp; omega), gr_iter _ _ _⟩
end Go.Proofs.YtjhgjlgoigpgnaaGreatDoor
