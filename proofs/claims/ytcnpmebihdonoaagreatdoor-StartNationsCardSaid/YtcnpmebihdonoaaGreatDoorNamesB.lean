/- Names: the reference's, walked. -/
import Derived.Test.YtcnpmebihdonoaaGreatDoorGNames
namespace Go.Proofs.YtcnpmebihdonoaaGreatDoor
open Go.RowKit Go.Lib
set_option linter.unusedSimpArgs false
set_option linter.unusedVariables false
theorem nm_step {s : ByteArray} {k : Nat} {c : UInt8} (h : s.data.toList[k]? = some c) (hc : nmB k (c.toNat : Int) = true) (HI : ∀ i c, i < k → s.data.toList[i]? = some c → nmB i (c.toNat : Int) = true) :
    ∀ i c, i < k + 1 → s.data.toList[i]? = some c → nmB i (c.toNat : Int) = true := by
  intro i d hi hd
  rcases Nat.lt_or_ge i k with h2 | h2
  · exact HI i d h2 hd
  · obtain rfl : i = k := by omega
    rw [h] at hd
    simp only [Option.some.injEq] at hd
    rw [← hd, hc]
theorem nm_all {s : ByteArray} {k : Nat} (hk : s.size ≤ k) (HI : ∀ i c, i < k → s.data.toList[i]? = some c → nmB i (c.toNat : Int) = true) : AllN s := by
  intro i c hc
  have hi : i < s.size := by
    have := (List.getElem?_eq_some_iff.1 hc).1
    simpa using this
  exact HI i c (by omega) hc
/-- what the tests of a byte say -/
structure Zone (c : Int) (a b d e f g h : Bool) : Prop where
  a : decide (97 ≤ c) = a
  b : decide (c ≤ 122) = b
  d : decide (65 ≤ c) = d
  e : decide (c ≤ 90) = e
  f : decide (48 ≤ c) = f
  g : decide (c ≤ 57) = g
  h : (c == 95) = h
theorem Zone.nm {c : Int} {a b d e f g h : Bool} (z : Zone c a b d e f g h) (k : Nat) : nmB k c = ((d && e) || (a && b) || (!(k == 0) && ((f && g) || h))) := by
  unfold nmB letB digB
  rw [z.a, z.b, z.d, z.e, z.f, z.g, z.h]
theorem zones (c : Int) : Zone c false true false true false true false ∨ Zone c false true false true true true false ∨ Zone c false true false true true false false ∨ Zone c false true true true true false false ∨ Zone c false true true false true false false ∨ Zone c false true true false true false true ∨ Zone c false true true false true false false ∨ Zone c true true true false true false false ∨ Zone c true false true false true false false := by
  have h : c < 48 ∨ (48 ≤ c ∧ c ≤ 57) ∨ (58 ≤ c ∧ c ≤ 64) ∨ (65 ≤ c ∧ c ≤ 90) ∨ (91 ≤ c ∧ c ≤ 94) ∨ c = 95 ∨ c = 96 ∨ (97 ≤ c ∧ c ≤ 122) ∨ 123 ≤ c := by omega
  rcases h with h | h | h | h | h | h | h | h | h
  · exact .inl ⟨by simp; omega, by simp; omega, by simp; omega, by simp; omega, by simp; omega, by simp; omega, by simp; omega⟩
  · exact .inr (.inl ⟨by simp; omega, by simp; omega, by simp; omega, by simp; omega, by simp; omega, by simp; omega, by simp; omega⟩)
  · exact .inr (.inr (.inl ⟨by simp; omega, by simp; omega, by simp; omega, by simp; omega, by simp; omega, by simp; omega, by simp; omega⟩))
  · exact .inr (.inr (.inr (.inl ⟨by simp; omega, by simp; omega, by simp; omega, by simp; omega, by simp; omega, by simp; omega, by simp; omega⟩)))
  · exact .inr (.inr (.inr (.inr (.inl ⟨by simp; omega, by simp; omega, by simp; omega, by simp; omega, by simp; omega, by simp; omega, by simp; omega⟩))))
  · exact .inr (.inr (.inr (.inr (.inr (.inl ⟨by simp; omega, by simp; omega, by simp; omega, by simp; omega, by simp; omega, by simp; omega, by simp; omega⟩)))))
  · exact .inr (.inr (.inr (.inr (.inr (.inr (.inl ⟨by simp; omega, by simp; omega, by simp; omega, by simp; omega, by simp; omega, by simp; omega, by simp; omega⟩))))))
  · exact .inr (.inr (.inr (.inr (.inr (.inr (.inr (.inl ⟨by simp; omega, by simp; omega, by simp; omega, by simp; omega, by simp; omega, by simp; omega, by simp; omega⟩)))))))
  · exact .inr (.inr (.inr (.inr (.inr (.inr (.inr (.inr (⟨by simp; omega, by simp; omega, by simp; omega, by simp; omega, by simp; omega, by simp; omega, by simp; omega⟩))))))))
set_option maxHeartbeats 1000000 in
set_option maxRecDepth 100000 in
theorem refIsName_c (s : ByteArray) (w : World) :
    Calls Tryz.prog 48 #[.string s] w fun e w' => e = .returned (.bool (decide (Nm s))) ∧ w = w' := by
  rcases Nat.eq_zero_or_pos s.size with h0 | hl0
  · have HE := Lib.hid (show decide (Nm s) = false from decide_eq_false (fun hn => by have := hn.2.1; omega))
    go_enter Tryz.func48, Tryz.ntmps48
    go_wp2_with fail
    go_ret
    exact ⟨by rw [HE.out]; rfl, rfl⟩
  rcases Nat.lt_or_ge 24 s.size with hl1 | hl1
  · have HE := Lib.hid (show decide (Nm s) = false from decide_eq_false (fun hn => by have := hn.2.2; omega))
    go_enter Tryz.func48, Tryz.ntmps48
    go_wp2_with fail
    go_ret
    exact ⟨by rw [HE.out]; rfl, rfl⟩
  go_enter Tryz.func48, Tryz.ntmps48
  go_wp2_with fail
  go_loopg [3] s.size (fun g s3 wr => ∃ k : Nat, s3 = .int .i64 k ∧ g + k = s.size ∧ wr = w ∧ Hid (∀ i c, i < k → s.data.toList[i]? = some c → nmB i (c.toNat : Int) = true))
  case atStart => exact ⟨0, rfl, by omega, rfl, fun i c h => absurd h (by omega)⟩
  case round =>
    obtain ⟨k, rfl, hk, rfl, HI⟩ := hrel
    by_cases h : k < s.size
    · have HB := Lib.hid (byte_at s k h)
      by_cases hk0 : k = 0
      · subst hk0
        have hk0' : True := trivial
        rcases zones ((s[0]'h).toNat : Int) with z | z | z | z | z | z | z | z | z
        all_goals
          obtain ⟨z1, z2, z3, z4, z5, z6, z7⟩ := z
          have HZ := Lib.hid (Zone.mk z1 z2 z3 z4 z5 z6 z7)
          go_wp2_with fail
          first
            | (go_ret
               exact ⟨by rw [decide_eq_false (nm_no HB.out (by rw [HZ.out.nm]; simp [hk0']))]; rfl, rfl⟩)
            | (go_roundg (gk - 1)
               case measure => omega
               case rel => exact ⟨1, rfl, by omega, rfl, nm_step HB.out (by rw [HZ.out.nm]; simp [hk0']) HI.out⟩)
      · have hk1 : 0 < k := by omega
        have hk0' : (k == 0) = false := by simpa using hk0
        have hk2 : ((k : Int) == 0) = false := by simpa using hk0
        rcases zones ((s[k]'h).toNat : Int) with z | z | z | z | z | z | z | z | z
        all_goals
          obtain ⟨z1, z2, z3, z4, z5, z6, z7⟩ := z
          have HZ := Lib.hid (Zone.mk z1 z2 z3 z4 z5 z6 z7)
          go_wp2_with fail
          first
            | (go_ret
               exact ⟨by rw [decide_eq_false (nm_no HB.out (by rw [HZ.out.nm]; simp [hk0']))]; rfl, rfl⟩)
            | (go_roundg (gk - 1)
               case measure => omega
               case rel => exact ⟨k + 1, by go_num, by omega, rfl, nm_step HB.out (by rw [HZ.out.nm]; simp [hk0']) HI.out⟩)
    · have HE := Lib.hid (show decide (Nm s) = true from decide_eq_true ⟨nm_all (k := k) (by omega) HI.out, hl0, hl1⟩)
      go_wp2_with fail
      go_ret
      exact ⟨by rw [HE.out]; rfl, rfl⟩
end Go.Proofs.YtcnpmebihdonoaaGreatDoor
