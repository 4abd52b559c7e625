/- Brackets: the law, walked. -/
import Derived.Test.YtgjcbiobedhjaaaGreatDoorGRcL
namespace Go.Proofs.YtgjcbiobedhjaaaGreatDoor
open Go.RowKit Go.Lib
set_option linter.unusedSimpArgs false
set_option linter.unusedVariables false
def AwakeOK (w : World) : Prop := ∀ W, Gr w W → Calls Tryz.prog 7 #[] W fun e w' => e = .returned (.bool true) ∧ Gr W w'
theorem races_all (ns : List ByteArray) (v : Value) (w : World) (hv : StrAts w v ns) (h : namesE ns = 0) :
    Calls Tryz.prog 29 #[v] w fun e w' => ∃ q k N c, e = .returned (.tuple #[.slice q N c, .int .i64 0]) ∧ ((ns.length : Int) ≤ ((2 ^ k : Nat) : Int)) ∧ (((2 ^ k : Nat) : Int) < 2 * (ns.length : Int)) ∧ (firstR ns k).length = N ∧ N ≤ 100 ∧ RaS w' q (firstR ns k) ∧ Gr w w' := by
  have hl := namesE_zero h
  by_cases h2 : 2 ≤ ns.length
  · exact races_good ns v w hv h h2
  · have h1 : ns.length = 1 := by omega
    refine (races_one ns v w hv h h1).mono ?_
    rintro e w' ⟨q, c, rfl, hr, hg⟩
    obtain ⟨x, rfl⟩ := List.length_eq_one_iff.1 h1
    exact ⟨q, 0, 1, c, rfl, by simp, by simp, rfl, by omega, hr, hg⟩
theorem ref_len {w : World} {b N : Nat} {T : TypeId} {u : Value} {l : List RaR} (h : w.ownsRow b T 3 u N (raCs l)) : l.length = N := by
  have := h.1
  rw [raCs_len] at this
  omega
theorem reads_own {w : World} {b n c : Nat} {q : Option Addr} {zs : List Int} (h : w.ownsRow b 3 1 (.slice q n c) n (ints zs)) : ReadsI w (.slice q n c) zs := (IntS.of_own h).reads (fun b2 off e => by
  rcases h.2 with ⟨h3, _⟩ | ⟨g, cap, cur, h3, _⟩
  · cases h3; cases e
  · cases h3; cases e; rfl)
theorem twoE_first (n x y : Int) (b : Bool) (h : b = (outE x 1 n + outE y 1 n != 0)) : firstE [if b then 10 else 0, if (x == y) then 9 else 0] = twoE n x y := by
  unfold twoE
  rw [h]
  by_cases hq : outE x 1 n + outE y 1 n = 0
  · rw [hq]
    by_cases hxy : x = y
    · rw [if_neg (by simp), if_pos hxy, if_pos (by simpa using hxy)]; rfl
    · rw [if_neg (by simp), if_neg hxy, if_neg (by simpa using hxy)]; rfl
  · rw [if_pos hq, if_pos (by simpa using hq)]; rfl
theorem twoE_zero {n x y : Int} (h : twoE n x y = 0) : (1 ≤ x ∧ x ≤ n) ∧ (1 ≤ y ∧ y ≤ n) ∧ x ≠ y := by
  unfold twoE at h
  have h1 := outE_if6 x 1 n
  have h2 := outE_if6 y 1 n
  split at h
  · cases h
  · rename_i hq
    split at h
    · cases h
    · rename_i hxy
      split at h1 <;> split at h2 <;> first | omega | exact ⟨⟨by omega, by omega⟩, ⟨by omega, by omega⟩, hxy⟩
theorem when_e (b : Bool) (m : Int) : ∃ z, z = (if b then m else 0) ∧ ∀ W, Calls Tryz.prog 14 #[.bool b, .int .i64 m] W fun e w' => e = .returned (.int .i64 z) ∧ W = w' := ⟨_, rfl, fun W => when6_c b m W⟩
end Go.Proofs.YtgjcbiobedhjaaaGreatDoor
