/- The reference's Short, of two results. -/
import Derived.Test.YtjhgjlgoigpgnaaGreatDoorCmpD
namespace Go.Proofs.YtjhgjlgoigpgnaaGreatDoor
open Go.RowKit Go.Lib
set_option linter.unusedSimpArgs false
/-- a short result -/
inductive ShortR (c s : ByteArray) (n : Nat) : Bool → Prop where
  | name (h : 40 < c.size) : ShortR c s n false
  | state (h : c.size ≤ 40) (h2 : 40 < s.size) : ShortR c s n false
  | values (h : c.size ≤ 40) (h2 : s.size ≤ 40) (h3 : 10 < n) : ShortR c s n false
  | yes (h : c.size ≤ 40) (h2 : s.size ≤ 40) (h3 : n ≤ 10) : ShortR c s n true
theorem shortR (c s : ByteArray) (n : Nat) : ∃ b, ShortR c s n b := by
  rcases Nat.lt_or_ge 40 c.size with h | h
  · exact ⟨_, .name h⟩
  rcases Nat.lt_or_ge 40 s.size with h2 | h2
  · exact ⟨_, .state h h2⟩
  rcases Nat.lt_or_ge 10 n with h3 | h3
  · exact ⟨_, .values h h2 h3⟩
  · exact ⟨_, .yes h h2 h3⟩
set_option maxHeartbeats 1000000 in
set_option maxRecDepth 100000 in
theorem short_c (c s c2 s2 : ByteArray) (p p2 : Option Addr) (n n2 cap cap2 b cap3 : Nat) (w : World) (x y : Bool) (hx : ShortR c s n x) (hy : ShortR c2 s2 n2 y)
    (a0 : w.cell? ⟨b, 0, none⟩ = some (.string c)) (a1 : w.cell? ⟨b, 1, none⟩ = some (.string s)) (a2 : w.cell? ⟨b, 2, none⟩ = some (.slice p n cap))
    (b0 : w.cell? ⟨b, 3, none⟩ = some (.string c2)) (b1 : w.cell? ⟨b, 4, none⟩ = some (.string s2)) (b2 : w.cell? ⟨b, 5, none⟩ = some (.slice p2 n2 cap2)) :
    Calls Tryz.prog 6 #[.slice (some ⟨b, 0, none⟩) 2 cap3, .int .i64 2] w fun e w' => e = .returned (.bool (x && y)) ∧ Gr w w' := by
  go_enter Tryz.func6, Tryz.ntmps6
  go_wp2_with fail
  refine wp_loop_rounds 3 ?_
  rw [rounds_succ]
  cases hx with
  | name h =>
    go_wp2_with fail
    go_ret
    exact ⟨rfl, Gr.refl _⟩
  | state h h2 =>
    go_wp2_with fail
    go_ret
    exact ⟨rfl, Gr.refl _⟩
  | values h h2 h3 =>
    go_wp2_with fail
    go_ret
    exact ⟨rfl, Gr.refl _⟩
  | yes h h2 h3 =>
    go_wp2_with fail
    rw [rounds_succ]
    cases hy with
    | name k =>
      go_wp2_with fail
      go_ret
      exact ⟨rfl, Gr.refl _⟩
    | state k k2 =>
      go_wp2_with fail
      go_ret
      exact ⟨rfl, Gr.refl _⟩
    | values k k2 k3 =>
      go_wp2_with fail
      go_ret
      exact ⟨rfl, Gr.refl _⟩
    | yes k k2 k3 =>
      go_wp2_with fail
      rw [rounds_succ]
      go_wp2_with fail
      go_ret
      exact ⟨rfl, Gr.refl _⟩
end Go.Proofs.YtjhgjlgoigpgnaaGreatDoor
