/- Brackets: how a race begins; names of seeds. -/
import Derived.Test.YtjpkeolielpelaaGreatDoorGRcB
namespace Go.Proofs.YtjpkeolielpelaaGreatDoor
open Go.RowKit Go.Lib
set_option linter.unusedSimpArgs false
set_option linter.unusedVariables false
/-- who wins from the beginning -/
def walkW (a b : ByteArray) : Int := if a.toList = [] then (if b.toList = [] then 3 else 2) else if b.toList = [] then 1 else 0
/-- a race of two names -/
structure RaR where
  a : ByteArray
  b : ByteArray
  w : Int
def raV (r : RaR) : Value := .agg #[.string r.a, .string r.b, .int .i64 r.w]
def raC (r : RaR) : List Value := [.string r.a, .string r.b, .int .i64 r.w]
def raCs (l : List RaR) : List Value := l.flatMap raC
/-- the race of two names at its beginning -/
def raB (a b : ByteArray) : RaR := ⟨a, b, walkW a b⟩
set_option maxRecDepth 100000 in
theorem walk_c (a b : ByteArray) (w : World) : Calls Tryz.prog 57 #[.string a, .string b] w fun e w' => e = .returned (.int .i64 (walkW a b)) ∧ w = w' := by
  have HE : Hid (walkW a b = if a.toList = [] then (if b.toList = [] then 3 else 2) else if b.toList = [] then 1 else 0) := rfl
  have HA : (a.toList = [] ∧ a.toList.isEmpty = true) ∨ (¬ a.toList = [] ∧ a.toList.isEmpty = false) := by cases a.toList <;> simp
  have HB : (b.toList = [] ∧ b.toList.isEmpty = true) ∨ (¬ b.toList = [] ∧ b.toList.isEmpty = false) := by cases b.toList <;> simp
  rcases HA with ⟨ha, ha2⟩ | ⟨ha, ha2⟩ <;> rcases HB with ⟨hb, hb2⟩ | ⟨hb, hb2⟩
  all_goals
    simp only [ha, hb, if_true, if_false] at HE
    go_enter Tryz.func57, Tryz.ntmps57
    go_wp2_with fail
    go_ret
    exact ⟨by rw [HE.out]; rfl, rfl⟩
set_option maxHeartbeats 4000000 in
set_option maxRecDepth 100000 in
theorem raceOf_c (a b : ByteArray) (w : World) : Calls Tryz.prog 51 #[.string a, .string b] w fun e w' => e = .returned (raV (raB a b)) ∧ Gr w w' := by
  have HE : Hid (walkW a b = if a.toList = [] then (if b.toList = [] then 3 else 2) else if b.toList = [] then 1 else 0) := rfl
  unfold raV raB
  have HA : (a.toList = [] ∧ a.toList.isEmpty = true) ∨ (¬ a.toList = [] ∧ a.toList.isEmpty = false) := by cases a.toList <;> simp
  have HB : (b.toList = [] ∧ b.toList.isEmpty = true) ∨ (¬ b.toList = [] ∧ b.toList.isEmpty = false) := by cases b.toList <;> simp
  rcases HA with ⟨ha, ha2⟩ | ⟨ha, ha2⟩ <;> rcases HB with ⟨hb, hb2⟩ | ⟨hb, hb2⟩
  all_goals
    simp only [ha, hb, if_true, if_false] at HE
    go_enter Tryz.func51, Tryz.ntmps51
    go_wp2_with fail
    first
      | (obtain ⟨W1, hW1, g1, z0, z1, z2⟩ := box3 w (.string a) (.string b) (.int .i64 3) 51; rw [hW1]; have g2 := (Gr.refl W1).alloc (.cells #[.string a, .string b, .int .i64 3] 51); replace z0 := g2.cell z0; replace z1 := g2.cell z1; replace z2 := g2.cell z2; exact bodyPost_ret (v := .agg #[.string a, .string b, .int .i64 3]) (by simp [results, Tryz.results51, go_sem, z0, z1, z2]) rfl ⟨by rw [HE.out], g1.trans g2⟩)
      | (obtain ⟨W1, hW1, g1, z0, z1, z2⟩ := box3 w (.string a) (.string b) (.int .i64 2) 51; rw [hW1]; have g2 := (Gr.refl W1).alloc (.cells #[.string a, .string b, .int .i64 2] 51); replace z0 := g2.cell z0; replace z1 := g2.cell z1; replace z2 := g2.cell z2; exact bodyPost_ret (v := .agg #[.string a, .string b, .int .i64 2]) (by simp [results, Tryz.results51, go_sem, z0, z1, z2]) rfl ⟨by rw [HE.out], g1.trans g2⟩)
      | (obtain ⟨W1, hW1, g1, z0, z1, z2⟩ := box3 w (.string a) (.string b) (.int .i64 1) 51; rw [hW1]; have g2 := (Gr.refl W1).alloc (.cells #[.string a, .string b, .int .i64 1] 51); replace z0 := g2.cell z0; replace z1 := g2.cell z1; replace z2 := g2.cell z2; exact bodyPost_ret (v := .agg #[.string a, .string b, .int .i64 1]) (by simp [results, Tryz.results51, go_sem, z0, z1, z2]) rfl ⟨by rw [HE.out], g1.trans g2⟩)
      | (obtain ⟨W1, hW1, g1, z0, z1, z2⟩ := box3 w (.string a) (.string b) (.int .i64 0) 51; rw [hW1]; have g2 := (Gr.refl W1).alloc (.cells #[.string a, .string b, .int .i64 0] 51); replace z0 := g2.cell z0; replace z1 := g2.cell z1; replace z2 := g2.cell z2; exact bodyPost_ret (v := .agg #[.string a, .string b, .int .i64 0]) (by simp [results, Tryz.results51, go_sem, z0, z1, z2]) rfl ⟨by rw [HE.out], g1.trans g2⟩)
/-- the name of a seed -/
def nmS (ns : List ByteArray) (s : Int) : ByteArray := if s = 0 then ⟨#[]⟩ else ns.getD (s.toNat - 1) ⟨#[]⟩
set_option maxRecDepth 100000 in
theorem seedIn_c (ns : List ByteArray) (v : Value) (s : Int) (w : World) (hv : StrAts w v ns) (h0 : 0 ≤ s) (h1 : s ≤ ns.length) (h2 : ns.length ≤ 1000) :
    Calls Tryz.prog 53 #[v, .int .i64 s] w fun e w' => e = .returned (.string (nmS ns s)) ∧ w = w' := by
  obtain ⟨⟨p, cap, rfl, _, hh⟩⟩ := hv
  by_cases hs : s = 0
  · have HE : Hid (nmS ns s = ⟨#[]⟩) := by unfold Hid nmS; rw [if_pos hs]
    have z1 : (s == 0) = true := by simpa using hs
    clear hh
    go_enter Tryz.func53, Tryz.ntmps53
    go_wp2_with fail
    go_ret
    exact ⟨by rw [HE.out]; rfl, rfl⟩
  · obtain ⟨k, rfl⟩ : ∃ k : Nat, s = ((k + 1 : Nat) : Int) := ⟨s.toNat - 1, by omega⟩
    have hk : k < ns.length := by omega
    obtain ⟨x, hx⟩ : ∃ x, ns[k]? = some x := ⟨ns[k], List.getElem?_eq_getElem hk⟩
    have HE : Hid (nmS ns ((k + 1 : Nat) : Int) = x) := by
      unfold Hid nmS
      rw [if_neg hs]
      simp [List.getD_eq_getElem?_getD, hx]
    obtain ⟨b, off, rfl, hc⟩ := hh (by omega)
    have c0 := (hc k x hx).nm
    have z1 : (((k + 1 : Nat) : Int) == 0) = false := beq_eq_false_iff_ne.2 hs
    have e1 : ((k + 1 : Nat) : Int) - 1 = (k : Int) := by omega
    have e2 : (k : Int) < (ns.length : Int) := by omega
    generalize ((k + 1 : Nat) : Int) = s at *
    clear hc hx h0 h1
    generalize ns.length = n at *
    go_enter Tryz.func53, Tryz.ntmps53
    go_wp2_with fail
    go_ret
    exact ⟨by rw [HE.out]; rfl, rfl⟩
end Go.Proofs.YtjpkeolielpelaaGreatDoor
