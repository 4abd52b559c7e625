/- Pairs compared. -/
import Derived.Test.YtdpdbgcdmpdaoaaGreatDoorCallL
namespace Go.Proofs.YtdpdbgcdmpdaoaaGreatDoor
open Go.RowKit Go.Lib
theorem callsK_get (f e m : Int) : ∀ (N k : Nat), k < N → (callsK f e m N)[k * 2]? = some (.int .i64 (callA f e m k)) ∧ (callsK f e m N)[k * 2 + 1]? = some (.int .i64 (callB f e k))
  | 0, k, h => by omega
  | N + 1, k, h => by
    have hl := callsK_len f e m N
    simp only [callsK]
    by_cases hk : k < N
    · obtain ⟨h1, h2⟩ := callsK_get f e m N k hk
      rw [List.getElem?_append_left (by omega), List.getElem?_append_left (by omega)]
      exact ⟨h1, h2⟩
    · have : k = N := by omega
      subst this
      rw [List.getElem?_append_right (by omega), List.getElem?_append_right (by omega), hl]
      simp
/-- the slice v reads as the first N pairs -/
structure ReadsP (w : World) (v : Value) (f e m : Int) (N : Nat) : Prop where
  mk' ::
  out : ∃ p cap, v = .slice p N cap ∧ (0 < N → ∃ g, p = some ⟨g, 0, none⟩ ∧ ∀ k, k < N → w.cell? ⟨g, k * 2, none⟩ = some (.int .i64 (callA f e m k)) ∧ w.cell? ⟨g, k * 2 + 1, none⟩ = some (.int .i64 (callB f e k)))
theorem ReadsP.gr {w w' : World} {v : Value} {f e m : Int} {N : Nat} (h : ReadsP w v f e m N) (k : Gr w w') : ReadsP w' v f e m N := by
  obtain ⟨⟨p, cap, rfl, hh⟩⟩ := h
  refine ⟨p, cap, rfl, fun h0 => ?_⟩
  obtain ⟨g, h1, h2⟩ := hh h0
  exact ⟨g, h1, fun i hi => ⟨k.cell (h2 i hi).1, k.cell (h2 i hi).2⟩⟩
theorem readsP_of_owns {w : World} {base : Nat} {v : Value} {f e m : Int} {N : Nat} (h : w.ownsRow base 37 2 v N (callsK f e m N)) : ReadsP w v f e m N := by
  rcases h.2 with ⟨rfl, h0⟩ | ⟨g, cap, cur, rfl, _⟩
  · exact ⟨none, 0, by rw [h0], fun h => by omega⟩
  · refine ⟨some ⟨g, 0, none⟩, cap, rfl, fun _ => ⟨g, rfl, fun k hk => ?_⟩⟩
    obtain ⟨h1, h2⟩ := callsK_get f e m N k hk
    have c1 := h.cells (g := g) rfl _ _ h1
    have c2 := h.cells (g := g) rfl _ _ h2
    have hadd : ∀ j, (⟨g, 0, none⟩ : Addr).add j = ⟨g, j, none⟩ := fun j => by unfold Addr.add; split <;> simp_all
    rw [hadd] at c1 c2
    exact ⟨c1, c2⟩
set_option maxRecDepth 100000 in
theorem pair_same (a b : Int) (w : World) : (Op.equal 37 (.agg #[.int .i64 a, .int .i64 b]) (.agg #[.int .i64 a, .int .i64 b])).run Tryz.prog w = .ok true w := by
  have hu : (underlying 37).run Tryz.prog w = .ok (.array 2 3) w := run_underlying Tryz.underlying37 w
  have hs : (sizeOf 3).run Tryz.prog w = .ok 1 w := by kernel_rfl
  have hp0 : (part 3 #[.int .i64 a, .int .i64 b] 0).run Tryz.prog w = .ok (.int .i64 a) w := by kernel_rfl
  have hp1 : (part 3 #[.int .i64 a, .int .i64 b] 1).run Tryz.prog w = .ok (.int .i64 b) w := by kernel_rfl
  have he : ∀ x : Int, (Op.equalIn (9998 + 1) 3 (.int .i64 x) (.int .i64 x)).run Tryz.prog w = .ok true w := fun x => by
    have hi : (underlying 3).run Tryz.prog w = .ok (.int .i64) w := run_underlying Tryz.underlying3 w
    generalize 9998 = q
    simp [Op.equalIn, hi]
  show (Op.equalIn ((9998 + 1) + 1) 37 _ _).run Tryz.prog w = _
  generalize 9998 + 1 = d at *
  unfold Op.equalIn
  simp only [Sem.run_bind, hu, Result.andThen_ok, hs]
  simp [Std.Legacy.Range.forIn_eq_forIn_range', Std.Legacy.Range.size, List.range', hp0, hp1, he]
theorem pair_neq (a b : Int) (w : World) : (binOp .neq 37 (.agg #[.int .i64 a, .int .i64 b]) (.agg #[.int .i64 a, .int .i64 b])).run Tryz.prog w = .ok (.bool false) w := by
  unfold binOp
  simp [pair_same]
theorem pair_guard (x y : Operand) (a b : Int) (w : World) : (eqGuard .neq 37 x y (.agg #[.int .i64 a, .int .i64 b]) (.agg #[.int .i64 a, .int .i64 b])).run Tryz.prog w = .ok () w := by
  have h : Tryz.prog.eqGuardType Tryz.prog.depth 37 = false := by kernel_rfl
  unfold eqGuard
  simp [h]
end Go.Proofs.YtdpdbgcdmpdaoaaGreatDoor
