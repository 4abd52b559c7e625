/- Open values: slices.Grow and slices.Concat of them. -/
import Derived.Test.YtjhgjlgoigpgnaaGreatDoorOpI
import Derived.Test.YtjhgjlgoigpgnaaGreatDoorEvWrite
namespace Go.Proofs.YtjhgjlgoigpgnaaGreatDoor
open Go.RowKit Go.Lib
set_option linter.unusedSimpArgs false
set_option linter.unusedVariables false
/-- append(nil, make([]T, l)...) -/
theorem append_made {P : Program} {w : World} {t t2 ty elem : TypeId} {ki : IntKind} {info : TypeInfo} (hu : P.underlying t = some (.slice elem)) (hi : P.info? elem = some info) (h2 : P.underlying t2 = some (.int ki))
    {z : Value} {k : IntKind} {l : Int} (h0 : 0 < l) (hl : l.toNat ≤ 100000) (hby : info.bytes ≤ 1000) (hz : ∀ w : World, (zeroValue elem).run P w = .ok z w) (hzs : z.cells.size = info.size) :
    ∃ N C, l.toNat ≤ N ∧ N ≤ maxLen ∧ C.size = N * info.size ∧ (Builtin.append_ #[t, t2] ty #[.slice none 0 0, .int k l]).run P w = .ok (.slice (some ⟨w.heap.size, 0, none⟩) l.toNat N) (w.drew.alloc (.cells C elem)) := by
  letI : Ev.Ground := ⟨w⟩
  have hcap := Ev.nextslicecap_le (0 + l.toNat) 0 (by omega)
  have hbig : ¬ (281474976710656 < Builtin.nextslicecap (0 + l.toNat) 0 * info.bytes) := by
    have : Builtin.nextslicecap (0 + l.toNat) 0 * info.bytes ≤ 404000 * 1000 := Nat.mul_le_mul (by omega) hby
    omega
  have hw : IntKind.i64.wrap l = l := by rw [IntKind.wrap_i64]; omega
  have hb : ¬ (281474976710656 < l * info.bytes) := by
    have h1 : l * (info.bytes : Int) ≤ 100000 * 1000 := Int.mul_le_mul (by omega) (by omega) (by omega) (by omega)
    omega
  have hge := grownCap_ge w (0 + l.toNat) 0 elem
  have hle := grownCap_le_maxLen w (0 + l.toNat) 0 elem (by unfold maxLen; omega)
  refine ⟨grownCap w (0 + l.toNat) 0 elem, ⟨Ev.repN z.cells.toList l.toNat ++ (Builtin.zeroCells z.cells (grownCap w (0 + l.toNat) 0 elem - l.toNat)).toList⟩, by omega, hle, ?_, ?_⟩
  · generalize grownCap w (0 + l.toNat) 0 elem = G at *
    simp only [List.size_toArray, List.length_append, Ev.repN_length, Array.length_toList, Ev.zeroCells_repN, hzs, ← Nat.add_mul]
    rw [show l.toNat + (G - l.toNat) = G by omega]
  unfold grownCap
  unfold Builtin.append_
  have hfit : ¬ (0 + l.toNat ≤ 0) := by omega
  have h63' : ¬ (9223372036854775807 < ((0 + l.toNat : Nat) : Int)) := by omega
  have hneg : ¬ l < 0 := by omega
  simp only [List.getElem?_toArray, List.getElem?_cons_zero, List.getElem?_cons_succ, Sem.run_bind, Ev.under_run hu, Result.andThen_ok, sizeOf, typeInfo, run_program, hi, Sem.run_pure, Ev.under_run h2, if_true, asInt, hw]
  simp only [asIntOf, Sem.run_pure, Result.andThen_ok, hw, hneg, if_false, Sem.run_bind, run_program, hi]
  have hb' : ¬ (l * (info.bytes : Int) > 2 ^ 48) := by simpa using hb
  have hbig' : ¬ (Builtin.nextslicecap (0 + l.toNat) 0 * info.bytes > 2 ^ 48) := by simpa using hbig
  have h63'' : ¬ (((0 + l.toNat : Nat) : Int) > IntKind.i64.max ∧ (True ∨ info.bytes = 0)) := by
    rintro ⟨h1, _⟩
    have : IntKind.i64.max = 9223372036854775807 := by decide
    omega
  have hz0 : ¬ (l.toNat * info.size = 0) ∨ Ev.repN z.cells.toList l.toNat = [] := by
    rcases Nat.eq_zero_or_pos (l.toNat * info.size) with h | h
    · exact .inr (List.eq_nil_of_length_eq_zero (by rw [Ev.repN_length]; simpa [hzs] using h))
    · exact .inl (by omega)
  simp only [hb', if_false, Sem.run_bind, Sem.run_pure, Result.andThen_ok, hfit, run_program, hi, h63'', hbig']
  simp [Question.forced, hz, newRow, Builtin.firstCells]
  split
  · rename_i h
    rcases hz0 with h' | h'
    · exact absurd h h'
    · rw [h']; rfl
  · rw [Ev.zeroCells_repN]
    congr 3
    apply Array.ext'
    simp
/-- the same, as a step of a walk -/
theorem wpList_append_made {P : Program} {ops : Array Oper} {rest : List Oper} {o : Oper} {a : Act} {w : World} {Q : Exit → Act → World → Prop} (hgd : o.guard = none) (s x : Operand) (t t2 : TypeId)
    (ho : o.op = .call { callee := .builtin .append, args := #[s, x], argTypes := #[t, t2] })
    (elem : TypeId) (ki : IntKind) (info : TypeInfo) (z : Value) (size : Nat) (hu : P.underlying t = some (.slice elem)) (hi : P.info? elem = some info) (h2 : P.underlying t2 = some (.int ki)) (hzr : info.zero = some z) (hsz : info.size = size) (hzs : z.cells.size = size) (hby : info.bytes ≤ 1000)
    (l : Nat) (hl0 : 0 < l) (hl : l ≤ 100000) (hs : a.eval s = .slice none 0 0) (k : IntKind) (hx : a.eval x = .int k l)
    (h : ∀ N C, l ≤ N → N ≤ maxLen → C.size = N * size → wpList P ops Q rest (a.put o.dst (.slice (some ⟨w.heap.size, 0, none⟩) l N)) (w.drew.alloc (.cells C elem))) :
    wpList P ops Q (o :: rest) a w := by
  refine wpList_plain hgd fun K hK => ?_
  have hz : ∀ w : World, (zeroValue elem).run P w = .ok z w := fun w => by simp [zeroValue, typeInfo, hi, hzr]
  obtain ⟨N, C, g1, g2, g3, hr⟩ := append_made (P := P) (w := w) (ty := o.type) (k := k) (l := (l : Int)) hu hi h2 (by omega) (by simpa using hl) hby hz (by rw [hzs, hsz])
  simp only [Int.toNat_natCast] at g1 hr
  unfold Oper.wp execOp
  simp only [ho, resolve, invoke, builtin, Sem.run_bind, Sem.run_pure, Result.andThen_ok, List.map_toArray, List.map_cons, List.map_nil, hs, hx, hr]
  exact hK _ _ (h N C g1 g2 (by rw [g3, hsz]))
end Go.Proofs.YtjhgjlgoigpgnaaGreatDoor
