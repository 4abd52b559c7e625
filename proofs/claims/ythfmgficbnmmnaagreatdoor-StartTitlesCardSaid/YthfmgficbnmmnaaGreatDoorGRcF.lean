/- Brackets: races in memory; the reference's first round; races compared. -/
import Derived.Test.YthfmgficbnmmnaaGreatDoorGSeC
import Derived.RangeFuncNested
import Derived.RangeFuncBound
import Derived.RangeFuncCalls
import Derived.RangeFuncLeaves
import Derived.RangeFuncFrom
import Derived.RangeFuncWrites
import Derived.Shelf.Abstract
import Derived.Shelf.RegionOpen
import Derived.OwnWalkIn
import Derived.TacticsInMore
import Derived.LoopNIn
import Derived.LoopIn
import Derived.Deep.RegionHeld
import Derived.Laws.AppendOwn
namespace Go.Proofs.YthfmgficbnmmnaaGreatDoor
open Go.RowKit Go.Lib
set_option linter.unusedSimpArgs false
set_option linter.unusedVariables false
theorem raCs_len (l : List RaR) : (raCs l).length = l.length * 3 := by
  induction l with
  | nil => rfl
  | cons x xs ih => simp only [raCs, List.flatMap_cons, List.length_append, List.length_cons] at *; rw [ih]; simp [raC]; omega
theorem raCs_add (l : List RaR) (r : RaR) : raCs (l ++ [r]) = raCs l ++ raC r := by simp [raCs]
theorem raCs_at {xs : List RaR} {i : Nat} {x : RaR} (h : xs[i]? = some x) (j : Nat) (hj : j < 3) : (raCs xs)[i * 3 + j]? = (raC x)[j]? := by
  induction xs generalizing i with
  | nil => simp at h
  | cons y ys ih =>
    have e : raCs (y :: ys) = raC y ++ raCs ys := rfl
    rw [e]
    cases i with
    | zero =>
      simp only [List.getElem?_cons_zero, Option.some.injEq] at h
      subst h
      rw [show 0 * 3 + j = j by omega, List.getElem?_append_left (by simp [raC]; omega)]
    | succ i =>
      rw [List.getElem?_append_right (by simp [raC]; omega)]
      have := ih (i := i) (by simpa using h)
      rw [← this]
      congr 1
      simp [raC]; omega
/-- the slice holds these races -/
structure RaS (w : World) (q : Option Addr) (l : List RaR) : Prop where
  mk' ::
  out : 0 < l.length → ∃ b off, q = some ⟨b, off, none⟩ ∧ ∀ (i : Nat) (r : RaR), l[i]? = some r → w.cell? ⟨b, off + i * 3, none⟩ = some (.string r.a) ∧ w.cell? ⟨b, off + i * 3 + 1, none⟩ = some (.string r.b) ∧ w.cell? ⟨b, off + i * 3 + 2, none⟩ = some (.int .i64 r.w)
theorem RaS.gr {w w' : World} {q : Option Addr} {l : List RaR} (h : RaS w q l) (k : Gr w w') : RaS w' q l := ⟨fun h0 => by
  obtain ⟨g, off, e, hc⟩ := h.out h0
  exact ⟨g, off, e, fun i r hr => ⟨k.cell (hc i r hr).1, k.cell (hc i r hr).2.1, k.cell (hc i r hr).2.2⟩⟩⟩
theorem RaS.of_own {w : World} {b n : Nat} {T : TypeId} {q : Option Addr} {c : Nat} {l : List RaR} (h : w.ownsRow b T 3 (.slice q n c) n (raCs l)) (hn : l.length = n) : RaS w q l := ⟨fun h0 => by
  rcases h.2 with ⟨e, hz⟩ | ⟨g, cap, cur, e, _, _, hle, hmx, _, _⟩
  · omega
  · simp only [Value.slice.injEq] at e
    obtain ⟨rfl, _, rfl⟩ := e
    refine ⟨g, 0, rfl, fun i r hr => ?_⟩
    have hi := (List.getElem?_eq_some_iff.1 hr).1
    have c0 := h.cellAt (i * 3 + 0) (by omega)
    have c1 := h.cellAt (i * 3 + 1) (by omega)
    have c2 := h.cellAt (i * 3 + 2) (by omega)
    rw [raCs_at hr _ (by omega)] at c0 c1 c2
    rw [Nat.zero_add]
    exact ⟨c0, c1, c2⟩⟩
theorem infoRaP : (Tryz.prog.info? 55).map (fun i => (i.zero, i.size, i.bytes)) = some (some (.agg #[.string ⟨#[]⟩, .string ⟨#[]⟩, .int .i64 0]), 3, 40) := by kernel_rfl
theorem infoRaR : (Tryz.prog.info? 91).map (fun i => (i.zero, i.size, i.bytes)) = some (some (.agg #[.string ⟨#[]⟩, .string ⟨#[]⟩, .int .i64 0]), 3, 40) := by kernel_rfl
set_option maxRecDepth 100000 in
/-- one more race, appended -/
theorem step_ra {w : World} {o : Oper} {a : Act} {K : Act → World → Prop} {Q : Exit → Act → World → Prop} (TS T : TypeId) (hu : Tryz.prog.underlying TS = some (.slice T)) (hT : (Tryz.prog.info? T).map (fun i => (i.zero, i.size, i.bytes)) = some (some (.agg #[.string ⟨#[]⟩, .string ⟨#[]⟩, .int .i64 0]), 3, 40))
    (s x : Operand) (ho : o.op = .call { callee := .builtin .append, args := #[s, x], argTypes := #[TS, TS] })
    (base : Nat) (v : Value) (n : Nat) (xs : List Value) (hs : a.eval s = v) (hown : w.ownsRow base T 3 v n xs) (r : RaR) (g c : Nat) (hx : a.eval x = .slice (some ⟨g, 0, none⟩) 1 c)
    (h0 : w.cell? ⟨g, 0, none⟩ = some (.string r.a)) (h1 : w.cell? ⟨g, 1, none⟩ = some (.string r.b)) (h2 : w.cell? ⟨g, 2, none⟩ = some (.int .i64 r.w)) (hn : n ≤ 1000) (hbase : base ≤ w.heap.size)
    (h : ∀ v' w', w'.ownsRow base T 3 v' (n + 1) (xs ++ raC r) → w.grownBy w' v.ownBlock → K (a.put o.dst v') w') : Oper.wp Tryz.prog o a w K Q := by
  obtain ⟨i1, hj, hy0, hy1, hy2⟩ := info_parts hT
  obtain ⟨v', w', hr, e2, e3, _, _⟩ := run_append_own_at (P := Tryz.prog) w base TS o.type T i1 (.agg #[.string ⟨#[]⟩, .string ⟨#[]⟩, .int .i64 0]) 3 40 hu hj hy0 hy1 hy2 rfl (by decide) v n xs hown ⟨g, 0, none⟩ 1 c (raC r) (by simp [raC])
    (fun j u hu => by
      have ea : (⟨g, 0, none⟩ : Addr).add j = ⟨g, j, none⟩ := by unfold Addr.add; split <;> simp_all
      rw [ea]
      unfold raC at hu
      rcases j with _ | _ | _ | j <;> simp at hu <;> subst hu <;> assumption)
    (fun u hu => by unfold raC at hu; simp at hu; rcases hu with rfl | rfl | rfl <;> rfl) (by unfold maxLen; omega) (by omega) hbase
  unfold Oper.wp
  simp [execOp, ho, resolve, invoke, builtin, hs, hx, hr, Result.andThen]
  exact h v' w' e2 e3
/-- names side by side -/
def pairR : List ByteArray → List RaR
  | a :: b :: r => raB a b :: pairR r
  | _ => []
theorem pairR_len : ∀ (n : Nat) (l : List ByteArray), l.length = 2 * n → (pairR l).length = n
  | 0, [], _ => rfl
  | n + 1, a :: b :: r, h => by
    simp only [pairR, List.length_cons] at h ⊢
    rw [pairR_len n r (by omega)]
theorem pairR_take : ∀ (j n : Nat) (l : List ByteArray) (x y : ByteArray), l.length = 2 * n → l[2 * j]? = some x → l[2 * j + 1]? = some y → pairR (l.take (2 * (j + 1))) = pairR (l.take (2 * j)) ++ [raB x y]
  | 0, n, a :: b :: r, x, y, _, hx, hy => by
    simp at hx hy
    subst hx hy
    rfl
  | j + 1, n + 1, a :: b :: r, x, y, hl, hx, hy => by
    simp only [List.length_cons] at hl
    have ih := pairR_take j n r x y (by omega) (by rw [show 2 * (j + 1) = 2 * j + 1 + 1 by omega] at hx; simpa using hx) (by rw [show 2 * (j + 1) + 1 = 2 * j + 1 + 1 + 1 by omega] at hy; simpa using hy)
    rw [show 2 * (j + 1 + 1) = 2 * (j + 1) + 1 + 1 by omega, show 2 * (j + 1) = 2 * j + 1 + 1 by omega]
    simp only [List.take_succ_cons, pairR, List.cons_append]
    rw [show 2 * j + 1 + 1 = 2 * (j + 1) by omega, ih]
  | 0, _, [], x, y, _, hx, _ => by simp at hx
  | 0, _, [a], x, y, _, _, hy => by simp at hy
  | j + 1, _, [], x, y, _, hx, _ => by simp at hx
  | j + 1, _, [a], x, y, hl, _, _ => by simp at hl; omega
  | j + 1, 0, a :: b :: r, x, y, hl, _, _ => by simp at hl
end Go.Proofs.YthfmgficbnmmnaaGreatDoor
namespace Go.Proofs.YthfmgficbnmmnaaGreatDoor
open Go.RowKit Go.Shelf
set_option linter.unusedSimpArgs false
set_option linter.unusedVariables false
theorem rowsIn_round {l n : Nat} {P : Program} {row : String} {args : Array Value} {w : World} {R : Value → World → Prop} (h : Rows P row args w R) : RowsIn (Fence.wide.inRound l) n P row args w R :=
  fun c cs _ => let ⟨v, w', r, s⟩ := h c cs; ⟨v, w', r, stepsIn_wide.2 s⟩
/-- operations, none of which defers, in a round as elsewhere -/
theorem opsIn_round {l n : Nat} {P : Program} {ops : Array Oper} {Q : Exit → Act → World → Prop} (hlo : ¬ LetsOut Q) (hd : ∀ (i : Nat) o, ops[i]? = some o → ∀ c, o.op ≠ .defer c) : ∀ (order : List Nat) (a : Act) (w : World), wpOps P ops Q order a w → wpOpsIn (Fence.wide.inRound l) n P ops Q order a w := by
  intro order
  induction order with
  | nil => exact fun a w h => h
  | cons i rest ih =>
    intro a w h
    simp only [wpOps] at h
    simp only [wpOpsIn]
    cases ho : ops[i]? with
    | none => rw [ho] at h; exact ih _ _ h
    | some o =>
      rw [ho] at h
      simp only at h ⊢
      split
      · rename_i hw
        rw [if_pos hw] at h
        rcases h with h | ⟨_, h⟩
        · refine ⟨fun _ _ => trivial, ?_⟩
          rw [Oper.semAt_eq _ _ _ (hd i o ho)]
          unfold Oper.wp at h
          generalize (execOp a.eval o).run P w = r at *
          cases r with
          | ok x w' =>
            cases x with
            | value v => exact ih _ _ h
            | skip => exact ih _ _ h
            | defer d => exact ih _ _ h
            | enter f args => exact ⟨by simp [Fence.wide], CallsIn.inRound l (callsIn_wide.2 (Calls.mono h (fun e w2 h2 => by cases e <;> first | exact ih _ _ h2 | exact h2)))⟩
            | row r args => exact ⟨by simp [Fence.wide], rowsIn_round (Rows.mono h (fun v w2 h2 => ih _ _ h2))⟩
            | _ => exact h.elim
          | halt x w' => cases x <;> first | exact h.elim | exact h
        · exact absurd h hlo
      · rename_i hw
        rw [if_neg hw] at h
        exact ⟨fun _ _ => trivial, ih _ _ h⟩
/-- a drawn region in a round -/
theorem wpIn_region_round {l n : Nat} {P : Program} {ops : Array Oper} {Q : Exit → Act → World → Prop} {S : World → Prop} {id : Nat} {a : Act} {w : World} (hlo : ¬ LetsOut Q) (hd : ∀ (i : Nat) o, ops[i]? = some o → ∀ c, o.op ≠ .defer c) (hm : P.follows .mixedOrders = true) (hS : S w.drew)
    (h : S w.drew → wpAnyH P .any ops Q S ops.size (Array.replicate ops.size false) a w.drew) : (Code.region id ops true).wpIn (Fence.wide.inRound l) n P Q a w :=
  wpIn_region_draw fun t => by
    simp only [Region.schedule, hm, Bool.true_or, if_true]
    exact opsIn_round hlo hd _ _ _ (wpAny_sound ops.size t _ a _ (wpAny_of_held _ _ _ _ (h hS)))
end Go.Proofs.YthfmgficbnmmnaaGreatDoor
namespace Go.Proofs.YthfmgficbnmmnaaGreatDoor
open Go.RowKit Go.Shelf
set_option linter.unusedSimpArgs false
set_option linter.unusedVariables false
attribute [local go_sem] Oper.semAt_some
/-- blocks that lay below n₀ lie as they lay, but for one -/
def KpX (n₀ x : Nat) (W W' : World) : Prop := ∀ k, k < n₀ → k ≠ x → W'.heap[k]? = W.heap[k]?
theorem kpX_t {n₀ x : Nat} {A B C : World} (h : KpX n₀ x A B) (k : KpX n₀ x B C) : KpX n₀ x A C := fun j h1 h2 => (k j h1 h2).trans (h j h1 h2)
theorem KpX.cell {n₀ x b : Nat} {A B : World} (h : KpX n₀ x A B) (h1 : b < n₀) (h2 : b ≠ x) {o : Nat} {v : Value} (hc : A.cell? ⟨b, o, none⟩ = some v) : B.cell? ⟨b, o, none⟩ = some v := (World.cell?_of_block (a := ⟨b, o, none⟩) (h b h1 h2)).trans hc
theorem two_less {M m m2 : Nat} (h : m2 = m + 2) (k : m2 ≤ M) : M + 2 - (intOf (.int .i64 (m2 : Int))).toNat < M + 2 - (intOf (.int .i64 (m : Int))).toNat := by
  show M + 2 - ((m2 : Int)).toNat < M + 2 - ((m : Int)).toNat
  rw [Int.toNat_natCast, Int.toNat_natCast]
  omega
theorem gr_grown6 {w w' : World} (h : Gr w w') : w.grownBy w' none := ⟨h.os, h.tape, h.output, Below.size h, fun k hk _ => Below.block h k hk⟩
set_option maxHeartbeats 400000 in
set_option maxRecDepth 100000 in
theorem chunk_in (l Bs Bn n₀ x b c M N : Nat) (hMN : M = 2 * N) (hN : N ≤ 100) (hc : M ≤ c) (hmx : c ≤ maxLen) (J Jx : List { y : Nat // y < N } → World → Prop) (W : World)
    (hJ : ∀ (s : List { y : Nat // y < N }) (A B : World), J s A → Gr A B → J s B)
    (hY : ∀ pre y W1, J pre W1 → pre.length < N → YieldAt Fence.wide 2 Tryz.prog l #[.slice (some ⟨b, 2 * y.1, none⟩) 2 2] W1 fun e W' =>
      (e = .returned (.bool true) ∧ J (pre ++ [y]) W' ∧ KpX n₀ x W1 W') ∨ (e = .returned (.bool false) ∧ Jx (pre ++ [y]) W'))
    (hBs : Bs < n₀ ∧ Bs ≠ x) (hBn : Bn < n₀ ∧ Bn ≠ x) (hs : W.cell? ⟨Bs, 0, none⟩ = some (.slice (some ⟨b, 0, none⟩) M c)) (hn : W.cell? ⟨Bn, 0, none⟩ = some (.int .i64 2)) (h0 : J [] W) :
    CallsIn Fence.wide 3 Tryz.prog 97 #[.func (.yield l) #[] #[], .pointer (some ⟨Bs, 0, none⟩), .pointer (some ⟨Bn, 0, none⟩)] W fun e W' => (∃ v, e = .returned v) ∧
      ((∃ zs : List { y : Nat // y < N }, zs.map (fun y => y.1) = List.range N ∧ J zs W') ∨ (∃ pre, True ∧ Jx pre W')) := by
  have HMN := Lib.hid hMN
  refine callsIn_of_wp Tryz.func97 rfl trivial ?_ rfl
  simp only [Tryz.ntmps97, List.size_toArray, List.length_cons, List.length_nil, Nat.reduceAdd, Nat.reduceSub, Array.replicate_succ, Array.replicate_zero, List.push_toArray, List.append_toArray, List.nil_append, List.cons_append]
  clear hMN
  gi_wp2
  gi_loopw [4] (fun dv wr => ∃ (pre : List { y : Nat // y < N }) (m : Nat), dv = .int .i64 (m : Int) ∧ Hid (m = 2 * pre.length) ∧ Hid (pre.length ≤ N) ∧ Hid (pre.map (fun y => y.1) = List.range pre.length) ∧ J pre wr ∧ wr.cell? ⟨Bs, 0, none⟩ = some (.slice (some ⟨b, 0, none⟩) M c) ∧ wr.cell? ⟨Bn, 0, none⟩ = some (.int .i64 2)) (fun dv _ => M + 2 - (intOf dv).toNat)
  case atStart => exact ⟨[], 0, rfl, rfl, Nat.zero_le _, rfl, h0, hs, hn⟩
  case round =>
    obtain ⟨pre, m, rfl, HM, HPL, HPM, hJs, hs2, hn2⟩ := hrel
    by_cases hlt : m < M
    · have hlt2 : (m : Int) < (M : Int) := by omega
      have hlen : pre.length < N := by have := HMN.out; have := HM.out; omega
      have HY : Hid (∀ W2, Gr wr W2 → YieldAt Fence.wide 2 Tryz.prog l #[.slice (some ⟨b, m, none⟩) 2 2] W2 fun e W' => (e = .returned (.bool true) ∧ J (pre ++ [⟨pre.length, hlen⟩]) W' ∧ KpX n₀ x W2 W') ∨ (e = .returned (.bool false) ∧ Jx (pre ++ [⟨pre.length, hlen⟩]) W')) := fun W2 g => by
        rw [HM.out]; exact hY pre ⟨pre.length, hlen⟩ W2 (hJ pre _ W2 hJs g) hlen
      obtain ⟨r, hr⟩ : ∃ r, M - m = r := ⟨_, rfl⟩
      obtain ⟨cr, hcr⟩ : ∃ cr, c - m = cr := ⟨_, rfl⟩
      obtain ⟨m2, hm2⟩ : ∃ m2, m2 = m + 2 := ⟨_, rfl⟩
      have hmM : m2 ≤ M := by have := HMN.out; have := HM.out; omega
      have g1 : m ≤ M := by omega
      have g2 : ¬ c = m := by omega
      have g3 : ¬ (r : Int) < 2 := by omega
      have g4 : (m : Int) + 2 = (m2 : Int) := by omega
      have g5 : m2 ≤ c := by omega
      have g6 : m ≤ m2 := by omega
      have g7 : m2 - m = 2 := by omega
      have g8 : ¬ m2 = m := by omega
      have w2 : wrap64 (m2 : Int) = (m2 : Int) := by unfold wrap64; have := HMN.out; omega
      have HM2 := Lib.hid hm2
      have HMM := Lib.hid hmM
      have HK2 := Lib.hid hs2
      clear hm2 hY hJ h0 hs hn
      gi_wp2
      refine wpIn_wide.2 ?_
      refine wp_region_held_drew (S := (fun w' => w'.cell? ⟨Bs, 0, none⟩ = some (.slice (some ⟨b, 0, none⟩) M c) ∧ w'.cell? ⟨Bn, 0, none⟩ = some (.int .i64 2))) (by kernel_rfl) ⟨hs2, hn2⟩ (fun hHeld => ?_)
      refine wpAnyH_take (i := 0) (v := (.int .i64 2)) (op_at rfl) (by kernel_rfl) (by kernel_rfl) (by kernel_rfl) (fun _ _ _ h => h) (Or.inl ⟨rfl, fun w hSw => ?_⟩) (by assumption) ?_
      · (try dsimp only at hSw); go_simp; try with_reducible rfl
      (try simp only [Act.put, List.setIfInBounds_toArray, List.set_cons_zero, List.set_cons_succ])
      refine wpAnyH_take (i := 1) (v := (.slice (some ⟨b, 0, none⟩) M c)) (op_at rfl) (by kernel_rfl) (by kernel_rfl) (by kernel_rfl) (fun _ _ _ h => h) (Or.inl ⟨rfl, fun w hSw => ?_⟩) (by assumption) ?_
      · (try dsimp only at hSw); go_simp; try with_reducible rfl
      (try simp only [Act.put, List.setIfInBounds_toArray, List.set_cons_zero, List.set_cons_succ])
      refine wpAnyH_take (i := 2) (v := (.int .i64 (m : Int))) (op_at rfl) (by kernel_rfl) (by kernel_rfl) (by kernel_rfl) (fun _ _ _ h => h) (Or.inl ⟨rfl, fun w hSw => ?_⟩) (by assumption) ?_
      · (try dsimp only at hSw); go_simp; try with_reducible rfl
      (try simp only [Act.put, List.setIfInBounds_toArray, List.set_cons_zero, List.set_cons_succ])
      refine wpAnyH_take (i := 3) (v := (.slice (some ⟨b, m, none⟩) r cr)) (op_at rfl) (by kernel_rfl) (by kernel_rfl) (by kernel_rfl) (fun _ _ _ h => h) (Or.inl ⟨rfl, fun w hSw => ?_⟩) (by assumption) ?_
      · (try dsimp only at hSw); go_simp; try with_reducible rfl
      (try simp only [Act.put, List.setIfInBounds_toArray, List.set_cons_zero, List.set_cons_succ])
      refine wpAnyH_take (i := 4) (v := (.int .i64 (r : Int))) (op_at rfl) (by kernel_rfl) (by kernel_rfl) (by kernel_rfl) (fun _ _ _ h => h) (Or.inl ⟨rfl, fun w hSw => ?_⟩) (by assumption) ?_
      · (try dsimp only at hSw); go_simp; try with_reducible rfl
      (try simp only [Act.put, List.setIfInBounds_toArray, List.set_cons_zero, List.set_cons_succ])
      refine wpAnyH_take (i := 5) (v := (.int .i64 2)) (op_at rfl) (by kernel_rfl) (by kernel_rfl) (by kernel_rfl) (fun _ _ _ h => h) (Or.inl ⟨rfl, fun w hSw => ?_⟩) (by assumption) ?_
      · (try dsimp only at hSw); go_simp; first | done | with_reducible rfl | omega
      (try simp only [Act.put, List.setIfInBounds_toArray, List.set_cons_zero, List.set_cons_succ])
      refine wpAnyH_take (i := 6) (v := (.int .i64 2)) (op_at rfl) (by kernel_rfl) (by kernel_rfl) (by kernel_rfl) (fun _ _ _ h => h) (Or.inl ⟨rfl, fun w hSw => ?_⟩) (by assumption) ?_
      · (try dsimp only at hSw); go_simp; try with_reducible rfl
      (try simp only [Act.put, List.setIfInBounds_toArray, List.set_cons_zero, List.set_cons_succ])
      refine wpAnyH_done (by kernel_rfl) ?_ _
      obtain ⟨fn, tmps, assign, body, hy, hR⟩ := HY.out wr.drew (Gr.drew (Gr.refl wr))
      have HRR := Lib.hid hR
      clear hR
      gi_wp2
      refine HRR.out.mono ?_
      rintro e W3 (⟨rfl, hJ3, hk3⟩ | ⟨rfl, hJx3⟩)
      · have hs4 := hk3.cell hBs.1 hBs.2 (show wr.drew.cell? ⟨Bs, 0, none⟩ = _ from hs2)
        have hn4 := hk3.cell hBn.1 hBn.2 (show wr.drew.cell? ⟨Bn, 0, none⟩ = _ from hn2)
        gi_wp2
        refine ⟨⟨pre ++ [⟨pre.length, hlen⟩], m2, by rw [w2], by rw [Hid, List.length_append, List.length_singleton, HM2.out, HM.out]; omega, by rw [Hid, List.length_append, List.length_singleton]; omega, by rw [Hid, List.map_append, List.length_append, List.length_singleton, List.range_succ, HPM.out]; rfl, hJ3, hs4, hn4⟩, ?_⟩
        rw [w2]
        exact two_less HM2.out HMM.out
      · gi_wp2
        first
          | (refine bodyPost_ret (v := .tuple #[]) (by simp [results, Tryz.results97, go_sem]) rfl ?_; exact ⟨⟨_, rfl⟩, .inr ⟨_, trivial, hJx3⟩⟩)
          | (refine ⟨rfl, _, by simp [results, Tryz.results97, go_sem]; rfl, ?_⟩; exact ⟨⟨_, rfl⟩, .inr ⟨_, trivial, hJx3⟩⟩)
    · have hlt2 : ¬ (m : Int) < (M : Int) := by omega
      have hz : pre.length = N := by have := HMN.out; have := HM.out; have := HPL.out; omega
      have HZ : Hid (pre.map (fun y => y.1) = List.range N) := by rw [Hid, HPM.out, hz]
      clear hz hJ hY
      gi_wp2
      go_end0
      exact ⟨⟨_, rfl⟩, .inl ⟨pre, HZ.out, hJs⟩⟩
end Go.Proofs.YthfmgficbnmmnaaGreatDoor
namespace Go.Proofs.YthfmgficbnmmnaaGreatDoor
open Go.RowKit Go.Lib
set_option linter.unusedSimpArgs false
set_option linter.unusedVariables false
theorem infoStr6 : (Tryz.prog.info? 9).map (fun i => (i.zero, i.size, i.bytes)) = some (some (.string ⟨#[]⟩), 1, 16) := by kernel_rfl
theorem cell_one6 (w : World) (a : Value) (T : TypeId) : ∀ (j : Nat) (u : Value), [a][j]? = some u → (w.alloc (.cells #[a] T)).cell? ((⟨w.heap.size, 0, none⟩ : Addr).add j) = some u := by
  intro j u h
  cases j with
  | zero => simp at h; subst h; rw [addr_add]; exact cell_new w #[a] T 0 (by simp)
  | succ j => simp at h
/-- names as cells -/
def nmC (ns : List ByteArray) : List Value := ns.map fun s => .string s
theorem nmC_add (ns : List ByteArray) (s : ByteArray) : nmC (ns ++ [s]) = nmC ns ++ [.string s] := by simp [nmC]
theorem nmAts_of_own {w : World} {base : Nat} {v : Value} {ns : List ByteArray} {T : TypeId} {n : Nat} (hn : ns.length = n) (h : w.ownsRow base T 1 v n (nmC ns)) : StrAts w v ns := by
  subst hn
  rcases h.2 with ⟨rfl, h0⟩ | ⟨g, cap, cur, rfl, _, _, hle, hmx, _, _⟩
  · exact ⟨none, 0, by rw [h0], ⟨by omega, by unfold maxLen; omega⟩, fun h => by omega⟩
  · refine ⟨some ⟨g, 0, none⟩, cap, rfl, ⟨hle, hmx⟩, fun _ => ⟨g, 0, rfl, fun i x hx => ?_⟩⟩
    have c0 := h.cells (g := g) rfl i (.string x) (by simp [nmC, hx])
    rw [addr_add] at c0
    exact ⟨c0⟩
/-- the seeds of the slots, two of them at least -/
def lR (n : Int) (k : Nat) : List Int := if k = 0 then [1, 0] else zK n (growB k)
/-- the races of the first round -/
def firstR (ns : List ByteArray) (k : Nat) : List RaR := pairR ((lR ns.length k).map (nmS ns))
theorem zK_range (n : Int) (h1 : 1 ≤ n) : ∀ (l : List Int), (∀ x ∈ l, 1 ≤ x) → ∀ z ∈ zK n l, 0 ≤ z ∧ z ≤ n := by
  intro l hl z hz
  obtain ⟨j, hj⟩ := List.getElem?_of_mem hz
  rw [zK_get] at hj
  cases hx : l[j]? with
  | none => rw [hx] at hj; cases hj
  | some x =>
    rw [hx] at hj
    have := hl x (List.mem_of_getElem? hx)
    simp only [Option.map_some, Option.some.injEq] at hj
    split at hj <;> omega
end Go.Proofs.YthfmgficbnmmnaaGreatDoor
namespace Go.Proofs.YthfmgficbnmmnaaGreatDoor
open Go.RowKit Go.Shelf
set_option linter.unusedSimpArgs false
set_option linter.unusedVariables false
attribute [local go_sem] Oper.semAt_some
theorem boxes_two (w : World) (a0 b0 : Value) (T U : Nat) : ∃ W, (w.alloc (.cells #[a0] T)).alloc (.cells #[b0] U) = W ∧ Gr w W ∧ W.cell? ⟨w.heap.size, 0, none⟩ = some a0 ∧ W.cell? ⟨w.heap.size + 1, 0, none⟩ = some b0 := by
  refine ⟨_, rfl, ((Gr.refl w).alloc _).alloc _, ?_, ?_⟩
  · exact ((Gr.refl (w.alloc (.cells #[a0] T))).alloc _).cell (cell_new w #[a0] T 0 (by simp))
  · have := cell_new (w.alloc (.cells #[a0] T)) #[b0] U 0 (by simp)
    rwa [World.size_alloc] at this
theorem chunk2_c (p : Option Addr) (M c : Nat) (w : World) :
    Calls Tryz.prog 56 #[.slice p M c, .int .i64 2] w fun e w' => e = .returned (.func (.func 97) #[] #[.pointer (some ⟨w.heap.size, 0, none⟩), .pointer (some ⟨w.heap.size + 1, 0, none⟩)]) ∧ w' = (w.alloc (.cells #[.slice p M c] 62)).alloc (.cells #[.int .i64 2] 3) := by
  go_enter Tryz.func56, Tryz.ntmps56
  go_wp2_with fail
  go_ret
  exact ⟨rfl, rfl⟩
theorem chunk_stops (Bs Bn n₀ x b c M N : Nat) (hMN : M = 2 * N) (hN : N ≤ 100) (hc : M ≤ c) (hmx : c ≤ maxLen) (w : World) (hBs : Bs < n₀ ∧ Bs ≠ x) (hBn : Bn < n₀ ∧ Bn ≠ x)
    (hs : w.cell? ⟨Bs, 0, none⟩ = some (.slice (some ⟨b, 0, none⟩) M c)) (hn : w.cell? ⟨Bn, 0, none⟩ = some (.int .i64 2)) :
    SeqStopsK Fence.wide 3 Tryz.prog 97 #[.pointer (some ⟨Bs, 0, none⟩), .pointer (some ⟨Bn, 0, none⟩)] (fun y : { y : Nat // y < N } => #[.slice (some ⟨b, 2 * y.1, none⟩) 2 2]) (KpX n₀ x) (fun zs => zs.map (fun y => y.1) = List.range N) (fun _ => True) N w := fun l J Jx W hW hJ hJx hY h0 =>
  chunk_in l Bs Bn n₀ x b c M N hMN hN hc hmx J Jx W (fun s A B h g => hJ s A B none h (gr_grown6 g) (fun r e => by cases e)) hY hBs hBn (Gr.cell hW hs) (Gr.cell hW hn) h0
theorem namesE_zero {ns : List ByteArray} (h : namesE ns = 0) : 1 ≤ ns.length ∧ ns.length ≤ 64 := by
  unfold namesE at h
  split at h
  · cases h
  · split at h
    · cases h
    · omega
/-- the races of these pairs -/
def raceAt (L : List Int) (ns : List ByteArray) (j : Nat) : RaR := raB (nmS ns (L.getD (2 * j) 0)) (nmS ns (L.getD (2 * j + 1) 0))
theorem pairR_range (l : List ByteArray) (n : Nat) (hl : l.length = 2 * n) : ∀ j, j ≤ n → pairR (l.take (2 * j)) = (List.range j).map (fun i => raB (l.getD (2 * i) ⟨#[]⟩) (l.getD (2 * i + 1) ⟨#[]⟩))
  | 0, _ => rfl
  | j + 1, h => by
    have h0 : 2 * j < l.length := by omega
    have h1 : 2 * j + 1 < l.length := by omega
    rw [pairR_take j n l _ _ hl (List.getElem?_eq_getElem h0) (List.getElem?_eq_getElem h1), pairR_range l n hl j (by omega), List.range_succ, List.map_append]
    simp [List.getD_eq_getElem?_getD, h0, h1]
theorem pairR_races (L : List Int) (ns : List ByteArray) (n : Nat) (hl : L.length = 2 * n) : pairR (L.map (nmS ns)) = (List.range n).map (raceAt L ns) := by
  have := pairR_range (L.map (nmS ns)) n (by rw [List.length_map]; exact hl) n (Nat.le_refl _)
  rw [List.take_of_length_le (by rw [List.length_map]; omega)] at this
  rw [this]
  refine List.map_congr_left fun i hi => ?_
  have hi := List.mem_range.1 hi
  unfold raceAt
  have h0 : 2 * i < L.length := by omega
  have h1 : 2 * i + 1 < L.length := by omega
  simp [List.getD_eq_getElem?_getD, h0, h1]
/-- the loop over the slots: the races in the box at x -/
structure RacI (n₀ x : Nat) (rs : List RaR) (W : World) : Prop where
  mk' ::
  out : ∃ v, W.cell? ⟨x, 0, none⟩ = some v ∧ W.frozen? ⟨x, 0, none⟩ = false ∧ W.ownsRow n₀ 55 3 v rs.length (raCs rs)
theorem own_turn {w w' : World} {b s n : Nat} {T : TypeId} {v : Value} {l : List Value} {row : Option Nat} (h : w.ownsRow b T s v n l) (hg : w.grownBy w' row) (hrow : ∀ r, row = some r → ∃ o : Obj, w.heap[r]? = some o ∧ o.isCells = false) : w'.ownsRow b T s v n l := by
  refine ⟨h.1, ?_⟩
  rcases h.2 with hn | ⟨g, cap, cur, rfl, hb, hgg, rest⟩
  · exact .inl hn
  · refine .inr ⟨g, cap, cur, rfl, hb, ?_, rest⟩
    have hlt := (Array.getElem?_eq_some_iff.1 hgg).1
    rw [hg.block g hlt (fun e => by obtain ⟨o, ho, hc⟩ := hrow g e.symm; rw [hgg] at ho; cases ho; cases hc)]
    exact hgg
end Go.Proofs.YthfmgficbnmmnaaGreatDoor
