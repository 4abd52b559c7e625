/- A drawn region in the body of a range over a function: by the laws of drawn regions elsewhere. -/
import Derived.RangeFuncNested
import Derived.RangeFuncBound
import Derived.RangeFuncCalls
import Derived.RangeFuncLeaves
import Derived.RangeFuncFrom
import Derived.RangeFuncWrites
import Derived.Shelf.Abstract
import Derived.Shelf.RegionOpen
import Derived.OwnWalkIn
import Derived.TacticsInMore
import Derived.LoopNIn
import Derived.LoopIn
import Derived.Deep.RegionHeld
import Derived.Test.YtjpkeolielpelaaGreatDoorRcF
import Derived.Laws.AppendOwn
namespace Go.Proofs.YtjpkeolielpelaaGreatDoor
open Go.RowKit Go.Shelf
set_option linter.unusedSimpArgs false
set_option linter.unusedVariables false
theorem rowsIn_round {l n : Nat} {P : Program} {row : String} {args : Array Value} {w : World} {R : Value → World → Prop} (h : Rows P row args w R) : RowsIn (Fence.wide.inRound l) n P row args w R :=
  fun c cs _ => let ⟨v, w', r, s⟩ := h c cs; ⟨v, w', r, stepsIn_wide.2 s⟩
/-- operations, none of which defers, in a round as elsewhere -/
theorem opsIn_round {l n : Nat} {P : Program} {ops : Array Oper} {Q : Exit → Act → World → Prop} (hlo : ¬ LetsOut Q) (hd : ∀ (i : Nat) o, ops[i]? = some o → ∀ c, o.op ≠ .defer c) : ∀ (order : List Nat) (a : Act) (w : World), wpOps P ops Q order a w → wpOpsIn (Fence.wide.inRound l) n P ops Q order a w := by
  intro order
  induction order with
  | nil => exact fun a w h => h
  | cons i rest ih =>
    intro a w h
    simp only [wpOps] at h
    simp only [wpOpsIn]
    cases ho : ops[i]? with
    | none => rw [ho] at h; exact ih _ _ h
    | some o =>
      rw [ho] at h
      simp only at h ⊢
      split
      · rename_i hw
        rw [if_pos hw] at h
        rcases h with h | ⟨_, h⟩
        · refine ⟨fun _ _ => trivial, ?_⟩
          rw [Oper.semAt_eq _ _ _ (hd i o ho)]
          unfold Oper.wp at h
          generalize (execOp a.eval o).run P w = r at *
          cases r with
          | ok x w' =>
            cases x with
            | value v => exact ih _ _ h
            | skip => exact ih _ _ h
            | defer d => exact ih _ _ h
            | enter f args => exact ⟨by simp [Fence.wide], CallsIn.inRound l (callsIn_wide.2 (Calls.mono h (fun e w2 h2 => by cases e <;> first | exact ih _ _ h2 | exact h2)))⟩
            | row r args => exact ⟨by simp [Fence.wide], rowsIn_round (Rows.mono h (fun v w2 h2 => ih _ _ h2))⟩
            | _ => exact h.elim
          | halt x w' => cases x <;> first | exact h.elim | exact h
        · exact absurd h hlo
      · rename_i hw
        rw [if_neg hw] at h
        exact ⟨fun _ _ => trivial, ih _ _ h⟩
/-- a drawn region in a round -/
theorem wpIn_region_round {l n : Nat} {P : Program} {ops : Array Oper} {Q : Exit → Act → World → Prop} {S : World → Prop} {id : Nat} {a : Act} {w : World} (hlo : ¬ LetsOut Q) (hd : ∀ (i : Nat) o, ops[i]? = some o → ∀ c, o.op ≠ .defer c) (hm : P.follows .mixedOrders = true) (hS : S w.drew)
    (h : S w.drew → wpAnyH P .any ops Q S ops.size (Array.replicate ops.size false) a w.drew) : (Code.region id ops true).wpIn (Fence.wide.inRound l) n P Q a w :=
  wpIn_region_draw fun t => by
    simp only [Region.schedule, hm, Bool.true_or, if_true]
    exact opsIn_round hlo hd _ _ _ (wpAny_sound ops.size t _ a _ (wpAny_of_held _ _ _ _ (h hS)))
end Go.Proofs.YtjpkeolielpelaaGreatDoor
namespace Go.Proofs.YtjpkeolielpelaaGreatDoor
open Go.RowKit Go.Shelf
set_option linter.unusedSimpArgs false
set_option linter.unusedVariables false
attribute [local go_sem] Oper.semAt_some
/-- blocks that lay below n₀ lie as they lay, but for one -/
def KpX (n₀ x : Nat) (W W' : World) : Prop := ∀ k, k < n₀ → k ≠ x → W'.heap[k]? = W.heap[k]?
theorem kpX_t {n₀ x : Nat} {A B C : World} (h : KpX n₀ x A B) (k : KpX n₀ x B C) : KpX n₀ x A C := fun j h1 h2 => (k j h1 h2).trans (h j h1 h2)
theorem KpX.cell {n₀ x b : Nat} {A B : World} (h : KpX n₀ x A B) (h1 : b < n₀) (h2 : b ≠ x) {o : Nat} {v : Value} (hc : A.cell? ⟨b, o, none⟩ = some v) : B.cell? ⟨b, o, none⟩ = some v := (World.cell?_of_block (a := ⟨b, o, none⟩) (h b h1 h2)).trans hc
theorem two_less {M m m2 : Nat} (h : m2 = m + 2) (k : m2 ≤ M) : M + 2 - (intOf (.int .i64 (m2 : Int))).toNat < M + 2 - (intOf (.int .i64 (m : Int))).toNat := by
  show M + 2 - ((m2 : Int)).toNat < M + 2 - ((m : Int)).toNat
  rw [Int.toNat_natCast, Int.toNat_natCast]
  omega
theorem gr_grown6 {w w' : World} (h : Gr w w') : w.grownBy w' none := ⟨h.os, h.tape, h.output, Below.size h, fun k hk _ => Below.block h k hk⟩
set_option maxHeartbeats 400000 in
set_option maxRecDepth 100000 in
theorem chunk_in (l Bs Bn n₀ x b c M N : Nat) (hMN : M = 2 * N) (hN : N ≤ 100) (hc : M ≤ c) (hmx : c ≤ maxLen) (J Jx : List { y : Nat // y < N } → World → Prop) (W : World)
    (hJ : ∀ (s : List { y : Nat // y < N }) (A B : World), J s A → Gr A B → J s B)
    (hY : ∀ pre y W1, J pre W1 → pre.length < N → YieldAt Fence.wide 2 Tryz.prog l #[.slice (some ⟨b, 2 * y.1, none⟩) 2 2] W1 fun e W' =>
      (e = .returned (.bool true) ∧ J (pre ++ [y]) W' ∧ KpX n₀ x W1 W') ∨ (e = .returned (.bool false) ∧ Jx (pre ++ [y]) W'))
    (hBs : Bs < n₀ ∧ Bs ≠ x) (hBn : Bn < n₀ ∧ Bn ≠ x) (hs : W.cell? ⟨Bs, 0, none⟩ = some (.slice (some ⟨b, 0, none⟩) M c)) (hn : W.cell? ⟨Bn, 0, none⟩ = some (.int .i64 2)) (h0 : J [] W) :
    CallsIn Fence.wide 3 Tryz.prog 93 #[.func (.yield l) #[] #[], .pointer (some ⟨Bs, 0, none⟩), .pointer (some ⟨Bn, 0, none⟩)] W fun e W' => (∃ v, e = .returned v) ∧
      ((∃ zs : List { y : Nat // y < N }, zs.map (fun y => y.1) = List.range N ∧ J zs W') ∨ (∃ pre, True ∧ Jx pre W')) := by
  have HMN := Lib.hid hMN
  refine callsIn_of_wp Tryz.func93 rfl trivial ?_ rfl
  simp only [Tryz.ntmps93, List.size_toArray, List.length_cons, List.length_nil, Nat.reduceAdd, Nat.reduceSub, Array.replicate_succ, Array.replicate_zero, List.push_toArray, List.append_toArray, List.nil_append, List.cons_append]
  clear hMN
  gi_wp2
  gi_loopw [4] (fun dv wr => ∃ (pre : List { y : Nat // y < N }) (m : Nat), dv = .int .i64 (m : Int) ∧ Hid (m = 2 * pre.length) ∧ Hid (pre.length ≤ N) ∧ Hid (pre.map (fun y => y.1) = List.range pre.length) ∧ J pre wr ∧ wr.cell? ⟨Bs, 0, none⟩ = some (.slice (some ⟨b, 0, none⟩) M c) ∧ wr.cell? ⟨Bn, 0, none⟩ = some (.int .i64 2)) (fun dv _ => M + 2 - (intOf dv).toNat)
  case atStart => exact ⟨[], 0, rfl, rfl, Nat.zero_le _, rfl, h0, hs, hn⟩
  case round =>
    obtain ⟨pre, m, rfl, HM, HPL, HPM, hJs, hs2, hn2⟩ := hrel
    by_cases hlt : m < M
    · have hlt2 : (m : Int) < (M : Int) := by omega
      have hlen : pre.length < N := by have := HMN.out; have := HM.out; omega
      have HY : Hid (∀ W2, Gr wr W2 → YieldAt Fence.wide 2 Tryz.prog l #[.slice (some ⟨b, m, none⟩) 2 2] W2 fun e W' => (e = .returned (.bool true) ∧ J (pre ++ [⟨pre.length, hlen⟩]) W' ∧ KpX n₀ x W2 W') ∨ (e = .returned (.bool false) ∧ Jx (pre ++ [⟨pre.length, hlen⟩]) W')) := fun W2 g => by
        rw [HM.out]; exact hY pre ⟨pre.length, hlen⟩ W2 (hJ pre _ W2 hJs g) hlen
      obtain ⟨r, hr⟩ : ∃ r, M - m = r := ⟨_, rfl⟩
      obtain ⟨cr, hcr⟩ : ∃ cr, c - m = cr := ⟨_, rfl⟩
      obtain ⟨m2, hm2⟩ : ∃ m2, m2 = m + 2 := ⟨_, rfl⟩
      have hmM : m2 ≤ M := by have := HMN.out; have := HM.out; omega
      have g1 : m ≤ M := by omega
      have g2 : ¬ c = m := by omega
      have g3 : ¬ (r : Int) < 2 := by omega
      have g4 : (m : Int) + 2 = (m2 : Int) := by omega
      have g5 : m2 ≤ c := by omega
      have g6 : m ≤ m2 := by omega
      have g7 : m2 - m = 2 := by omega
      have g8 : ¬ m2 = m := by omega
      have w2 : wrap64 (m2 : Int) = (m2 : Int) := by unfold wrap64; have := HMN.out; omega
      have HM2 := Lib.hid hm2
      have HMM := Lib.hid hmM
      have HK2 := Lib.hid hs2
      clear hm2 hY hJ h0 hs hn
      gi_wp2
      refine wpIn_wide.2 ?_
      refine wp_region_held_drew (S := (fun w' => w'.cell? ⟨Bs, 0, none⟩ = some (.slice (some ⟨b, 0, none⟩) M c) ∧ w'.cell? ⟨Bn, 0, none⟩ = some (.int .i64 2))) (by kernel_rfl) ⟨hs2, hn2⟩ (fun hHeld => ?_)
      refine wpAnyH_take (i := 0) (v := (.int .i64 2)) (op_at rfl) (by kernel_rfl) (by kernel_rfl) (by kernel_rfl) (fun _ _ _ h => h) (Or.inl ⟨rfl, fun w hSw => ?_⟩) (by assumption) ?_
      · (try dsimp only at hSw); go_simp; try with_reducible rfl
      (try simp only [Act.put, List.setIfInBounds_toArray, List.set_cons_zero, List.set_cons_succ])
      refine wpAnyH_take (i := 1) (v := (.slice (some ⟨b, 0, none⟩) M c)) (op_at rfl) (by kernel_rfl) (by kernel_rfl) (by kernel_rfl) (fun _ _ _ h => h) (Or.inl ⟨rfl, fun w hSw => ?_⟩) (by assumption) ?_
      · (try dsimp only at hSw); go_simp; try with_reducible rfl
      (try simp only [Act.put, List.setIfInBounds_toArray, List.set_cons_zero, List.set_cons_succ])
      refine wpAnyH_take (i := 2) (v := (.int .i64 (m : Int))) (op_at rfl) (by kernel_rfl) (by kernel_rfl) (by kernel_rfl) (fun _ _ _ h => h) (Or.inl ⟨rfl, fun w hSw => ?_⟩) (by assumption) ?_
      · (try dsimp only at hSw); go_simp; try with_reducible rfl
      (try simp only [Act.put, List.setIfInBounds_toArray, List.set_cons_zero, List.set_cons_succ])
      refine wpAnyH_take (i := 3) (v := (.slice (some ⟨b, m, none⟩) r cr)) (op_at rfl) (by kernel_rfl) (by kernel_rfl) (by kernel_rfl) (fun _ _ _ h => h) (Or.inl ⟨rfl, fun w hSw => ?_⟩) (by assumption) ?_
      · (try dsimp only at hSw); go_simp; try with_reducible rfl
      (try simp only [Act.put, List.setIfInBounds_toArray, List.set_cons_zero, List.set_cons_succ])
      refine wpAnyH_take (i := 4) (v := (.int .i64 (r : Int))) (op_at rfl) (by kernel_rfl) (by kernel_rfl) (by kernel_rfl) (fun _ _ _ h => h) (Or.inl ⟨rfl, fun w hSw => ?_⟩) (by assumption) ?_
      · (try dsimp only at hSw); go_simp; try with_reducible rfl
      (try simp only [Act.put, List.setIfInBounds_toArray, List.set_cons_zero, List.set_cons_succ])
      refine wpAnyH_take (i := 5) (v := (.int .i64 2)) (op_at rfl) (by kernel_rfl) (by kernel_rfl) (by kernel_rfl) (fun _ _ _ h => h) (Or.inl ⟨rfl, fun w hSw => ?_⟩) (by assumption) ?_
      · (try dsimp only at hSw); go_simp; first | done | with_reducible rfl | omega
      (try simp only [Act.put, List.setIfInBounds_toArray, List.set_cons_zero, List.set_cons_succ])
      refine wpAnyH_take (i := 6) (v := (.int .i64 2)) (op_at rfl) (by kernel_rfl) (by kernel_rfl) (by kernel_rfl) (fun _ _ _ h => h) (Or.inl ⟨rfl, fun w hSw => ?_⟩) (by assumption) ?_
      · (try dsimp only at hSw); go_simp; try with_reducible rfl
      (try simp only [Act.put, List.setIfInBounds_toArray, List.set_cons_zero, List.set_cons_succ])
      refine wpAnyH_done (by kernel_rfl) ?_ _
      obtain ⟨fn, tmps, assign, body, hy, hR⟩ := HY.out wr.drew (Gr.drew (Gr.refl wr))
      have HRR := Lib.hid hR
      clear hR
      gi_wp2
      refine HRR.out.mono ?_
      rintro e W3 (⟨rfl, hJ3, hk3⟩ | ⟨rfl, hJx3⟩)
      · have hs4 := hk3.cell hBs.1 hBs.2 (show wr.drew.cell? ⟨Bs, 0, none⟩ = _ from hs2)
        have hn4 := hk3.cell hBn.1 hBn.2 (show wr.drew.cell? ⟨Bn, 0, none⟩ = _ from hn2)
        gi_wp2
        refine ⟨⟨pre ++ [⟨pre.length, hlen⟩], m2, by rw [w2], by rw [Hid, List.length_append, List.length_singleton, HM2.out, HM.out]; omega, by rw [Hid, List.length_append, List.length_singleton]; omega, by rw [Hid, List.map_append, List.length_append, List.length_singleton, List.range_succ, HPM.out]; rfl, hJ3, hs4, hn4⟩, ?_⟩
        rw [w2]
        exact two_less HM2.out HMM.out
      · gi_wp2
        first
          | (refine bodyPost_ret (v := .tuple #[]) (by simp [results, Tryz.results93, go_sem]) rfl ?_; exact ⟨⟨_, rfl⟩, .inr ⟨_, trivial, hJx3⟩⟩)
          | (refine ⟨rfl, _, by simp [results, Tryz.results93, go_sem]; rfl, ?_⟩; exact ⟨⟨_, rfl⟩, .inr ⟨_, trivial, hJx3⟩⟩)
    · have hlt2 : ¬ (m : Int) < (M : Int) := by omega
      have hz : pre.length = N := by have := HMN.out; have := HM.out; have := HPL.out; omega
      have HZ : Hid (pre.map (fun y => y.1) = List.range N) := by rw [Hid, HPM.out, hz]
      clear hz hJ hY
      gi_wp2
      go_end0
      exact ⟨⟨_, rfl⟩, .inl ⟨pre, HZ.out, hJs⟩⟩
end Go.Proofs.YtjpkeolielpelaaGreatDoor
namespace Go.Proofs.YtjpkeolielpelaaGreatDoor
open Go.RowKit Go.Lib
set_option linter.unusedSimpArgs false
set_option linter.unusedVariables false
theorem infoStr6 : (Tryz.prog.info? 9).map (fun i => (i.zero, i.size, i.bytes)) = some (some (.string ⟨#[]⟩), 1, 16) := by kernel_rfl
theorem cell_one6 (w : World) (a : Value) (T : TypeId) : ∀ (j : Nat) (u : Value), [a][j]? = some u → (w.alloc (.cells #[a] T)).cell? ((⟨w.heap.size, 0, none⟩ : Addr).add j) = some u := by
  intro j u h
  cases j with
  | zero => simp at h; subst h; rw [addr_add]; exact cell_new w #[a] T 0 (by simp)
  | succ j => simp at h
theorem intS_one (V : World) (a : Int) (T : TypeId) : IntS (V.alloc (.cells #[.int .i64 a] T)) (some ⟨V.heap.size, 0, none⟩) 1 [a] := ⟨rfl, fun _ => ⟨V.heap.size, 0, rfl, fun i z hz => by
  match i, hz with
  | 0, hz => simp at hz; subst hz; exact cell_new V #[.int .i64 a] T 0 (by simp)
  | i + 1, hz => simp at hz⟩⟩
/-- names as cells -/
def nmC (ns : List ByteArray) : List Value := ns.map fun s => .string s
theorem nmC_add (ns : List ByteArray) (s : ByteArray) : nmC (ns ++ [s]) = nmC ns ++ [.string s] := by simp [nmC]
theorem nmAts_of_own {w : World} {base : Nat} {v : Value} {ns : List ByteArray} {T : TypeId} {n : Nat} (hn : ns.length = n) (h : w.ownsRow base T 1 v n (nmC ns)) : StrAts w v ns := by
  subst hn
  rcases h.2 with ⟨rfl, h0⟩ | ⟨g, cap, cur, rfl, _, _, hle, hmx, _, _⟩
  · exact ⟨none, 0, by rw [h0], ⟨by omega, by unfold maxLen; omega⟩, fun h => by omega⟩
  · refine ⟨some ⟨g, 0, none⟩, cap, rfl, ⟨hle, hmx⟩, fun _ => ⟨g, 0, rfl, fun i x hx => ?_⟩⟩
    have c0 := h.cells (g := g) rfl i (.string x) (by simp [nmC, hx])
    rw [addr_add] at c0
    exact ⟨c0⟩
/-- the seeds of the slots, two of them at least -/
def lR (n : Int) (k : Nat) : List Int := if k = 0 then [1, 0] else zK n (growB k)
/-- the races of the first round -/
def firstR (ns : List ByteArray) (k : Nat) : List RaR := pairR ((lR ns.length k).map (nmS ns))
theorem zK_range (n : Int) (h1 : 1 ≤ n) : ∀ (l : List Int), (∀ x ∈ l, 1 ≤ x) → ∀ z ∈ zK n l, 0 ≤ z ∧ z ≤ n := by
  intro l hl z hz
  obtain ⟨j, hj⟩ := List.getElem?_of_mem hz
  rw [zK_get] at hj
  cases hx : l[j]? with
  | none => rw [hx] at hj; cases hj
  | some x =>
    rw [hx] at hj
    have := hl x (List.mem_of_getElem? hx)
    simp only [Option.map_some, Option.some.injEq] at hj
    split at hj <;> omega
set_option maxHeartbeats 4000000 in
set_option maxRecDepth 100000 in
theorem refRaces_c (ns : List ByteArray) (v : Value) (w : World) (hv : StrAts w v ns) (h1 : 1 ≤ ns.length ∧ ns.length ≤ 64) :
    Calls Tryz.prog 18 #[v] w fun e w' => ∃ u k N, e = .returned u ∧ ((ns.length : Int) ≤ ((2 ^ k : Nat) : Int)) ∧ (((2 ^ k : Nat) : Int) < 2 * (ns.length : Int)) ∧ (lR ns.length k).length = 2 * N ∧ N ≤ 100 ∧ w'.ownsRow w.heap.size 55 3 u N (raCs (firstR ns k)) ∧ Gr w w' := by
  obtain ⟨i0, hi, hz0, hz1, hz2⟩ := info_parts infoStr6
  obtain ⟨⟨p0, cap0, rfl, _, hh⟩⟩ := hv
  obtain ⟨n, hn⟩ : ∃ n, n = ns.length := ⟨_, rfl⟩
  rw [← hn] at hh h1 ⊢
  have HH := Lib.hid hh
  have HN := Lib.hid hn
  clear hh hn
  have HB := Lib.hid (refBracket_c (n : Int) ⟨by omega, by omega⟩)
  go_enter Tryz.func18, Tryz.ntmps18
  go_wp2_with fail
  refine (HB.out _).mono ?_
  rintro e W2 ⟨v3, k, rfl, hk1, hk2, hown, hg⟩
  have HK1 := Lib.hid hk1
  have HK2 := Lib.hid hk2
  obtain ⟨p, c, rfl, hpc, hmx⟩ := own_shape hown
  have hsz2 := hg.size
  rcases Nat.eq_zero_or_pos k with h0 | h0
  · subst h0
    have hn1 : n = 1 := by simp at hk1 hk2; omega
    rw [show zK (n : Int) (growB 0) = [1] by rw [hn1]; rfl] at hown
    have HN1 := Lib.hid hn1
    clear hn1
    rw [show 2 ^ 0 = 1 from rfl] at hown hpc ⊢
    clear hk1 hk2
    have HG2 := Lib.hid hg
    go_wp2_with (at_builtin; refine wpList_append_ints rfl _ _ rfl w.heap.size _ 1 (ints [1]) rfl (hown.alloc _) (some ⟨W2.heap.size, 0, none⟩) 1 1 [0] rfl (intS_one W2 0 _) (by omega) (by simp; omega) ?_; intro v1 W3 hown1 hgrow1)
    have HG3 : Hid (Gr w W3) := Below.grown (HG2.out.alloc _) hgrow1 (by simp; omega) (fun q hq => (own_in hown hq).2)
    obtain ⟨L, hLL⟩ : ∃ L : List Int, L = [1, 0] := ⟨_, rfl⟩
    obtain ⟨M, hM⟩ : ∃ M : Nat, M = 2 := ⟨_, rfl⟩
    obtain ⟨N, hN⟩ : ∃ N : Nat, N = 1 := ⟨_, rfl⟩
    have HLM : Hid (L.length = M) := by rw [Hid, hLL, hM]; rfl
    have HMN : Hid (M = 2 * N) := by rw [Hid, hN, hM]
    have HN32 : Hid (N ≤ 100) := by rw [Hid, hN]; omega
    have HLR : Hid (lR (n : Int) 0 = L) := by rw [Hid, hLL]; rfl
    have HZ : Hid (∀ (j : Nat) z, L[j]? = some z → 0 ≤ z ∧ z ≤ (n : Int)) := by
      subst hLL
      intro j z hz
      have hm := List.mem_of_getElem? hz
      have h9 := HN1.out
      simp at hm
      omega
    rw [show (1 + 1 : Nat) = M by omega, show ints [1] ++ ints [0] = ints L by rw [hLL]; rfl] at hown1
    obtain ⟨p3, c3, rfl, hpc3, hmx3⟩ := own_shape hown1
    have HR := Lib.hid (IntS.of_own hown1)
    have hM5 : M ≤ 64 := by omega
    clear hown hown1 hgrow1 hg hsz2 hpc hmx hLL hM hN
    go_wp2_with fail
    go_loopg [4, 5] M (fun gk s4 s5 wr => ∃ j : Nat, s5 = .int .i64 (j : Int) ∧ gk + j = M ∧ wr.ownsRow W3.heap.size 9 1 s4 j (nmC ((L.map (nmS ns)).take j)) ∧ Hid (Gr W3 wr))
    case atStart => exact ⟨0, rfl, by omega, World.ownsRow_nil _ _ _ _, Gr.refl _⟩
    case round =>
      obtain ⟨j, rfl, hgk, hown4, HG⟩ := hrel
      have hsz := HG.out.size
      by_cases hlt : j < M
      · obtain ⟨z, hz⟩ : ∃ z, L[j]? = some z := ⟨L[j]'(by have := HLM.out; omega), List.getElem?_eq_getElem _⟩
        obtain ⟨b, off, rfl, hc⟩ := HR.out.out (by omega)
        have cz := Gr.cell HG.out (hc j z hz)
        have hlt2 : (j : Int) < (M : Int) := by omega
        have HT : Hid ((L.map (nmS ns)).take (j + 1) = (L.map (nmS ns)).take j ++ [nmS ns z]) := by rw [Hid, List.take_add_one, List.getElem?_map, hz]; rfl
        obtain ⟨zz0, zz1⟩ := HZ.out j z hz
        clear hz hc
        by_cases hz00 : z = 0
        · subst hz00
          have HE : Hid (nmS ns 0 = ⟨#[]⟩) := by unfold Hid nmS; rfl
          go_wp2_with (at_builtin; refine wpList_append_own _ rfl _ _ 23 rfl W3.heap.size 9 i0 (.string ⟨#[]⟩) 1 16 Tryz.underlying23 hi hz0 hz1 hz2 rfl (by decide) _ _ _ rfl (hown4.alloc _) ⟨wr.heap.size, 0, none⟩ 1 1 [.string ⟨#[]⟩] rfl rfl (cell_one6 _ _ _) (by intro u hu; simp at hu; subst hu; rfl) (by unfold maxLen; omega) (by omega) (by simp; omega) ?_; intro v1 w1 hown1 hgrow1 _)
          have HGR : Hid (Gr W3 w1) := Below.grown (HG.out.alloc _) hgrow1 (by simp; omega) (fun q hq => (own_in hown4 hq).2)
          have HO1 := Lib.hid hown1
          clear hown1 hgrow1 hown4
          go_roundg (gk - 1)
          case measure => omega
          case rel => exact ⟨j + 1, by go_num, by omega, by have := HO1.out; rw [HT.out, HE.out, nmC_add]; exact this, HGR⟩
        · obtain ⟨k1, hk1⟩ : ∃ k1 : Nat, z = (k1 : Int) + 1 := ⟨z.toNat - 1, by omega⟩
          obtain ⟨x, hx⟩ : ∃ x, ns[k1]? = some x := ⟨ns[k1]'(by have := HN.out; omega), List.getElem?_eq_getElem _⟩
          have HE : Hid (nmS ns z = x) := by
            unfold Hid nmS
            rw [if_neg hz00, hk1, show ((k1 : Int) + 1).toNat - 1 = k1 by omega, List.getD_eq_getElem?_getD, hx]
            rfl
          obtain ⟨b0, off0, rfl, hcn⟩ := HH.out (by omega)
          have cn := Gr.cell (HG3.out.trans HG.out) (hcn k1 x hx).nm
          have z0 : (z == 0) = false := beq_eq_false_iff_ne.2 hz00
          have e1 : z - 1 = (k1 : Int) := by omega
          have e2 : (k1 : Int) < (n : Int) := by omega
          clear hcn hx hz00 zz0 zz1 hk1
          go_wp2_with (at_builtin; refine wpList_append_own _ rfl _ _ 23 rfl W3.heap.size 9 i0 (.string ⟨#[]⟩) 1 16 Tryz.underlying23 hi hz0 hz1 hz2 rfl (by decide) _ _ _ rfl (hown4.alloc _) ⟨wr.heap.size, 0, none⟩ 1 1 [.string x] rfl rfl (cell_one6 _ _ _) (by intro u hu; simp at hu; subst hu; rfl) (by unfold maxLen; omega) (by omega) (by simp; omega) ?_; intro v1 w1 hown1 hgrow1 _)
          have HGR : Hid (Gr W3 w1) := Below.grown (HG.out.alloc _) hgrow1 (by simp; omega) (fun q hq => (own_in hown4 hq).2)
          have HO1 := Lib.hid hown1
          clear hown1 hgrow1 hown4
          go_roundg (gk - 1)
          case measure => omega
          case rel => exact ⟨j + 1, by go_num, by omega, by have := HO1.out; rw [HT.out, HE.out, nmC_add]; exact this, HGR⟩
      · obtain rfl : j = M := by omega
        have hlt2 : ¬ (j : Int) < (j : Int) := by omega
        have HA : Hid (StrAts wr u4 (L.map (nmS ns))) := nmAts_of_own (n := j) (by rw [List.length_map]; exact HLM.out) (by have := hown4; rwa [List.take_of_length_le (by rw [List.length_map]; exact Nat.le_of_eq HLM.out)] at this)
        have HP := Lib.hid (paired_c (L.map (nmS ns)) u4 N wr HA.out (by rw [List.length_map, HLM.out]; exact HMN.out) HN32.out)
        clear hown4
        go_wp2_with fail
        refine HP.out.mono ?_
        rintro e w5 ⟨u, rfl, ho5, hg5⟩
        have HO5 := Lib.hid ho5
        have HG5 := Lib.hid hg5
        clear ho5 hg5
        go_wp2_with fail
        go_ret
        exact ⟨_, 0, N, rfl, HK1.out, HK2.out, by rw [HLR.out, HLM.out]; exact HMN.out, HN32.out, by have := ownsRow_base HO5.out (HG3.out.trans HG.out).size; unfold firstR; rw [← HN.out, HLR.out]; exact this, HG3.out.trans (HG.out.trans HG5.out)⟩
  · obtain ⟨M, hM⟩ : ∃ M : Nat, M = 2 ^ k := ⟨_, rfl⟩
    obtain ⟨N, hN⟩ : ∃ N : Nat, N = 2 ^ (k - 1) := ⟨_, rfl⟩
    obtain ⟨W3, rfl⟩ : ∃ W3, W3 = W2 := ⟨_, rfl⟩
    have hMN : M = 2 * N := by rw [hM, hN, show k = (k - 1) + 1 by omega, Nat.pow_succ]; simp; omega
    have HMN := Lib.hid hMN
    have hN1 : 1 ≤ N := by rw [hN]; exact Nat.two_pow_pos _
    have hgr := growB_range k
    have HZ : Hid (∀ (j : Nat) z, (zK (n : Int) (growB k))[j]? = some z → 0 ≤ z ∧ z ≤ (n : Int)) := fun j z hz => zK_range (n : Int) (by omega) _ (fun x hx => (hgr x hx).1) z (List.mem_of_getElem? hz)
    have HLM : Hid ((zK (n : Int) (growB k)).length = M) := by rw [Hid, zK_len, growB_len, hM]
    have HLR : Hid (lR (n : Int) k = zK (n : Int) (growB k)) := by rw [Hid, lR, if_neg (by omega)]
    clear hgr
    rw [← hM] at hown hpc hk1 hk2 ⊢
    have HR := Lib.hid (IntS.of_own hown)
    have HG3 := Lib.hid hg
    have hM5 : M ≤ 128 := by omega
    have HN32 : Hid (N ≤ 100) := by rw [Hid]; omega
    have hne : ((M : Int) == 1) = false := beq_eq_false_iff_ne.2 (by omega)
    generalize zK (n : Int) (growB k) = L at *
    clear hown hg hk1 hk2 hsz2 hM hN hMN hN1 h0
    go_wp2_with fail
    go_loopg [4, 5] M (fun gk s4 s5 wr => ∃ j : Nat, s5 = .int .i64 (j : Int) ∧ gk + j = M ∧ wr.ownsRow W3.heap.size 9 1 s4 j (nmC ((L.map (nmS ns)).take j)) ∧ Hid (Gr W3 wr))
    case atStart => exact ⟨0, rfl, by omega, World.ownsRow_nil _ _ _ _, Gr.refl _⟩
    case round =>
      obtain ⟨j, rfl, hgk, hown4, HG⟩ := hrel
      have hsz := HG.out.size
      by_cases hlt : j < M
      · obtain ⟨z, hz⟩ : ∃ z, L[j]? = some z := ⟨L[j]'(by have := HLM.out; omega), List.getElem?_eq_getElem _⟩
        obtain ⟨b, off, rfl, hc⟩ := HR.out.out (by omega)
        have cz := Gr.cell HG.out (hc j z hz)
        have hlt2 : (j : Int) < (M : Int) := by omega
        have HT : Hid ((L.map (nmS ns)).take (j + 1) = (L.map (nmS ns)).take j ++ [nmS ns z]) := by rw [Hid, List.take_add_one, List.getElem?_map, hz]; rfl
        obtain ⟨zz0, zz1⟩ := HZ.out j z hz
        clear hz hc
        by_cases hz00 : z = 0
        · subst hz00
          have HE : Hid (nmS ns 0 = ⟨#[]⟩) := by unfold Hid nmS; rfl
          go_wp2_with (at_builtin; refine wpList_append_own _ rfl _ _ 23 rfl W3.heap.size 9 i0 (.string ⟨#[]⟩) 1 16 Tryz.underlying23 hi hz0 hz1 hz2 rfl (by decide) _ _ _ rfl (hown4.alloc _) ⟨wr.heap.size, 0, none⟩ 1 1 [.string ⟨#[]⟩] rfl rfl (cell_one6 _ _ _) (by intro u hu; simp at hu; subst hu; rfl) (by unfold maxLen; omega) (by omega) (by simp; omega) ?_; intro v1 w1 hown1 hgrow1 _)
          have HGR : Hid (Gr W3 w1) := Below.grown (HG.out.alloc _) hgrow1 (by simp; omega) (fun q hq => (own_in hown4 hq).2)
          have HO1 := Lib.hid hown1
          clear hown1 hgrow1 hown4
          go_roundg (gk - 1)
          case measure => omega
          case rel => exact ⟨j + 1, by go_num, by omega, by have := HO1.out; rw [HT.out, HE.out, nmC_add]; exact this, HGR⟩
        · obtain ⟨k1, hk1⟩ : ∃ k1 : Nat, z = (k1 : Int) + 1 := ⟨z.toNat - 1, by omega⟩
          obtain ⟨x, hx⟩ : ∃ x, ns[k1]? = some x := ⟨ns[k1]'(by have := HN.out; omega), List.getElem?_eq_getElem _⟩
          have HE : Hid (nmS ns z = x) := by
            unfold Hid nmS
            rw [if_neg hz00, hk1, show ((k1 : Int) + 1).toNat - 1 = k1 by omega, List.getD_eq_getElem?_getD, hx]
            rfl
          obtain ⟨b0, off0, rfl, hcn⟩ := HH.out (by omega)
          have cn := Gr.cell (HG3.out.trans HG.out) (hcn k1 x hx).nm
          have z0 : (z == 0) = false := beq_eq_false_iff_ne.2 hz00
          have e1 : z - 1 = (k1 : Int) := by omega
          have e2 : (k1 : Int) < (n : Int) := by omega
          clear hcn hx hz00 zz0 zz1 hk1
          go_wp2_with (at_builtin; refine wpList_append_own _ rfl _ _ 23 rfl W3.heap.size 9 i0 (.string ⟨#[]⟩) 1 16 Tryz.underlying23 hi hz0 hz1 hz2 rfl (by decide) _ _ _ rfl (hown4.alloc _) ⟨wr.heap.size, 0, none⟩ 1 1 [.string x] rfl rfl (cell_one6 _ _ _) (by intro u hu; simp at hu; subst hu; rfl) (by unfold maxLen; omega) (by omega) (by simp; omega) ?_; intro v1 w1 hown1 hgrow1 _)
          have HGR : Hid (Gr W3 w1) := Below.grown (HG.out.alloc _) hgrow1 (by simp; omega) (fun q hq => (own_in hown4 hq).2)
          have HO1 := Lib.hid hown1
          clear hown1 hgrow1 hown4
          go_roundg (gk - 1)
          case measure => omega
          case rel => exact ⟨j + 1, by go_num, by omega, by have := HO1.out; rw [HT.out, HE.out, nmC_add]; exact this, HGR⟩
      · obtain rfl : j = M := by omega
        have hlt2 : ¬ (j : Int) < (j : Int) := by omega
        have HA : Hid (StrAts wr u4 (L.map (nmS ns))) := nmAts_of_own (n := j) (by rw [List.length_map]; exact HLM.out) (by have := hown4; rwa [List.take_of_length_le (by rw [List.length_map]; exact Nat.le_of_eq HLM.out)] at this)
        have HP := Lib.hid (paired_c (L.map (nmS ns)) u4 N wr HA.out (by rw [List.length_map, HLM.out]; exact HMN.out) HN32.out)
        clear hown4
        go_wp2_with fail
        refine HP.out.mono ?_
        rintro e w5 ⟨u, rfl, ho5, hg5⟩
        have HO5 := Lib.hid ho5
        have HG5 := Lib.hid hg5
        clear ho5 hg5
        go_wp2_with fail
        go_ret
        exact ⟨_, k, N, rfl, HK1.out, HK2.out, by rw [HLR.out, HLM.out]; exact HMN.out, HN32.out, by have := ownsRow_base HO5.out (HG3.out.trans HG.out).size; unfold firstR; rw [← HN.out, HLR.out]; exact this, HG3.out.trans (HG.out.trans HG5.out)⟩
end Go.Proofs.YtjpkeolielpelaaGreatDoor
namespace Go.Proofs.YtjpkeolielpelaaGreatDoor
open Go.RowKit Go.Shelf
set_option linter.unusedSimpArgs false
set_option linter.unusedVariables false
attribute [local go_sem] Oper.semAt_some
theorem boxes_two (w : World) (a0 b0 : Value) (T U : Nat) : ∃ W, (w.alloc (.cells #[a0] T)).alloc (.cells #[b0] U) = W ∧ Gr w W ∧ W.cell? ⟨w.heap.size, 0, none⟩ = some a0 ∧ W.cell? ⟨w.heap.size + 1, 0, none⟩ = some b0 := by
  refine ⟨_, rfl, ((Gr.refl w).alloc _).alloc _, ?_, ?_⟩
  · exact ((Gr.refl (w.alloc (.cells #[a0] T))).alloc _).cell (cell_new w #[a0] T 0 (by simp))
  · have := cell_new (w.alloc (.cells #[a0] T)) #[b0] U 0 (by simp)
    rwa [World.size_alloc] at this
theorem chunk2_c (p : Option Addr) (M c : Nat) (w : World) :
    Calls Tryz.prog 52 #[.slice p M c, .int .i64 2] w fun e w' => e = .returned (.func (.func 93) #[] #[.pointer (some ⟨w.heap.size, 0, none⟩), .pointer (some ⟨w.heap.size + 1, 0, none⟩)]) ∧ w' = (w.alloc (.cells #[.slice p M c] 25)).alloc (.cells #[.int .i64 2] 3) := by
  go_enter Tryz.func52, Tryz.ntmps52
  go_wp2_with fail
  go_ret
  exact ⟨rfl, rfl⟩
theorem chunk_stops (Bs Bn n₀ x b c M N : Nat) (hMN : M = 2 * N) (hN : N ≤ 100) (hc : M ≤ c) (hmx : c ≤ maxLen) (w : World) (hBs : Bs < n₀ ∧ Bs ≠ x) (hBn : Bn < n₀ ∧ Bn ≠ x)
    (hs : w.cell? ⟨Bs, 0, none⟩ = some (.slice (some ⟨b, 0, none⟩) M c)) (hn : w.cell? ⟨Bn, 0, none⟩ = some (.int .i64 2)) :
    SeqStopsK Fence.wide 3 Tryz.prog 93 #[.pointer (some ⟨Bs, 0, none⟩), .pointer (some ⟨Bn, 0, none⟩)] (fun y : { y : Nat // y < N } => #[.slice (some ⟨b, 2 * y.1, none⟩) 2 2]) (KpX n₀ x) (fun zs => zs.map (fun y => y.1) = List.range N) (fun _ => True) N w := fun l J Jx W hW hJ hJx hY h0 =>
  chunk_in l Bs Bn n₀ x b c M N hMN hN hc hmx J Jx W (fun s A B h g => hJ s A B none h (gr_grown6 g) (fun r e => by cases e)) hY hBs hBn (Gr.cell hW hs) (Gr.cell hW hn) h0
theorem namesE_zero {ns : List ByteArray} (h : namesE ns = 0) : 1 ≤ ns.length ∧ ns.length ≤ 64 := by
  unfold namesE at h
  split at h
  · cases h
  · split at h
    · cases h
    · omega
/-- the races of these pairs -/
def raceAt (L : List Int) (ns : List ByteArray) (j : Nat) : RaR := raB (nmS ns (L.getD (2 * j) 0)) (nmS ns (L.getD (2 * j + 1) 0))
theorem pairR_range (l : List ByteArray) (n : Nat) (hl : l.length = 2 * n) : ∀ j, j ≤ n → pairR (l.take (2 * j)) = (List.range j).map (fun i => raB (l.getD (2 * i) ⟨#[]⟩) (l.getD (2 * i + 1) ⟨#[]⟩))
  | 0, _ => rfl
  | j + 1, h => by
    have h0 : 2 * j < l.length := by omega
    have h1 : 2 * j + 1 < l.length := by omega
    rw [pairR_take j n l _ _ hl (List.getElem?_eq_getElem h0) (List.getElem?_eq_getElem h1), pairR_range l n hl j (by omega), List.range_succ, List.map_append]
    simp [List.getD_eq_getElem?_getD, h0, h1]
theorem pairR_races (L : List Int) (ns : List ByteArray) (n : Nat) (hl : L.length = 2 * n) : pairR (L.map (nmS ns)) = (List.range n).map (raceAt L ns) := by
  have := pairR_range (L.map (nmS ns)) n (by rw [List.length_map]; exact hl) n (Nat.le_refl _)
  rw [List.take_of_length_le (by rw [List.length_map]; omega)] at this
  rw [this]
  refine List.map_congr_left fun i hi => ?_
  have hi := List.mem_range.1 hi
  unfold raceAt
  have h0 : 2 * i < L.length := by omega
  have h1 : 2 * i + 1 < L.length := by omega
  simp [List.getD_eq_getElem?_getD, h0, h1]
/-- the loop over the slots: the races in the box at x -/
structure RacI (n₀ x : Nat) (rs : List RaR) (W : World) : Prop where
  mk' ::
  out : ∃ v, W.cell? ⟨x, 0, none⟩ = some v ∧ W.frozen? ⟨x, 0, none⟩ = false ∧ W.ownsRow n₀ 51 3 v rs.length (raCs rs)
theorem own_turn {w w' : World} {b s n : Nat} {T : TypeId} {v : Value} {l : List Value} {row : Option Nat} (h : w.ownsRow b T s v n l) (hg : w.grownBy w' row) (hrow : ∀ r, row = some r → ∃ o : Obj, w.heap[r]? = some o ∧ o.isCells = false) : w'.ownsRow b T s v n l := by
  refine ⟨h.1, ?_⟩
  rcases h.2 with hn | ⟨g, cap, cur, rfl, hb, hgg, rest⟩
  · exact .inl hn
  · refine .inr ⟨g, cap, cur, rfl, hb, ?_, rest⟩
    have hlt := (Array.getElem?_eq_some_iff.1 hgg).1
    rw [hg.block g hlt (fun e => by obtain ⟨o, ho, hc⟩ := hrow g e.symm; rw [hgg] at ho; cases ho; cases hc)]
    exact hgg
end Go.Proofs.YtjpkeolielpelaaGreatDoor
