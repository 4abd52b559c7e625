/- Races given: read, copied, short. -/
import Derived.Test.YthfmgficbnmmnaaGreatDoorRcN
namespace Go.Proofs.YthfmgficbnmmnaaGreatDoor
open Go.RowKit Go.Lib
set_option linter.unusedSimpArgs false
set_option linter.unusedVariables false
/-- the slice v holds these races -/
structure RaV (w : World) (v : Value) (l : List RaR) : Prop where
  mk' ::
  out : ∃ p cap, v = .slice p l.length cap ∧ (l.length ≤ cap ∧ cap ≤ maxLen) ∧ RaS w p l
theorem RaV.gr {w w' : World} {v : Value} {l : List RaR} (h : RaV w v l) (k : Gr w w') : RaV w' v l := by
  obtain ⟨⟨p, cap, rfl, hc, hr⟩⟩ := h
  exact ⟨p, cap, rfl, hc, hr.gr k⟩
theorem RaV.of_own {w : World} {b n : Nat} {T : TypeId} {v : Value} {l : List RaR} (hn : l.length = n) (h : w.ownsRow b T 3 v n (raCs l)) : RaV w v l := by
  obtain ⟨p, c, rfl, h1, h2⟩ := own_shape h
  subst hn
  exact ⟨p, c, rfl, ⟨h1, h2⟩, RaS.of_own h rfl⟩
theorem cell_three6 (w : World) (a b c : Value) (T : TypeId) : ∀ (j : Nat) (u : Value), [a, b, c][j]? = some u → (w.alloc (.cells #[a, b, c] T)).cell? ((⟨w.heap.size, 0, none⟩ : Addr).add j) = some u := by
  intro j u h
  rw [addr_add]
  match j, h with
  | 0, h => simp at h; subst h; exact cell_new w #[a, b, c] T 0 (by simp)
  | 1, h => simp at h; subst h; exact cell_new w #[a, b, c] T 1 (by simp)
  | 2, h => simp at h; subst h; exact cell_new w #[a, b, c] T 2 (by simp)
  | j + 3, h => simp at h
end Go.Proofs.YthfmgficbnmmnaaGreatDoor
namespace Go.Proofs.YthfmgficbnmmnaaGreatDoor
open Go.RowKit Go.Lib
set_option linter.unusedSimpArgs false
set_option linter.unusedVariables false
/-- one of the races is open -/
def openR (l : List RaR) : Bool := l.any fun r => r.w == 0
theorem openR_yes {l : List RaR} {i : Nat} {r : RaR} (h : l[i]? = some r) (hr : r.w = 0) : openR l = true :=
  List.any_eq_true.2 ⟨r, List.mem_of_getElem? h, by simpa using hr⟩
theorem openR_no {l : List RaR} (h : ∀ (i : Nat) (r : RaR), l[i]? = some r → r.w ≠ 0) : openR l = false := by
  cases hq : openR l with
  | false => rfl
  | true =>
    obtain ⟨r, hm, hr⟩ := List.any_eq_true.1 hq
    obtain ⟨i, hi⟩ := List.getElem?_of_mem hm
    exact absurd (by simpa using hr) (h i r hi)
/-- who is in a lane -/
def inR (r : RaR) (k : Int) : ByteArray := if k = 1 then r.a else if k = 2 then r.b else ⟨#[]⟩
set_option maxRecDepth 100000 in
theorem inR_c (r : RaR) (k : Int) (w : World) : Calls Tryz.prog 46 #[raV r, .int .i64 k] w fun e w' => e = .returned (.string (inR r k)) ∧ Gr w w' := by
  obtain ⟨xa, xb, xw⟩ := r
  have HE : Hid (inR ⟨xa, xb, xw⟩ k = if k = 1 then xa else if k = 2 then xb else ⟨#[]⟩) := rfl
  unfold raV
  obtain ⟨W, hW, g, a0, a1, a2⟩ := box3 w (.string xa) (.string xb) (.int .i64 xw) 55
  have HW := Lib.hid hW
  clear hW
  by_cases h1 : k = 1
  · subst h1
    go_enter Tryz.func46, Tryz.ntmps46
    go_wp2_with fail
    try rw [HW.out]
    go_wp2_with fail
    go_ret
    exact ⟨by rw [HE.out]; rfl, by first | exact g | exact Gr.refl _⟩
  · by_cases h2 : k = 2
    · subst h2
      go_enter Tryz.func46, Tryz.ntmps46
      go_wp2_with fail
      try rw [HW.out]
      go_wp2_with fail
      go_ret
      exact ⟨by rw [HE.out]; rfl, by first | exact g | exact Gr.refl _⟩
    · rw [if_neg h1, if_neg h2] at HE
      have d1 : (k == 1) = false := beq_eq_false_iff_ne.2 h1
      have d2 : (k == 2) = false := beq_eq_false_iff_ne.2 h2
      go_enter Tryz.func46, Tryz.ntmps46
      go_wp2_with fail
      try rw [HW.out]
      go_wp2_with fail
      go_ret
      exact ⟨by rw [HE.out]; rfl, by first | exact g | exact Gr.refl _⟩
end Go.Proofs.YthfmgficbnmmnaaGreatDoor
namespace Go.Proofs.YthfmgficbnmmnaaGreatDoor
open Go.RowKit Go.Lib
set_option linter.unusedSimpArgs false
set_option linter.unusedVariables false
set_option maxRecDepth 100000 in
theorem isOpen_c (a b : ByteArray) (k : Int) (w : World) : Calls Tryz.prog 101 #[.agg #[.string a, .string b, .int .i64 k]] w fun e w' => e = .returned (.bool (k == 0)) ∧ Gr w w' := by
  obtain ⟨W, hW, g, a0, a1, a2⟩ := box3 w (.string a) (.string b) (.int .i64 k) 55
  have HW := Lib.hid hW
  clear hW
  go_enter Tryz.func101, Tryz.ntmps101
  go_wp2_with fail
  try rw [HW.out]
  go_wp2_with fail
  go_ret
  exact ⟨rfl, g⟩
set_option maxHeartbeats 4000000 in
set_option maxRecDepth 100000 in
theorem indexOpen_c {v : Value} {l : List RaR} {w : World} (h : RaV w v l) :
    Calls Tryz.prog 136 #[v, .func (.func 101) #[] #[]] w fun e w' => (∃ z : Int, e = .returned (.int .i64 z) ∧ Hid (0 ≤ z ↔ openR l = true)) ∧ Gr w w' := by
  obtain ⟨⟨p, cap, rfl, ⟨hcap, hmx⟩, hr⟩⟩ := h
  obtain ⟨n, hn⟩ : ∃ n, n = l.length := ⟨_, rfl⟩
  rw [← hn] at hcap ⊢
  have HN := Lib.hid hn
  have HR := Lib.hid hr.out
  have HI := Lib.hid isOpen_c
  have hnm : n ≤ maxLen := Nat.le_trans hcap hmx
  unfold maxLen at hnm
  clear hr hn hcap hmx
  go_enter Tryz.func136, Tryz.ntmps136
  go_wp2_with fail
  go_loopg [8] n (fun gk s8 wr => ∃ i : Nat, s8 = .int .i64 (i : Int) ∧ gk + i = n ∧ Hid (∀ (j : Nat) r, j < i → l[j]? = some r → r.w ≠ 0) ∧ Hid (Gr w wr))
  case atStart => exact ⟨0, rfl, by omega, fun j r h => by omega, Gr.refl _⟩
  case round =>
    obtain ⟨i, rfl, hgk, HS, HG⟩ := hrel
    by_cases hlt : i < n
    · obtain ⟨x, hx⟩ : ∃ x, l[i]? = some x := ⟨l[i]'(by have := HN.out; omega), List.getElem?_eq_getElem _⟩
      obtain ⟨b, off, rfl, hc⟩ := HR.out (by have := HN.out; omega)
      obtain ⟨a0, a1, a2⟩ := hc i x hx
      replace a0 := Gr.cell HG.out a0
      replace a1 := Gr.cell HG.out a1
      replace a2 := Gr.cell HG.out a2
      have hlt2 : (i : Int) < (n : Int) := by omega
      have HX := Lib.hid hx
      obtain ⟨xa, xb, xw⟩ := x
      simp only at a0 a1 a2
      clear hx hc
      by_cases hw : xw = 0
      · have HO : Hid (openR l = true) := openR_yes HX.out hw
        have d1 : (xw == 0) = true := by simpa using hw
        clear hw
        go_wp2_with fail
        refine (HI.out xa xb xw wr).mono ?_
        rintro e w4 ⟨rfl, g4⟩
        rw [d1]
        have G4 := Lib.hid (HG.out.trans g4)
        go_wp2_with fail
        go_ret
        exact ⟨⟨_, rfl, ⟨fun _ => HO.out, fun _ => by omega⟩⟩, G4.out⟩
      · have d1 : (xw == 0) = false := by simpa using hw
        have HW := Lib.hid hw
        clear hw
        go_wp2_with fail
        refine (HI.out xa xb xw wr).mono ?_
        rintro e w4 ⟨rfl, g4⟩
        rw [d1]
        have G4 := Lib.hid (HG.out.trans g4)
        go_wp2_with fail
        go_roundg (gk - 1)
        case measure => omega
        case rel => exact ⟨i + 1, by go_num, by omega, fun j r hj hr => by
          rcases Nat.lt_or_ge j i with h | h
          · exact HS.out j r h hr
          · obtain rfl : i = j := by omega
            have := HX.out
            rw [this] at hr
            cases hr
            exact HW.out, G4.out⟩
    · obtain rfl : n = i := by omega
      have hlt2 : ¬ (n : Int) < (n : Int) := by omega
      have HO : Hid (openR l = false) := openR_no fun j r hj => HS.out j r (by have := HN.out; have := (List.getElem?_eq_some_iff.1 hj).1; omega) hj
      go_wp2_with fail
      go_ret
      exact ⟨⟨_, rfl, ⟨fun h => by omega, fun h => by rw [HO.out] at h; cases h⟩⟩, HG.out⟩
theorem containsOpen_c {v : Value} {l : List RaR} {w : World} (h : RaV w v l) :
    Calls Tryz.prog 102 #[v, .func (.func 101) #[] #[]] w fun e w' => e = .returned (.bool (openR l)) ∧ Gr w w' := by
  have HIX := Lib.hid (indexOpen_c h)
  obtain ⟨⟨p, cap, rfl, _, _⟩⟩ := h
  generalize l.length = n at *
  go_enter Tryz.func102, Tryz.ntmps102
  go_wp2_with fail
  refine HIX.out.mono ?_
  rintro e w4 ⟨⟨z, rfl, hz⟩, g⟩
  have HZ : Hid (openR l = decide (0 ≤ z)) := by
    rw [Hid]
    cases hq : openR l with
    | true => exact (decide_eq_true (hz.2 hq)).symm
    | false => exact (decide_eq_false (fun h => by rw [hz.1 h] at hq; cases hq)).symm
  clear hz
  go_wp2_with fail
  go_ret
  exact ⟨by rw [HZ.out]; first | rfl | simp, g⟩
theorem checkDecided_c {v : Value} {l : List RaR} {w : World} (h : RaV w v l) :
    Calls Tryz.prog 62 #[v] w fun e w' => e = .returned (.int .i64 (if openR l then 24 else 0)) ∧ Gr w w' := by
  have HIX := Lib.hid (containsOpen_c h)
  have HIF := Lib.hid (fun b m W => if_c b m W)
  obtain ⟨⟨p, cap, rfl, _, _⟩⟩ := h
  generalize l.length = n at *
  generalize openR l = b at *
  go_enter Tryz.func62, Tryz.ntmps62
  go_wp2_with fail
  refine HIX.out.mono ?_
  rintro e w4 ⟨rfl, g⟩
  go_wp2_with fail
  refine (HIF.out _ _ _).mono ?_
  rintro e w5 ⟨rfl, rfl⟩
  go_wp2_with fail
  all_goals
    go_ret
    exact ⟨by first | rfl | simp, g⟩
end Go.Proofs.YthfmgficbnmmnaaGreatDoor
namespace Go.Proofs.YthfmgficbnmmnaaGreatDoor
open Go.RowKit Go.Lib
set_option linter.unusedSimpArgs false
set_option linter.unusedVariables false
/-- who has won -/
def winR (r : RaR) : ByteArray := inR r r.w
end Go.Proofs.YthfmgficbnmmnaaGreatDoor
namespace Go.Proofs.YthfmgficbnmmnaaGreatDoor
open Go.RowKit Go.Shelf
set_option linter.unusedSimpArgs false
set_option linter.unusedVariables false
attribute [local go_sem] Oper.semAt_some
set_option maxHeartbeats 400000 in
set_option maxRecDepth 100000 in
theorem chunkR_in (l Bs Bn n₀ x b o c M N : Nat) (hMN : M = 2 * N) (hN : N ≤ 100) (hc : M ≤ c) (hmx : c ≤ maxLen) (J Jx : List { y : Nat // y < N } → World → Prop) (W : World)
    (hJ : ∀ (s : List { y : Nat // y < N }) (A B : World), J s A → Gr A B → J s B)
    (hY : ∀ pre y W1, J pre W1 → pre.length < N → YieldAt Fence.wide 2 Tryz.prog l #[.slice (some ⟨b, o + 2 * y.1 * 3, none⟩) 2 2] W1 fun e W' =>
      (e = .returned (.bool true) ∧ J (pre ++ [y]) W' ∧ KpX n₀ x W1 W') ∨ (e = .returned (.bool false) ∧ Jx (pre ++ [y]) W'))
    (hBs : Bs < n₀ ∧ Bs ≠ x) (hBn : Bn < n₀ ∧ Bn ≠ x) (hs : W.cell? ⟨Bs, 0, none⟩ = some (.slice (some ⟨b, o, none⟩) M c)) (hn : W.cell? ⟨Bn, 0, none⟩ = some (.int .i64 2)) (h0 : J [] W) :
    CallsIn Fence.wide 3 Tryz.prog 137 #[.func (.yield l) #[] #[], .pointer (some ⟨Bs, 0, none⟩), .pointer (some ⟨Bn, 0, none⟩)] W fun e W' => (∃ v, e = .returned v) ∧
      ((∃ zs : List { y : Nat // y < N }, zs.map (fun y => y.1) = List.range N ∧ J zs W') ∨ (∃ pre, True ∧ Jx pre W')) := by
  have HMN := Lib.hid hMN
  refine callsIn_of_wp Tryz.func137 rfl trivial ?_ rfl
  simp only [Tryz.ntmps137, List.size_toArray, List.length_cons, List.length_nil, Nat.reduceAdd, Nat.reduceSub, Array.replicate_succ, Array.replicate_zero, List.push_toArray, List.append_toArray, List.nil_append, List.cons_append]
  clear hMN
  gi_wp2
  gi_loopw [4] (fun dv wr => ∃ (pre : List { y : Nat // y < N }) (m : Nat), dv = .int .i64 (m : Int) ∧ Hid (m = 2 * pre.length) ∧ Hid (pre.length ≤ N) ∧ Hid (pre.map (fun y => y.1) = List.range pre.length) ∧ J pre wr ∧ wr.cell? ⟨Bs, 0, none⟩ = some (.slice (some ⟨b, o, none⟩) M c) ∧ wr.cell? ⟨Bn, 0, none⟩ = some (.int .i64 2)) (fun dv _ => M + 2 - (intOf dv).toNat)
  case atStart => exact ⟨[], 0, rfl, rfl, Nat.zero_le _, rfl, h0, hs, hn⟩
  case round =>
    obtain ⟨pre, m, rfl, HM, HPL, HPM, hJs, hs2, hn2⟩ := hrel
    by_cases hlt : m < M
    · have hlt2 : (m : Int) < (M : Int) := by omega
      have hlen : pre.length < N := by have := HMN.out; have := HM.out; omega
      have HY : Hid (∀ W2, Gr wr W2 → YieldAt Fence.wide 2 Tryz.prog l #[.slice (some ⟨b, o + m * 3, none⟩) 2 2] W2 fun e W' => (e = .returned (.bool true) ∧ J (pre ++ [⟨pre.length, hlen⟩]) W' ∧ KpX n₀ x W2 W') ∨ (e = .returned (.bool false) ∧ Jx (pre ++ [⟨pre.length, hlen⟩]) W')) := fun W2 g => by
        rw [HM.out]; exact hY pre ⟨pre.length, hlen⟩ W2 (hJ pre _ W2 hJs g) hlen
      obtain ⟨r, hr⟩ : ∃ r, M - m = r := ⟨_, rfl⟩
      obtain ⟨cr, hcr⟩ : ∃ cr, c - m = cr := ⟨_, rfl⟩
      obtain ⟨m2, hm2⟩ : ∃ m2, m2 = m + 2 := ⟨_, rfl⟩
      have hmM : m2 ≤ M := by have := HMN.out; have := HM.out; omega
      have g1 : m ≤ M := by omega
      have g2 : ¬ c = m := by omega
      have g3 : ¬ (r : Int) < 2 := by omega
      have g4 : (m : Int) + 2 = (m2 : Int) := by omega
      have g5 : m2 ≤ c := by omega
      have g6 : m ≤ m2 := by omega
      have g7 : m2 - m = 2 := by omega
      have g8 : ¬ m2 = m := by omega
      have w2 : wrap64 (m2 : Int) = (m2 : Int) := by unfold wrap64; have := HMN.out; omega
      have HM2 := Lib.hid hm2
      have HMM := Lib.hid hmM
      have HK2 := Lib.hid hs2
      clear hm2 hY hJ h0 hs hn
      gi_wp2
      refine wpIn_wide.2 ?_
      refine wp_region_held_drew (S := (fun w' => w'.cell? ⟨Bs, 0, none⟩ = some (.slice (some ⟨b, o, none⟩) M c) ∧ w'.cell? ⟨Bn, 0, none⟩ = some (.int .i64 2))) (by kernel_rfl) ⟨hs2, hn2⟩ (fun hHeld => ?_)
      refine wpAnyH_take (i := 0) (v := (.int .i64 2)) (op_at rfl) (by kernel_rfl) (by kernel_rfl) (by kernel_rfl) (fun _ _ _ h => h) (Or.inl ⟨rfl, fun w hSw => ?_⟩) (by assumption) ?_
      · (try dsimp only at hSw); go_simp; try with_reducible rfl
      (try simp only [Act.put, List.setIfInBounds_toArray, List.set_cons_zero, List.set_cons_succ])
      refine wpAnyH_take (i := 1) (v := (.slice (some ⟨b, o, none⟩) M c)) (op_at rfl) (by kernel_rfl) (by kernel_rfl) (by kernel_rfl) (fun _ _ _ h => h) (Or.inl ⟨rfl, fun w hSw => ?_⟩) (by assumption) ?_
      · (try dsimp only at hSw); go_simp; try with_reducible rfl
      (try simp only [Act.put, List.setIfInBounds_toArray, List.set_cons_zero, List.set_cons_succ])
      refine wpAnyH_take (i := 2) (v := (.int .i64 (m : Int))) (op_at rfl) (by kernel_rfl) (by kernel_rfl) (by kernel_rfl) (fun _ _ _ h => h) (Or.inl ⟨rfl, fun w hSw => ?_⟩) (by assumption) ?_
      · (try dsimp only at hSw); go_simp; try with_reducible rfl
      (try simp only [Act.put, List.setIfInBounds_toArray, List.set_cons_zero, List.set_cons_succ])
      refine wpAnyH_take (i := 3) (v := (.slice (some ⟨b, o + m * 3, none⟩) r cr)) (op_at rfl) (by kernel_rfl) (by kernel_rfl) (by kernel_rfl) (fun _ _ _ h => h) (Or.inl ⟨rfl, fun w hSw => ?_⟩) (by assumption) ?_
      · (try dsimp only at hSw); go_simp; try with_reducible rfl
      (try simp only [Act.put, List.setIfInBounds_toArray, List.set_cons_zero, List.set_cons_succ])
      refine wpAnyH_take (i := 4) (v := (.int .i64 (r : Int))) (op_at rfl) (by kernel_rfl) (by kernel_rfl) (by kernel_rfl) (fun _ _ _ h => h) (Or.inl ⟨rfl, fun w hSw => ?_⟩) (by assumption) ?_
      · (try dsimp only at hSw); go_simp; try with_reducible rfl
      (try simp only [Act.put, List.setIfInBounds_toArray, List.set_cons_zero, List.set_cons_succ])
      refine wpAnyH_take (i := 5) (v := (.int .i64 2)) (op_at rfl) (by kernel_rfl) (by kernel_rfl) (by kernel_rfl) (fun _ _ _ h => h) (Or.inl ⟨rfl, fun w hSw => ?_⟩) (by assumption) ?_
      · (try dsimp only at hSw); go_simp; first | done | with_reducible rfl | omega
      (try simp only [Act.put, List.setIfInBounds_toArray, List.set_cons_zero, List.set_cons_succ])
      refine wpAnyH_take (i := 6) (v := (.int .i64 2)) (op_at rfl) (by kernel_rfl) (by kernel_rfl) (by kernel_rfl) (fun _ _ _ h => h) (Or.inl ⟨rfl, fun w hSw => ?_⟩) (by assumption) ?_
      · (try dsimp only at hSw); go_simp; try with_reducible rfl
      (try simp only [Act.put, List.setIfInBounds_toArray, List.set_cons_zero, List.set_cons_succ])
      refine wpAnyH_done (by kernel_rfl) ?_ _
      obtain ⟨fn, tmps, assign, body, hy, hR⟩ := HY.out wr.drew (Gr.drew (Gr.refl wr))
      have HRR := Lib.hid hR
      clear hR
      gi_wp2
      refine HRR.out.mono ?_
      rintro e W3 (⟨rfl, hJ3, hk3⟩ | ⟨rfl, hJx3⟩)
      · have hs4 := hk3.cell hBs.1 hBs.2 (show wr.drew.cell? ⟨Bs, 0, none⟩ = _ from hs2)
        have hn4 := hk3.cell hBn.1 hBn.2 (show wr.drew.cell? ⟨Bn, 0, none⟩ = _ from hn2)
        gi_wp2
        refine ⟨⟨pre ++ [⟨pre.length, hlen⟩], m2, by rw [w2], by rw [Hid, List.length_append, List.length_singleton, HM2.out, HM.out]; omega, by rw [Hid, List.length_append, List.length_singleton]; omega, by rw [Hid, List.map_append, List.length_append, List.length_singleton, List.range_succ, HPM.out]; rfl, hJ3, hs4, hn4⟩, ?_⟩
        rw [w2]
        exact two_less HM2.out HMM.out
      · gi_wp2
        first
          | (refine bodyPost_ret (v := .tuple #[]) (by simp [results, Tryz.results137, go_sem]) rfl ?_; exact ⟨⟨_, rfl⟩, .inr ⟨_, trivial, hJx3⟩⟩)
          | (refine ⟨rfl, _, by simp [results, Tryz.results137, go_sem]; rfl, ?_⟩; exact ⟨⟨_, rfl⟩, .inr ⟨_, trivial, hJx3⟩⟩)
    · have hlt2 : ¬ (m : Int) < (M : Int) := by omega
      have hz : pre.length = N := by have := HMN.out; have := HM.out; have := HPL.out; omega
      have HZ : Hid (pre.map (fun y => y.1) = List.range N) := by rw [Hid, HPM.out, hz]
      clear hz hJ hY
      gi_wp2
      go_end0
      exact ⟨⟨_, rfl⟩, .inl ⟨pre, HZ.out, hJs⟩⟩
end Go.Proofs.YthfmgficbnmmnaaGreatDoor
