/- Races: their climbers, gone through by an iterator. -/
import Derived.Test.YthfmgficbnmmnaaGreatDoorRdF
namespace Go.Proofs.YthfmgficbnmmnaaGreatDoor
open Go.RowKit Go.Shelf
set_option linter.unusedSimpArgs false
set_option linter.unusedVariables false
attribute [local go_sem] Oper.semAt_some
/-- the climbers of a race, with the lanes -/
def laneL (r : RaR) : List (RaR × Int) := (if r.a.toList = [] then [] else [(r, 1)]) ++ (if r.b.toList = [] then [] else [(r, 2)])
/-- the climbers of races -/
def clL (l : List RaR) : List (RaR × Int) := l.flatMap laneL
theorem clL_take {l : List RaR} {i : Nat} {x : RaR} (h : l[i]? = some x) : clL (l.take (i + 1)) = clL (l.take i) ++ laneL x := by
  rw [List.take_add_one, h]; simp [clL]
theorem clL_pre {l : List RaR} {i : Nat} {x : RaR} (h : l[i]? = some x) {t : List (RaR × Int)} (ht : t <+: laneL x) : clL (l.take i) ++ t <+: clL l := by
  obtain ⟨u, hu⟩ := ht
  have e : l = l.take i ++ x :: l.drop (i + 1) := by
    have := List.getElem?_eq_some_iff.1 h
    obtain ⟨hi, rfl⟩ := this
    rw [List.getElem_cons_drop, List.take_append_drop]
  refine ⟨u ++ clL (l.drop (i + 1)), ?_⟩
  conv => rhs; rw [e]
  simp only [clL, List.flatMap_append, List.flatMap_cons, ← hu, List.append_assoc]
theorem clL_pre' {l : List RaR} {i : Nat} {x : RaR} {P : List (RaR × Int)} (h : l[i]? = some x) (hP : P = clL (l.take i)) {t : List (RaR × Int)} (ht : t <+: laneL x) : P ++ t <+: clL l := by subst hP; exact clL_pre h ht
theorem laneL_len (x : RaR) : (laneL x).length ≤ 2 := by
  unfold laneL
  split <;> split <;> simp
theorem clL_len (l : List RaR) : (clL l).length ≤ 2 * l.length := by
  induction l with
  | nil => simp [clL]
  | cons x xs ih =>
    have h1 := laneL_len x
    simp only [clL, List.flatMap_cons, List.length_append, List.length_cons] at *
    omega
/-- all climbers of races -/
def IsCl (l : List RaR) (zs : List (RaR × Int)) : Prop := zs = clL l
/-- how a round over climbers may be: what the iterator needs to find again -/
structure KpCl (Kp : World → World → Prop) (p : Option Addr) (l : List RaR) : Prop where
  ra : ∀ A B, Kp A B → RaS A p l → RaS B p l
  box : ∀ A B, Kp A B → ∀ (k : Nat) (cur : Array Value) z, A.heap[k]? = some (.cells cur 55 z) → B.heap[k]? = A.heap[k]?
theorem KpCl.cells {Kp : World → World → Prop} {p : Option Addr} {l : List RaR} (h : KpCl Kp p l) {A B : World} (hk : Kp A B) {k : Nat} {cur : Array Value} {z : Nat × Nat} (hc : A.heap[k]? = some (.cells cur 55 z)) : B.heap[k]? = some (.cells cur 55 z) := (h.box A B hk k cur z hc).trans hc
theorem cells3_of {w : World} {g : Nat} {a b c : Value} {T : TypeId} {z : Nat × Nat} (h : w.heap[g]? = some (.cells #[a, b, c] T z)) : w.cell? ⟨g, 0, none⟩ = some a ∧ w.cell? ⟨g, 1, none⟩ = some b ∧ w.cell? ⟨g, 2, none⟩ = some c := by
  simp [World.cell?, h]
set_option maxHeartbeats 4000000 in
set_option maxRecDepth 100000 in
theorem climbers_in (lp Bl n : Nat) (p : Option Addr) (c : Nat) (l : List RaR) (hl : l.length = n) (hn : n ≤ 1000) (hc : n ≤ c) (Kp : World → World → Prop) (hKp : KpCl Kp p l) (J Jx : List (RaR × Int) → World → Prop) (W : World)
    (hJ : ∀ (s : List (RaR × Int)) (A B : World), J s A → Gr A B → J s B)
    (hY : ∀ pre y W1, J pre W1 → pre.length < 2 * n → YieldAt Fence.wide 2 Tryz.prog lp #[raV y.1, .int .i64 y.2] W1 fun e W' =>
      (e = .returned (.bool true) ∧ J (pre ++ [y]) W' ∧ Kp W1 W') ∨ (e = .returned (.bool false) ∧ Jx (pre ++ [y]) W'))
    (hs : W.cell? ⟨Bl, 0, none⟩ = some (.slice p n c)) (hr : RaS W p l) (h0 : J [] W) :
    CallsIn Fence.wide 3 Tryz.prog 91 #[.func (.yield lp) #[] #[], .pointer (some ⟨Bl, 0, none⟩)] W fun e W' => (∃ v, e = .returned v) ∧
      ((∃ zs : List (RaR × Int), IsCl l zs ∧ J zs W') ∨ (∃ pre, pre <+: clL l ∧ Jx pre W')) := by
  refine callsIn_of_wp Tryz.func91 rfl trivial ?_ rfl
  simp only [Tryz.ntmps91, List.size_toArray, List.length_cons, List.length_nil, Nat.reduceAdd, Nat.reduceSub, Array.replicate_succ, Array.replicate_zero, List.push_toArray, List.append_toArray, List.nil_append, List.cons_append]
  have HL := Lib.hid hl
  have HKP := Lib.hid hKp
  have HJ := Lib.hid hJ
  have HY := Lib.hid hY
  have HR0 := Lib.hid hr
  have HIN := Lib.hid inR_c
  clear hl hKp hJ hY hr
  gi_wp2
  gi_loopw [8] (fun dv wr => ∃ i : Nat, dv = .int .i64 (i : Int) ∧ i ≤ n ∧ J (clL (l.take i)) wr ∧ Hid (RaS wr p l)) (fun dv _ => n + 1 - (intOf dv).toNat)
  case atStart => exact ⟨0, rfl, Nat.zero_le _, h0, HR0.out⟩
  case round =>
    obtain ⟨i, rfl, hin, hJs, HR⟩ := hrel
    by_cases hlt : i < n
    · have hlt2 : (i : Int) < (n : Int) := by omega
      obtain ⟨x, hx⟩ : ∃ x, l[i]? = some x := ⟨l[i]'(by have := HL.out; omega), List.getElem?_eq_getElem _⟩
      obtain ⟨b, off, rfl, hcl⟩ := HR.out.out (by have := HL.out; omega)
      obtain ⟨a0, a1, a2⟩ := hcl i x hx
      have HX := Lib.hid hx
      have hpl : (clL (l.take i)).length ≤ 2 * i := by have := clL_len (l.take i); rw [List.length_take] at this; omega
      have hT := clL_take hx
      have HP0 := Lib.hid (clL_pre hx (t := []) (List.nil_prefix))
      obtain ⟨xa, xb, xw⟩ := x
      simp only at a0 a1 a2
      clear hx hcl
      have HT := Lib.hid hT
      have HJS := Lib.hid hJs
      have HPL := Lib.hid hpl
      clear hT hJs hpl h0 hs
      obtain ⟨P, hPD⟩ : ∃ P, P = clL (l.take i) := ⟨_, rfl⟩
      rw [← hPD] at HT HJS HPL HP0
      have HPD := Lib.hid hPD
      clear hPD
      gi_wp2_with fail
      obtain ⟨W1, hW1, g1, z0, z1, z2⟩ := box3 wr (.string xa) (.string xb) (.int .i64 xw) 55
      have hblk : W1.heap[wr.heap.size]? = some (.cells #[.string xa, .string xb, .int .i64 xw] 55 (0, 0)) := by rw [← hW1]; exact heap_alloc_new wr _
      have HI1 := Lib.hid (fun V => inR_c ⟨xa, xb, xw⟩ 1 V)
      have HI2 := Lib.hid (fun V => inR_c ⟨xa, xb, xw⟩ 2 V)
      have HB1 := Lib.hid hblk
      have HR1 := Lib.hid (HR.out.gr g1)
      have HJ1 := Lib.hid (HJ.out _ _ _ HJS.out g1)
      rw [hW1]
      clear hW1 hblk g1 a0 a1 a2
      generalize wr.heap.size = X at *
      have HA : (xa.toList = [] ∧ xa.toList.isEmpty = true) ∨ (¬ xa.toList = [] ∧ xa.toList.isEmpty = false) := by cases xa.toList <;> simp
      have HB : (xb.toList = [] ∧ xb.toList.isEmpty = true) ∨ (¬ xb.toList = [] ∧ xb.toList.isEmpty = false) := by cases xb.toList <;> simp
      rcases HA with ⟨ha, ha2⟩ | ⟨ha, ha2⟩ <;> rcases HB with ⟨hb, hb2⟩ | ⟨hb, hb2⟩
      · have HLN2 : Hid (laneL ⟨xa, xb, xw⟩ = []) := by unfold Hid laneL; (first | rw [if_pos ha, if_pos hb] | rw [if_pos ha, if_neg hb] | rw [if_neg ha, if_pos hb] | rw [if_neg ha, if_neg hb]) <;> rfl
        have HTT : Hid (clL (l.take (i + 1)) = P ++ []) := by rw [Hid, HT.out, HLN2.out]
        have HPF : Hid (∀ t, t <+: [] → P ++ t <+: clL l) := fun t ht => clL_pre' HX.out HPD.out (by rw [HLN2.out]; exact ht)
        refine wpIn_loop_rounds 3 ?_
        rw [roundsIn_succ]
        gi_wp2_with fail
        refine ⟨trivial, ?_⟩
        gi_at_call 46
        refine (callsIn_wide.2 (HI1.out W1)).mono ?_
        rintro e W2 ⟨rfl, g2⟩
        rw [show inR ⟨xa, xb, xw⟩ 1 = xa from rfl]
        have hb2' := Gr.block g2 HB1.out
        have HR2 := Lib.hid (HR1.out.gr g2)
        have HJ2 := Lib.hid (HJ.out _ _ _ HJ1.out g2)
        obtain ⟨y0, y1, y2⟩ := cells3_of hb2'
        have HB2 := Lib.hid hb2'
        clear hb2' z0 z1 z2
        gi_wp2_with fail
        refine ⟨fun _ h => (by cases h), ?_⟩
        gi_wp2_with fail
        rw [roundsIn_succ]
        gi_wp2_with fail
        refine ⟨trivial, ?_⟩
        gi_at_call 46
        refine (callsIn_wide.2 (HI2.out W2)).mono ?_
        rintro e W4 ⟨rfl, g4⟩
        rw [show inR ⟨xa, xb, xw⟩ 2 = xb from rfl]
        have hb4' := Gr.block g4 HB2.out
        have HR4 := Lib.hid (HR2.out.gr g4)
        have HJ4 := Lib.hid (HJ.out _ _ _ HJ2.out g4)
        clear y0 y1 y2
        obtain ⟨y0, y1, y2⟩ := cells3_of hb4'
        have HB4 := Lib.hid hb4'
        clear hb4'
        gi_wp2_with fail
        refine ⟨fun _ h => (by cases h), ?_⟩
        gi_wp2_with fail
        rw [roundsIn_succ]
        gi_wp2_with fail
        refine ⟨⟨i + 1, by go_num, by omega, by rw [HTT.out]; first | exact HJ4.out | simpa using HJ4.out, HR4.out⟩, ?_⟩
        simp [intOf]
        omega
      · have HLN2 : Hid (laneL ⟨xa, xb, xw⟩ = [(⟨xa, xb, xw⟩, 2)]) := by unfold Hid laneL; (first | rw [if_pos ha, if_pos hb] | rw [if_pos ha, if_neg hb] | rw [if_neg ha, if_pos hb] | rw [if_neg ha, if_neg hb]) <;> rfl
        have HTT : Hid (clL (l.take (i + 1)) = P ++ [(⟨xa, xb, xw⟩, 2)]) := by rw [Hid, HT.out, HLN2.out]
        have HPF : Hid (∀ t, t <+: [(⟨xa, xb, xw⟩, 2)] → P ++ t <+: clL l) := fun t ht => clL_pre' HX.out HPD.out (by rw [HLN2.out]; exact ht)
        refine wpIn_loop_rounds 3 ?_
        rw [roundsIn_succ]
        gi_wp2_with fail
        refine ⟨trivial, ?_⟩
        gi_at_call 46
        refine (callsIn_wide.2 (HI1.out W1)).mono ?_
        rintro e W2 ⟨rfl, g2⟩
        rw [show inR ⟨xa, xb, xw⟩ 1 = xa from rfl]
        have hb2' := Gr.block g2 HB1.out
        have HR2 := Lib.hid (HR1.out.gr g2)
        have HJ2 := Lib.hid (HJ.out _ _ _ HJ1.out g2)
        obtain ⟨y0, y1, y2⟩ := cells3_of hb2'
        have HB2 := Lib.hid hb2'
        clear hb2' z0 z1 z2
        gi_wp2_with fail
        refine ⟨fun _ h => (by cases h), ?_⟩
        gi_wp2_with fail
        rw [roundsIn_succ]
        gi_wp2_with fail
        refine ⟨trivial, ?_⟩
        gi_at_call 46
        refine (callsIn_wide.2 (HI2.out W2)).mono ?_
        rintro e W4 ⟨rfl, g4⟩
        rw [show inR ⟨xa, xb, xw⟩ 2 = xb from rfl]
        have hb4' := Gr.block g4 HB2.out
        have HR4 := Lib.hid (HR2.out.gr g4)
        have HJ4 := Lib.hid (HJ.out _ _ _ HJ2.out g4)
        clear y0 y1 y2
        obtain ⟨y0, y1, y2⟩ := cells3_of hb4'
        have HB4 := Lib.hid hb4'
        clear hb4'
        obtain ⟨fn, tmps, assign, body, hy, hR⟩ := HY.out (P) (⟨xa, xb, xw⟩, 2) W4 HJ4.out (by have := HPL.out; (try simp only [List.length_append, List.length_cons, List.length_nil]); omega)
        simp only [raV] at hy
        have HRR := Lib.hid hR
        clear hR
        gi_wp2_with fail
        refine HRR.out.mono ?_
        rintro e W5 (⟨rfl, hj, hk⟩ | ⟨rfl, hj⟩)
        rotate_left
        · have HQ : Hid (P ++ [(⟨xa, xb, xw⟩, 2)] <+: clL l) := by
            have := HPF.out ([(⟨xa, xb, xw⟩, 2)]) (by simp)
            rw [Hid]
            simpa using this
          have HJX := Lib.hid hj
          clear hj
          gi_wp2_with fail
          first
            | (refine bodyPost_ret (v := .tuple #[]) (by simp [results, Tryz.results91, go_sem]) rfl ?_; exact ⟨⟨_, rfl⟩, .inr ⟨_, HQ.out, HJX.out⟩⟩)
            | (refine ⟨rfl, _, by simp [results, Tryz.results91, go_sem]; rfl, ?_⟩; exact ⟨⟨_, rfl⟩, .inr ⟨_, HQ.out, HJX.out⟩⟩)
        have hb3' := HKP.out.cells hk HB4.out
        have HRW5 := Lib.hid (HKP.out.ra _ _ hk HR4.out)
        have HJW5 := Lib.hid hj
        have HBW5 := Lib.hid hb3'
        clear hj hk hy
        clear y0 y1 y2
        obtain ⟨y0, y1, y2⟩ := cells3_of hb3'
        clear hb3'
        gi_wp2_with fail
        rw [roundsIn_succ]
        gi_wp2_with fail
        refine ⟨⟨i + 1, by go_num, by omega, by rw [HTT.out]; first | exact HJW5.out | simpa using HJW5.out, HRW5.out⟩, ?_⟩
        simp [intOf]
        omega
      · have HLN2 : Hid (laneL ⟨xa, xb, xw⟩ = [(⟨xa, xb, xw⟩, 1)]) := by unfold Hid laneL; (first | rw [if_pos ha, if_pos hb] | rw [if_pos ha, if_neg hb] | rw [if_neg ha, if_pos hb] | rw [if_neg ha, if_neg hb]) <;> rfl
        have HTT : Hid (clL (l.take (i + 1)) = P ++ [(⟨xa, xb, xw⟩, 1)]) := by rw [Hid, HT.out, HLN2.out]
        have HPF : Hid (∀ t, t <+: [(⟨xa, xb, xw⟩, 1)] → P ++ t <+: clL l) := fun t ht => clL_pre' HX.out HPD.out (by rw [HLN2.out]; exact ht)
        refine wpIn_loop_rounds 3 ?_
        rw [roundsIn_succ]
        gi_wp2_with fail
        refine ⟨trivial, ?_⟩
        gi_at_call 46
        refine (callsIn_wide.2 (HI1.out W1)).mono ?_
        rintro e W2 ⟨rfl, g2⟩
        rw [show inR ⟨xa, xb, xw⟩ 1 = xa from rfl]
        have hb2' := Gr.block g2 HB1.out
        have HR2 := Lib.hid (HR1.out.gr g2)
        have HJ2 := Lib.hid (HJ.out _ _ _ HJ1.out g2)
        obtain ⟨y0, y1, y2⟩ := cells3_of hb2'
        have HB2 := Lib.hid hb2'
        clear hb2' z0 z1 z2
        obtain ⟨fn, tmps, assign, body, hy, hR⟩ := HY.out (P) (⟨xa, xb, xw⟩, 1) W2 HJ2.out (by have := HPL.out; (try simp only [List.length_append, List.length_cons, List.length_nil]); omega)
        simp only [raV] at hy
        have HRR := Lib.hid hR
        clear hR
        gi_wp2_with fail
        refine HRR.out.mono ?_
        rintro e W3 (⟨rfl, hj, hk⟩ | ⟨rfl, hj⟩)
        rotate_left
        · have HQ : Hid (P ++ [(⟨xa, xb, xw⟩, 1)] <+: clL l) := by
            have := HPF.out ([(⟨xa, xb, xw⟩, 1)]) (by simp)
            rw [Hid]
            simpa using this
          have HJX := Lib.hid hj
          clear hj
          gi_wp2_with fail
          first
            | (refine bodyPost_ret (v := .tuple #[]) (by simp [results, Tryz.results91, go_sem]) rfl ?_; exact ⟨⟨_, rfl⟩, .inr ⟨_, HQ.out, HJX.out⟩⟩)
            | (refine ⟨rfl, _, by simp [results, Tryz.results91, go_sem]; rfl, ?_⟩; exact ⟨⟨_, rfl⟩, .inr ⟨_, HQ.out, HJX.out⟩⟩)
        have hb3' := HKP.out.cells hk HB2.out
        have HRW3 := Lib.hid (HKP.out.ra _ _ hk HR2.out)
        have HJW3 := Lib.hid hj
        have HBW3 := Lib.hid hb3'
        clear hj hk hy
        clear y0 y1 y2
        obtain ⟨y0, y1, y2⟩ := cells3_of hb3'
        clear hb3'
        gi_wp2_with fail
        rw [roundsIn_succ]
        gi_wp2_with fail
        refine ⟨trivial, ?_⟩
        gi_at_call 46
        refine (callsIn_wide.2 (HI2.out W3)).mono ?_
        rintro e W4 ⟨rfl, g4⟩
        rw [show inR ⟨xa, xb, xw⟩ 2 = xb from rfl]
        have hb4' := Gr.block g4 HBW3.out
        have HR4 := Lib.hid (HRW3.out.gr g4)
        have HJ4 := Lib.hid (HJ.out _ _ _ HJW3.out g4)
        clear y0 y1 y2
        obtain ⟨y0, y1, y2⟩ := cells3_of hb4'
        have HB4 := Lib.hid hb4'
        clear hb4'
        gi_wp2_with fail
        refine ⟨fun _ h => (by cases h), ?_⟩
        gi_wp2_with fail
        rw [roundsIn_succ]
        gi_wp2_with fail
        refine ⟨⟨i + 1, by go_num, by omega, by rw [HTT.out]; first | exact HJ4.out | simpa using HJ4.out, HR4.out⟩, ?_⟩
        simp [intOf]
        omega
      · have HLN2 : Hid (laneL ⟨xa, xb, xw⟩ = [(⟨xa, xb, xw⟩, 1), (⟨xa, xb, xw⟩, 2)]) := by unfold Hid laneL; (first | rw [if_pos ha, if_pos hb] | rw [if_pos ha, if_neg hb] | rw [if_neg ha, if_pos hb] | rw [if_neg ha, if_neg hb]) <;> rfl
        have HTT : Hid (clL (l.take (i + 1)) = P ++ [(⟨xa, xb, xw⟩, 1), (⟨xa, xb, xw⟩, 2)]) := by rw [Hid, HT.out, HLN2.out]
        have HPF : Hid (∀ t, t <+: [(⟨xa, xb, xw⟩, 1), (⟨xa, xb, xw⟩, 2)] → P ++ t <+: clL l) := fun t ht => clL_pre' HX.out HPD.out (by rw [HLN2.out]; exact ht)
        refine wpIn_loop_rounds 3 ?_
        rw [roundsIn_succ]
        gi_wp2_with fail
        refine ⟨trivial, ?_⟩
        gi_at_call 46
        refine (callsIn_wide.2 (HI1.out W1)).mono ?_
        rintro e W2 ⟨rfl, g2⟩
        rw [show inR ⟨xa, xb, xw⟩ 1 = xa from rfl]
        have hb2' := Gr.block g2 HB1.out
        have HR2 := Lib.hid (HR1.out.gr g2)
        have HJ2 := Lib.hid (HJ.out _ _ _ HJ1.out g2)
        obtain ⟨y0, y1, y2⟩ := cells3_of hb2'
        have HB2 := Lib.hid hb2'
        clear hb2' z0 z1 z2
        obtain ⟨fn, tmps, assign, body, hy, hR⟩ := HY.out (P) (⟨xa, xb, xw⟩, 1) W2 HJ2.out (by have := HPL.out; (try simp only [List.length_append, List.length_cons, List.length_nil]); omega)
        simp only [raV] at hy
        have HRR := Lib.hid hR
        clear hR
        gi_wp2_with fail
        refine HRR.out.mono ?_
        rintro e W3 (⟨rfl, hj, hk⟩ | ⟨rfl, hj⟩)
        rotate_left
        · have HQ : Hid (P ++ [(⟨xa, xb, xw⟩, 1)] <+: clL l) := by
            have := HPF.out ([(⟨xa, xb, xw⟩, 1)]) (by simp)
            rw [Hid]
            simpa using this
          have HJX := Lib.hid hj
          clear hj
          gi_wp2_with fail
          first
            | (refine bodyPost_ret (v := .tuple #[]) (by simp [results, Tryz.results91, go_sem]) rfl ?_; exact ⟨⟨_, rfl⟩, .inr ⟨_, HQ.out, HJX.out⟩⟩)
            | (refine ⟨rfl, _, by simp [results, Tryz.results91, go_sem]; rfl, ?_⟩; exact ⟨⟨_, rfl⟩, .inr ⟨_, HQ.out, HJX.out⟩⟩)
        have hb3' := HKP.out.cells hk HB2.out
        have HRW3 := Lib.hid (HKP.out.ra _ _ hk HR2.out)
        have HJW3 := Lib.hid hj
        have HBW3 := Lib.hid hb3'
        clear hj hk hy
        clear y0 y1 y2
        obtain ⟨y0, y1, y2⟩ := cells3_of hb3'
        clear hb3'
        gi_wp2_with fail
        rw [roundsIn_succ]
        gi_wp2_with fail
        refine ⟨trivial, ?_⟩
        gi_at_call 46
        refine (callsIn_wide.2 (HI2.out W3)).mono ?_
        rintro e W4 ⟨rfl, g4⟩
        rw [show inR ⟨xa, xb, xw⟩ 2 = xb from rfl]
        have hb4' := Gr.block g4 HBW3.out
        have HR4 := Lib.hid (HRW3.out.gr g4)
        have HJ4 := Lib.hid (HJ.out _ _ _ HJW3.out g4)
        clear y0 y1 y2
        obtain ⟨y0, y1, y2⟩ := cells3_of hb4'
        have HB4 := Lib.hid hb4'
        clear hb4'
        obtain ⟨fn, tmps, assign, body, hy, hR⟩ := HY.out (P ++ [(⟨xa, xb, xw⟩, 1)]) (⟨xa, xb, xw⟩, 2) W4 HJ4.out (by have := HPL.out; (try simp only [List.length_append, List.length_cons, List.length_nil]); omega)
        simp only [raV] at hy
        have HRR := Lib.hid hR
        clear hR
        gi_wp2_with fail
        refine HRR.out.mono ?_
        rintro e W5 (⟨rfl, hj, hk⟩ | ⟨rfl, hj⟩)
        rotate_left
        · have HQ : Hid (P ++ [(⟨xa, xb, xw⟩, 1)] ++ [(⟨xa, xb, xw⟩, 2)] <+: clL l) := by
            have := HPF.out ([(⟨xa, xb, xw⟩, 1), (⟨xa, xb, xw⟩, 2)]) (by simp)
            rw [Hid]
            simpa using this
          have HJX := Lib.hid hj
          clear hj
          gi_wp2_with fail
          first
            | (refine bodyPost_ret (v := .tuple #[]) (by simp [results, Tryz.results91, go_sem]) rfl ?_; exact ⟨⟨_, rfl⟩, .inr ⟨_, HQ.out, HJX.out⟩⟩)
            | (refine ⟨rfl, _, by simp [results, Tryz.results91, go_sem]; rfl, ?_⟩; exact ⟨⟨_, rfl⟩, .inr ⟨_, HQ.out, HJX.out⟩⟩)
        have hb3' := HKP.out.cells hk HB4.out
        have HRW5 := Lib.hid (HKP.out.ra _ _ hk HR4.out)
        have HJW5 := Lib.hid hj
        have HBW5 := Lib.hid hb3'
        clear hj hk hy
        clear y0 y1 y2
        obtain ⟨y0, y1, y2⟩ := cells3_of hb3'
        clear hb3'
        gi_wp2_with fail
        rw [roundsIn_succ]
        gi_wp2_with fail
        refine ⟨⟨i + 1, by go_num, by omega, by rw [HTT.out]; first | exact HJW5.out | simpa using HJW5.out, HRW5.out⟩, ?_⟩
        simp [intOf]
        omega
    · obtain rfl : i = n := by omega
      have hlt2 : ¬ (i : Int) < (i : Int) := by omega
      have hz : J (clL l) wr := by rwa [List.take_of_length_le (by have := HL.out; omega)] at hJs
      have HZ := Lib.hid hz
      clear hJs hz h0
      gi_wp2
      go_end0
      exact ⟨⟨_, rfl⟩, .inl ⟨_, rfl, HZ.out⟩⟩
end Go.Proofs.YthfmgficbnmmnaaGreatDoor
