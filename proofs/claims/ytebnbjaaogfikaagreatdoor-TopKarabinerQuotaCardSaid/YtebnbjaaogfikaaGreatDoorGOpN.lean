/- Small things that many texts of chapter 7 take: a box of three cells, check.If under a name, an operation of a region. -/
import Derived.Test.YtebnbjaaogfikaaGreatDoorGNat
namespace Go.Proofs.YtebnbjaaogfikaaGreatDoor
open Go.RowKit Go.Lib
set_option linter.unusedSimpArgs false
set_option linter.unusedVariables false
theorem box3 (w : World) (a0 a1 a2 : Value) (T : Nat) : ∃ W, w.alloc (.cells #[a0, a1, a2] T) = W ∧ Gr w W ∧ W.cell? ⟨w.heap.size, 0, none⟩ = some a0 ∧ W.cell? ⟨w.heap.size, 1, none⟩ = some a1 ∧ W.cell? ⟨w.heap.size, 2, none⟩ = some a2 :=
  ⟨_, rfl, (Gr.refl w).alloc _, cell_new w #[a0, a1, a2] T 0 (by simp), cell_new w #[a0, a1, a2] T 1 (by simp), cell_new w #[a0, a1, a2] T 2 (by simp)⟩
/-- check.If, its answer under a name -/
theorem if_e (b : Bool) (n : Int) : ∃ z, z = (if b then n else 0) ∧ ∀ W, Calls Tryz.prog 42 #[.bool b, .int .i64 n] W fun e w' => e = .returned (.int .i64 z) ∧ W = w' :=
  ⟨_, rfl, fun W => if_c b n W⟩
theorem firstE_last (a b c d e : Int) : firstE [a, b, c, d, e] = if firstE [a, b, c, d] = 0 then e else firstE [a, b, c, d] := by
  unfold firstE firstE firstE firstE firstE firstE
  by_cases h1 : a = 0 <;> by_cases h2 : b = 0 <;> by_cases h3 : c = 0 <;> by_cases h4 : d = 0 <;> by_cases h5 : e = 0 <;> simp [*]
/-- an operation of a region that is written out -/
theorem op_at {l : List Oper} {i : Nat} {o : Oper} (h : l[i]? = some o) : l.toArray[i]? = some o := by rw [List.getElem?_toArray]; exact h
/-- the states' table lies in the world -/
def StatesIn (w : World) : Prop := ∃ t fr, w.heap[0]? = some (.cells #[.string ⟨#[]⟩, .string ⟨#[100, 110, 115]⟩, .string ⟨#[100, 110, 102]⟩, .string ⟨#[100, 115, 113]⟩] t fr)
theorem StatesIn.gr {w w' : World} (h : StatesIn w) (k : Gr w w') : StatesIn w' := by
  obtain ⟨t, fr, h⟩ := h
  exact ⟨t, fr, k.block h⟩
theorem StatesIn.cells {w : World} (h : StatesIn w) : w.cell? ⟨0, 0, none⟩ = some (.string ⟨#[]⟩) ∧ w.cell? ⟨0, 1, none⟩ = some (.string ⟨#[100, 110, 115]⟩) ∧ w.cell? ⟨0, 2, none⟩ = some (.string ⟨#[100, 110, 102]⟩) ∧ w.cell? ⟨0, 3, none⟩ = some (.string ⟨#[100, 115, 113]⟩) := by
  obtain ⟨t, fr, h⟩ := h
  simp [World.cell?, h]
theorem box1 (w : World) (a0 : Value) (T : Nat) : ∃ W, w.alloc (.cells #[a0] T) = W ∧ Gr w W ∧ W.cell? ⟨w.heap.size, 0, none⟩ = some a0 :=
  ⟨_, rfl, (Gr.refl w).alloc _, cell_new w #[a0] T 0 (by simp)⟩
theorem info3 : (Tryz.prog.info? 3).map (fun i => (i.zero, i.size, i.bytes)) = some (some (.int .i64 0), 1, 8) := by kernel_rfl
def ints (xs : List Int) : List Value := xs.map (Value.int .i64)
theorem first_three (x y z : Int) (b cap : Nat) (w : World) (hx : w.cell? ⟨b, 0, none⟩ = some (.int .i64 x)) (hy : w.cell? ⟨b, 1, none⟩ = some (.int .i64 y)) (hz : w.cell? ⟨b, 2, none⟩ = some (.int .i64 z)) :
    Calls Tryz.prog 21 #[.slice (some ⟨b, 0, none⟩) 3 cap] w fun e w' => e = .returned (.int .i64 (firstE [x, y, z])) ∧ w = w' :=
  first_c0 b 3 cap [x, y, z] w rfl (fun i v h => by
    rcases i with _ | _ | _ | i <;> simp at h <;> subst h <;> assumption) (by omega)
theorem first_pair (x y : Int) (b cap : Nat) (w : World) (hx : w.cell? ⟨b, 0, none⟩ = some (.int .i64 x)) (hy : w.cell? ⟨b, 1, none⟩ = some (.int .i64 y)) :
    Calls Tryz.prog 21 #[.slice (some ⟨b, 0, none⟩) 2 cap] w fun e w' => e = .returned (.int .i64 (firstE [x, y])) ∧ w = w' :=
  first_c0 b 2 cap [x, y] w rfl (fun i v h => by
    rcases i with _ | _ | i <;> simp at h <;> subst h <;> assumption) (by omega)
theorem cell_one_new (w : World) (a : Value) (T : TypeId) : ∀ (j : Nat) (u : Value), [a][j]? = some u → (w.alloc (.cells #[a] T)).cell? ((⟨w.heap.size, 0, none⟩ : Addr).add j) = some u := by
  intro j u h
  have e : (⟨w.heap.size, 0, none⟩ : Addr).add j = ⟨w.heap.size, j, none⟩ := by unfold Addr.add; split <;> simp_all
  rw [e]
  rcases j with _ | j
  · simp at h; subst h; exact cell_new w #[a] T 0 (by simp)
  · simp at h
/-- what is owned stays so -/
theorem own_gr {w w' : World} {base n size : Nat} {T : TypeId} {v : Value} {l : List Value} (h : w.ownsRow base T size v n l) (g : Gr w w') : w'.ownsRow base T size v n l :=
  h.kept (row := none) ⟨g.os, g.tape, g.output, g.size, fun k hk _ => Below.block g k hk⟩ (Classical.em _)
end Go.Proofs.YtebnbjaaogfikaaGreatDoor
namespace Go.Proofs.YtebnbjaaogfikaaGreatDoor
open Go.RowKit Go.Lib
set_option linter.unusedSimpArgs false
set_option linter.unusedVariables false
/-- the place of a state -/
def gradeZ (l : List UInt8) : Int := if l = [] then 0 else if l = [100, 110, 115] then 1 else if l = [100, 110, 102] then 2 else if l = [100, 115, 113] then 3 else -1
inductive Grade (l : List UInt8) : Prop where
  | none (h : l = [])
  | dns (h : l = [100, 110, 115])
  | dnf (h : l = [100, 110, 102])
  | dsq (h : l = [100, 115, 113])
  | other (h0 : l.isEmpty = false) (h1 : (l == [100, 110, 115]) = false) (h2 : (l == [100, 110, 102]) = false) (h3 : (l == [100, 115, 113]) = false)
theorem grade_of (l : List UInt8) : Grade l := by
  by_cases h0 : l = []
  · exact .none h0
  by_cases h1 : l = [100, 110, 115]
  · exact .dns h1
  by_cases h2 : l = [100, 110, 102]
  · exact .dnf h2
  by_cases h3 : l = [100, 115, 113]
  · exact .dsq h3
  exact .other (by cases l with | nil => exact absurd rfl h0 | cons _ _ => rfl) (by simpa using h1) (by simpa using h2) (by simpa using h3)
theorem gradeZ_other {l : List UInt8} (h0 : l.isEmpty = false) (h1 : (l == [100, 110, 115]) = false) (h2 : (l == [100, 110, 102]) = false) (h3 : (l == [100, 115, 113]) = false) : gradeZ l = -1 := by
  unfold gradeZ
  rw [if_neg (by intro e; rw [e] at h0; cases h0), if_neg (by simpa using h1), if_neg (by simpa using h2), if_neg (by simpa using h3)]
/-- the states' table, read at a place -/
theorem tab_at (w : World) (k : Nat) (s : ByteArray) (h : [(⟨#[]⟩ : ByteArray), ⟨#[100, 110, 115]⟩, ⟨#[100, 110, 102]⟩, ⟨#[100, 115, 113]⟩][k]? = some s) :
    (Instr.index 120 (.agg #[.string ⟨#[]⟩, .string ⟨#[100, 110, 115]⟩, .string ⟨#[100, 110, 102]⟩, .string ⟨#[100, 115, 113]⟩]) (.int .i64 (k : Int))).run Tryz.prog w = .ok (.string s) w := by
  have hu := Tryz.underlying120
  have hs := Tryz.underlying9
  rcases k with _ | _ | _ | _ | k
  · simp at h; subst h; simp [Instr.index, asIntOf, run_underlying hu, part, isAgg, run_underlying hs]
  · simp at h; subst h; simp [Instr.index, asIntOf, run_underlying hu, part, isAgg, run_underlying hs]
  · simp at h; subst h; simp [Instr.index, asIntOf, run_underlying hu, part, isAgg, run_underlying hs]
  · simp at h; subst h; simp [Instr.index, asIntOf, run_underlying hu, part, isAgg, run_underlying hs]
  · simp at h
theorem beq_flip {a b : List UInt8} (h : (a == b) = false) : (b == a) = false := by
  cases hh : b == a with
  | false => rfl
  | true => rw [eq_of_beq hh] at h; simp at h
set_option maxHeartbeats 1000000 in
set_option maxRecDepth 100000 in
theorem badness_c (s : ByteArray) (w : World) (h : StatesIn w) :
    Calls Tryz.prog 49 #[.string s] w fun e w' => e = .returned (.int .i64 (gradeZ s.toList)) ∧ w = w' := by
  obtain ⟨c0, c1, c2, c3⟩ := h.cells
  clear h
  have t0 : ∀ W, (Instr.index 120 (.agg #[.string ⟨#[]⟩, .string ⟨#[100, 110, 115]⟩, .string ⟨#[100, 110, 102]⟩, .string ⟨#[100, 115, 113]⟩]) (.int .i64 0)).run Tryz.prog W = .ok (.string ⟨#[]⟩) W := fun W => tab_at W 0 ⟨#[]⟩ rfl
  have t1 : ∀ W, (Instr.index 120 (.agg #[.string ⟨#[]⟩, .string ⟨#[100, 110, 115]⟩, .string ⟨#[100, 110, 102]⟩, .string ⟨#[100, 115, 113]⟩]) (.int .i64 1)).run Tryz.prog W = .ok (.string ⟨#[100, 110, 115]⟩) W := fun W => tab_at W 1 ⟨#[100, 110, 115]⟩ rfl
  have t2 : ∀ W, (Instr.index 120 (.agg #[.string ⟨#[]⟩, .string ⟨#[100, 110, 115]⟩, .string ⟨#[100, 110, 102]⟩, .string ⟨#[100, 115, 113]⟩]) (.int .i64 2)).run Tryz.prog W = .ok (.string ⟨#[100, 110, 102]⟩) W := fun W => tab_at W 2 ⟨#[100, 110, 102]⟩ rfl
  have t3 : ∀ W, (Instr.index 120 (.agg #[.string ⟨#[]⟩, .string ⟨#[100, 110, 115]⟩, .string ⟨#[100, 110, 102]⟩, .string ⟨#[100, 115, 113]⟩]) (.int .i64 3)).run Tryz.prog W = .ok (.string ⟨#[100, 115, 113]⟩) W := fun W => tab_at W 3 ⟨#[100, 115, 113]⟩ rfl
  have HG : ∀ z, gradeZ s.toList = z → Hid (gradeZ s.toList = z) := fun z h => h
  rcases grade_of s.toList with h | h | h | h | ⟨h0, h1, h2, h3⟩
  · replace HG := HG 0 (by rw [h]; rfl)
    go_enter Tryz.func49, Tryz.ntmps49
    go_wp2_with fail
    refine wp_loop_rounds 6 ?_
    rw [rounds_succ]
    go_wp2_with fail
    go_ret
    exact ⟨by rw [HG.out]; rfl, rfl⟩
  · replace HG := HG 1 (by rw [h]; rfl)
    go_enter Tryz.func49, Tryz.ntmps49
    go_wp2_with fail
    refine wp_loop_rounds 6 ?_
    rw [rounds_succ]
    go_wp2_with fail
    rw [rounds_succ]
    go_wp2_with fail
    go_ret
    exact ⟨by rw [HG.out]; rfl, rfl⟩
  · replace HG := HG 2 (by rw [h]; rfl)
    go_enter Tryz.func49, Tryz.ntmps49
    go_wp2_with fail
    refine wp_loop_rounds 6 ?_
    rw [rounds_succ]
    go_wp2_with fail
    rw [rounds_succ]
    go_wp2_with fail
    rw [rounds_succ]
    go_wp2_with fail
    go_ret
    exact ⟨by rw [HG.out]; rfl, rfl⟩
  · replace HG := HG 3 (by rw [h]; rfl)
    go_enter Tryz.func49, Tryz.ntmps49
    go_wp2_with fail
    refine wp_loop_rounds 6 ?_
    rw [rounds_succ]
    go_wp2_with fail
    rw [rounds_succ]
    go_wp2_with fail
    rw [rounds_succ]
    go_wp2_with fail
    rw [rounds_succ]
    go_wp2_with fail
    go_ret
    exact ⟨by rw [HG.out]; rfl, rfl⟩
  · replace HG := HG (-1) (gradeZ_other h0 h1 h2 h3)
    have e1 := beq_flip h1
    have e2 := beq_flip h2
    have e3 := beq_flip h3
    go_enter Tryz.func49, Tryz.ntmps49
    go_wp2_with fail
    refine wp_loop_rounds 6 ?_
    rw [rounds_succ]
    go_wp2_with fail
    rw [rounds_succ]
    go_wp2_with fail
    rw [rounds_succ]
    go_wp2_with fail
    rw [rounds_succ]
    go_wp2_with fail
    rw [rounds_succ]
    go_wp2_with fail
    go_ret
    exact ⟨by rw [HG.out]; rfl, rfl⟩
theorem hasValues_c (c s : ByteArray) (v : Value) (hv : ∃ p n cap, v = .slice p n cap) (w : World) :
    Calls Tryz.prog 23 #[.agg #[.string c, .string s, v]] w fun e w' => e = .returned (.bool s.toList.isEmpty) ∧ Gr w w' := by
  obtain ⟨p, n, cap, rfl⟩ := hv
  cases h : s.toList.isEmpty
  all_goals
    have h2 := h
    have HE := Lib.hid h2
    first
      | (have h3 : s.toList = [] := by simpa using h)
      | (have h3 : ¬ s.toList = [] := by simpa using h)
    go_enter Tryz.func23, Tryz.ntmps23
    go_wp2_with fail
    go_ret
    exact ⟨rfl, (Gr.refl w).alloc _⟩
end Go.Proofs.YtebnbjaaogfikaaGreatDoor
namespace Go.Proofs.YtebnbjaaogfikaaGreatDoor
open Go.RowKit Go.Lib
set_option linter.unusedSimpArgs false
set_option linter.unusedVariables false
theorem one_c (i n : Int) (w : World) :
    Calls Tryz.prog 75 #[.int .i64 i, .int .i64 n] w fun e w' => e = .returned (.int .i64 (outE n (-999999999) 999999999)) ∧ w = w' := by
  have HR := Lib.hid (fun W => range_c n (-999999999) 999999999 W)
  go_enter Tryz.func75, Tryz.ntmps75
  go_wp2_with fail
  refine (HR.out _).mono ?_
  rintro e w4 ⟨rfl, rfl⟩
  go_wp2_with fail
  go_ret
  exact ⟨rfl, rfl⟩
/-- the error of values -/
def valsE (xs : List Int) : Int := firstE (xs.map fun n => outE n (-999999999) 999999999)
theorem valsE_drop {xs : List Int} {k : Nat} {x : Int} (h : xs[k]? = some x) : valsE (xs.drop k) = if outE x (-999999999) 999999999 = 0 then valsE (xs.drop (k + 1)) else outE x (-999999999) 999999999 := by
  unfold valsE
  rw [List.map_drop, List.map_drop]
  exact firstE_drop (by rw [List.getElem?_map, h]; rfl)
set_option maxHeartbeats 1000000 in
set_option maxRecDepth 100000 in
theorem findV_pos (xs : List Int) (n b off cap : Nat) (w : World) (hn : xs.length = n) (hc : ∀ i x, xs[i]? = some x → w.cell? ⟨b, off + i, none⟩ = some (.int .i64 x)) (hs : n ≤ 1000) :
    Calls Tryz.prog 96 #[.slice (some ⟨b, off, none⟩) n cap, .func (.func 75) #[] #[]] w fun e w' => (∃ i : Int, e = .returned (.tuple #[.int .i64 i, .int .i64 (valsE xs)])) ∧ w = w' := by
  have HN := Lib.hid hn
  have HC := Lib.hid hc
  clear hc
  go_enter Tryz.func96, Tryz.ntmps96
  go_wp2_with fail
  go_loopg [11] n (fun g s11 wr => ∃ k : Nat, s11 = .int .i64 k ∧ g + k = n ∧ wr = w ∧ Hid (valsE (xs.drop k) = valsE xs))
  case atStart => exact ⟨0, rfl, by omega, rfl, by simp [Hid]⟩
  case round =>
    obtain ⟨k, rfl, hk, rfl, HF⟩ := hrel
    by_cases hlt : k < n
    · obtain ⟨x, hx⟩ : ∃ x, xs[k]? = some x := ⟨xs[k]'(by omega), List.getElem?_eq_getElem (by omega)⟩
      have hcell := HC.out k x hx
      have hf := valsE_drop hx
      have HT : ∀ i W, _ := fun i W => one_c i x W
      clear hx
      rcases outE_or x (-999999999) 999999999 with h0 | h0
      · rw [h0] at HT hf
        rw [if_pos rfl] at hf
        replace HT := Lib.hid HT
        have HF2 := Lib.hid hf
        clear hf h0
        go_wp2_with (refine (HT.out _ _).mono ?_; rintro e w4 ⟨rfl, rfl⟩)
        go_roundg (gk - 1)
        case measure => omega
        case rel => exact ⟨k + 1, by go_num, by omega, rfl, by unfold Hid; rw [← HF2.out, HF.out]⟩
      · rw [h0] at HT hf
        rw [if_neg (by decide)] at hf
        replace HT := Lib.hid HT
        have HF2 := Lib.hid hf
        clear hf h0
        go_wp2_with (refine (HT.out _ _).mono ?_; rintro e w4 ⟨rfl, rfl⟩)
        exact bodyPost_ret (v := .tuple #[.int .i64 k, .int .i64 3]) (by simp [results, Tryz.results96, go_sem]) rfl ⟨⟨k, by rw [← HF.out, HF2.out]⟩, rfl⟩
    · have : xs.drop k = [] := List.drop_of_length_le (by omega)
      have HE : Hid (valsE xs = 0) := by unfold Hid; rw [← HF.out, this]; rfl
      clear this
      go_wp2_with fail
      exact bodyPost_ret (v := .tuple #[.int .i64 0, .int .i64 0]) (by simp [results, Tryz.results96, go_sem]) rfl ⟨⟨0, by rw [HE.out]⟩, rfl⟩
set_option maxRecDepth 100000 in
theorem findV_nil (p : Option Addr) (cap : Nat) (w : World) :
    Calls Tryz.prog 96 #[.slice p 0 cap, .func (.func 75) #[] #[]] w fun e w' => (∃ i : Int, e = .returned (.tuple #[.int .i64 i, .int .i64 0])) ∧ w = w' := by
  go_enter Tryz.func96, Tryz.ntmps96
  go_wp2_with fail
  refine wp_loop_rounds 1 ?_
  rw [rounds_succ]
  go_wp2_with fail
  exact bodyPost_ret (v := .tuple #[.int .i64 0, .int .i64 0]) (by simp [results, Tryz.results96, go_sem]) rfl ⟨⟨0, rfl⟩, rfl⟩
theorem eachV_c {v : Value} {xs : List Int} (w : World) (h : IntsV w v xs) (hs : xs.length ≤ 1000) :
    Calls Tryz.prog 74 #[v, .func (.func 75) #[] #[]] w fun e w' => e = .returned (.int .i64 (valsE xs)) ∧ w = w' := by
  have HF : Hid (Calls Tryz.prog 96 #[v, .func (.func 75) #[] #[]] w fun e w' => (∃ i : Int, e = .returned (.tuple #[.int .i64 i, .int .i64 (valsE xs)])) ∧ w = w') := by
    obtain ⟨⟨p, cap, rfl, hh⟩⟩ := h
    by_cases h0 : 0 < xs.length
    · obtain ⟨b, off, rfl, hc⟩ := hh h0
      exact findV_pos xs _ b off cap w rfl hc hs
    · have : xs = [] := List.eq_nil_of_length_eq_zero (by omega)
      subst this
      exact findV_nil p cap w
  obtain ⟨⟨p, cap, rfl, _⟩⟩ := h
  go_enter Tryz.func74, Tryz.ntmps74
  go_wp2_with fail
  refine HF.out.mono ?_
  rintro e w4 ⟨⟨i, rfl⟩, rfl⟩
  go_wp2_with fail
  go_ret
  exact ⟨rfl, rfl⟩
end Go.Proofs.YtebnbjaaogfikaaGreatDoor
namespace Go.Proofs.YtebnbjaaogfikaaGreatDoor
open Go.RowKit Go.Lib
set_option linter.unusedSimpArgs false
set_option linter.unusedVariables false
/-- the error of a result -/
def resE (c s : ByteArray) (xs : List Int) : Int :=
  firstE [if !decide (Nm c) then 8 else 0, if gradeZ s.toList == -1 then 13 else 0, if !s.toList.isEmpty && decide (0 < xs.length) then 1 else 0, if decide ((8 : Int) < xs.length) then 5 else 0, valsE xs]
/-- a result's value -/
def resV (c s : ByteArray) (v : Value) : Value := .agg #[.string c, .string s, v]
set_option maxHeartbeats 1000000 in
set_option maxRecDepth 100000 in
theorem checkResult_true (c s : ByteArray) (v : Value) (xs : List Int) (w : World) (hS : StatesIn w) (h : IntsV w v xs) (hs : xs.length ≤ 1000) (hE : s.toList.isEmpty = true) :
    Calls Tryz.prog 41 #[resV c s v] w fun e w' => e = .returned (.int .i64 (resE c s xs)) ∧ Gr w w' := by
  unfold resV
  have hR : resE c s xs = firstE [if !decide (Nm c) then 8 else 0, if gradeZ s.toList == -1 then 13 else 0, if !s.toList.isEmpty && decide (0 < xs.length) then 1 else 0, if decide ((8 : Int) < xs.length) then 5 else 0, valsE xs] := rfl
  rw [hE] at hR
  have hN := fun W => isName_c c W
  have hB := fun W h => badness_c s W h
  have HV := Lib.hid (fun v hv W => hasValues_c c s v hv W)
  rw [hE] at HV
  generalize decide (Nm c) = b1 at *
  generalize gradeZ s.toList = z2 at *
  obtain ⟨e1, h1, H1⟩ := if_e (!b1) 8
  obtain ⟨e2, h2, H2⟩ := if_e (z2 == -1) 13
  obtain ⟨e3, h3, H3⟩ := if_e (false) 1
  obtain ⟨e4, h4, H4⟩ := if_e (decide ((8 : Int) < xs.length)) 5
  simp only [Bool.not_true, Bool.false_and, Bool.true_and] at hR
  rw [← h1, ← h2, ← h3, ← h4] at hR
  have hF := first_four e1 e2 e3 e4
  have hR2 : resE c s xs = if firstE [e1, e2, e3, e4] = 0 then valsE xs else firstE [e1, e2, e3, e4] := by rw [hR]; exact firstE_last e1 e2 e3 e4 _
  generalize firstE [e1, e2, e3, e4] = err at *
  replace H1 := Lib.hid H1
  replace H2 := Lib.hid H2
  replace H3 := Lib.hid H3
  replace H4 := Lib.hid H4
  have HN := Lib.hid hN
  have HB := Lib.hid hB
  have HR := Lib.hid hR2
  have HF := Lib.hid hF
  obtain ⟨p, cap, rfl, _⟩ := id h.out
  obtain ⟨W, hW, g, a0, a1, a2⟩ := box3 w (.string c) (.string s) (.slice p xs.length cap) 34
  have hS1 := hS.gr g
  have hI1 := h.gr g
  have HW := Lib.hid hW
  clear hW hS h hN hB hR hR2 hF h1 h2 h3 h4
  go_enter Tryz.func41, Tryz.ntmps41
  go_wp2_with fail
  rw [HW.out]
  generalize w.heap.size = B at *
  clear HW
  refine wp_region_held_drew (S := (fun w' => w'.cell? ⟨B, 0, none⟩ = some (.string c) ∧ w'.cell? ⟨B, 1, none⟩ = some (.string s) ∧ w'.cell? ⟨B, 2, none⟩ = some (.slice p xs.length cap))) (by kernel_rfl) ⟨a0, a1, a2⟩ (fun hHeld => ?_)
  refine wpAnyH_take (i := 0) (v := (.pointer (some ⟨B, 0, none⟩))) (op_at rfl) (by kernel_rfl) (by kernel_rfl) (by kernel_rfl) (fun _ _ _ h => h) (Or.inl ⟨rfl, fun w hSw => ?_⟩) (by assumption) ?_
  · (try dsimp only at hSw); go_simp; try with_reducible rfl
  (try simp only [Act.put, List.setIfInBounds_toArray, List.set_cons_zero, List.set_cons_succ])
  refine wpAnyH_take (i := 1) (v := (.string c)) (op_at rfl) (by kernel_rfl) (by kernel_rfl) (by kernel_rfl) (fun _ _ _ h => h) (Or.inl ⟨rfl, fun w hSw => ?_⟩) (by assumption) ?_
  · (try dsimp only at hSw); go_simp; try with_reducible rfl
  (try simp only [Act.put, List.setIfInBounds_toArray, List.set_cons_zero, List.set_cons_succ])
  refine wpAnyH_take (i := 5) (v := (.pointer (some ⟨B, 1, none⟩))) (op_at rfl) (by kernel_rfl) (by kernel_rfl) (by kernel_rfl) (fun _ _ _ h => h) (Or.inl ⟨rfl, fun w hSw => ?_⟩) (by assumption) ?_
  · (try dsimp only at hSw); go_simp; try with_reducible rfl
  (try simp only [Act.put, List.setIfInBounds_toArray, List.set_cons_zero, List.set_cons_succ])
  refine wpAnyH_take (i := 6) (v := (.string s)) (op_at rfl) (by kernel_rfl) (by kernel_rfl) (by kernel_rfl) (fun _ _ _ h => h) (Or.inl ⟨rfl, fun w hSw => ?_⟩) (by assumption) ?_
  · (try dsimp only at hSw); go_simp; try with_reducible rfl
  (try simp only [Act.put, List.setIfInBounds_toArray, List.set_cons_zero, List.set_cons_succ])
  refine wpAnyH_take (i := 10) (v := (.agg #[.string c, .string s, .slice p xs.length cap])) (op_at rfl) (by kernel_rfl) (by kernel_rfl) (by kernel_rfl) (fun _ _ _ h => h) (Or.inl ⟨rfl, fun w hSw => ?_⟩) (by assumption) ?_
  · (try dsimp only at hSw); go_simp; try with_reducible rfl
  (try simp only [Act.put, List.setIfInBounds_toArray, List.set_cons_zero, List.set_cons_succ])
  refine wpAnyH_take (i := 20) (v := (.pointer (some ⟨B, 2, none⟩))) (op_at rfl) (by kernel_rfl) (by kernel_rfl) (by kernel_rfl) (fun _ _ _ h => h) (Or.inl ⟨rfl, fun w hSw => ?_⟩) (by assumption) ?_
  · (try dsimp only at hSw); go_simp; try with_reducible rfl
  (try simp only [Act.put, List.setIfInBounds_toArray, List.set_cons_zero, List.set_cons_succ])
  refine wpAnyH_take (i := 21) (v := (.slice p xs.length cap)) (op_at rfl) (by kernel_rfl) (by kernel_rfl) (by kernel_rfl) (fun _ _ _ h => h) (Or.inl ⟨rfl, fun w hSw => ?_⟩) (by assumption) ?_
  · (try dsimp only at hSw); go_simp; try with_reducible rfl
  (try simp only [Act.put, List.setIfInBounds_toArray, List.set_cons_zero, List.set_cons_succ])
  refine wpAnyH_take (i := 22) (v := (.int .i64 xs.length)) (op_at rfl) (by kernel_rfl) (by kernel_rfl) (by kernel_rfl) (fun _ _ _ h => h) (Or.inl ⟨rfl, fun w hSw => ?_⟩) (by assumption) ?_
  · (try dsimp only at hSw); go_simp; try with_reducible rfl
  (try simp only [Act.put, List.setIfInBounds_toArray, List.set_cons_zero, List.set_cons_succ])
  refine wpAnyH_take (i := 23) (v := (.bool (decide ((8 : Int) < xs.length)))) (op_at rfl) (by kernel_rfl) (by kernel_rfl) (by kernel_rfl) (fun _ _ _ h => h) (Or.inl ⟨rfl, fun w hSw => ?_⟩) (by assumption) ?_
  · (try dsimp only at hSw); go_simp; try with_reducible rfl
  (try simp only [Act.put, List.setIfInBounds_toArray, List.set_cons_zero, List.set_cons_succ])
  refine wpAnyH_ready (rs := [2]) (by kernel_rfl) (by simp) (AllReadyH.cons (op_at rfl) (fun K hK => ?_) AllReadyH.nil)
  go_simp
  (refine (HN.out _).mono ?_; rintro e W1 ⟨rfl, hg⟩; replace hg := ((Gr.refl W).drew).trans hg; replace a0 := hg.cell a0; replace a1 := hg.cell a1; replace a2 := hg.cell a2; replace hS1 := hS1.gr hg; replace hI1 := hI1.gr hg; replace g := g.trans hg; clear hg)
  go_wp2_with fail
  refine hK.out _ _ ⟨a0, a1, a2⟩ (fun hHeld => ?_)
  clear hK K
  (try simp only [Act.put, List.setIfInBounds_toArray, List.set_cons_zero, List.set_cons_succ])
  refine wpAnyH_take (i := 3) (v := (.bool (!b1))) (op_at rfl) (by kernel_rfl) (by kernel_rfl) (by kernel_rfl) (fun _ _ _ h => h) (Or.inl ⟨rfl, fun w hSw => ?_⟩) (by assumption) ?_
  · (try dsimp only at hSw); go_simp; try with_reducible rfl
  (try simp only [Act.put, List.setIfInBounds_toArray, List.set_cons_zero, List.set_cons_succ])
  refine wpAnyH_ready (rs := [4]) (by kernel_rfl) (by simp) (AllReadyH.cons (op_at rfl) (fun K hK => ?_) AllReadyH.nil)
  go_simp
  (refine (H1.out _).mono ?_; rintro e w' ⟨rfl, rfl⟩)
  go_wp2_with fail
  refine hK.out _ _ ⟨a0, a1, a2⟩ (fun hHeld => ?_)
  clear hK K
  (try simp only [Act.put, List.setIfInBounds_toArray, List.set_cons_zero, List.set_cons_succ])
  refine wpAnyH_ready (rs := [7]) (by kernel_rfl) (by simp) (AllReadyH.cons (op_at rfl) (fun K hK => ?_) AllReadyH.nil)
  go_simp
  (refine (HB.out _ hS1).mono ?_; rintro e w' ⟨rfl, rfl⟩)
  go_wp2_with fail
  refine hK.out _ _ ⟨a0, a1, a2⟩ (fun hHeld => ?_)
  clear hK K
  (try simp only [Act.put, List.setIfInBounds_toArray, List.set_cons_zero, List.set_cons_succ])
  refine wpAnyH_take (i := 8) (v := (.bool (z2 == -1))) (op_at rfl) (by kernel_rfl) (by kernel_rfl) (by kernel_rfl) (fun _ _ _ h => h) (Or.inl ⟨rfl, fun w hSw => ?_⟩) (by assumption) ?_
  · (try dsimp only at hSw); go_simp; try with_reducible rfl
  (try simp only [Act.put, List.setIfInBounds_toArray, List.set_cons_zero, List.set_cons_succ])
  refine wpAnyH_ready (rs := [9]) (by kernel_rfl) (by simp) (AllReadyH.cons (op_at rfl) (fun K hK => ?_) AllReadyH.nil)
  go_simp
  (refine (H2.out _).mono ?_; rintro e w' ⟨rfl, rfl⟩)
  go_wp2_with fail
  refine hK.out _ _ ⟨a0, a1, a2⟩ (fun hHeld => ?_)
  clear hK K
  (try simp only [Act.put, List.setIfInBounds_toArray, List.set_cons_zero, List.set_cons_succ])
  refine wpAnyH_ready (rs := [11]) (by kernel_rfl) (by simp) (AllReadyH.cons (op_at rfl) (fun K hK => ?_) AllReadyH.nil)
  go_simp
  (refine (HV.out _ ⟨_, _, _, rfl⟩ _).mono ?_; rintro e W2 ⟨rfl, hg⟩; replace a0 := hg.cell a0; replace a1 := hg.cell a1; replace a2 := hg.cell a2; replace hS1 := hS1.gr hg; replace hI1 := hI1.gr hg; replace g := g.trans hg; clear hg)
  go_wp2_with fail
  refine hK.out _ _ ⟨a0, a1, a2⟩ (fun hHeld => ?_)
  clear hK K
  (try simp only [Act.put, List.setIfInBounds_toArray, List.set_cons_zero, List.set_cons_succ])
  refine wpAnyH_take (i := 12) (v := (.bool false)) (op_at rfl) (by kernel_rfl) (by kernel_rfl) (by kernel_rfl) (fun _ _ _ h => h) (Or.inl ⟨rfl, fun w hSw => ?_⟩) (by assumption) ?_
  · (try dsimp only at hSw); go_simp; try with_reducible rfl
  (try simp only [Act.put, List.setIfInBounds_toArray, List.set_cons_zero, List.set_cons_succ])
  refine wpAnyH_take (i := 13) (v := (.bool false)) (op_at rfl) (by kernel_rfl) (by kernel_rfl) (by kernel_rfl) (fun _ _ _ h => h) (Or.inl ⟨rfl, fun w hSw => ?_⟩) (by assumption) ?_
  · (try dsimp only at hSw); go_simp; try with_reducible rfl
  (try simp only [Act.put, List.setIfInBounds_toArray, List.set_cons_zero, List.set_cons_succ])
  refine wpAnyH_take (i := 14) (v := undef) (op_at rfl) (by kernel_rfl) (by kernel_rfl) (by kernel_rfl) (fun _ _ _ h => h) (Or.inr ⟨rfl, rfl⟩) (by assumption) ?_
  (try simp only [Act.put, List.setIfInBounds_toArray, List.set_cons_zero, List.set_cons_succ])
  refine wpAnyH_take (i := 15) (v := undef) (op_at rfl) (by kernel_rfl) (by kernel_rfl) (by kernel_rfl) (fun _ _ _ h => h) (Or.inr ⟨rfl, rfl⟩) (by assumption) ?_
  (try simp only [Act.put, List.setIfInBounds_toArray, List.set_cons_zero, List.set_cons_succ])
  refine wpAnyH_take (i := 16) (v := undef) (op_at rfl) (by kernel_rfl) (by kernel_rfl) (by kernel_rfl) (fun _ _ _ h => h) (Or.inr ⟨rfl, rfl⟩) (by assumption) ?_
  (try simp only [Act.put, List.setIfInBounds_toArray, List.set_cons_zero, List.set_cons_succ])
  refine wpAnyH_take (i := 17) (v := undef) (op_at rfl) (by kernel_rfl) (by kernel_rfl) (by kernel_rfl) (fun _ _ _ h => h) (Or.inr ⟨rfl, rfl⟩) (by assumption) ?_
  (try simp only [Act.put, List.setIfInBounds_toArray, List.set_cons_zero, List.set_cons_succ])
  refine wpAnyH_take (i := 18) (v := (.bool false)) (op_at rfl) (by kernel_rfl) (by kernel_rfl) (by kernel_rfl) (fun _ _ _ h => h) (Or.inl ⟨rfl, fun w hSw => ?_⟩) (by assumption) ?_
  · (try dsimp only at hSw); go_simp; try with_reducible rfl
  (try simp only [Act.put, List.setIfInBounds_toArray, List.set_cons_zero, List.set_cons_succ])
  refine wpAnyH_ready (rs := [19]) (by kernel_rfl) (by simp) (AllReadyH.cons (op_at rfl) (fun K hK => ?_) AllReadyH.nil)
  go_simp
  (refine (H3.out _).mono ?_; rintro e w' ⟨rfl, rfl⟩)
  go_wp2_with fail
  refine hK.out _ _ ⟨a0, a1, a2⟩ (fun hHeld => ?_)
  clear hK K
  (try simp only [Act.put, List.setIfInBounds_toArray, List.set_cons_zero, List.set_cons_succ])
  refine wpAnyH_ready (rs := [24]) (by kernel_rfl) (by simp) (AllReadyH.cons (op_at rfl) (fun K hK => ?_) AllReadyH.nil)
  go_simp
  (refine (H4.out _).mono ?_; rintro e w' ⟨rfl, rfl⟩)
  go_wp2_with fail
  refine hK.out _ _ ⟨a0, a1, a2⟩ (fun hHeld => ?_)
  clear hK K
  (try simp only [Act.put, List.setIfInBounds_toArray, List.set_cons_zero, List.set_cons_succ])
  refine wpAnyH_ready (rs := [25]) (by kernel_rfl) (by simp) (AllReadyH.cons (op_at rfl) (fun K hK => ?_) AllReadyH.nil)
  go_simp
  obtain ⟨W3, hW3, g3, q0, q1, q2, q3⟩ := box4 W2 (.int .i64 e1) (.int .i64 e2) (.int .i64 e3) (.int .i64 e4) 28
  rw [hW3]
  clear hW3
  replace a0 := g3.cell a0
  replace a1 := g3.cell a1
  replace a2 := g3.cell a2
  replace hS1 := hS1.gr g3
  replace hI1 := hI1.gr g3
  replace g := g.trans g3
  refine hK.out _ _ ⟨a0, a1, a2⟩ (fun hHeld => ?_)
  clear hK K
  (try simp only [Act.put, List.setIfInBounds_toArray, List.set_cons_zero, List.set_cons_succ])
  refine wpAnyH_ready (rs := [26]) (by kernel_rfl) (by simp) (AllReadyH.cons (op_at rfl) (fun K hK => ?_) AllReadyH.nil)
  go_simp
  (refine (HF.out _ _ W3 q0 q1 q2 q3).mono ?_; rintro e w8 ⟨rfl, rfl⟩)
  go_wp2_with fail
  refine hK.out _ _ ⟨a0, a1, a2⟩ (fun hHeld => ?_)
  clear hK K
  (try simp only [Act.put, List.setIfInBounds_toArray, List.set_cons_zero, List.set_cons_succ])
  refine wpAnyH_take (i := 27) (v := (.int .i64 err)) (op_at rfl) (by kernel_rfl) (by kernel_rfl) (by kernel_rfl) (fun _ _ _ h => h) (Or.inl ⟨rfl, fun w hSw => ?_⟩) (by assumption) ?_
  · (try dsimp only at hSw); go_simp; try with_reducible rfl
  (try simp only [Act.put, List.setIfInBounds_toArray, List.set_cons_zero, List.set_cons_succ])
  refine wpAnyH_done (by kernel_rfl) ?_ _
  by_cases h0 : err = 0
  · subst h0
    have HE := Lib.hid (HR.out.trans (if_pos rfl))
    have HV2 := Lib.hid (eachV_c W3 hI1 hs)
    clear HR
    go_wp2_with fail
    refine HV2.out.mono ?_
    rintro e w9 ⟨rfl, rfl⟩
    go_wp2_with fail
    go_ret
    exact ⟨by rw [HE.out]; rfl, g⟩
  · have h1 : (err == 0) = false := by simpa using h0
    have h2 : (err != 0) = true := by simpa [bne] using h1
    have HE := Lib.hid (HR.out.trans (if_neg h0))
    clear HR h0
    go_wp2_with fail
    go_ret
    exact ⟨by rw [HE.out]; rfl, g⟩
set_option maxHeartbeats 1000000 in
set_option maxRecDepth 100000 in
theorem checkResult_false (c s : ByteArray) (v : Value) (xs : List Int) (w : World) (hS : StatesIn w) (h : IntsV w v xs) (hs : xs.length ≤ 1000) (hE : s.toList.isEmpty = false) :
    Calls Tryz.prog 41 #[resV c s v] w fun e w' => e = .returned (.int .i64 (resE c s xs)) ∧ Gr w w' := by
  unfold resV
  have hR : resE c s xs = firstE [if !decide (Nm c) then 8 else 0, if gradeZ s.toList == -1 then 13 else 0, if !s.toList.isEmpty && decide (0 < xs.length) then 1 else 0, if decide ((8 : Int) < xs.length) then 5 else 0, valsE xs] := rfl
  rw [hE] at hR
  have hN := fun W => isName_c c W
  have hB := fun W h => badness_c s W h
  have HV := Lib.hid (fun v hv W => hasValues_c c s v hv W)
  rw [hE] at HV
  generalize decide (Nm c) = b1 at *
  generalize gradeZ s.toList = z2 at *
  obtain ⟨e1, h1, H1⟩ := if_e (!b1) 8
  obtain ⟨e2, h2, H2⟩ := if_e (z2 == -1) 13
  obtain ⟨e3, h3, H3⟩ := if_e (decide (0 < xs.length)) 1
  obtain ⟨e4, h4, H4⟩ := if_e (decide ((8 : Int) < xs.length)) 5
  simp only [Bool.not_false, Bool.false_and, Bool.true_and] at hR
  rw [← h1, ← h2, ← h3, ← h4] at hR
  have hF := first_four e1 e2 e3 e4
  have hR2 : resE c s xs = if firstE [e1, e2, e3, e4] = 0 then valsE xs else firstE [e1, e2, e3, e4] := by rw [hR]; exact firstE_last e1 e2 e3 e4 _
  generalize firstE [e1, e2, e3, e4] = err at *
  replace H1 := Lib.hid H1
  replace H2 := Lib.hid H2
  replace H3 := Lib.hid H3
  replace H4 := Lib.hid H4
  have HN := Lib.hid hN
  have HB := Lib.hid hB
  have HR := Lib.hid hR2
  have HF := Lib.hid hF
  obtain ⟨p, cap, rfl, _⟩ := id h.out
  obtain ⟨W, hW, g, a0, a1, a2⟩ := box3 w (.string c) (.string s) (.slice p xs.length cap) 34
  have hS1 := hS.gr g
  have hI1 := h.gr g
  have HW := Lib.hid hW
  clear hW hS h hN hB hR hR2 hF h1 h2 h3 h4
  go_enter Tryz.func41, Tryz.ntmps41
  go_wp2_with fail
  rw [HW.out]
  generalize w.heap.size = B at *
  clear HW
  refine wp_region_held_drew (S := (fun w' => w'.cell? ⟨B, 0, none⟩ = some (.string c) ∧ w'.cell? ⟨B, 1, none⟩ = some (.string s) ∧ w'.cell? ⟨B, 2, none⟩ = some (.slice p xs.length cap))) (by kernel_rfl) ⟨a0, a1, a2⟩ (fun hHeld => ?_)
  refine wpAnyH_take (i := 0) (v := (.pointer (some ⟨B, 0, none⟩))) (op_at rfl) (by kernel_rfl) (by kernel_rfl) (by kernel_rfl) (fun _ _ _ h => h) (Or.inl ⟨rfl, fun w hSw => ?_⟩) (by assumption) ?_
  · (try dsimp only at hSw); go_simp; try with_reducible rfl
  (try simp only [Act.put, List.setIfInBounds_toArray, List.set_cons_zero, List.set_cons_succ])
  refine wpAnyH_take (i := 1) (v := (.string c)) (op_at rfl) (by kernel_rfl) (by kernel_rfl) (by kernel_rfl) (fun _ _ _ h => h) (Or.inl ⟨rfl, fun w hSw => ?_⟩) (by assumption) ?_
  · (try dsimp only at hSw); go_simp; try with_reducible rfl
  (try simp only [Act.put, List.setIfInBounds_toArray, List.set_cons_zero, List.set_cons_succ])
  refine wpAnyH_take (i := 5) (v := (.pointer (some ⟨B, 1, none⟩))) (op_at rfl) (by kernel_rfl) (by kernel_rfl) (by kernel_rfl) (fun _ _ _ h => h) (Or.inl ⟨rfl, fun w hSw => ?_⟩) (by assumption) ?_
  · (try dsimp only at hSw); go_simp; try with_reducible rfl
  (try simp only [Act.put, List.setIfInBounds_toArray, List.set_cons_zero, List.set_cons_succ])
  refine wpAnyH_take (i := 6) (v := (.string s)) (op_at rfl) (by kernel_rfl) (by kernel_rfl) (by kernel_rfl) (fun _ _ _ h => h) (Or.inl ⟨rfl, fun w hSw => ?_⟩) (by assumption) ?_
  · (try dsimp only at hSw); go_simp; try with_reducible rfl
  (try simp only [Act.put, List.setIfInBounds_toArray, List.set_cons_zero, List.set_cons_succ])
  refine wpAnyH_take (i := 10) (v := (.agg #[.string c, .string s, .slice p xs.length cap])) (op_at rfl) (by kernel_rfl) (by kernel_rfl) (by kernel_rfl) (fun _ _ _ h => h) (Or.inl ⟨rfl, fun w hSw => ?_⟩) (by assumption) ?_
  · (try dsimp only at hSw); go_simp; try with_reducible rfl
  (try simp only [Act.put, List.setIfInBounds_toArray, List.set_cons_zero, List.set_cons_succ])
  refine wpAnyH_take (i := 20) (v := (.pointer (some ⟨B, 2, none⟩))) (op_at rfl) (by kernel_rfl) (by kernel_rfl) (by kernel_rfl) (fun _ _ _ h => h) (Or.inl ⟨rfl, fun w hSw => ?_⟩) (by assumption) ?_
  · (try dsimp only at hSw); go_simp; try with_reducible rfl
  (try simp only [Act.put, List.setIfInBounds_toArray, List.set_cons_zero, List.set_cons_succ])
  refine wpAnyH_take (i := 21) (v := (.slice p xs.length cap)) (op_at rfl) (by kernel_rfl) (by kernel_rfl) (by kernel_rfl) (fun _ _ _ h => h) (Or.inl ⟨rfl, fun w hSw => ?_⟩) (by assumption) ?_
  · (try dsimp only at hSw); go_simp; try with_reducible rfl
  (try simp only [Act.put, List.setIfInBounds_toArray, List.set_cons_zero, List.set_cons_succ])
  refine wpAnyH_take (i := 22) (v := (.int .i64 xs.length)) (op_at rfl) (by kernel_rfl) (by kernel_rfl) (by kernel_rfl) (fun _ _ _ h => h) (Or.inl ⟨rfl, fun w hSw => ?_⟩) (by assumption) ?_
  · (try dsimp only at hSw); go_simp; try with_reducible rfl
  (try simp only [Act.put, List.setIfInBounds_toArray, List.set_cons_zero, List.set_cons_succ])
  refine wpAnyH_take (i := 23) (v := (.bool (decide ((8 : Int) < xs.length)))) (op_at rfl) (by kernel_rfl) (by kernel_rfl) (by kernel_rfl) (fun _ _ _ h => h) (Or.inl ⟨rfl, fun w hSw => ?_⟩) (by assumption) ?_
  · (try dsimp only at hSw); go_simp; try with_reducible rfl
  (try simp only [Act.put, List.setIfInBounds_toArray, List.set_cons_zero, List.set_cons_succ])
  refine wpAnyH_ready (rs := [2]) (by kernel_rfl) (by simp) (AllReadyH.cons (op_at rfl) (fun K hK => ?_) AllReadyH.nil)
  go_simp
  (refine (HN.out _).mono ?_; rintro e W1 ⟨rfl, hg⟩; replace hg := ((Gr.refl W).drew).trans hg; replace a0 := hg.cell a0; replace a1 := hg.cell a1; replace a2 := hg.cell a2; replace hS1 := hS1.gr hg; replace hI1 := hI1.gr hg; replace g := g.trans hg; clear hg)
  go_wp2_with fail
  refine hK.out _ _ ⟨a0, a1, a2⟩ (fun hHeld => ?_)
  clear hK K
  (try simp only [Act.put, List.setIfInBounds_toArray, List.set_cons_zero, List.set_cons_succ])
  refine wpAnyH_take (i := 3) (v := (.bool (!b1))) (op_at rfl) (by kernel_rfl) (by kernel_rfl) (by kernel_rfl) (fun _ _ _ h => h) (Or.inl ⟨rfl, fun w hSw => ?_⟩) (by assumption) ?_
  · (try dsimp only at hSw); go_simp; try with_reducible rfl
  (try simp only [Act.put, List.setIfInBounds_toArray, List.set_cons_zero, List.set_cons_succ])
  refine wpAnyH_ready (rs := [4]) (by kernel_rfl) (by simp) (AllReadyH.cons (op_at rfl) (fun K hK => ?_) AllReadyH.nil)
  go_simp
  (refine (H1.out _).mono ?_; rintro e w' ⟨rfl, rfl⟩)
  go_wp2_with fail
  refine hK.out _ _ ⟨a0, a1, a2⟩ (fun hHeld => ?_)
  clear hK K
  (try simp only [Act.put, List.setIfInBounds_toArray, List.set_cons_zero, List.set_cons_succ])
  refine wpAnyH_ready (rs := [7]) (by kernel_rfl) (by simp) (AllReadyH.cons (op_at rfl) (fun K hK => ?_) AllReadyH.nil)
  go_simp
  (refine (HB.out _ hS1).mono ?_; rintro e w' ⟨rfl, rfl⟩)
  go_wp2_with fail
  refine hK.out _ _ ⟨a0, a1, a2⟩ (fun hHeld => ?_)
  clear hK K
  (try simp only [Act.put, List.setIfInBounds_toArray, List.set_cons_zero, List.set_cons_succ])
  refine wpAnyH_take (i := 8) (v := (.bool (z2 == -1))) (op_at rfl) (by kernel_rfl) (by kernel_rfl) (by kernel_rfl) (fun _ _ _ h => h) (Or.inl ⟨rfl, fun w hSw => ?_⟩) (by assumption) ?_
  · (try dsimp only at hSw); go_simp; try with_reducible rfl
  (try simp only [Act.put, List.setIfInBounds_toArray, List.set_cons_zero, List.set_cons_succ])
  refine wpAnyH_ready (rs := [9]) (by kernel_rfl) (by simp) (AllReadyH.cons (op_at rfl) (fun K hK => ?_) AllReadyH.nil)
  go_simp
  (refine (H2.out _).mono ?_; rintro e w' ⟨rfl, rfl⟩)
  go_wp2_with fail
  refine hK.out _ _ ⟨a0, a1, a2⟩ (fun hHeld => ?_)
  clear hK K
  (try simp only [Act.put, List.setIfInBounds_toArray, List.set_cons_zero, List.set_cons_succ])
  refine wpAnyH_ready (rs := [11]) (by kernel_rfl) (by simp) (AllReadyH.cons (op_at rfl) (fun K hK => ?_) AllReadyH.nil)
  go_simp
  (refine (HV.out _ ⟨_, _, _, rfl⟩ _).mono ?_; rintro e W2 ⟨rfl, hg⟩; replace a0 := hg.cell a0; replace a1 := hg.cell a1; replace a2 := hg.cell a2; replace hS1 := hS1.gr hg; replace hI1 := hI1.gr hg; replace g := g.trans hg; clear hg)
  go_wp2_with fail
  refine hK.out _ _ ⟨a0, a1, a2⟩ (fun hHeld => ?_)
  clear hK K
  (try simp only [Act.put, List.setIfInBounds_toArray, List.set_cons_zero, List.set_cons_succ])
  refine wpAnyH_take (i := 12) (v := (.bool true)) (op_at rfl) (by kernel_rfl) (by kernel_rfl) (by kernel_rfl) (fun _ _ _ h => h) (Or.inl ⟨rfl, fun w hSw => ?_⟩) (by assumption) ?_
  · (try dsimp only at hSw); go_simp; try with_reducible rfl
  (try simp only [Act.put, List.setIfInBounds_toArray, List.set_cons_zero, List.set_cons_succ])
  refine wpAnyH_take (i := 13) (v := (.bool true)) (op_at rfl) (by kernel_rfl) (by kernel_rfl) (by kernel_rfl) (fun _ _ _ h => h) (Or.inl ⟨rfl, fun w hSw => ?_⟩) (by assumption) ?_
  · (try dsimp only at hSw); go_simp; try with_reducible rfl
  (try simp only [Act.put, List.setIfInBounds_toArray, List.set_cons_zero, List.set_cons_succ])
  refine wpAnyH_take (i := 14) (v := (.pointer (some ⟨B, 2, none⟩))) (op_at rfl) (by kernel_rfl) (by kernel_rfl) (by kernel_rfl) (fun _ _ _ h => h) (Or.inl ⟨rfl, fun w hSw => ?_⟩) (by assumption) ?_
  · (try dsimp only at hSw); go_simp; try with_reducible rfl
  (try simp only [Act.put, List.setIfInBounds_toArray, List.set_cons_zero, List.set_cons_succ])
  refine wpAnyH_take (i := 15) (v := (.slice p xs.length cap)) (op_at rfl) (by kernel_rfl) (by kernel_rfl) (by kernel_rfl) (fun _ _ _ h => h) (Or.inl ⟨rfl, fun w hSw => ?_⟩) (by assumption) ?_
  · (try dsimp only at hSw); go_simp; try with_reducible rfl
  (try simp only [Act.put, List.setIfInBounds_toArray, List.set_cons_zero, List.set_cons_succ])
  refine wpAnyH_take (i := 16) (v := (.int .i64 xs.length)) (op_at rfl) (by kernel_rfl) (by kernel_rfl) (by kernel_rfl) (fun _ _ _ h => h) (Or.inl ⟨rfl, fun w hSw => ?_⟩) (by assumption) ?_
  · (try dsimp only at hSw); go_simp; try with_reducible rfl
  (try simp only [Act.put, List.setIfInBounds_toArray, List.set_cons_zero, List.set_cons_succ])
  refine wpAnyH_take (i := 17) (v := (.bool (decide (0 < xs.length)))) (op_at rfl) (by kernel_rfl) (by kernel_rfl) (by kernel_rfl) (fun _ _ _ h => h) (Or.inl ⟨rfl, fun w hSw => ?_⟩) (by assumption) ?_
  · (try dsimp only at hSw); go_simp; try with_reducible rfl
  (try simp only [Act.put, List.setIfInBounds_toArray, List.set_cons_zero, List.set_cons_succ])
  refine wpAnyH_take (i := 18) (v := (.bool (decide (0 < xs.length)))) (op_at rfl) (by kernel_rfl) (by kernel_rfl) (by kernel_rfl) (fun _ _ _ h => h) (Or.inl ⟨rfl, fun w hSw => ?_⟩) (by assumption) ?_
  · (try dsimp only at hSw); go_simp; try with_reducible rfl
  (try simp only [Act.put, List.setIfInBounds_toArray, List.set_cons_zero, List.set_cons_succ])
  refine wpAnyH_ready (rs := [19]) (by kernel_rfl) (by simp) (AllReadyH.cons (op_at rfl) (fun K hK => ?_) AllReadyH.nil)
  go_simp
  (refine (H3.out _).mono ?_; rintro e w' ⟨rfl, rfl⟩)
  go_wp2_with fail
  refine hK.out _ _ ⟨a0, a1, a2⟩ (fun hHeld => ?_)
  clear hK K
  (try simp only [Act.put, List.setIfInBounds_toArray, List.set_cons_zero, List.set_cons_succ])
  refine wpAnyH_ready (rs := [24]) (by kernel_rfl) (by simp) (AllReadyH.cons (op_at rfl) (fun K hK => ?_) AllReadyH.nil)
  go_simp
  (refine (H4.out _).mono ?_; rintro e w' ⟨rfl, rfl⟩)
  go_wp2_with fail
  refine hK.out _ _ ⟨a0, a1, a2⟩ (fun hHeld => ?_)
  clear hK K
  (try simp only [Act.put, List.setIfInBounds_toArray, List.set_cons_zero, List.set_cons_succ])
  refine wpAnyH_ready (rs := [25]) (by kernel_rfl) (by simp) (AllReadyH.cons (op_at rfl) (fun K hK => ?_) AllReadyH.nil)
  go_simp
  obtain ⟨W3, hW3, g3, q0, q1, q2, q3⟩ := box4 W2 (.int .i64 e1) (.int .i64 e2) (.int .i64 e3) (.int .i64 e4) 28
  rw [hW3]
  clear hW3
  replace a0 := g3.cell a0
  replace a1 := g3.cell a1
  replace a2 := g3.cell a2
  replace hS1 := hS1.gr g3
  replace hI1 := hI1.gr g3
  replace g := g.trans g3
  refine hK.out _ _ ⟨a0, a1, a2⟩ (fun hHeld => ?_)
  clear hK K
  (try simp only [Act.put, List.setIfInBounds_toArray, List.set_cons_zero, List.set_cons_succ])
  refine wpAnyH_ready (rs := [26]) (by kernel_rfl) (by simp) (AllReadyH.cons (op_at rfl) (fun K hK => ?_) AllReadyH.nil)
  go_simp
  (refine (HF.out _ _ W3 q0 q1 q2 q3).mono ?_; rintro e w8 ⟨rfl, rfl⟩)
  go_wp2_with fail
  refine hK.out _ _ ⟨a0, a1, a2⟩ (fun hHeld => ?_)
  clear hK K
  (try simp only [Act.put, List.setIfInBounds_toArray, List.set_cons_zero, List.set_cons_succ])
  refine wpAnyH_take (i := 27) (v := (.int .i64 err)) (op_at rfl) (by kernel_rfl) (by kernel_rfl) (by kernel_rfl) (fun _ _ _ h => h) (Or.inl ⟨rfl, fun w hSw => ?_⟩) (by assumption) ?_
  · (try dsimp only at hSw); go_simp; try with_reducible rfl
  (try simp only [Act.put, List.setIfInBounds_toArray, List.set_cons_zero, List.set_cons_succ])
  refine wpAnyH_done (by kernel_rfl) ?_ _
  by_cases h0 : err = 0
  · subst h0
    have HE := Lib.hid (HR.out.trans (if_pos rfl))
    have HV2 := Lib.hid (eachV_c W3 hI1 hs)
    clear HR
    go_wp2_with fail
    refine HV2.out.mono ?_
    rintro e w9 ⟨rfl, rfl⟩
    go_wp2_with fail
    go_ret
    exact ⟨by rw [HE.out]; rfl, g⟩
  · have h1 : (err == 0) = false := by simpa using h0
    have h2 : (err != 0) = true := by simpa [bne] using h1
    have HE := Lib.hid (HR.out.trans (if_neg h0))
    clear HR h0
    go_wp2_with fail
    go_ret
    exact ⟨by rw [HE.out]; rfl, g⟩
theorem checkResult_c (c s : ByteArray) (v : Value) (xs : List Int) (w : World) (hS : StatesIn w) (h : IntsV w v xs) (hs : xs.length ≤ 1000) :
    Calls Tryz.prog 41 #[resV c s v] w fun e w' => e = .returned (.int .i64 (resE c s xs)) ∧ Gr w w' := by
  cases hE : s.toList.isEmpty
  · exact checkResult_false c s v xs w hS h hs hE
  · exact checkResult_true c s v xs w hS h hs hE
end Go.Proofs.YtebnbjaaogfikaaGreatDoor
