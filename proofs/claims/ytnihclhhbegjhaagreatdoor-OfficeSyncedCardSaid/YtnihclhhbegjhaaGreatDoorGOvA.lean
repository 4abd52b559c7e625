/- Archives (chapter 10): the order of entries. -/
import Derived.Test.YtnihclhhbegjhaaGreatDoorOfL
import Derived.Test.YtnihclhhbegjhaaGreatDoorOfM
namespace Go.Proofs.YtnihclhhbegjhaaGreatDoor
open Go.RowKit Go.Lib
set_option linter.unusedSimpArgs false
set_option linter.unusedVariables false
def ltS (a b : ByteArray) : Bool := Op.bytesLess a.toList b.toList
theorem runS_gtr (x y : ByteArray) (w : World) : Sem.run Tryz.prog (Go.binOp .gtr 9 (.string x) (.string y)) w = .ok (.bool !(ltS x y || x.toList == y.toList)) w := by rfl
theorem runS_geq (x y : ByteArray) (w : World) : Sem.run Tryz.prog (Go.binOp .geq 9 (.string x) (.string y)) w = .ok (.bool !(ltS x y)) w := by rfl
theorem runS_leq (x y : ByteArray) (w : World) : Sem.run Tryz.prog (Go.binOp .leq 9 (.string x) (.string y)) w = .ok (.bool (ltS x y || x.toList == y.toList)) w := by rfl
theorem isNaNS_c (x : ByteArray) (w : World) :
    Calls Tryz.prog 170 #[.string x] w fun e w' => e = .returned (.bool false) ∧ w = w' := by
  go_enter Tryz.func170, Tryz.ntmps170
  go_wp2_with fail
  go_ret
  exact ⟨by simp, rfl⟩
def cmpS (x y : ByteArray) : Int := if ltS x y then -1 else if !(ltS x y || x.toList == y.toList) then 1 else 0
theorem cmpStr_c (x y : ByteArray) (w : World) :
    Calls Tryz.prog 114 #[.string x, .string y] w fun e w' => e = .returned (.int .i64 (cmpS x y)) ∧ w = w' := by
  have HX := Lib.hid (fun W => isNaNS_c x W)
  have HY := Lib.hid (fun W => isNaNS_c y W)
  have HE : Hid (cmpS x y = if ltS x y then -1 else if !(ltS x y || x.toList == y.toList) then 1 else 0) := rfl
  have HG := fun w => runS_gtr x y w
  obtain ⟨g, hg⟩ : ∃ g, g = !(ltS x y || x.toList == y.toList) := ⟨_, rfl⟩
  rw [← hg] at HE
  simp only [← hg] at HG
  obtain ⟨l, hl⟩ : ∃ l, l = Op.bytesLess x.toList y.toList := ⟨_, rfl⟩
  have HL : Op.bytesLess x.toList y.toList = l := hl.symm
  have HE2 : Hid (cmpS x y = if l then -1 else if g then 1 else 0) := by rw [hl]; exact HE.out
  clear hg hl HE
  cases l <;> cases g
  all_goals
    go_enter Tryz.func114, Tryz.ntmps114
    go_wp2_with fail
    repeat (first
      | (with_reducible refine (HX.out _).mono ?_; rintro e w4 ⟨rfl, rfl⟩; go_wp2_with fail)
      | (with_reducible refine (HY.out _).mono ?_; rintro e w4 ⟨rfl, rfl⟩; go_wp2_with fail))
    go_ret
    exact ⟨by rw [HE2.out]; rfl, rfl⟩
theorem less_self : ∀ l : List UInt8, Op.bytesLess l l = false
  | [] => rfl
  | a :: l => by
    unfold Op.bytesLess
    rw [less_self l]
    simp
theorem ltS_eq {x y : ByteArray} (h : x.toList = y.toList) : ltS x y = false := by unfold ltS; rw [h]; exact less_self _
structure EnR where
  de : ByteArray
  nu : Int
  ck : Int
  ro : ByteArray
  va : Int
  st : ByteArray
  p : Option Addr
  n : Nat
  cap : Nat
  xs : List RowR
def enV (e : EnR) : Value := .agg #[.string e.de, .int .i64 e.nu, .int .i64 e.ck, .string e.ro, .int .i64 e.va, .string e.st, .slice e.p e.n e.cap]
def mkO (a b : EnR) : Int := firstE [cmpS a.de b.de, cmpZ a.nu b.nu]
def folB (a b : EnR) : Bool := decide (mkO a b < 0) && (!(a.de.toList == b.de.toList) || decide (a.ck < b.ck))
def befB (a b : EnR) : Bool := ltS a.de b.de || ((a.de.toList == b.de.toList) && decide (a.nu < b.nu))
def ordB (a b : EnR) : Bool := !befB a b || ((a.de.toList == b.de.toList) && decide (b.ck ≤ a.ck))
theorem mkO_neg (a b : EnR) : decide (mkO a b < 0) = befB a b := by
  have hf : ∀ x y : Int, firstE [x, y] = if x = 0 then (if y = 0 then 0 else y) else x := fun _ _ => rfl
  unfold mkO befB
  rw [hf]
  unfold cmpS cmpZ
  cases hl : ltS a.de b.de with
  | true => simp
  | false =>
    cases he : (a.de.toList == b.de.toList) with
    | false => simp
    | true =>
      by_cases h1 : a.nu < b.nu
      · simp [h1]
      · by_cases h2 : b.nu < a.nu
        · simp [h1, h2]
        · simp [h1, h2]
theorem fol_ord (a b : EnR) : (!folB a b) = ordB a b := by
  unfold folB ordB
  rw [mkO_neg]
  cases befB a b with
  | false => simp
  | true =>
    cases (a.de.toList == b.de.toList) with
    | false => simp
    | true => by_cases h : a.ck < b.ck <;> simp [h] <;> omega
end Go.Proofs.YtnihclhhbegjhaaGreatDoor
namespace Go.Proofs.YtnihclhhbegjhaaGreatDoor
open Go.RowKit Go.Lib
set_option linter.unusedSimpArgs false
set_option linter.unusedVariables false
theorem box2v (w : World) (a0 a1 : Value) (T : Nat) : ∃ W, w.alloc (.cells #[a0, a1] T) = W ∧ Gr w W ∧ W.cell? ⟨w.heap.size, 0, none⟩ = some a0 ∧ W.cell? ⟨w.heap.size, 1, none⟩ = some a1 :=
  ⟨_, rfl, (Gr.refl w).alloc _, cell_new w #[a0, a1] T 0 (by simp), cell_new w #[a0, a1] T 1 (by simp)⟩
set_option maxHeartbeats 4000000 in
set_option maxRecDepth 100000 in
theorem byMark_c (a b : EnR) (w : World) :
    Calls Tryz.prog 97 #[enV a, enV b] w fun e w' => e = .returned (.int .i64 (mkO a b)) ∧ Gr w w' := by
  unfold enV
  have HS := Lib.hid (fun W => cmpStr_c a.de b.de W)
  have HZ := Lib.hid (fun W => cmpInt_c a.nu b.nu W)
  have HO := Lib.hid (fun bb cap W => or_c (cmpS a.de b.de) (cmpZ a.nu b.nu) bb cap W)
  obtain ⟨zo, hzo⟩ : ∃ z, z = mkO a b := ⟨_, rfl⟩
  have hzf : firstE [cmpS a.de b.de, cmpZ a.nu b.nu] = zo := hzo.symm
  rw [hzf] at HO
  rw [← hzo]
  clear hzf hzo
  generalize cmpS a.de b.de = z1 at *
  generalize cmpZ a.nu b.nu = z2 at *
  obtain ⟨W1, hW1, gW1, a0, a1, a2, a3, a4, a5, a6⟩ := bx7 w (.string a.de) (.int .i64 a.nu) (.int .i64 a.ck) (.string a.ro) (.int .i64 a.va) (.string a.st) (.slice a.p a.n a.cap) 77
  obtain ⟨W2, hW2, gW2, b0, b1, b2, b3, b4, b5, b6⟩ := bx7 W1 (.string b.de) (.int .i64 b.nu) (.int .i64 b.ck) (.string b.ro) (.int .i64 b.va) (.string b.st) (.slice b.p b.n b.cap) 77
  replace a0 := gW2.cell a0
  replace a1 := gW2.cell a1
  replace a2 := gW2.cell a2
  replace a3 := gW2.cell a3
  replace a4 := gW2.cell a4
  replace a5 := gW2.cell a5
  replace a6 := gW2.cell a6
  have g := gW1.trans gW2
  have hsz : W1.heap.size = w.heap.size + 1 := by rw [← hW1]; simp
  rw [hsz] at b0 b1 b2 b3 b4 b5 b6
  rw [← hW1] at hW2
  have HW := Lib.hid hW2
  clear hW1 hW2 gW1 gW2 hsz
  go_enter Tryz.func97, Tryz.ntmps97
  go_wp2_with fail
  rw [HW.out]
  clear HW a2 a3 a4 a5 a6 b2 b3 b4 b5 b6
  generalize w.heap.size + 1 = Cx at *
  generalize w.heap.size = Bx at *
  have gd := (Gr.refl W2).drew
  replace a0 := gd.cell a0
  replace a1 := gd.cell a1
  replace b0 := gd.cell b0
  replace b1 := gd.cell b1
  replace g := g.trans gd
  clear gd
  refine wp_region_held_drew (S := (fun w' => w'.cell? ⟨Bx, 0, none⟩ = some (.string a.de) ∧ w'.cell? ⟨Bx, 1, none⟩ = some (.int .i64 a.nu) ∧ w'.cell? ⟨Cx, 0, none⟩ = some (.string b.de) ∧ w'.cell? ⟨Cx, 1, none⟩ = some (.int .i64 b.nu))) (by kernel_rfl) ⟨a0, a1, b0, b1⟩ (fun hHeld => ?_)
  generalize W2.drew = V at *
  refine wpAnyH_take (i := 0) (v := (.pointer (some ⟨Bx, 0, none⟩))) (op_at rfl) (by kernel_rfl) (by kernel_rfl) (by kernel_rfl) (fun _ _ _ h => h) (Or.inl ⟨rfl, fun w hSw => ?_⟩) (by assumption) ?_
  · (try dsimp only at hSw); go_simp; try with_reducible rfl
  (try simp only [Act.put, tz0, tz1, tz2])
  refine wpAnyH_take (i := 1) (v := (.string a.de)) (op_at rfl) (by kernel_rfl) (by kernel_rfl) (by kernel_rfl) (fun _ _ _ h => h) (Or.inl ⟨rfl, fun w hSw => ?_⟩) (by assumption) ?_
  · (try dsimp only at hSw); go_simp; try with_reducible rfl
  (try simp only [Act.put, tz0, tz1, tz2])
  refine wpAnyH_take (i := 2) (v := (.pointer (some ⟨Cx, 0, none⟩))) (op_at rfl) (by kernel_rfl) (by kernel_rfl) (by kernel_rfl) (fun _ _ _ h => h) (Or.inl ⟨rfl, fun w hSw => ?_⟩) (by assumption) ?_
  · (try dsimp only at hSw); go_simp; try with_reducible rfl
  (try simp only [Act.put, tz0, tz1, tz2])
  refine wpAnyH_take (i := 3) (v := (.string b.de)) (op_at rfl) (by kernel_rfl) (by kernel_rfl) (by kernel_rfl) (fun _ _ _ h => h) (Or.inl ⟨rfl, fun w hSw => ?_⟩) (by assumption) ?_
  · (try dsimp only at hSw); go_simp; try with_reducible rfl
  (try simp only [Act.put, tz0, tz1, tz2])
  refine wpAnyH_take (i := 5) (v := (.pointer (some ⟨Bx, 1, none⟩))) (op_at rfl) (by kernel_rfl) (by kernel_rfl) (by kernel_rfl) (fun _ _ _ h => h) (Or.inl ⟨rfl, fun w hSw => ?_⟩) (by assumption) ?_
  · (try dsimp only at hSw); go_simp; try with_reducible rfl
  (try simp only [Act.put, tz0, tz1, tz2])
  refine wpAnyH_take (i := 6) (v := (.int .i64 a.nu)) (op_at rfl) (by kernel_rfl) (by kernel_rfl) (by kernel_rfl) (fun _ _ _ h => h) (Or.inl ⟨rfl, fun w hSw => ?_⟩) (by assumption) ?_
  · (try dsimp only at hSw); go_simp; try with_reducible rfl
  (try simp only [Act.put, tz0, tz1, tz2])
  refine wpAnyH_take (i := 7) (v := (.pointer (some ⟨Cx, 1, none⟩))) (op_at rfl) (by kernel_rfl) (by kernel_rfl) (by kernel_rfl) (fun _ _ _ h => h) (Or.inl ⟨rfl, fun w hSw => ?_⟩) (by assumption) ?_
  · (try dsimp only at hSw); go_simp; try with_reducible rfl
  (try simp only [Act.put, tz0, tz1, tz2])
  refine wpAnyH_take (i := 8) (v := (.int .i64 b.nu)) (op_at rfl) (by kernel_rfl) (by kernel_rfl) (by kernel_rfl) (fun _ _ _ h => h) (Or.inl ⟨rfl, fun w hSw => ?_⟩) (by assumption) ?_
  · (try dsimp only at hSw); go_simp; try with_reducible rfl
  (try simp only [Act.put, tz0, tz1, tz2])
  refine wpAnyH_ready (rs := [4]) (by kernel_rfl) (by simp) (AllReadyH.cons (op_at rfl) (fun K hK => ?_) AllReadyH.nil)
  go_simp
  (refine (HS.out _).mono ?_; rintro e w' ⟨rfl, rfl⟩)
  go_wp2_with fail
  refine hK.out _ _ ⟨a0, a1, b0, b1⟩ (fun hHeld => ?_)
  clear hK K
  (try simp only [Act.put, tz0, tz1, tz2])
  refine wpAnyH_ready (rs := [9]) (by kernel_rfl) (by simp) (AllReadyH.cons (op_at rfl) (fun K hK => ?_) AllReadyH.nil)
  go_simp
  (refine (HZ.out _).mono ?_; rintro e w' ⟨rfl, rfl⟩)
  go_wp2_with fail
  refine hK.out _ _ ⟨a0, a1, b0, b1⟩ (fun hHeld => ?_)
  clear hK K
  (try simp only [Act.put, tz0, tz1, tz2])
  refine wpAnyH_ready (rs := [10]) (by kernel_rfl) (by simp) (AllReadyH.cons (op_at rfl) (fun K hK => ?_) AllReadyH.nil)
  go_simp
  obtain ⟨WW, hWW, gWW, q0, q1⟩ := box2v V (.int .i64 z1) (.int .i64 z2) 3
  rw [hWW]
  clear hWW
  replace a0 := gWW.cell a0
  replace a1 := gWW.cell a1
  replace b0 := gWW.cell b0
  replace b1 := gWW.cell b1
  replace g := g.trans gWW
  refine hK.out _ _ ⟨a0, a1, b0, b1⟩ (fun hHeld => ?_)
  clear hK K
  (try simp only [Act.put, tz0, tz1, tz2])
  refine wpAnyH_ready (rs := [11]) (by kernel_rfl) (by simp) (AllReadyH.cons (op_at rfl) (fun K hK => ?_) AllReadyH.nil)
  go_simp
  (refine (HO.out _ _ WW q0 q1).mono ?_; rintro e w8 ⟨rfl, hg⟩; replace a0 := hg.cell a0; replace a1 := hg.cell a1; replace b0 := hg.cell b0; replace b1 := hg.cell b1; replace g := g.trans hg; clear hg)
  go_wp2_with fail
  refine hK.out _ _ ⟨a0, a1, b0, b1⟩ (fun hHeld => ?_)
  clear hK K
  (try simp only [Act.put, tz0, tz1, tz2])
  refine wpAnyH_take (i := 12) (v := (.int .i64 zo)) (op_at rfl) (by kernel_rfl) (by kernel_rfl) (by kernel_rfl) (fun _ _ _ h => h) (Or.inl ⟨rfl, fun w hSw => ?_⟩) (by assumption) ?_
  · (try dsimp only at hSw); go_simp; try with_reducible rfl
  (try simp only [Act.put, tz0, tz1, tz2])
  refine wpAnyH_done (by kernel_rfl) ?_ _
  go_wp2_with fail
  go_ret
  exact ⟨rfl, g⟩
set_option maxHeartbeats 4000000 in
set_option maxRecDepth 100000 in
theorem mayFollow_c (a b : EnR) (w : World) :
    Calls Tryz.prog 56 #[enV a, enV b] w fun e w' => e = .returned (.bool (folB a b)) ∧ Gr w w' := by
  have HM := Lib.hid (fun W => byMark_c a b W)
  have HE : Hid (folB a b = (decide (mkO a b < 0) && (!(a.de.toList == b.de.toList) || decide (a.ck < b.ck)))) := rfl
  unfold enV at *
  generalize folB a b = r at *
  generalize mkO a b = z at *
  obtain ⟨W1, hW1, gW1, a0, a1, a2, a3, a4, a5, a6⟩ := bx7 w (.string a.de) (.int .i64 a.nu) (.int .i64 a.ck) (.string a.ro) (.int .i64 a.va) (.string a.st) (.slice a.p a.n a.cap) 77
  obtain ⟨W2, hW2, gW2, b0, b1, b2, b3, b4, b5, b6⟩ := bx7 W1 (.string b.de) (.int .i64 b.nu) (.int .i64 b.ck) (.string b.ro) (.int .i64 b.va) (.string b.st) (.slice b.p b.n b.cap) 77
  replace a0 := gW2.cell a0
  replace a1 := gW2.cell a1
  replace a2 := gW2.cell a2
  replace a3 := gW2.cell a3
  replace a4 := gW2.cell a4
  replace a5 := gW2.cell a5
  replace a6 := gW2.cell a6
  have g := gW1.trans gW2
  have hsz : W1.heap.size = w.heap.size + 1 := by rw [← hW1]; simp
  rw [hsz] at b0 b1 b2 b3 b4 b5 b6
  rw [← hW1] at hW2
  have HW := Lib.hid hW2
  clear hW1 hW2 gW1 gW2 hsz
  cases h1 : decide (z < 0) <;> cases h2 : (a.de.toList == b.de.toList) <;> cases h3 : decide (a.ck < b.ck)
  all_goals
    rw [h1, h2, h3] at HE
    go_enter Tryz.func56, Tryz.ntmps56
    go_wp2_with fail
    rw [HW.out]
    clear HW
    generalize w.heap.size + 1 = Cx at *
    generalize w.heap.size = Bx at *
    go_wp2_with fail
    refine (HM.out _).mono ?_
    rintro e w4 ⟨rfl, hg⟩
    replace a0 := hg.cell a0
    replace a1 := hg.cell a1
    replace a2 := hg.cell a2
    replace a3 := hg.cell a3
    replace a4 := hg.cell a4
    replace a5 := hg.cell a5
    replace a6 := hg.cell a6
    replace b0 := hg.cell b0
    replace b1 := hg.cell b1
    replace b2 := hg.cell b2
    replace b3 := hg.cell b3
    replace b4 := hg.cell b4
    replace b5 := hg.cell b5
    replace b6 := hg.cell b6
    replace g := g.trans hg
    clear hg HM
    go_wp2_with fail
    go_ret
    exact ⟨by rw [HE.out]; rfl, g⟩
set_option maxHeartbeats 4000000 in
set_option maxRecDepth 100000 in
theorem before_c (a b : EnR) (w : World) :
    Calls Tryz.prog 50 #[enV a, enV b] w fun e w' => e = .returned (.bool (befB a b)) ∧ Gr w w' := by
  have HE : Hid (befB a b = (Op.bytesLess a.de.toList b.de.toList || ((a.de.toList == b.de.toList) && decide (a.nu < b.nu)))) := rfl
  unfold enV at *
  generalize befB a b = r at *
  obtain ⟨W1, hW1, gW1, a0, a1, a2, a3, a4, a5, a6⟩ := bx7 w (.string a.de) (.int .i64 a.nu) (.int .i64 a.ck) (.string a.ro) (.int .i64 a.va) (.string a.st) (.slice a.p a.n a.cap) 65
  obtain ⟨W2, hW2, gW2, b0, b1, b2, b3, b4, b5, b6⟩ := bx7 W1 (.string b.de) (.int .i64 b.nu) (.int .i64 b.ck) (.string b.ro) (.int .i64 b.va) (.string b.st) (.slice b.p b.n b.cap) 65
  replace a0 := gW2.cell a0
  replace a1 := gW2.cell a1
  replace a2 := gW2.cell a2
  replace a3 := gW2.cell a3
  replace a4 := gW2.cell a4
  replace a5 := gW2.cell a5
  replace a6 := gW2.cell a6
  have g := gW1.trans gW2
  have hsz : W1.heap.size = w.heap.size + 1 := by rw [← hW1]; simp
  rw [hsz] at b0 b1 b2 b3 b4 b5 b6
  rw [← hW1] at hW2
  have HW := Lib.hid hW2
  clear hW1 hW2 gW1 gW2 hsz
  cases h1 : Op.bytesLess a.de.toList b.de.toList <;> cases h2 : (a.de.toList == b.de.toList) <;> cases h3 : decide (a.nu < b.nu)
  all_goals
    rw [h1, h2, h3] at HE
    go_enter Tryz.func50, Tryz.ntmps50
    go_wp2_with fail
    rw [HW.out]
    clear HW
    generalize w.heap.size + 1 = Cx at *
    generalize w.heap.size = Bx at *
    go_wp2_with fail
    go_ret
    exact ⟨by rw [HE.out]; rfl, g⟩
end Go.Proofs.YtnihclhhbegjhaaGreatDoor
namespace Go.Proofs.YtnihclhhbegjhaaGreatDoor
open Go.RowKit Go.Lib
set_option linter.unusedSimpArgs false
set_option linter.unusedVariables false
def enC (e : EnR) : List Value := [.string e.de, .int .i64 e.nu, .int .i64 e.ck, .string e.ro, .int .i64 e.va, .string e.st, .slice e.p e.n e.cap]
def enCs (l : List EnR) : List Value := l.flatMap enC
theorem enCs_len (l : List EnR) : (enCs l).length = l.length * 7 := by
  induction l with
  | nil => rfl
  | cons x xs ih => simp only [enCs, List.flatMap_cons, List.length_append, List.length_cons] at *; rw [ih]; simp [enC]; omega
theorem enCs_add (l : List EnR) (r : EnR) : enCs (l ++ [r]) = enCs l ++ enC r := by simp [enCs]
theorem enCs_at {xs : List EnR} {i : Nat} {x : EnR} (h : xs[i]? = some x) (j : Nat) (hj : j < 7) : (enCs xs)[i * 7 + j]? = (enC x)[j]? := by
  induction xs generalizing i with
  | nil => simp at h
  | cons y ys ih =>
    have e : enCs (y :: ys) = enC y ++ enCs ys := rfl
    rw [e]
    cases i with
    | zero =>
      simp only [List.getElem?_cons_zero, Option.some.injEq] at h
      subst h
      rw [show 0 * 7 + j = j by omega, List.getElem?_append_left (by simp [enC]; omega)]
    | succ i =>
      rw [List.getElem?_append_right (by simp [enC]; omega)]
      have := ih (i := i) (by simpa using h)
      rw [← this]
      congr 1
      simp [enC]; omega
structure EnAt (w : World) (b off : Nat) (e : EnR) : Prop where
  c0 : w.cell? ⟨b, off, none⟩ = some (.string e.de)
  c1 : w.cell? ⟨b, off + 1, none⟩ = some (.int .i64 e.nu)
  c2 : w.cell? ⟨b, off + 2, none⟩ = some (.int .i64 e.ck)
  c3 : w.cell? ⟨b, off + 3, none⟩ = some (.string e.ro)
  c4 : w.cell? ⟨b, off + 4, none⟩ = some (.int .i64 e.va)
  c5 : w.cell? ⟨b, off + 5, none⟩ = some (.string e.st)
  c6 : w.cell? ⟨b, off + 6, none⟩ = some (.slice e.p e.n e.cap)
  rows : RowsX w e.p e.n e.cap e.xs
theorem EnAt.gr {w w' : World} {b off : Nat} {e : EnR} (h : EnAt w b off e) (k : Gr w w') : EnAt w' b off e := ⟨k.cell h.c0, k.cell h.c1, k.cell h.c2, k.cell h.c3, k.cell h.c4, k.cell h.c5, k.cell h.c6, h.rows.gr k⟩
structure EnS (w : World) (q : Option Addr) (l : List EnR) : Prop where
  mk' ::
  out : 0 < l.length → ∃ b off, q = some ⟨b, off, none⟩ ∧ ∀ (i : Nat) (e : EnR), l[i]? = some e → EnAt w b (off + i * 7) e
theorem EnS.gr {w w' : World} {q : Option Addr} {l : List EnR} (h : EnS w q l) (k : Gr w w') : EnS w' q l := ⟨fun h0 => by
  obtain ⟨g, off, e, hc⟩ := h.out h0
  exact ⟨g, off, e, fun i r hr => (hc i r hr).gr k⟩⟩
theorem EnS.of_own {w : World} {b n : Nat} {T : TypeId} {q : Option Addr} {c : Nat} {l : List EnR} (h : w.ownsRow b T 7 (.slice q n c) n (enCs l)) (hn : l.length = n) (hr : ∀ e ∈ l, RowsX w e.p e.n e.cap e.xs) : EnS w q l := ⟨fun h0 => by
  rcases h.2 with ⟨e, hz⟩ | ⟨g, cap, cur, e, _, _, hle, hmx, _, _⟩
  · omega
  · simp only [Value.slice.injEq] at e
    obtain ⟨rfl, _, rfl⟩ := e
    refine ⟨g, 0, rfl, fun i r hri => ?_⟩
    have hi := (List.getElem?_eq_some_iff.1 hri).1
    have c0 := h.cellAt (i * 7 + 0) (by omega)
    have c1 := h.cellAt (i * 7 + 1) (by omega)
    have c2 := h.cellAt (i * 7 + 2) (by omega)
    have c3 := h.cellAt (i * 7 + 3) (by omega)
    have c4 := h.cellAt (i * 7 + 4) (by omega)
    have c5 := h.cellAt (i * 7 + 5) (by omega)
    have c6 := h.cellAt (i * 7 + 6) (by omega)
    rw [enCs_at hri _ (by omega)] at c0 c1 c2 c3 c4 c5 c6
    rw [Nat.zero_add]
    exact ⟨c0, c1, c2, c3, c4, c5, c6, hr r (List.mem_of_getElem? hri)⟩⟩
theorem cell_seven (w : World) (a0 a1 a2 a3 a4 a5 a6 : Value) (T : TypeId) : ∀ (j : Nat) (u : Value), [a0, a1, a2, a3, a4, a5, a6][j]? = some u → (w.alloc (.cells #[a0, a1, a2, a3, a4, a5, a6] T)).cell? ((⟨w.heap.size, 0, none⟩ : Addr).add j) = some u := by
  intro j u h
  rw [addr_add]
  match j, h with
  | 0, h => simp at h; subst h; exact cell_new w #[a0, a1, a2, a3, a4, a5, a6] T 0 (by simp)
  | 1, h => simp at h; subst h; exact cell_new w #[a0, a1, a2, a3, a4, a5, a6] T 1 (by simp)
  | 2, h => simp at h; subst h; exact cell_new w #[a0, a1, a2, a3, a4, a5, a6] T 2 (by simp)
  | 3, h => simp at h; subst h; exact cell_new w #[a0, a1, a2, a3, a4, a5, a6] T 3 (by simp)
  | 4, h => simp at h; subst h; exact cell_new w #[a0, a1, a2, a3, a4, a5, a6] T 4 (by simp)
  | 5, h => simp at h; subst h; exact cell_new w #[a0, a1, a2, a3, a4, a5, a6] T 5 (by simp)
  | 6, h => simp at h; subst h; exact cell_new w #[a0, a1, a2, a3, a4, a5, a6] T 6 (by simp)
  | j + 7, h => simp at h
theorem infoEnR : (Tryz.prog.info? 65).map (fun i => (i.zero, i.size, i.bytes)) = some (some (.agg #[.string ⟨#[]⟩, .int .i64 0, .int .i64 0, .string ⟨#[]⟩, .int .i64 0, .string ⟨#[]⟩, .slice none 0 0]), 7, 96) := by kernel_rfl
theorem infoEnP : (Tryz.prog.info? 77).map (fun i => (i.zero, i.size, i.bytes)) = some (some (.agg #[.string ⟨#[]⟩, .int .i64 0, .int .i64 0, .string ⟨#[]⟩, .int .i64 0, .string ⟨#[]⟩, .slice none 0 0]), 7, 96) := by kernel_rfl
theorem one_seven (a : ByteArray) (b c : Int) (d : ByteArray) (e : Int) (f : ByteArray) (p : Option Addr) (n cap : Nat) : ∀ u ∈ ([.string a, .int .i64 b, .int .i64 c, .string d, .int .i64 e, .string f, .slice p n cap] : List Value), u.oneCell' = true := by
  intro u hu
  simp at hu
  rcases hu with rfl | rfl | rfl | rfl | rfl | rfl | rfl <;> rfl
set_option maxHeartbeats 4000000 in
set_option maxRecDepth 100000 in
theorem entries_c {p : Option Addr} {cap n : Nat} {l : List EnR} {w : World} (hr : EnS w p l) (hn : n = l.length) (hb : n * 96 ≤ 140737488355328) :
    Calls Tryz.prog 7 #[.slice p n cap] w fun e w' => ∃ q c, e = .returned (.slice q n c) ∧ (n ≤ c ∧ c ≤ maxLen) ∧ EnS w' q l ∧ Gr w w' := by
  obtain ⟨i0, hi, hz0, hz1, hz2⟩ := info_parts infoEnR
  have HN := Lib.hid hn
  have HR := Lib.hid hr.out
  have HRX : Hid (∀ e ∈ l, RowsX w e.p e.n e.cap e.xs) := fun e he => by
    obtain ⟨i, hi⟩ := List.getElem?_of_mem he
    obtain ⟨b, off, _, hc⟩ := hr.out (by have := (List.getElem?_eq_some_iff.1 hi).1; omega)
    exact (hc i e hi).rows
  have hnm : n ≤ 1466015503701 := by omega
  clear hr hn
  go_enter Tryz.func7, Tryz.ntmps7
  go_wp2_with fail
  go_loopg [3, 8] n (fun gk s3 s8 wr => ∃ i : Nat, s8 = .int .i64 (i : Int) ∧ gk + i = n ∧ wr.ownsRow w.heap.size 65 7 s3 i (enCs (l.take i)) ∧ Hid (Gr w wr))
  case atStart => exact ⟨0, rfl, by omega, World.ownsRow_nil _ _ _ _, Gr.refl _⟩
  case round =>
    obtain ⟨i, rfl, hgk, hown, HG⟩ := hrel
    have hsz := HG.out.size
    by_cases hlt : i < n
    · obtain ⟨x, hx⟩ : ∃ x, l[i]? = some x := ⟨l[i]'(by have := HN.out; omega), List.getElem?_eq_getElem _⟩
      obtain ⟨b, off, rfl, hc⟩ := HR.out (by have := HN.out; omega)
      obtain ⟨a0, a1, a2, a3, a4, a5, a6, _⟩ := (hc i x hx).gr HG.out
      have hlt2 : (i : Int) < (n : Int) := by omega
      have HT : Hid (enCs (l.take (i + 1)) = enCs (l.take i) ++ enC x) := by rw [Hid, List.take_add_one, hx]; exact enCs_add _ _
      obtain ⟨xde, xnu, xck, xro, xva, xst, xp, xn, xc, xxs⟩ := x
      simp only at a0 a1 a2 a3 a4 a5 a6
      have g1 := (Gr.refl wr).alloc (.cells #[.string xde, .int .i64 xnu, .int .i64 xck, .string xro, .int .i64 xva, .string xst, .slice xp xn xc] 77)
      clear hx hc
      go_wp2_with fail
      refine (own10_c _ _ _ _ _ _ _ _ _ _).mono ?_
      rintro e V ⟨rfl, hg⟩
      have gV := g1.trans hg
      have hownV := own_kept hown gV
      have HGV : Hid (Gr w V) := HG.out.trans gV
      have hszV := HGV.out.size
      clear hg g1 gV a0 a1 a2 a3 a4 a5 a6
      go_wp2_with (at_builtin; refine wpList_append_own _ rfl _ _ 30 rfl w.heap.size 65 i0 (.agg #[.string ⟨#[]⟩, .int .i64 0, .int .i64 0, .string ⟨#[]⟩, .int .i64 0, .string ⟨#[]⟩, .slice none 0 0]) 7 96 Tryz.underlying30 hi hz0 hz1 hz2 rfl (by decide) _ _ _ rfl (own_kept hownV ((Gr.refl V).alloc _)) ⟨V.heap.size, 0, none⟩ 1 1 [.string xde, .int .i64 xnu, .int .i64 xck, .string xro, .int .i64 xva, .string xst, .slice xp xn xc] rfl rfl (cell_seven _ _ _ _ _ _ _ _ _) (one_seven _ _ _ _ _ _ _ _ _) (by unfold maxLen; omega) (by omega) (by simp; omega) ?_; intro v1 w1 hown1 hgrow1 hnil)
      have HGR : Hid (Gr w w1) := Below.grown (HGV.out.alloc _) hgrow1 (by simp; omega) (fun q hq => (own_in hownV hq).2)
      have HO1 := Lib.hid hown1
      clear hown1 hgrow1 hown hownV hnil
      go_roundg (gk - 1)
      case measure => omega
      case rel => exact ⟨i + 1, by go_num, by omega, by have := HO1.out; rw [HT.out]; exact this, HGR⟩
    · obtain rfl : n = i := by omega
      have hlt2 : ¬ (n : Int) < (n : Int) := by omega
      obtain ⟨q, c, rfl, hc1, hc2⟩ := own_shape hown
      have HV : Hid (EnS wr q l) := EnS.of_own (by have := hown; rwa [List.take_of_length_le (by have := HN.out; omega)] at this) HN.out.symm (fun e he => (HRX.out e he).gr HG.out)
      clear hown
      go_wp2_with fail
      go_ret
      exact ⟨_, _, rfl, ⟨hc1, hc2⟩, HV.out, HG.out⟩
end Go.Proofs.YtnihclhhbegjhaaGreatDoor
namespace Go.Proofs.YtnihclhhbegjhaaGreatDoor
open Go.RowKit Go.Lib
set_option linter.unusedSimpArgs false
set_option linter.unusedVariables false
def Few (l : List EnR) : Prop := ∀ e ∈ l, ∀ x ∈ e.xs, x.xs.length ≤ 19
theorem EnAt.rowsV {w : World} {b off : Nat} {e : EnR} (h : EnAt w b off e) (hf : ∀ x ∈ e.xs, x.xs.length ≤ 19) : RowsV w (.slice e.p e.n e.cap) e.xs := h.rows.rows hf
structure ShoE (e : Ending) (l : List EnR) (k : Nat) : Prop where
  out : ∃ r, e = .returned (.bool r) ∧ (r = true → l.length ≤ k ∧ Few l)
theorem few_of {l : List EnR} (h : ∀ (j : Nat) (e : EnR), j < l.length → l[j]? = some e → ∀ x ∈ e.xs, x.xs.length ≤ 19) : Few l := fun e he => by
  obtain ⟨j, hj⟩ := List.mem_iff_getElem?.1 he
  exact h j e (List.getElem?_eq_some_iff.1 hj).1 hj
set_option maxHeartbeats 4000000 in
set_option maxRecDepth 100000 in
theorem shortEn_c {q : Option Addr} {cap n k : Nat} {l : List EnR} {w : World} (hr : EnS w q l) (hn : n = l.length) (hk : k ≤ 1000) :
    Calls Tryz.prog 8 #[.slice q n cap, .int .i64 (k : Int)] w fun e w' => ShoE e l k ∧ Gr w w' := by
  by_cases hnk : k < n
  · have hnk2 : (k : Int) < (n : Int) := by omega
    clear hr
    go_enter Tryz.func8, Tryz.ntmps8
    go_wp2_with fail
    go_ret
    exact ⟨⟨false, rfl, fun h => by cases h⟩, Gr.refl _⟩
  have hnk2 : ¬ (k : Int) < (n : Int) := by omega
  have HN := Lib.hid hn
  have HR := Lib.hid hr.out
  have HK : Hid (l.length ≤ k) := by unfold Hid; omega
  clear hr hn
  go_enter Tryz.func8, Tryz.ntmps8
  go_wp2_with fail
  go_loopg [5] n (fun gk s5 wr => ∃ i : Nat, s5 = .int .i64 (i : Int) ∧ gk + i = n ∧ Hid (∀ (j : Nat) (e : EnR), j < i → l[j]? = some e → ∀ x ∈ e.xs, x.xs.length ≤ 19) ∧ Hid (Gr w wr))
  case atStart => exact ⟨0, rfl, by omega, fun j e h => by omega, Gr.refl _⟩
  case round =>
    obtain ⟨i, rfl, hgk, HF, HG⟩ := hrel
    by_cases hlt : i < n
    · obtain ⟨x, hx⟩ : ∃ x, l[i]? = some x := ⟨l[i]'(by have := HN.out; omega), List.getElem?_eq_getElem _⟩
      obtain ⟨b, off, rfl, hc⟩ := HR.out (by have := HN.out; omega)
      have hat := (hc i x hx).gr HG.out
      obtain ⟨a0, a1, a2, a3, a4, a5, a6, hrx⟩ := hat
      have hlt2 : (i : Int) < (n : Int) := by omega
      have HX := Lib.hid hx
      have HSh := Lib.hid (shortSh_c (cap := x.cap) x.ro x.st x.va hrx.len (Nat.le_trans hrx.cap.1 hrx.cap.2) hrx.at_)
      obtain ⟨xde, xnu, xck, xro, xva, xst, xp, xn, xc, xxs⟩ := x
      simp only at a0 a1 a2 a3 a4 a5 a6 HSh
      clear hx hc hrx
      by_cases hd : 60 < xde.size
      · have hd2 : (60 : Int) < (xde.size : Int) := by omega
        go_wp2_with fail
        go_ret
        exact ⟨⟨false, rfl, fun h => by cases h⟩, HG.out⟩
      · have hd2 : ¬ (60 : Int) < (xde.size : Int) := by omega
        go_wp2_with fail
        refine HSh.out.mono ?_
        rintro e V ⟨⟨r, rfl, hr⟩, hg⟩
        have HRR := Lib.hid hr
        have HGV := Lib.hid (HG.out.trans hg)
        clear hr hg a0 a1 a2 a3 a4 a5 a6
        cases hr2 : r
        · go_wp2_with fail
          go_ret
          exact ⟨⟨false, rfl, fun h => by cases h⟩, HGV.out⟩
        · go_wp2_with fail
          go_roundg (gk - 1)
          case measure => omega
          case rel => exact ⟨i + 1, by go_num, by omega, fun j e hj he => by
            rcases Nat.lt_or_ge j i with h | h
            · exact HF.out j e h he
            · obtain rfl : i = j := by omega
              rw [HX.out] at he
              cases he
              exact HRR.out hr2, HGV.out⟩
    · obtain rfl : n = i := by omega
      have hlt2 : ¬ (n : Int) < (n : Int) := by omega
      go_wp2_with fail
      go_ret
      exact ⟨⟨true, rfl, fun _ => ⟨HK.out, few_of (fun j e hj => HF.out j e (by have := HN.out; omega))⟩⟩, HG.out⟩
end Go.Proofs.YtnihclhhbegjhaaGreatDoor
namespace Go.Proofs.YtnihclhhbegjhaaGreatDoor
open Go.RowKit Go.Lib
set_option linter.unusedSimpArgs false
set_option linter.unusedVariables false
def enErr (e : EnR) : Int := entryE e.de e.nu e.ck e.ro e.va e.st e.xs
def ordE (l : List EnR) (i : Nat) (e : EnR) : Bool := match i with
  | 0 => false
  | j + 1 => match l[j]? with
    | some a => ordB a e
    | none => false
def enE (l : List EnR) (i : Nat) (e : EnR) : Int := firstE [enErr e, if ordE l i e then 11 else 0]
def archE (l : List EnR) : Int := errG (enE l) l l.length 0
theorem checkEn_c {w : World} (e : EnR) (hv : RowsV w (.slice e.p e.n e.cap) e.xs) : Calls Tryz.prog 54 #[enV e] w fun r w' => r = .returned (.int .i64 (enErr e)) ∧ Gr w w' := checkEntry_c e.de e.nu e.ck e.ro e.st e.va hv
theorem refEn_c {w : World} (e : EnR) (hv : RowsV w (.slice e.p e.n e.cap) e.xs) : Calls Tryz.prog 49 #[enV e] w fun r w' => r = .returned (.int .i64 (enErr e)) ∧ Gr w w' := refEntry_c e.de e.nu e.ck e.ro e.st e.va hv
theorem first_two (x y : Int) (b cap : Nat) (w : World) (hx : w.cell? ⟨b, 0, none⟩ = some (.int .i64 x)) (hy : w.cell? ⟨b, 1, none⟩ = some (.int .i64 y)) :
    Calls Tryz.prog 53 #[.slice (some ⟨b, 0, none⟩) 2 cap] w fun e w' => e = .returned (.int .i64 (firstE [x, y])) ∧ w = w' :=
  first_c0 b 2 cap [x, y] w rfl (fun i v h => by
    rcases i with _ | _ | i <;> simp at h <;> subst h <;> assumption) (by omega)
set_option maxHeartbeats 4000000 in
set_option maxRecDepth 100000 in
theorem oneEn0_c {w0 W : World} {l : List EnR} {x : EnR} {L : Nat} (G : Gr w0 W) (hv : RowsV w0 (.slice x.p x.n x.cap) x.xs) :
    Calls Tryz.prog 52 #[.int .i64 0, enV x, .pointer (some ⟨L, 0, none⟩)] W fun e w' => e = .returned (.int .i64 (enE l 0 x)) ∧ Gr W w' := by
  have HCE := Lib.hid (fun V (g : Gr W V) => checkEn_c x (hv.gr (G.trans g)))
  obtain ⟨z2, hz2, HIF0⟩ := if_e false 11
  have HIF := Lib.hid HIF0
  have HFI := Lib.hid (fun b cap w => first_two (enErr x) z2 b cap w)
  obtain ⟨zo, hzo⟩ : ∃ z, z = enE l 0 x := ⟨_, rfl⟩
  have hf : firstE [enErr x, z2] = zo := by rw [hzo, hz2]; rfl
  rw [hf] at HFI
  rw [← hzo]
  clear HIF0 hf hzo hz2 hv G
  generalize enErr x = z1 at *
  unfold enV at *
  obtain ⟨W1, hW1, gW1, x0, x1, x2, x3, x4, x5, x6⟩ := bx7 W (.string x.de) (.int .i64 x.nu) (.int .i64 x.ck) (.string x.ro) (.int .i64 x.va) (.string x.st) (.slice x.p x.n x.cap) 77
  have HW := Lib.hid hW1
  have g := gW1
  clear hW1 gW1
  go_enter Tryz.func52, Tryz.ntmps52
  go_wp2_with fail
  rw [HW.out]
  clear HW
  generalize W.heap.size = Bx at *
  have gd := (Gr.refl W1).drew
  replace x0 := gd.cell x0
  replace x1 := gd.cell x1
  replace x2 := gd.cell x2
  replace x3 := gd.cell x3
  replace x4 := gd.cell x4
  replace x5 := gd.cell x5
  replace x6 := gd.cell x6
  replace g := g.trans gd
  clear gd
  refine wp_region_held_drew (S := (fun w' => w'.cell? ⟨Bx, 0, none⟩ = some (.string x.de) ∧ w'.cell? ⟨Bx, 1, none⟩ = some (.int .i64 x.nu) ∧ w'.cell? ⟨Bx, 2, none⟩ = some (.int .i64 x.ck) ∧ w'.cell? ⟨Bx, 3, none⟩ = some (.string x.ro) ∧ w'.cell? ⟨Bx, 4, none⟩ = some (.int .i64 x.va) ∧ w'.cell? ⟨Bx, 5, none⟩ = some (.string x.st) ∧ w'.cell? ⟨Bx, 6, none⟩ = some (.slice x.p x.n x.cap))) (by kernel_rfl) ⟨x0, x1, x2, x3, x4, x5, x6⟩ (fun hHeld => ?_)
  generalize W1.drew = V at *
  refine wpAnyH_take (i := 0) (v := (.agg #[.string x.de, .int .i64 x.nu, .int .i64 x.ck, .string x.ro, .int .i64 x.va, .string x.st, .slice x.p x.n x.cap])) (op_at rfl) (by kernel_rfl) (by kernel_rfl) (by kernel_rfl) (fun _ _ _ h => h) (Or.inl ⟨rfl, fun w hSw => ?_⟩) (by assumption) ?_
  · (try dsimp only at hSw); go_simp; try with_reducible rfl
  (try simp only [Act.put, tz0, tz1, tz2])
  refine wpAnyH_take (i := 2) (v := (.int .i64 0)) (op_at rfl) (by kernel_rfl) (by kernel_rfl) (by kernel_rfl) (fun _ _ _ h => h) (Or.inl ⟨rfl, fun w hSw => ?_⟩) (by assumption) ?_
  · (try dsimp only at hSw); go_simp; try with_reducible rfl
  (try simp only [Act.put, tz0, tz1, tz2])
  refine wpAnyH_take (i := 3) (v := (.bool false)) (op_at rfl) (by kernel_rfl) (by kernel_rfl) (by kernel_rfl) (fun _ _ _ h => h) (Or.inl ⟨rfl, fun w hSw => ?_⟩) (by assumption) ?_
  · (try dsimp only at hSw); go_simp; try with_reducible rfl
  (try simp only [Act.put, tz0, tz1, tz2])
  refine wpAnyH_ready (rs := [1]) (by kernel_rfl) (by simp) (AllReadyH.cons (op_at rfl) (fun K hK => ?_) AllReadyH.nil)
  go_simp
  (refine (HCE.out _ g).mono ?_; rintro e W3 ⟨rfl, hg⟩; replace x0 := hg.cell x0; replace x1 := hg.cell x1; replace x2 := hg.cell x2; replace x3 := hg.cell x3; replace x4 := hg.cell x4; replace x5 := hg.cell x5; replace x6 := hg.cell x6; replace g := g.trans hg; clear hg)
  go_wp2_with fail
  refine hK.out _ _ ⟨x0, x1, x2, x3, x4, x5, x6⟩ (fun hHeld => ?_)
  clear hK K
  (try simp only [Act.put, tz0, tz1, tz2])
  refine wpAnyH_take (i := 4) (v := (.bool false)) (op_at rfl) (by kernel_rfl) (by kernel_rfl) (by kernel_rfl) (fun _ _ _ h => h) (Or.inl ⟨rfl, fun w hSw => ?_⟩) (by assumption) ?_
  · (try dsimp only at hSw); go_simp; try with_reducible rfl
  (try simp only [Act.put, tz0, tz1, tz2])
  refine wpAnyH_take (i := 5) (v := undef) (op_at rfl) (by kernel_rfl) (by kernel_rfl) (by kernel_rfl) (fun _ _ _ h => h) (Or.inr ⟨rfl, rfl⟩) (by assumption) ?_
  (try simp only [Act.put, tz0, tz1, tz2])
  refine wpAnyH_take (i := 6) (v := undef) (op_at rfl) (by kernel_rfl) (by kernel_rfl) (by kernel_rfl) (fun _ _ _ h => h) (Or.inr ⟨rfl, rfl⟩) (by assumption) ?_
  (try simp only [Act.put, tz0, tz1, tz2])
  refine wpAnyH_take (i := 7) (v := undef) (op_at rfl) (by kernel_rfl) (by kernel_rfl) (by kernel_rfl) (fun _ _ _ h => h) (Or.inr ⟨rfl, rfl⟩) (by assumption) ?_
  (try simp only [Act.put, tz0, tz1, tz2])
  refine wpAnyH_take (i := 8) (v := undef) (op_at rfl) (by kernel_rfl) (by kernel_rfl) (by kernel_rfl) (fun _ _ _ h => h) (Or.inr ⟨rfl, rfl⟩) (by assumption) ?_
  (try simp only [Act.put, tz0, tz1, tz2])
  refine wpAnyH_take (i := 9) (v := undef) (op_at rfl) (by kernel_rfl) (by kernel_rfl) (by kernel_rfl) (fun _ _ _ h => h) (Or.inr ⟨rfl, rfl⟩) (by assumption) ?_
  (try simp only [Act.put, tz0, tz1, tz2])
  refine wpAnyH_take (i := 10) (v := undef) (op_at rfl) (by kernel_rfl) (by kernel_rfl) (by kernel_rfl) (fun _ _ _ h => h) (Or.inr ⟨rfl, rfl⟩) (by assumption) ?_
  (try simp only [Act.put, tz0, tz1, tz2])
  refine wpAnyH_take (i := 11) (v := undef) (op_at rfl) (by kernel_rfl) (by kernel_rfl) (by kernel_rfl) (fun _ _ _ h => h) (Or.inr ⟨rfl, rfl⟩) (by assumption) ?_
  (try simp only [Act.put, tz0, tz1, tz2])
  refine wpAnyH_take (i := 12) (v := undef) (op_at rfl) (by kernel_rfl) (by kernel_rfl) (by kernel_rfl) (fun _ _ _ h => h) (Or.inr ⟨rfl, rfl⟩) (by assumption) ?_
  (try simp only [Act.put, tz0, tz1, tz2])
  refine wpAnyH_take (i := 13) (v := undef) (op_at rfl) (by kernel_rfl) (by kernel_rfl) (by kernel_rfl) (fun _ _ _ h => h) (Or.inr ⟨rfl, rfl⟩) (by assumption) ?_
  (try simp only [Act.put, tz0, tz1, tz2])
  refine wpAnyH_take (i := 14) (v := (.bool false)) (op_at rfl) (by kernel_rfl) (by kernel_rfl) (by kernel_rfl) (fun _ _ _ h => h) (Or.inl ⟨rfl, fun w hSw => ?_⟩) (by assumption) ?_
  · (try dsimp only at hSw); go_simp; try with_reducible rfl
  (try simp only [Act.put, tz0, tz1, tz2])
  refine wpAnyH_ready (rs := [15]) (by kernel_rfl) (by simp) (AllReadyH.cons (op_at rfl) (fun K hK => ?_) AllReadyH.nil)
  go_simp
  (refine (HIF.out _).mono ?_; rintro e w' ⟨rfl, rfl⟩)
  go_wp2_with fail
  refine hK.out _ _ ⟨x0, x1, x2, x3, x4, x5, x6⟩ (fun hHeld => ?_)
  clear hK K
  (try simp only [Act.put, tz0, tz1, tz2])
  refine wpAnyH_ready (rs := [16]) (by kernel_rfl) (by simp) (AllReadyH.cons (op_at rfl) (fun K hK => ?_) AllReadyH.nil)
  go_simp
  obtain ⟨WW, hWW, gWW, q0, q1⟩ := box2v W3 (.int .i64 z1) (.int .i64 z2) 37
  rw [hWW]
  clear hWW
  replace x0 := gWW.cell x0
  replace x1 := gWW.cell x1
  replace x2 := gWW.cell x2
  replace x3 := gWW.cell x3
  replace x4 := gWW.cell x4
  replace x5 := gWW.cell x5
  replace x6 := gWW.cell x6
  replace g := g.trans gWW
  refine hK.out _ _ ⟨x0, x1, x2, x3, x4, x5, x6⟩ (fun hHeld => ?_)
  clear hK K
  (try simp only [Act.put, tz0, tz1, tz2])
  refine wpAnyH_ready (rs := [17]) (by kernel_rfl) (by simp) (AllReadyH.cons (op_at rfl) (fun K hK => ?_) AllReadyH.nil)
  go_simp
  (refine (HFI.out _ _ WW q0 q1).mono ?_; rintro e w8 ⟨rfl, rfl⟩)
  go_wp2_with fail
  refine hK.out _ _ ⟨x0, x1, x2, x3, x4, x5, x6⟩ (fun hHeld => ?_)
  clear hK K
  (try simp only [Act.put, tz0, tz1, tz2])
  refine wpAnyH_take (i := 18) (v := (.int .i64 zo)) (op_at rfl) (by kernel_rfl) (by kernel_rfl) (by kernel_rfl) (fun _ _ _ h => h) (Or.inl ⟨rfl, fun w hSw => ?_⟩) (by assumption) ?_
  · (try dsimp only at hSw); go_simp; try with_reducible rfl
  (try simp only [Act.put, tz0, tz1, tz2])
  refine wpAnyH_done (by kernel_rfl) ?_ _
  go_wp2_with fail
  go_ret
  exact ⟨rfl, g⟩
set_option maxHeartbeats 4000000 in
set_option maxRecDepth 100000 in
theorem oneEnS_c {w0 W : World} {l : List EnR} {x a : EnR} {i j n b off cap L : Nat} (G : Gr w0 W) (hi : i = j + 1) (hin : i < n) (h1 : n ≤ 1000) (ha : l[j]? = some a) (hv : RowsV w0 (.slice x.p x.n x.cap) x.xs) (hat : EnAt w0 b (off + j * 7) a) (hL : W.cell? ⟨L, 0, none⟩ = some (.slice (some ⟨b, off, none⟩) n cap)) :
    Calls Tryz.prog 52 #[.int .i64 (i : Int), enV x, .pointer (some ⟨L, 0, none⟩)] W fun e w' => e = .returned (.int .i64 (enE l i x)) ∧ Gr W w' := by
  have HCE := Lib.hid (fun V (g : Gr W V) => checkEn_c x (hv.gr (G.trans g)))
  have HMF := Lib.hid (fun V => mayFollow_c a x V)
  obtain ⟨fo, hfo⟩ : ∃ f, f = folB a x := ⟨_, rfl⟩
  have hor : (!fo) = ordB a x := by rw [hfo]; exact fol_ord a x
  rw [← hfo] at HMF
  obtain ⟨z2, hz2, HIF0⟩ := if_e (!fo) 11
  have HIF := Lib.hid HIF0
  have HFI := Lib.hid (fun b cap w => first_two (enErr x) z2 b cap w)
  obtain ⟨zo, hzo⟩ : ∃ z, z = enE l i x := ⟨_, rfl⟩
  have hf : firstE [enErr x, z2] = zo := by
    rw [hzo, hz2, hor, hi]
    simp only [enE, ordE, ha]
  rw [hf] at HFI
  rw [← hzo]
  have hw1 : IntKind.i64.wrap ((i : Int) - 1) = (j : Int) := by rw [IntKind.wrap_i64]; omega
  have d1 : decide ((0 : Int) < (i : Int)) = true := decide_eq_true (by omega)
  have hjn : j < n := by omega
  have hi0 : 0 < i := by omega
  have hat2 := hat.gr G
  obtain ⟨y0, y1, y2, y3, y4, y5, y6, _⟩ := hat2
  have l0 := hL
  clear HIF0 hf hzo hz2 hv G hat hL hor hfo hi ha
  generalize enErr x = z1 at *
  unfold enV at *
  obtain ⟨W1, hW1, gW1, x0, x1, x2, x3, x4, x5, x6⟩ := bx7 W (.string x.de) (.int .i64 x.nu) (.int .i64 x.ck) (.string x.ro) (.int .i64 x.va) (.string x.st) (.slice x.p x.n x.cap) 77
  have HW := Lib.hid hW1
  have g := gW1
  clear hW1 gW1
  replace l0 := g.cell l0
  replace y0 := g.cell y0
  replace y1 := g.cell y1
  replace y2 := g.cell y2
  replace y3 := g.cell y3
  replace y4 := g.cell y4
  replace y5 := g.cell y5
  replace y6 := g.cell y6
  go_enter Tryz.func52, Tryz.ntmps52
  go_wp2_with fail
  rw [HW.out]
  clear HW
  generalize W.heap.size = Bx at *
  have gd := (Gr.refl W1).drew
  replace x0 := gd.cell x0
  replace x1 := gd.cell x1
  replace x2 := gd.cell x2
  replace x3 := gd.cell x3
  replace x4 := gd.cell x4
  replace x5 := gd.cell x5
  replace x6 := gd.cell x6
  replace l0 := gd.cell l0
  replace y0 := gd.cell y0
  replace y1 := gd.cell y1
  replace y2 := gd.cell y2
  replace y3 := gd.cell y3
  replace y4 := gd.cell y4
  replace y5 := gd.cell y5
  replace y6 := gd.cell y6
  replace g := g.trans gd
  clear gd
  refine wp_region_held_drew (S := (fun w' => w'.cell? ⟨Bx, 0, none⟩ = some (.string x.de) ∧ w'.cell? ⟨Bx, 1, none⟩ = some (.int .i64 x.nu) ∧ w'.cell? ⟨Bx, 2, none⟩ = some (.int .i64 x.ck) ∧ w'.cell? ⟨Bx, 3, none⟩ = some (.string x.ro) ∧ w'.cell? ⟨Bx, 4, none⟩ = some (.int .i64 x.va) ∧ w'.cell? ⟨Bx, 5, none⟩ = some (.string x.st) ∧ w'.cell? ⟨Bx, 6, none⟩ = some (.slice x.p x.n x.cap) ∧ w'.cell? ⟨L, 0, none⟩ = some (.slice (some ⟨b, off, none⟩) n cap) ∧ w'.cell? ⟨b, off + j * 7, none⟩ = some (.string a.de) ∧ w'.cell? ⟨b, off + j * 7 + 1, none⟩ = some (.int .i64 a.nu) ∧ w'.cell? ⟨b, off + j * 7 + 2, none⟩ = some (.int .i64 a.ck) ∧ w'.cell? ⟨b, off + j * 7 + 3, none⟩ = some (.string a.ro) ∧ w'.cell? ⟨b, off + j * 7 + 4, none⟩ = some (.int .i64 a.va) ∧ w'.cell? ⟨b, off + j * 7 + 5, none⟩ = some (.string a.st) ∧ w'.cell? ⟨b, off + j * 7 + 6, none⟩ = some (.slice a.p a.n a.cap))) (by kernel_rfl) ⟨x0, x1, x2, x3, x4, x5, x6, l0, y0, y1, y2, y3, y4, y5, y6⟩ (fun hHeld => ?_)
  generalize W1.drew = V at *
  refine wpAnyH_take (i := 0) (v := (.agg #[.string x.de, .int .i64 x.nu, .int .i64 x.ck, .string x.ro, .int .i64 x.va, .string x.st, .slice x.p x.n x.cap])) (op_at rfl) (by kernel_rfl) (by kernel_rfl) (by kernel_rfl) (fun _ _ _ h => h) (Or.inl ⟨rfl, fun w hSw => ?_⟩) (by assumption) ?_
  · (try dsimp only at hSw); go_simp; try with_reducible rfl
  (try simp only [Act.put, tz0, tz1, tz2])
  refine wpAnyH_take (i := 2) (v := (.int .i64 (i : Int))) (op_at rfl) (by kernel_rfl) (by kernel_rfl) (by kernel_rfl) (fun _ _ _ h => h) (Or.inl ⟨rfl, fun w hSw => ?_⟩) (by assumption) ?_
  · (try dsimp only at hSw); go_simp; try with_reducible rfl
  (try simp only [Act.put, tz0, tz1, tz2])
  refine wpAnyH_take (i := 3) (v := (.bool true)) (op_at rfl) (by kernel_rfl) (by kernel_rfl) (by kernel_rfl) (fun _ _ _ h => h) (Or.inl ⟨rfl, fun w hSw => ?_⟩) (by assumption) ?_
  · (try dsimp only at hSw); go_simp; try with_reducible rfl
  (try simp only [Act.put, tz0, tz1, tz2])
  refine wpAnyH_ready (rs := [1]) (by kernel_rfl) (by simp) (AllReadyH.cons (op_at rfl) (fun K hK => ?_) AllReadyH.nil)
  go_simp
  (refine (HCE.out _ g).mono ?_; rintro e W3 ⟨rfl, hg⟩; replace x0 := hg.cell x0; replace x1 := hg.cell x1; replace x2 := hg.cell x2; replace x3 := hg.cell x3; replace x4 := hg.cell x4; replace x5 := hg.cell x5; replace x6 := hg.cell x6; replace l0 := hg.cell l0; replace y0 := hg.cell y0; replace y1 := hg.cell y1; replace y2 := hg.cell y2; replace y3 := hg.cell y3; replace y4 := hg.cell y4; replace y5 := hg.cell y5; replace y6 := hg.cell y6; replace g := g.trans hg; clear hg)
  go_wp2_with fail
  refine hK.out _ _ ⟨x0, x1, x2, x3, x4, x5, x6, l0, y0, y1, y2, y3, y4, y5, y6⟩ (fun hHeld => ?_)
  clear hK K
  (try simp only [Act.put, tz0, tz1, tz2])
  refine wpAnyH_take (i := 4) (v := (.bool true)) (op_at rfl) (by kernel_rfl) (by kernel_rfl) (by kernel_rfl) (fun _ _ _ h => h) (Or.inl ⟨rfl, fun w hSw => ?_⟩) (by assumption) ?_
  · (try dsimp only at hSw); go_simp; try with_reducible rfl
  (try simp only [Act.put, tz0, tz1, tz2])
  refine wpAnyH_take (i := 5) (v := (.pointer (some ⟨L, 0, none⟩))) (op_at rfl) (by kernel_rfl) (by kernel_rfl) (by kernel_rfl) (fun _ _ _ h => h) (Or.inl ⟨rfl, fun w hSw => ?_⟩) (by assumption) ?_
  · (try dsimp only at hSw); go_simp; try with_reducible rfl
  (try simp only [Act.put, tz0, tz1, tz2])
  refine wpAnyH_take (i := 6) (v := (.slice (some ⟨b, off, none⟩) n cap)) (op_at rfl) (by kernel_rfl) (by kernel_rfl) (by kernel_rfl) (fun _ _ _ h => h) (Or.inl ⟨rfl, fun w hSw => ?_⟩) (by assumption) ?_
  · (try dsimp only at hSw); go_simp; try with_reducible rfl
  (try simp only [Act.put, tz0, tz1, tz2])
  refine wpAnyH_take (i := 7) (v := (.int .i64 (i : Int))) (op_at rfl) (by kernel_rfl) (by kernel_rfl) (by kernel_rfl) (fun _ _ _ h => h) (Or.inl ⟨rfl, fun w hSw => ?_⟩) (by assumption) ?_
  · (try dsimp only at hSw); go_simp; try with_reducible rfl
  (try simp only [Act.put, tz0, tz1, tz2])
  refine wpAnyH_take (i := 8) (v := (.int .i64 (j : Int))) (op_at rfl) (by kernel_rfl) (by kernel_rfl) (by kernel_rfl) (fun _ _ _ h => h) (Or.inl ⟨rfl, fun w hSw => ?_⟩) (by assumption) ?_
  · (try dsimp only at hSw); go_simp; try with_reducible rfl
  (try simp only [Act.put, tz0, tz1, tz2])
  refine wpAnyH_take (i := 9) (v := (.pointer (some ⟨b, off + j * 7, none⟩))) (op_at rfl) (by kernel_rfl) (by kernel_rfl) (by kernel_rfl) (fun _ _ _ h => h) (Or.inl ⟨rfl, fun w hSw => ?_⟩) (by assumption) ?_
  · (try dsimp only at hSw); go_simp; try with_reducible rfl
  (try simp only [Act.put, tz0, tz1, tz2])
  refine wpAnyH_take (i := 10) (v := (.agg #[.string a.de, .int .i64 a.nu, .int .i64 a.ck, .string a.ro, .int .i64 a.va, .string a.st, .slice a.p a.n a.cap])) (op_at rfl) (by kernel_rfl) (by kernel_rfl) (by kernel_rfl) (fun _ _ _ h => h) (Or.inl ⟨rfl, fun w hSw => ?_⟩) (by assumption) ?_
  · (try dsimp only at hSw); go_simp; try with_reducible rfl
  (try simp only [Act.put, tz0, tz1, tz2])
  refine wpAnyH_take (i := 11) (v := (.agg #[.string x.de, .int .i64 x.nu, .int .i64 x.ck, .string x.ro, .int .i64 x.va, .string x.st, .slice x.p x.n x.cap])) (op_at rfl) (by kernel_rfl) (by kernel_rfl) (by kernel_rfl) (fun _ _ _ h => h) (Or.inl ⟨rfl, fun w hSw => ?_⟩) (by assumption) ?_
  · (try dsimp only at hSw); go_simp; try with_reducible rfl
  (try simp only [Act.put, tz0, tz1, tz2])
  refine wpAnyH_ready (rs := [12]) (by kernel_rfl) (by simp) (AllReadyH.cons (op_at rfl) (fun K hK => ?_) AllReadyH.nil)
  go_simp
  (refine (HMF.out _).mono ?_; rintro e W4 ⟨rfl, hg⟩; replace x0 := hg.cell x0; replace x1 := hg.cell x1; replace x2 := hg.cell x2; replace x3 := hg.cell x3; replace x4 := hg.cell x4; replace x5 := hg.cell x5; replace x6 := hg.cell x6; replace l0 := hg.cell l0; replace y0 := hg.cell y0; replace y1 := hg.cell y1; replace y2 := hg.cell y2; replace y3 := hg.cell y3; replace y4 := hg.cell y4; replace y5 := hg.cell y5; replace y6 := hg.cell y6; replace g := g.trans hg; clear hg)
  go_wp2_with fail
  refine hK.out _ _ ⟨x0, x1, x2, x3, x4, x5, x6, l0, y0, y1, y2, y3, y4, y5, y6⟩ (fun hHeld => ?_)
  clear hK K
  (try simp only [Act.put, tz0, tz1, tz2])
  refine wpAnyH_take (i := 13) (v := (.bool !fo)) (op_at rfl) (by kernel_rfl) (by kernel_rfl) (by kernel_rfl) (fun _ _ _ h => h) (Or.inl ⟨rfl, fun w hSw => ?_⟩) (by assumption) ?_
  · (try dsimp only at hSw); go_simp; try with_reducible rfl
  (try simp only [Act.put, tz0, tz1, tz2])
  refine wpAnyH_take (i := 14) (v := (.bool !fo)) (op_at rfl) (by kernel_rfl) (by kernel_rfl) (by kernel_rfl) (fun _ _ _ h => h) (Or.inl ⟨rfl, fun w hSw => ?_⟩) (by assumption) ?_
  · (try dsimp only at hSw); go_simp; try with_reducible rfl
  (try simp only [Act.put, tz0, tz1, tz2])
  refine wpAnyH_ready (rs := [15]) (by kernel_rfl) (by simp) (AllReadyH.cons (op_at rfl) (fun K hK => ?_) AllReadyH.nil)
  go_simp
  (refine (HIF.out _).mono ?_; rintro e w' ⟨rfl, rfl⟩)
  go_wp2_with fail
  refine hK.out _ _ ⟨x0, x1, x2, x3, x4, x5, x6, l0, y0, y1, y2, y3, y4, y5, y6⟩ (fun hHeld => ?_)
  clear hK K
  (try simp only [Act.put, tz0, tz1, tz2])
  refine wpAnyH_ready (rs := [16]) (by kernel_rfl) (by simp) (AllReadyH.cons (op_at rfl) (fun K hK => ?_) AllReadyH.nil)
  go_simp
  obtain ⟨WW, hWW, gWW, q0, q1⟩ := box2v W4 (.int .i64 z1) (.int .i64 z2) 37
  rw [hWW]
  clear hWW
  replace x0 := gWW.cell x0
  replace x1 := gWW.cell x1
  replace x2 := gWW.cell x2
  replace x3 := gWW.cell x3
  replace x4 := gWW.cell x4
  replace x5 := gWW.cell x5
  replace x6 := gWW.cell x6
  replace l0 := gWW.cell l0
  replace y0 := gWW.cell y0
  replace y1 := gWW.cell y1
  replace y2 := gWW.cell y2
  replace y3 := gWW.cell y3
  replace y4 := gWW.cell y4
  replace y5 := gWW.cell y5
  replace y6 := gWW.cell y6
  replace g := g.trans gWW
  refine hK.out _ _ ⟨x0, x1, x2, x3, x4, x5, x6, l0, y0, y1, y2, y3, y4, y5, y6⟩ (fun hHeld => ?_)
  clear hK K
  (try simp only [Act.put, tz0, tz1, tz2])
  refine wpAnyH_ready (rs := [17]) (by kernel_rfl) (by simp) (AllReadyH.cons (op_at rfl) (fun K hK => ?_) AllReadyH.nil)
  go_simp
  (refine (HFI.out _ _ WW q0 q1).mono ?_; rintro e w8 ⟨rfl, rfl⟩)
  go_wp2_with fail
  refine hK.out _ _ ⟨x0, x1, x2, x3, x4, x5, x6, l0, y0, y1, y2, y3, y4, y5, y6⟩ (fun hHeld => ?_)
  clear hK K
  (try simp only [Act.put, tz0, tz1, tz2])
  refine wpAnyH_take (i := 18) (v := (.int .i64 zo)) (op_at rfl) (by kernel_rfl) (by kernel_rfl) (by kernel_rfl) (fun _ _ _ h => h) (Or.inl ⟨rfl, fun w hSw => ?_⟩) (by assumption) ?_
  · (try dsimp only at hSw); go_simp; try with_reducible rfl
  (try simp only [Act.put, tz0, tz1, tz2])
  refine wpAnyH_done (by kernel_rfl) ?_ _
  go_wp2_with fail
  go_ret
  exact ⟨rfl, g⟩
set_option maxHeartbeats 4000000 in
set_option maxRecDepth 100000 in
theorem findEn_c {w : World} {l : List EnR} {n b off cap L : Nat} (hn : l.length = n) (h1 : n ≤ 1000) (hc : ∀ i e, l[i]? = some e → EnAt w b (off + i * 7) e) (hf : Few l) (hL : w.cell? ⟨L, 0, none⟩ = some (.slice (some ⟨b, off, none⟩) n cap)) :
    Calls Tryz.prog 95 #[.slice (some ⟨b, off, none⟩) n cap, .func (.func 52) #[] #[.pointer (some ⟨L, 0, none⟩)]] w fun e w' => (∃ i : Int, e = .returned (.tuple #[.int .i64 i, .int .i64 (errG (enE l) l n 0)])) ∧ Gr w w' := by
  have HX := Lib.hid (fun k (h : k < n) => (show ∃ x, l[k]? = some x from ⟨l[k]'(by omega), List.getElem?_eq_getElem _⟩))
  have HC := Lib.hid hc
  have HS := Lib.hid (fun i x (hi : i < n) (h : l[i]? = some x) => errG_step (E := enE l) hi h)
  have HE : Hid (errG (enE l) l 0 n = 0) := rfl
  have HO : Hid (∀ (i : Nat) (x : EnR), l[i]? = some x → ∀ W, Gr w W → Calls Tryz.prog 52 #[.int .i64 (i : Int), enV x, .pointer (some ⟨L, 0, none⟩)] W fun e w' => e = .returned (.int .i64 (enE l i x)) ∧ Gr W w') := fun i x hx W G => by
    have hv := (hc i x hx).rowsV (hf x (List.mem_of_getElem? hx))
    rcases i with _ | j
    · exact oneEn0_c G hv
    · obtain ⟨a, ha⟩ : ∃ a, l[j]? = some a := ⟨l[j]'(by have := (List.getElem?_eq_some_iff.1 hx).1; omega), List.getElem?_eq_getElem _⟩
      exact oneEnS_c G rfl (by have := (List.getElem?_eq_some_iff.1 hx).1; omega) h1 ha hv (hc j a ha) (G.cell hL)
  generalize errG (enE l) l = R at *
  clear hc hn hf hL
  go_enter Tryz.func95, Tryz.ntmps95
  go_wp2_with fail
  go_loopg [11] n (fun gk s11 wr => ∃ i : Nat, s11 = .int .i64 i ∧ gk + i = n ∧ Hid (Gr w wr) ∧ Hid (R (n - i) i = R n 0))
  case atStart => exact ⟨0, rfl, by omega, Gr.refl _, by simp [Hid]⟩
  case round =>
    obtain ⟨i, rfl, hi, HG, HF⟩ := hrel
    by_cases hlt : i < n
    · obtain ⟨x, hx⟩ := HX.out i hlt
      obtain ⟨c0, c1, c2, c3, c4, c5, c6, _⟩ := (HC.out i x hx).gr HG.out
      have hi2 : (i : Int) < n := by omega
      have hst := HS.out i x hlt hx
      have g1 := (Gr.refl wr).alloc (.cells #[.string x.de, .int .i64 x.nu, .int .i64 x.ck, .string x.ro, .int .i64 x.va, .string x.st, .slice x.p x.n x.cap] 77)
      have HT0 := HO.out i x hx _ (HG.out.trans g1)
      unfold enV at HT0
      have HT := Lib.hid HT0
      have HGG := Lib.hid (HG.out.trans g1)
      clear hx g1 HT0
      by_cases h0 : enE l i x = 0
      · rw [h0] at HT
        rw [if_pos h0] at hst
        have HF2 := Lib.hid hst
        clear hst h0
        go_wp2_with (refine HT.out.mono ?_; rintro e w4 ⟨rfl, hA⟩)
        go_roundg (gk - 1)
        case measure => omega
        case rel => exact ⟨i + 1, by go_num, by omega, HGG.out.trans hA, by unfold Hid; rw [← HF2.out, HF.out]⟩
      · rw [if_neg h0] at hst
        generalize enE l i x = z at *
        have q2 : (z != 0) = true := bne_iff_ne.2 h0
        have HQ : Hid (R n 0 = z) := by unfold Hid; rw [← HF.out, hst]
        clear hst h0
        go_wp2_with (refine HT.out.mono ?_; rintro e w4 ⟨rfl, hA⟩)
        exact bodyPost_ret (v := .tuple #[.int .i64 i, .int .i64 z]) (by simp [results, Tryz.results95, go_sem]) rfl ⟨⟨i, by rw [HQ.out]⟩, HGG.out.trans hA⟩
    · have hin : i = n := by omega
      have hi2 : ¬ (i : Int) < n := by omega
      have HQ : Hid (R n 0 = 0) := by unfold Hid; rw [← HF.out, hin, Nat.sub_self]; exact HE.out
      go_wp2_with fail
      exact bodyPost_ret (v := .tuple #[.int .i64 0, .int .i64 0]) (by simp [results, Tryz.results95, go_sem]) rfl ⟨⟨0, by rw [HQ.out]⟩, HG.out⟩
theorem findEn_nil (p : Option Addr) (cap : Nat) (fn : Value) (w : World) :
    Calls Tryz.prog 95 #[.slice p 0 cap, fn] w fun e w' => (∃ i : Int, e = .returned (.tuple #[.int .i64 i, .int .i64 0])) ∧ w = w' := by
  go_enter Tryz.func95, Tryz.ntmps95
  go_wp2_with fail
  refine wp_loop_rounds 1 ?_
  rw [rounds_succ]
  go_wp2_with fail
  exact bodyPost_ret (v := .tuple #[.int .i64 0, .int .i64 0]) (by simp [results, Tryz.results95, go_sem]) rfl ⟨⟨0, rfl⟩, rfl⟩
theorem eachEn_c {w : World} {q : Option Addr} {l : List EnR} {n cap L : Nat} (hn : n = l.length) (h1 : n ≤ 1000) (hr : EnS w q l) (hf : Few l) (hL : w.cell? ⟨L, 0, none⟩ = some (.slice q n cap)) :
    Calls Tryz.prog 51 #[.slice q n cap, .func (.func 52) #[] #[.pointer (some ⟨L, 0, none⟩)]] w fun e w' => e = .returned (.int .i64 (archE l)) ∧ Gr w w' := by
  have H : Hid (Calls Tryz.prog 95 #[.slice q n cap, .func (.func 52) #[] #[.pointer (some ⟨L, 0, none⟩)]] w fun e w' => (∃ i : Int, e = .returned (.tuple #[.int .i64 i, .int .i64 (archE l)])) ∧ Gr w w') := by
    by_cases h0 : 0 < n
    · obtain ⟨b, off, rfl, hc⟩ := hr.out (by omega)
      have := findEn_c hn.symm h1 hc hf hL
      unfold archE
      rw [← hn]
      exact this
    · obtain rfl : n = 0 := by omega
      refine (findEn_nil q cap _ w).mono fun e w' ⟨he, hw⟩ => ⟨?_, hw ▸ Gr.refl _⟩
      have : archE l = 0 := by unfold archE; rw [← hn]; rfl
      rw [this]; exact he
  generalize archE l = z at *
  clear hr hf hL hn
  go_enter Tryz.func51, Tryz.ntmps51
  go_wp2_with (refine H.out.mono ?_; rintro e w4 ⟨⟨i, rfl⟩, hg⟩)
  go_ret
  exact ⟨rfl, hg⟩
theorem checkArch_c {w : World} {q : Option Addr} {l : List EnR} {n cap : Nat} (hn : n = l.length) (h1 : n ≤ 1000) (hr : EnS w q l) (hf : Few l) :
    Calls Tryz.prog 12 #[.agg #[.slice q n cap]] w fun e w' => e = .returned (.int .i64 (archE l)) ∧ Gr w w' := by
  have H := Lib.hid (fun W L (g : Gr w W) (hL : W.cell? ⟨L, 0, none⟩ = some (.slice q n cap)) => eachEn_c (L := L) hn h1 (hr.gr g) hf hL)
  have g1 := (Gr.refl w).alloc (.cells #[.slice q n cap] 24)
  have c0 := cell_new w #[.slice q n cap] 24 0 (by simp)
  have h2 : ¬ (1000 : Int) < (n : Int) := by omega
  generalize archE l = z at *
  clear hr hf hn
  go_enter Tryz.func12, Tryz.ntmps12
  go_wp2_with fail
  refine (H.out _ _ g1 c0).mono ?_
  rintro e w4 ⟨rfl, hg⟩
  go_wp2_with fail
  go_ret
  exact ⟨rfl, g1.trans hg⟩
end Go.Proofs.YtnihclhhbegjhaaGreatDoor
