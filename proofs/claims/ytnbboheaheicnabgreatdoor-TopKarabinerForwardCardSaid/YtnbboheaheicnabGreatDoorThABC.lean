/- Places: the comparison by ranks. -/
import Derived.Test.YtnbboheaheicnabGreatDoorRkABMN
import Derived.Shelf.SlSortCmp.InsertionK
import Derived.Test.YtnbboheaheicnabGreatDoorRkCDE
namespace Go.Proofs.YtnbboheaheicnabGreatDoor
open Go.RowKit Go.Lib
set_option linter.unusedSimpArgs false
set_option linter.unusedVariables false
theorem cmpZ_cases' (a b : Int) : (a < b ∧ cmpZ a b = -1) ∨ (a = b ∧ cmpZ a b = 0) ∨ (b < a ∧ cmpZ a b = 1) := by
  unfold cmpZ
  by_cases h1 : a < b
  · exact .inl ⟨h1, by rw [decide_eq_true h1]; rfl⟩
  · by_cases h2 : b < a
    · exact .inr (.inr ⟨h2, by rw [decide_eq_false h1, decide_eq_true h2]; rfl⟩)
    · exact .inr (.inl ⟨by omega, by rw [decide_eq_false h1, decide_eq_false h2]; rfl⟩)
structure PlR where
  nm : ByteArray
  rk : Int
def plC (x : PlR) : List Value := [.string x.nm, .int .i64 x.rk]
theorem box22d (w : World) (a0 a1 b0 b1 : Value) (T : Nat) : ∃ W, (w.alloc (.cells #[a0, a1] T)).alloc (.cells #[b0, b1] T) = W ∧ Gd w W ∧
    (W.cell? ⟨w.heap.size, 0, none⟩ = some a0 ∧ W.cell? ⟨w.heap.size, 1, none⟩ = some a1) ∧ (W.cell? ⟨w.heap.size + 1, 0, none⟩ = some b0 ∧ W.cell? ⟨w.heap.size + 1, 1, none⟩ = some b1) := by
  obtain ⟨W1, h1, g1, p0, p1⟩ := box2d w a0 a1 T
  obtain ⟨W2, h2, g2, q0, q1⟩ := box2d W1 b0 b1 T
  have hs : W1.heap.size = w.heap.size + 1 := by rw [← h1, World.size_alloc]
  rw [hs] at q0 q1
  exact ⟨W2, by rw [h1, h2], g1.trans g2, ⟨g2.cell p0, g2.cell p1⟩, q0, q1⟩
theorem plRank_c (x : PlR) (w : World) : Calls Tryz.prog 51 #[.agg #[.string x.nm, .int .i64 x.rk]] w fun e w' => e = .returned (.int .i64 x.rk) ∧ Gd w w' := by
  go_enter Tryz.func51, Tryz.ntmps51
  go_wp2_with fail
  go_ret
  exact ⟨rfl, (Gd.refl w).alloc _⟩
set_option maxHeartbeats 1000000 in
set_option maxRecDepth 100000 in
theorem plCmp_c (x y : PlR) (F : Nat) (w : World) (hF : w.cell? ⟨F, 0, none⟩ = some (.func (.func 51) #[] #[])) :
    Calls Tryz.prog 82 #[.agg #[.string x.nm, .int .i64 x.rk], .agg #[.string y.nm, .int .i64 y.rk], .pointer (some ⟨F, 0, none⟩)] w fun e w' => e = .returned (.int .i64 (cmpZ x.rk y.rk)) ∧ Gd w w' := by
  have H1 := Lib.hid (fun W => plRank_c x W)
  have H2 := Lib.hid (fun W => plRank_c y W)
  have HC := Lib.hid (fun W => cmpInt_c x.rk y.rk W)
  obtain ⟨W, hW, g, ⟨a0, a1⟩, b0, b1⟩ := box22d w (.string x.nm) (.int .i64 x.rk) (.string y.nm) (.int .i64 y.rk) 67
  have f0 := g.cell hF
  have HW := Lib.hid hW
  generalize cmpZ x.rk y.rk = z at *
  clear hW hF
  go_enter Tryz.func82, Tryz.ntmps82
  go_wp2_with fail
  rw [HW.out]
  generalize w.heap.size = B at *
  clear HW
  have gd := (Gd.refl W).drew
  replace a0 := gd.cell a0
  replace a1 := gd.cell a1
  replace b0 := gd.cell b0
  replace b1 := gd.cell b1
  replace f0 := gd.cell f0
  replace g := g.trans gd
  clear gd
  refine wp_region_held_drew (S := (fun w' => (w'.cell? ⟨B, 0, none⟩ = some (.string x.nm) ∧ w'.cell? ⟨B, 1, none⟩ = some (.int .i64 x.rk)) ∧ (w'.cell? ⟨B + 1, 0, none⟩ = some (.string y.nm) ∧ w'.cell? ⟨B + 1, 1, none⟩ = some (.int .i64 y.rk)) ∧ w'.cell? ⟨F, 0, none⟩ = some (.func (.func 51) #[] #[]))) (by kernel_rfl) ⟨⟨a0, a1⟩, ⟨b0, b1⟩, f0⟩ (fun hHeld => ?_)
  generalize W.drew = V at *
  refine wpAnyH_take (i := 0) (v := (.func (.func 51) #[] #[])) (op_at rfl) (by kernel_rfl) (by kernel_rfl) (by kernel_rfl) (fun _ _ _ h => h) (Or.inl ⟨rfl, fun w hSw => ?_⟩) (by assumption) ?_
  · (try dsimp only at hSw); go_simp; try with_reducible rfl
  (try simp only [Act.put, List.setIfInBounds_toArray, List.set_cons_zero, List.set_cons_succ])
  refine wpAnyH_take (i := 1) (v := (.agg #[.string x.nm, .int .i64 x.rk])) (op_at rfl) (by kernel_rfl) (by kernel_rfl) (by kernel_rfl) (fun _ _ _ h => h) (Or.inl ⟨rfl, fun w hSw => ?_⟩) (by assumption) ?_
  · (try dsimp only at hSw); go_simp; try with_reducible rfl
  (try simp only [Act.put, List.setIfInBounds_toArray, List.set_cons_zero, List.set_cons_succ])
  refine wpAnyH_take (i := 3) (v := (.func (.func 51) #[] #[])) (op_at rfl) (by kernel_rfl) (by kernel_rfl) (by kernel_rfl) (fun _ _ _ h => h) (Or.inl ⟨rfl, fun w hSw => ?_⟩) (by assumption) ?_
  · (try dsimp only at hSw); go_simp; try with_reducible rfl
  (try simp only [Act.put, List.setIfInBounds_toArray, List.set_cons_zero, List.set_cons_succ])
  refine wpAnyH_take (i := 4) (v := (.agg #[.string y.nm, .int .i64 y.rk])) (op_at rfl) (by kernel_rfl) (by kernel_rfl) (by kernel_rfl) (fun _ _ _ h => h) (Or.inl ⟨rfl, fun w hSw => ?_⟩) (by assumption) ?_
  · (try dsimp only at hSw); go_simp; try with_reducible rfl
  (try simp only [Act.put, List.setIfInBounds_toArray, List.set_cons_zero, List.set_cons_succ])
  refine wpAnyH_ready (rs := [2]) (by kernel_rfl) (by simp) (AllReadyH.cons (op_at rfl) (fun K hK => ?_) AllReadyH.nil)
  go_simp
  (refine (H1.out _).mono ?_; rintro e W1 ⟨rfl, hg⟩; replace a0 := hg.cell a0; replace a1 := hg.cell a1; replace b0 := hg.cell b0; replace b1 := hg.cell b1; replace f0 := hg.cell f0; replace g := g.trans hg; clear hg)
  go_wp2_with fail
  refine hK.out _ _ ⟨⟨a0, a1⟩, ⟨b0, b1⟩, f0⟩ (fun hHeld => ?_)
  clear hK K
  (try simp only [Act.put, List.setIfInBounds_toArray, List.set_cons_zero, List.set_cons_succ])
  refine wpAnyH_ready (rs := [5]) (by kernel_rfl) (by simp) (AllReadyH.cons (op_at rfl) (fun K hK => ?_) AllReadyH.nil)
  go_simp
  (refine (H2.out _).mono ?_; rintro e W2 ⟨rfl, hg⟩; replace a0 := hg.cell a0; replace a1 := hg.cell a1; replace b0 := hg.cell b0; replace b1 := hg.cell b1; replace f0 := hg.cell f0; replace g := g.trans hg; clear hg)
  go_wp2_with fail
  refine hK.out _ _ ⟨⟨a0, a1⟩, ⟨b0, b1⟩, f0⟩ (fun hHeld => ?_)
  clear hK K
  (try simp only [Act.put, List.setIfInBounds_toArray, List.set_cons_zero, List.set_cons_succ])
  refine wpAnyH_ready (rs := [6]) (by kernel_rfl) (by simp) (AllReadyH.cons (op_at rfl) (fun K hK => ?_) AllReadyH.nil)
  go_simp
  (refine (HC.out _).mono ?_; rintro e w' ⟨rfl, rfl⟩)
  go_wp2_with fail
  refine hK.out _ _ ⟨⟨a0, a1⟩, ⟨b0, b1⟩, f0⟩ (fun hHeld => ?_)
  clear hK K
  (try simp only [Act.put, List.setIfInBounds_toArray, List.set_cons_zero, List.set_cons_succ])
  refine wpAnyH_take (i := 7) (v := (.int .i64 z)) (op_at rfl) (by kernel_rfl) (by kernel_rfl) (by kernel_rfl) (fun _ _ _ h => h) (Or.inl ⟨rfl, fun w hSw => ?_⟩) (by assumption) ?_
  · (try dsimp only at hSw); go_simp; try with_reducible rfl
  (try simp only [Act.put, List.setIfInBounds_toArray, List.set_cons_zero, List.set_cons_succ])
  refine wpAnyH_done (by kernel_rfl) ?_ _
  go_wp2_with fail
  go_ret
  exact ⟨rfl, g⟩
end Go.Proofs.YtnbboheaheicnabGreatDoor
namespace Go.Proofs.YtnbboheaheicnabGreatDoor
open Go.RowKit Go.Lib
set_option linter.unusedSimpArgs false
set_option linter.unusedVariables false
instance : Inhabited PlR := ⟨⟨⟨#[]⟩, 0⟩⟩
def cmpP (x y : PlR) : Int := cmpZ x.rk y.rk
theorem lt_pl (x y : PlR) : ltOf cmpP x y = decide (x.rk < y.rk) := by
  unfold ltOf
  apply decide_eq_decide.2
  show cmpZ x.rk y.rk < 0 ↔ x.rk < y.rk
  rcases cmpZ_cases' x.rk y.rk with ⟨a, e⟩ | ⟨a, e⟩ | ⟨a, e⟩ <;> rw [e] <;> constructor <;> omega
theorem swo_pl : Go.Sort.SWO (ltOf cmpP) where
  irrefl x := by rw [lt_pl]; simp
  trans x y z h1 h2 := by rw [lt_pl, decide_eq_true_eq] at *; omega
  ntrans x y z h1 h2 := by rw [lt_pl, decide_eq_false_iff_not] at *; omega
open Go.Sort Go.Shelf in
/-- what the library's insertion sort does -/
structure InsOK : Prop where
  some : ∀ (cb : Array Value) (blk off cap a b : Nat) (d : Array PlR) (w : World), CmpLays Tryz.prog 82 cb plC 2 cmpP blk off d.size w → HoldsK plC 2 w blk off d → blk < w.heap.size → a ≤ b → b ≤ d.size → d.size < 4611686018427387904 →
    Calls Tryz.prog 102 #[.slice (some ⟨blk, off, none⟩) d.size cap, .int .i64 a, .int .i64 b, .func (.func 82) #[] cb] w fun e w' =>
      e = .returned (.tuple #[]) ∧ ∃ n os, w' = sortWorldK plC 2 w blk off n (Sort.insertionSort (ltOf cmpP) d a b) os
open Go.Sort Go.Shelf in
theorem grownBy_sortedK {α : Type} [Inhabited α] (enc : α → List Value) (k : Nat) {w : World} {g n : Nat} {os : Array Obj} (d : Array α) : w.grownBy (sortWorldK enc k w g 0 n d os) (some g) := by
  unfold sortWorldK
  refine ⟨rfl, rfl, rfl, by simp [putRowK], fun j hj hne => ?_⟩
  rw [heap_grow_old _ _ (by simpa [putRowK] using hj)]
  have : g ≠ j := fun e => hne (by rw [e])
  simp [putRowK, putRow, mapBlock, Sort.ahead, Array.getElem?_modify, this]
open Go.Sort Go.Shelf in
theorem heap_sortedK {α : Type} [Inhabited α] (enc : α → List Value) (k : Nat) {w : World} {g n : Nat} {os : Array Obj} {cur : Array Value} {e : TypeId} {fr : Nat × Nat} (d : Array α) (hb : w.heap[g]? = some (.cells cur e fr)) :
    (sortWorldK enc k w g 0 n d os).heap[g]? = some (.cells (putCells id 0 (flatK enc k d) cur) e fr) := by
  have hlt := (Array.getElem?_eq_some_iff.1 hb).1
  unfold sortWorldK
  rw [heap_grow_old _ _ (by simpa [putRowK] using hlt)]
  simp [putRowK, putRow, mapBlock, Sort.ahead, Array.getElem?_modify, hb, onCells]
/-- the cells of places -/
def plCs (ps : List PlR) : List Value := ps.flatMap plC
theorem plCs_at {ps : List PlR} {i : Nat} {x : PlR} (h : ps[i]? = some x) (j : Nat) (hj : j < 2) : (plCs ps)[i * 2 + j]? = (plC x)[j]? := by
  induction ps generalizing i with
  | nil => simp at h
  | cons y ys ih =>
    have e : plCs (y :: ys) = plC y ++ plCs ys := rfl
    rw [e]
    cases i with
    | zero =>
      simp only [List.getElem?_cons_zero, Option.some.injEq] at h
      subst h
      rw [show 0 * 2 + j = j by omega, List.getElem?_append_left (by simp [plC]; omega)]
    | succ i =>
      rw [List.getElem?_append_right (by simp [plC]; omega)]
      have := ih (i := i) (by simpa using h)
      rw [← this]
      congr 1
      simp [plC]; omega
theorem plCs_len (ps : List PlR) : (plCs ps).length = ps.length * 2 := by
  induction ps with
  | nil => rfl
  | cons x xs ih => simp only [plCs, List.flatMap_cons, List.length_append, List.length_cons] at *; rw [ih]; simp [plC]; omega
open Go.Sort Go.Shelf in
theorem flat_pl (d : Array PlR) (t : Nat) (ht : t < d.size * 2) : (flatK plC 2 d)[t]! = ((plCs d.toList)[t]?).getD default := by
  rw [get_flatK plC 2 d t ht]
  have hq : t / 2 < d.size := by omega
  have h := plCs_at (ps := d.toList) (i := t / 2) (x := d[t / 2]!) (by rw [Array.getElem?_toList, getElem!_pos d _ hq]; exact Array.getElem?_eq_getElem hq) (t % 2) (by omega)
  rw [show t / 2 * 2 + t % 2 = t by omega] at h
  rw [h]
  have hm : t % 2 < 2 := by omega
  rcases Nat.mod_two_eq_zero_or_one t with e | e <;> rw [e] <;> rfl
end Go.Proofs.YtnbboheaheicnabGreatDoor
namespace Go.Proofs.YtnbboheaheicnabGreatDoor
open Go.RowKit Go.Lib
set_option linter.unusedSimpArgs false
set_option linter.unusedVariables false
open Go.Sort Go.Shelf in
set_option maxHeartbeats 1000000 in
set_option maxRecDepth 100000 in
theorem stable_c (I : InsOK) (cb : Array Value) (blk off cap : Nat) (d : Array PlR) (w : World) (hl : CmpLays Tryz.prog 82 cb plC 2 cmpP blk off d.size w) (hH : HoldsK plC 2 w blk off d) (hb : blk < w.heap.size) (hn : d.size < 20) :
    Calls Tryz.prog 81 #[.slice (some ⟨blk, off, none⟩) d.size cap, .int .i64 d.size, .func (.func 82) #[] cb] w fun e w' =>
      e = .returned (.tuple #[]) ∧ ∃ n os, w' = sortWorldK plC 2 w blk off n (Sort.insertionSort (ltOf cmpP) d 0 d.size) os := by
  have HI := Lib.hid (I.some cb blk off cap 0 d.size d w hl hH hb (by omega) (by omega) (by omega))
  have HN := Lib.hid hn
  clear hl hH hb I
  generalize hnn : d.size = n at *
  have h1 : ¬ ((20 : Int) ≤ (n : Int)) := by omega
  have h2 : ¬ ((20 : Int) < (n : Int)) := by omega
  have h1' : (decide ((20 : Int) ≤ (n : Int))) = false := decide_eq_false h1
  have h2' : (decide ((20 : Int) < (n : Int))) = false := decide_eq_false h2
  clear hnn
  go_enter Tryz.func81, Tryz.ntmps81
  go_wp2_with fail
  go_loopg [7, 8] 0 (fun gk s7 s8 wr => gk = 0 ∧ s7 = .int .i64 0 ∧ s8 = .int .i64 20 ∧ wr = w)
  case atStart => exact ⟨rfl, rfl, rfl, rfl⟩
  case round =>
    obtain ⟨rfl, rfl, rfl, rfl⟩ := hrel
    rw [Int.natCast_zero] at HI
    go_wp2_with (refine HI.out.mono ?_; rintro e w4 ⟨rfl, HW⟩)
    go_loopg [6, 7, 8, 9] 0 (fun gk s6 s7 s8 s9 wr => gk = 0 ∧ s6 = .int .i64 20 ∧ s7 = .int .i64 0 ∧ wr = w4)
    case atStart => exact ⟨rfl, rfl, rfl, rfl⟩
    case round =>
      obtain ⟨rfl, rfl, rfl, rfl⟩ := hrel
      go_wp2_with fail
      go_end0
      exact ⟨rfl, HW⟩
open Go.Sort Go.Shelf in
set_option maxHeartbeats 1000000 in
set_option maxRecDepth 100000 in
theorem sortS_c (I : InsOK) (cb : Array Value) (blk off cap : Nat) (d : Array PlR) (w : World) (hl : CmpLays Tryz.prog 82 cb plC 2 cmpP blk off d.size w) (hH : HoldsK plC 2 w blk off d) (hb : blk < w.heap.size) (hn : d.size < 20) :
    Calls Tryz.prog 49 #[.slice (some ⟨blk, off, none⟩) d.size cap, .func (.func 82) #[] cb] w fun e w' =>
      e = .returned (.tuple #[]) ∧ ∃ n os, w' = sortWorldK plC 2 w blk off n (Sort.insertionSort (ltOf cmpP) d 0 d.size) os := by
  have HI := Lib.hid (stable_c I cb blk off cap d w hl hH hb hn)
  clear hl hH hb I hn
  generalize d.size = n at *
  go_enter Tryz.func49, Tryz.ntmps49
  go_wp2_with (refine HI.out.mono ?_; rintro e w4 ⟨rfl, HW⟩)
  go_end0
  exact ⟨rfl, HW⟩
theorem by_c (f : Fn) (w : World) : Calls Tryz.prog 50 #[.func f #[] #[]] w fun e w' => e = .returned (.func (.func 82) #[] #[.pointer (some ⟨w.heap.size, 0, none⟩)]) ∧ w' = w.alloc (.cells #[.func f #[] #[]] 93) := by
  go_enter Tryz.func50, Tryz.ntmps50
  go_wp2_with fail
  go_ret
  exact ⟨rfl, rfl⟩
end Go.Proofs.YtnbboheaheicnabGreatDoor
