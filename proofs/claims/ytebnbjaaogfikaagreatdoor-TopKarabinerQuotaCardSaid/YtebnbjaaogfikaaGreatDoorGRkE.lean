/- Rounds: the program's CheckRound, whole. -/
import Derived.Test.YtebnbjaaogfikaaGreatDoorGRkB
import Derived.Shelf.SlSortCmp.InsertionK
import Derived.Sort.OwnSortedInts
import Derived.Shelf.SlSortCmp.Kit1
namespace Go.Proofs.YtebnbjaaogfikaaGreatDoor
open Go.RowKit Go.Lib
set_option linter.unusedSimpArgs false
set_option linter.unusedVariables false
set_option maxHeartbeats 1000000 in
set_option maxRecDepth 100000 in
theorem findRow_pos (xs : List RowR) (fz : Int) (n b off cap L F : Nat) (w : World) (hn : xs.length = n) (h1 : n ≤ 1000) (hcap : n ≤ cap) (hmx : cap ≤ maxLen) (hS : StatesIn w)
    (hc : ∀ i x, xs[i]? = some x → RowAt w b (off + i * 3) x) (hL : w.cell? ⟨L, 0, none⟩ = some (.slice (some ⟨b, off, none⟩) n cap)) (hF : w.cell? ⟨F, 0, none⟩ = some (.int .i64 fz)) (hf : fz < n) :
    Calls Tryz.prog 72 #[.slice (some ⟨b, off, none⟩) n cap, .func (.func 39) #[] #[.pointer (some ⟨L, 0, none⟩), .pointer (some ⟨F, 0, none⟩)]] w fun e w' => (∃ i : Int, e = .returned (.tuple #[.int .i64 i, .int .i64 (rowFrom xs fz n 0)])) ∧ Gr w w' := by
  have HC := Lib.hid hc
  have HN := Lib.hid hn
  have HO := Lib.hid (fun (i : Nat) (x : RowR) (W : World) (hi : i < n) (hx : xs[i]? = some x) (hg : Gr w W) => one_row xs fz i n b off cap L F x W hn hi h1 hcap hmx (hS.gr hg) ((hc i x hx).gr hg).val (hc i x hx).len (fun i x hx => (hc i x hx).gr hg) (hg.cell hL) (hg.cell hF) hf)
  clear hc hL hn hF hS hf
  go_enter Tryz.func72, Tryz.ntmps72
  go_wp2_with fail
  go_loopg [11] n (fun gk s11 wr => ∃ i : Nat, s11 = .int .i64 i ∧ gk + i = n ∧ Gr w wr ∧ Hid (rowFrom xs fz (n - i) i = rowFrom xs fz n 0))
  case atStart => exact ⟨0, rfl, by omega, Gr.refl _, rfl⟩
  case round =>
    obtain ⟨i, rfl, hi, hg, HF⟩ := hrel
    by_cases hlt : i < n
    · obtain ⟨x, hx⟩ : ∃ x, xs[i]? = some x := ⟨xs[i]'(by have := HN.out; omega), List.getElem?_eq_getElem _⟩
      obtain ⟨c0, c1, c2, hv, _⟩ := (HC.out i x hx).gr hg
      obtain ⟨⟨p', cap', hu, _⟩⟩ := hv
      have hf := rowFrom_step (fz := fz) hlt hx
      have hi2 : (i : Int) < n := by omega
      have hT := fun W hg2 => HO.out i x W hlt hx hg2
      rw [hu] at c2 hT
      unfold resV at hT
      generalize x.xs.length = xn at *
      clear hx hu
      obtain ⟨W, hW, g, a0, a1, a2⟩ := box3 wr (.string x.nm) (.string x.st) (.slice p' xn cap') 34
      have gW := hg.trans g
      have HW := Lib.hid hW
      by_cases h0 : rowE xs fz i x = 0
      · rw [h0] at hT hf
        rw [if_pos rfl] at hf
        have HT := Lib.hid hT
        have HF2 := Lib.hid hf
        clear hT hf h0 hW
        go_wp2_with fail
        rw [HW.out]
        refine (HT.out _ gW).mono ?_
        rintro e w4 ⟨rfl, hg2⟩
        go_wp2_with fail
        go_roundg (gk - 1)
        case measure => omega
        case rel => exact ⟨i + 1, by go_num, by omega, gW.trans hg2, by unfold Hid; rw [← HF2.out, HF.out]⟩
      · rw [if_neg h0] at hf
        generalize rowE xs fz i x = z at *
        have q1 : (z == 0) = false := by simpa using h0
        have q2 : (z != 0) = true := by simpa [bne] using q1
        have HT := Lib.hid hT
        have HF2 := Lib.hid hf
        clear hT hf hW
        go_wp2_with fail
        rw [HW.out]
        refine (HT.out _ gW).mono ?_
        rintro e w4 ⟨rfl, hg2⟩
        go_wp2_with fail
        exact bodyPost_ret (v := .tuple #[.int .i64 i, .int .i64 z]) (by simp [results, Tryz.results72, go_sem]) rfl ⟨⟨i, by rw [← HF.out, HF2.out]⟩, gW.trans hg2⟩
    · have hin : i = n := by omega
      have HE2 : Hid (rowFrom xs fz (n - i) i = 0) := by unfold Hid; rw [hin, Nat.sub_self]; rfl
      have hi2 : (n : Int) ≤ i := by omega
      clear hin
      go_wp2_with fail
      exact bodyPost_ret (v := .tuple #[.int .i64 0, .int .i64 0]) (by simp [results, Tryz.results72, go_sem]) rfl ⟨⟨0, by rw [← HF.out, HE2.out]⟩, hg⟩
theorem eachRow_pos (xs : List RowR) (fz : Int) (n b off cap L F : Nat) (w : World) (hn : xs.length = n) (h1 : n ≤ 1000) (hcap : n ≤ cap) (hmx : cap ≤ maxLen) (hS : StatesIn w)
    (hc : ∀ i x, xs[i]? = some x → RowAt w b (off + i * 3) x) (hL : w.cell? ⟨L, 0, none⟩ = some (.slice (some ⟨b, off, none⟩) n cap)) (hF : w.cell? ⟨F, 0, none⟩ = some (.int .i64 fz)) (hf : fz < n) :
    Calls Tryz.prog 38 #[.slice (some ⟨b, off, none⟩) n cap, .func (.func 39) #[] #[.pointer (some ⟨L, 0, none⟩), .pointer (some ⟨F, 0, none⟩)]] w fun e w' => e = .returned (.int .i64 (rowFrom xs fz n 0)) ∧ Gr w w' := by
  have HF := Lib.hid (findRow_pos xs fz n b off cap L F w hn h1 hcap hmx hS hc hL hF hf)
  generalize rowFrom xs fz n 0 = z at *
  clear hc hL hn hF hS
  go_enter Tryz.func38, Tryz.ntmps38
  go_wp2_with fail
  refine HF.out.mono ?_
  rintro e w4 ⟨⟨i, rfl⟩, hg⟩
  go_wp2_with fail
  go_ret
  exact ⟨rfl, hg⟩
/-- the place of the first row with values -/
def firstV (xs : List RowR) : Int := firstP hasV xs xs.length 0
theorem firstP_lt (Q : RowR → Bool) (xs : List RowR) : ∀ (k i : Nat), firstP Q xs k i < (i + k : Nat) ∨ firstP Q xs k i = -1
  | 0, i => .inr rfl
  | k + 1, i => by
    simp only [firstP]
    split
    · split
      · exact .inl (by omega)
      · rcases firstP_lt Q xs k (i + 1) with h | h
        · exact .inl (by omega)
        · exact .inr h
    · exact .inr rfl
/-- the slice v reads as the results xs -/
structure RowsV (w : World) (v : Value) (xs : List RowR) : Prop where
  mk' ::
  out : ∃ p cap, v = .slice p xs.length cap ∧ (xs.length ≤ cap ∧ cap ≤ maxLen) ∧ (0 < xs.length → ∃ b off, p = some ⟨b, off, none⟩ ∧ ∀ i x, xs[i]? = some x → RowAt w b (off + i * 3) x)
theorem RowsV.gr {w w' : World} {v : Value} {xs : List RowR} (h : RowsV w v xs) (k : Gr w w') : RowsV w' v xs := by
  obtain ⟨⟨p, cap, rfl, hcap, hh⟩⟩ := h
  refine ⟨p, cap, rfl, hcap, fun h0 => ?_⟩
  obtain ⟨b, off, h1, h2⟩ := hh h0
  exact ⟨b, off, h1, fun i x hx => (h2 i x hx).gr k⟩
set_option maxHeartbeats 1000000 in
set_option maxRecDepth 100000 in
theorem checkRound_pos (xs : List RowR) (n b off cap : Nat) (w : World) (hn : xs.length = n) (h1 : n ≤ 160) (hcap : n ≤ cap) (hmx : cap ≤ maxLen) (hS : StatesIn w)
    (hc : ∀ i x, xs[i]? = some x → RowAt w b (off + i * 3) x) :
    Calls Tryz.prog 18 #[.slice (some ⟨b, off, none⟩) n cap] w fun e w' => e = .returned (.int .i64 (rowFrom xs (firstV xs) n 0)) ∧ Gr w w' := by
  have HI := Lib.hid (fun (W : World) (g : Gr w W) => indexV_pos xs n b off cap W (by omega) (by omega) (fun i x hx => (hc i x hx).gr g))
  have hfz : firstV xs = firstP hasV xs n 0 := by unfold firstV; rw [hn]
  have hfl : firstV xs < n := by
    rw [hfz]
    rcases firstP_lt hasV xs n 0 with h | h
    · simpa using h
    · rw [h]; omega
  rw [← hfz] at HI
  generalize firstV xs = fz at *
  have HE := Lib.hid (fun (L F : Nat) (W : World) (g : Gr w W) hL hF => eachRow_pos xs fz n b off cap L F W hn (by omega) hcap hmx (hS.gr g) (fun i x hx => (hc i x hx).gr g) hL hF hfl)
  generalize rowFrom xs fz n 0 = z at *
  have hz2 : decide ((160 : Int) < n) = false := decide_eq_false (by omega)
  obtain ⟨W, hW, g, a0⟩ := box1 w (.slice (some ⟨b, off, none⟩) n cap) 22
  have HW := Lib.hid hW
  clear hW hc hn hfz hS
  go_enter Tryz.func18, Tryz.ntmps18
  go_wp2_with fail
  rw [HW.out]
  generalize w.heap.size = B at *
  clear HW
  refine (HI.out _ g).mono ?_
  rintro e W1 ⟨rfl, hg⟩
  replace a0 := hg.cell a0
  replace g := g.trans hg
  clear hg HI
  obtain ⟨W2, hW2, g2, f0⟩ := box1 W1 (.int .i64 fz) 3
  have HW2 := Lib.hid hW2
  have la := g2.cell a0
  have lb := la
  rw [← hW2] at lb
  clear hW2
  go_wp2_with fail
  rw [HW2.out]
  generalize W1.heap.size = F at *
  clear HW2 lb
  refine (HE.out B F _ (g.trans g2) la f0).mono ?_
  rintro e W3 ⟨rfl, hg⟩
  go_wp2_with fail
  go_ret
  exact ⟨rfl, (g.trans g2).trans hg⟩
end Go.Proofs.YtebnbjaaogfikaaGreatDoor
namespace Go.Proofs.YtebnbjaaogfikaaGreatDoor
open Go.RowKit Go.Lib
set_option linter.unusedSimpArgs false
set_option linter.unusedVariables false
theorem cmpZ_cases' (a b : Int) : (a < b ∧ cmpZ a b = -1) ∨ (a = b ∧ cmpZ a b = 0) ∨ (b < a ∧ cmpZ a b = 1) := by
  unfold cmpZ
  by_cases h1 : a < b
  · exact .inl ⟨h1, by rw [decide_eq_true h1]; rfl⟩
  · by_cases h2 : b < a
    · exact .inr (.inr ⟨h2, by rw [decide_eq_false h1, decide_eq_true h2]; rfl⟩)
    · exact .inr (.inl ⟨by omega, by rw [decide_eq_false h1, decide_eq_false h2]; rfl⟩)
structure PlR where
  nm : ByteArray
  rk : Int
def plC (x : PlR) : List Value := [.string x.nm, .int .i64 x.rk]
theorem box22d (w : World) (a0 a1 b0 b1 : Value) (T : Nat) : ∃ W, (w.alloc (.cells #[a0, a1] T)).alloc (.cells #[b0, b1] T) = W ∧ Gd w W ∧
    (W.cell? ⟨w.heap.size, 0, none⟩ = some a0 ∧ W.cell? ⟨w.heap.size, 1, none⟩ = some a1) ∧ (W.cell? ⟨w.heap.size + 1, 0, none⟩ = some b0 ∧ W.cell? ⟨w.heap.size + 1, 1, none⟩ = some b1) := by
  obtain ⟨W1, h1, g1, p0, p1⟩ := box2d w a0 a1 T
  obtain ⟨W2, h2, g2, q0, q1⟩ := box2d W1 b0 b1 T
  have hs : W1.heap.size = w.heap.size + 1 := by rw [← h1, World.size_alloc]
  rw [hs] at q0 q1
  exact ⟨W2, by rw [h1, h2], g1.trans g2, ⟨g2.cell p0, g2.cell p1⟩, q0, q1⟩
theorem plRank_c (x : PlR) (w : World) : Calls Tryz.prog 53 #[.agg #[.string x.nm, .int .i64 x.rk]] w fun e w' => e = .returned (.int .i64 x.rk) ∧ Gd w w' := by
  go_enter Tryz.func53, Tryz.ntmps53
  go_wp2_with fail
  go_ret
  exact ⟨rfl, (Gd.refl w).alloc _⟩
set_option maxHeartbeats 1000000 in
set_option maxRecDepth 100000 in
theorem plCmp_c (x y : PlR) (F : Nat) (w : World) (hF : w.cell? ⟨F, 0, none⟩ = some (.func (.func 53) #[] #[])) :
    Calls Tryz.prog 80 #[.agg #[.string x.nm, .int .i64 x.rk], .agg #[.string y.nm, .int .i64 y.rk], .pointer (some ⟨F, 0, none⟩)] w fun e w' => e = .returned (.int .i64 (cmpZ x.rk y.rk)) ∧ Gd w w' := by
  have H1 := Lib.hid (fun W => plRank_c x W)
  have H2 := Lib.hid (fun W => plRank_c y W)
  have HC := Lib.hid (fun W => cmpInt_c x.rk y.rk W)
  obtain ⟨W, hW, g, ⟨a0, a1⟩, b0, b1⟩ := box22d w (.string x.nm) (.int .i64 x.rk) (.string y.nm) (.int .i64 y.rk) 64
  have f0 := g.cell hF
  have HW := Lib.hid hW
  generalize cmpZ x.rk y.rk = z at *
  clear hW hF
  go_enter Tryz.func80, Tryz.ntmps80
  go_wp2_with fail
  rw [HW.out]
  generalize w.heap.size = B at *
  clear HW
  have gd := (Gd.refl W).drew
  replace a0 := gd.cell a0
  replace a1 := gd.cell a1
  replace b0 := gd.cell b0
  replace b1 := gd.cell b1
  replace f0 := gd.cell f0
  replace g := g.trans gd
  clear gd
  refine wp_region_held_drew (S := (fun w' => (w'.cell? ⟨B, 0, none⟩ = some (.string x.nm) ∧ w'.cell? ⟨B, 1, none⟩ = some (.int .i64 x.rk)) ∧ (w'.cell? ⟨B + 1, 0, none⟩ = some (.string y.nm) ∧ w'.cell? ⟨B + 1, 1, none⟩ = some (.int .i64 y.rk)) ∧ w'.cell? ⟨F, 0, none⟩ = some (.func (.func 53) #[] #[]))) (by kernel_rfl) ⟨⟨a0, a1⟩, ⟨b0, b1⟩, f0⟩ (fun hHeld => ?_)
  generalize W.drew = V at *
  refine wpAnyH_take (i := 0) (v := (.func (.func 53) #[] #[])) (op_at rfl) (by kernel_rfl) (by kernel_rfl) (by kernel_rfl) (fun _ _ _ h => h) (Or.inl ⟨rfl, fun w hSw => ?_⟩) (by assumption) ?_
  · (try dsimp only at hSw); go_simp; try with_reducible rfl
  (try simp only [Act.put, List.setIfInBounds_toArray, List.set_cons_zero, List.set_cons_succ])
  refine wpAnyH_take (i := 1) (v := (.agg #[.string x.nm, .int .i64 x.rk])) (op_at rfl) (by kernel_rfl) (by kernel_rfl) (by kernel_rfl) (fun _ _ _ h => h) (Or.inl ⟨rfl, fun w hSw => ?_⟩) (by assumption) ?_
  · (try dsimp only at hSw); go_simp; try with_reducible rfl
  (try simp only [Act.put, List.setIfInBounds_toArray, List.set_cons_zero, List.set_cons_succ])
  refine wpAnyH_take (i := 3) (v := (.func (.func 53) #[] #[])) (op_at rfl) (by kernel_rfl) (by kernel_rfl) (by kernel_rfl) (fun _ _ _ h => h) (Or.inl ⟨rfl, fun w hSw => ?_⟩) (by assumption) ?_
  · (try dsimp only at hSw); go_simp; try with_reducible rfl
  (try simp only [Act.put, List.setIfInBounds_toArray, List.set_cons_zero, List.set_cons_succ])
  refine wpAnyH_take (i := 4) (v := (.agg #[.string y.nm, .int .i64 y.rk])) (op_at rfl) (by kernel_rfl) (by kernel_rfl) (by kernel_rfl) (fun _ _ _ h => h) (Or.inl ⟨rfl, fun w hSw => ?_⟩) (by assumption) ?_
  · (try dsimp only at hSw); go_simp; try with_reducible rfl
  (try simp only [Act.put, List.setIfInBounds_toArray, List.set_cons_zero, List.set_cons_succ])
  refine wpAnyH_ready (rs := [2]) (by kernel_rfl) (by simp) (AllReadyH.cons (op_at rfl) (fun K hK => ?_) AllReadyH.nil)
  go_simp
  (refine (H1.out _).mono ?_; rintro e W1 ⟨rfl, hg⟩; replace a0 := hg.cell a0; replace a1 := hg.cell a1; replace b0 := hg.cell b0; replace b1 := hg.cell b1; replace f0 := hg.cell f0; replace g := g.trans hg; clear hg)
  go_wp2_with fail
  refine hK.out _ _ ⟨⟨a0, a1⟩, ⟨b0, b1⟩, f0⟩ (fun hHeld => ?_)
  clear hK K
  (try simp only [Act.put, List.setIfInBounds_toArray, List.set_cons_zero, List.set_cons_succ])
  refine wpAnyH_ready (rs := [5]) (by kernel_rfl) (by simp) (AllReadyH.cons (op_at rfl) (fun K hK => ?_) AllReadyH.nil)
  go_simp
  (refine (H2.out _).mono ?_; rintro e W2 ⟨rfl, hg⟩; replace a0 := hg.cell a0; replace a1 := hg.cell a1; replace b0 := hg.cell b0; replace b1 := hg.cell b1; replace f0 := hg.cell f0; replace g := g.trans hg; clear hg)
  go_wp2_with fail
  refine hK.out _ _ ⟨⟨a0, a1⟩, ⟨b0, b1⟩, f0⟩ (fun hHeld => ?_)
  clear hK K
  (try simp only [Act.put, List.setIfInBounds_toArray, List.set_cons_zero, List.set_cons_succ])
  refine wpAnyH_ready (rs := [6]) (by kernel_rfl) (by simp) (AllReadyH.cons (op_at rfl) (fun K hK => ?_) AllReadyH.nil)
  go_simp
  (refine (HC.out _).mono ?_; rintro e w' ⟨rfl, rfl⟩)
  go_wp2_with fail
  refine hK.out _ _ ⟨⟨a0, a1⟩, ⟨b0, b1⟩, f0⟩ (fun hHeld => ?_)
  clear hK K
  (try simp only [Act.put, List.setIfInBounds_toArray, List.set_cons_zero, List.set_cons_succ])
  refine wpAnyH_take (i := 7) (v := (.int .i64 z)) (op_at rfl) (by kernel_rfl) (by kernel_rfl) (by kernel_rfl) (fun _ _ _ h => h) (Or.inl ⟨rfl, fun w hSw => ?_⟩) (by assumption) ?_
  · (try dsimp only at hSw); go_simp; try with_reducible rfl
  (try simp only [Act.put, List.setIfInBounds_toArray, List.set_cons_zero, List.set_cons_succ])
  refine wpAnyH_done (by kernel_rfl) ?_ _
  go_wp2_with fail
  go_ret
  exact ⟨rfl, g⟩
end Go.Proofs.YtebnbjaaogfikaaGreatDoor
namespace Go.Proofs.YtebnbjaaogfikaaGreatDoor
open Go.RowKit Go.Lib
set_option linter.unusedSimpArgs false
set_option linter.unusedVariables false
instance : Inhabited PlR := ⟨⟨⟨#[]⟩, 0⟩⟩
def cmpP (x y : PlR) : Int := cmpZ x.rk y.rk
theorem lt_pl (x y : PlR) : ltOf cmpP x y = decide (x.rk < y.rk) := by
  unfold ltOf
  apply decide_eq_decide.2
  show cmpZ x.rk y.rk < 0 ↔ x.rk < y.rk
  rcases cmpZ_cases' x.rk y.rk with ⟨a, e⟩ | ⟨a, e⟩ | ⟨a, e⟩ <;> rw [e] <;> constructor <;> omega
theorem swo_pl : Go.Sort.SWO (ltOf cmpP) where
  irrefl x := by rw [lt_pl]; simp
  trans x y z h1 h2 := by rw [lt_pl, decide_eq_true_eq] at *; omega
  ntrans x y z h1 h2 := by rw [lt_pl, decide_eq_false_iff_not] at *; omega
open Go.Sort Go.Shelf in
/-- what the library's insertion sort does -/
structure InsOK : Prop where
  some : ∀ (cb : Array Value) (blk off cap a b : Nat) (d : Array PlR) (w : World), CmpLays Tryz.prog 80 cb plC 2 cmpP blk off d.size w → HoldsK plC 2 w blk off d → blk < w.heap.size → a ≤ b → b ≤ d.size → d.size < 4611686018427387904 →
    Calls Tryz.prog 107 #[.slice (some ⟨blk, off, none⟩) d.size cap, .int .i64 a, .int .i64 b, .func (.func 80) #[] cb] w fun e w' =>
      e = .returned (.tuple #[]) ∧ ∃ n os, w' = sortWorldK plC 2 w blk off n (Sort.insertionSort (ltOf cmpP) d a b) os
open Go.Sort Go.Shelf in
theorem grownBy_sortedK {α : Type} [Inhabited α] (enc : α → List Value) (k : Nat) {w : World} {g n : Nat} {os : Array Obj} (d : Array α) : w.grownBy (sortWorldK enc k w g 0 n d os) (some g) := by
  unfold sortWorldK
  refine ⟨rfl, rfl, rfl, by simp [putRowK], fun j hj hne => ?_⟩
  rw [heap_grow_old _ _ (by simpa [putRowK] using hj)]
  have : g ≠ j := fun e => hne (by rw [e])
  simp [putRowK, putRow, mapBlock, Sort.ahead, Array.getElem?_modify, this]
open Go.Sort Go.Shelf in
theorem heap_sortedK {α : Type} [Inhabited α] (enc : α → List Value) (k : Nat) {w : World} {g n : Nat} {os : Array Obj} {cur : Array Value} {e : TypeId} {fr : Nat × Nat} (d : Array α) (hb : w.heap[g]? = some (.cells cur e fr)) :
    (sortWorldK enc k w g 0 n d os).heap[g]? = some (.cells (putCells id 0 (flatK enc k d) cur) e fr) := by
  have hlt := (Array.getElem?_eq_some_iff.1 hb).1
  unfold sortWorldK
  rw [heap_grow_old _ _ (by simpa [putRowK] using hlt)]
  simp [putRowK, putRow, mapBlock, Sort.ahead, Array.getElem?_modify, hb, onCells]
/-- the cells of places -/
def plCs (ps : List PlR) : List Value := ps.flatMap plC
theorem plCs_at {ps : List PlR} {i : Nat} {x : PlR} (h : ps[i]? = some x) (j : Nat) (hj : j < 2) : (plCs ps)[i * 2 + j]? = (plC x)[j]? := by
  induction ps generalizing i with
  | nil => simp at h
  | cons y ys ih =>
    have e : plCs (y :: ys) = plC y ++ plCs ys := rfl
    rw [e]
    cases i with
    | zero =>
      simp only [List.getElem?_cons_zero, Option.some.injEq] at h
      subst h
      rw [show 0 * 2 + j = j by omega, List.getElem?_append_left (by simp [plC]; omega)]
    | succ i =>
      rw [List.getElem?_append_right (by simp [plC]; omega)]
      have := ih (i := i) (by simpa using h)
      rw [← this]
      congr 1
      simp [plC]; omega
theorem plCs_len (ps : List PlR) : (plCs ps).length = ps.length * 2 := by
  induction ps with
  | nil => rfl
  | cons x xs ih => simp only [plCs, List.flatMap_cons, List.length_append, List.length_cons] at *; rw [ih]; simp [plC]; omega
open Go.Sort Go.Shelf in
theorem flat_pl (d : Array PlR) (t : Nat) (ht : t < d.size * 2) : (flatK plC 2 d)[t]! = ((plCs d.toList)[t]?).getD default := by
  rw [get_flatK plC 2 d t ht]
  have hq : t / 2 < d.size := by omega
  have h := plCs_at (ps := d.toList) (i := t / 2) (x := d[t / 2]!) (by rw [Array.getElem?_toList, getElem!_pos d _ hq]; exact Array.getElem?_eq_getElem hq) (t % 2) (by omega)
  rw [show t / 2 * 2 + t % 2 = t by omega] at h
  rw [h]
  have hm : t % 2 < 2 := by omega
  rcases Nat.mod_two_eq_zero_or_one t with e | e <;> rw [e] <;> rfl
end Go.Proofs.YtebnbjaaogfikaaGreatDoor
namespace Go.Proofs.YtebnbjaaogfikaaGreatDoor
open Go.RowKit Go.Lib
set_option linter.unusedSimpArgs false
set_option linter.unusedVariables false
open Go.Sort Go.Shelf in
set_option maxHeartbeats 1000000 in
set_option maxRecDepth 100000 in
theorem stable_c (I : InsOK) (cb : Array Value) (blk off cap : Nat) (d : Array PlR) (w : World) (hl : CmpLays Tryz.prog 80 cb plC 2 cmpP blk off d.size w) (hH : HoldsK plC 2 w blk off d) (hb : blk < w.heap.size) (hn : d.size < 20) :
    Calls Tryz.prog 79 #[.slice (some ⟨blk, off, none⟩) d.size cap, .int .i64 d.size, .func (.func 80) #[] cb] w fun e w' =>
      e = .returned (.tuple #[]) ∧ ∃ n os, w' = sortWorldK plC 2 w blk off n (Sort.insertionSort (ltOf cmpP) d 0 d.size) os := by
  have HI := Lib.hid (I.some cb blk off cap 0 d.size d w hl hH hb (by omega) (by omega) (by omega))
  have HN := Lib.hid hn
  clear hl hH hb I
  generalize hnn : d.size = n at *
  have h1 : ¬ ((20 : Int) ≤ (n : Int)) := by omega
  have h2 : ¬ ((20 : Int) < (n : Int)) := by omega
  have h1' : (decide ((20 : Int) ≤ (n : Int))) = false := decide_eq_false h1
  have h2' : (decide ((20 : Int) < (n : Int))) = false := decide_eq_false h2
  clear hnn
  go_enter Tryz.func79, Tryz.ntmps79
  go_wp2_with fail
  go_loopg [7, 8] 0 (fun gk s7 s8 wr => gk = 0 ∧ s7 = .int .i64 0 ∧ s8 = .int .i64 20 ∧ wr = w)
  case atStart => exact ⟨rfl, rfl, rfl, rfl⟩
  case round =>
    obtain ⟨rfl, rfl, rfl, rfl⟩ := hrel
    rw [Int.natCast_zero] at HI
    go_wp2_with (refine HI.out.mono ?_; rintro e w4 ⟨rfl, HW⟩)
    go_loopg [6, 7, 8, 9] 0 (fun gk s6 s7 s8 s9 wr => gk = 0 ∧ s6 = .int .i64 20 ∧ s7 = .int .i64 0 ∧ wr = w4)
    case atStart => exact ⟨rfl, rfl, rfl, rfl⟩
    case round =>
      obtain ⟨rfl, rfl, rfl, rfl⟩ := hrel
      go_wp2_with fail
      go_end0
      exact ⟨rfl, HW⟩
open Go.Sort Go.Shelf in
set_option maxHeartbeats 1000000 in
set_option maxRecDepth 100000 in
theorem sortS_c (I : InsOK) (cb : Array Value) (blk off cap : Nat) (d : Array PlR) (w : World) (hl : CmpLays Tryz.prog 80 cb plC 2 cmpP blk off d.size w) (hH : HoldsK plC 2 w blk off d) (hb : blk < w.heap.size) (hn : d.size < 20) :
    Calls Tryz.prog 51 #[.slice (some ⟨blk, off, none⟩) d.size cap, .func (.func 80) #[] cb] w fun e w' =>
      e = .returned (.tuple #[]) ∧ ∃ n os, w' = sortWorldK plC 2 w blk off n (Sort.insertionSort (ltOf cmpP) d 0 d.size) os := by
  have HI := Lib.hid (stable_c I cb blk off cap d w hl hH hb hn)
  clear hl hH hb I hn
  generalize d.size = n at *
  go_enter Tryz.func51, Tryz.ntmps51
  go_wp2_with (refine HI.out.mono ?_; rintro e w4 ⟨rfl, HW⟩)
  go_end0
  exact ⟨rfl, HW⟩
theorem by_c (f : Fn) (w : World) : Calls Tryz.prog 52 #[.func f #[] #[]] w fun e w' => e = .returned (.func (.func 80) #[] #[.pointer (some ⟨w.heap.size, 0, none⟩)]) ∧ w' = w.alloc (.cells #[.func f #[] #[]] 97) := by
  go_enter Tryz.func52, Tryz.ntmps52
  go_wp2_with fail
  go_ret
  exact ⟨rfl, rfl⟩
end Go.Proofs.YtebnbjaaogfikaaGreatDoor
namespace Go.Proofs.YtebnbjaaogfikaaGreatDoor
open Go.RowKit Go.Lib
set_option linter.unusedSimpArgs false
set_option linter.unusedVariables false
theorem cmpZ_cases (a b : Int) : (a < b ∧ cmpZ a b = -1) ∨ (a = b ∧ cmpZ a b = 0) ∨ (b < a ∧ cmpZ a b = 1) := by
  unfold cmpZ
  by_cases h1 : a < b
  · exact .inl ⟨h1, by rw [decide_eq_true h1]; rfl⟩
  · by_cases h2 : b < a
    · exact .inr (.inr ⟨h2, by rw [decide_eq_false h1, decide_eq_true h2]; rfl⟩)
    · exact .inr (.inl ⟨by omega, by rw [decide_eq_false h1, decide_eq_false h2]; rfl⟩)
theorem cmpZ_flip (a b : Int) : cmpZ b a = - cmpZ a b := by
  rcases cmpZ_cases a b with ⟨h, e⟩ | ⟨h, e⟩ | ⟨h, e⟩ <;> rcases cmpZ_cases b a with ⟨h', e'⟩ | ⟨h', e'⟩ | ⟨h', e'⟩ <;> omega
theorem cmpL_flip : ∀ xs ys : List Int, cmpL ys xs = - cmpL xs ys
  | [], [] => rfl
  | [], _ :: _ => rfl
  | _ :: _, [] => rfl
  | x :: xs, y :: ys => by
    have h := cmpZ_flip x y
    have ih := cmpL_flip xs ys
    show (if cmpZ y x = 0 then cmpL ys xs else cmpZ y x) = - (if cmpZ x y = 0 then cmpL xs ys else cmpZ x y)
    by_cases h0 : cmpZ x y = 0
    · rw [if_pos h0, if_pos (by omega), ih]
    · rw [if_neg h0, if_neg (by omega), h]
theorem cmpL_trans : ∀ xs ys zs : List Int, cmpL xs ys ≤ 0 → cmpL ys zs ≤ 0 → cmpL xs zs ≤ 0
  | [], [], [], _, _ => by decide
  | [], [], _ :: _, _, _ => by show (-1 : Int) ≤ 0; decide
  | [], _ :: _, [], _, _ => by show (0 : Int) ≤ 0; decide
  | [], _ :: _, _ :: _, _, _ => by show (-1 : Int) ≤ 0; decide
  | _ :: _, [], _, h, _ => absurd (show (1 : Int) ≤ 0 from h) (by decide)
  | _ :: _, _ :: _, [], _, h => absurd (show (1 : Int) ≤ 0 from h) (by decide)
  | x :: xs, y :: ys, z :: zs, h1, h2 => by
    replace h1 : (if cmpZ x y = 0 then cmpL xs ys else cmpZ x y) ≤ 0 := h1
    replace h2 : (if cmpZ y z = 0 then cmpL ys zs else cmpZ y z) ≤ 0 := h2
    show (if cmpZ x z = 0 then cmpL xs zs else cmpZ x z) ≤ 0
    have ih := cmpL_trans xs ys zs
    rcases cmpZ_cases x y with ⟨a, e⟩ | ⟨a, e⟩ | ⟨a, e⟩ <;> rcases cmpZ_cases y z with ⟨b, f⟩ | ⟨b, f⟩ | ⟨b, f⟩ <;> rcases cmpZ_cases x z with ⟨c, k⟩ | ⟨c, k⟩ | ⟨c, k⟩ <;>
      rw [e] at h1 <;> rw [f] at h2 <;> rw [k] <;> simp at h1 h2 ⊢ <;> first | omega | exact ih h1 h2
theorem firstE_pair (a b : Int) : firstE [a, b] = if a = 0 then b else a := by
  unfold firstE firstE firstE
  by_cases h : a = 0
  · rw [if_pos h, if_pos h]
    by_cases h2 : b = 0
    · rw [if_pos h2, h2]
    · rw [if_neg h2]
  · rw [if_neg h, if_neg h]
theorem cmpR_flip (x y : RowR) : cmpR y x = - cmpR x y := by
  have h1 := cmpZ_flip (gradeZ x.st.toList) (gradeZ y.st.toList)
  have h2 := cmpL_flip y.xs x.xs
  unfold cmpR ordZ
  rw [firstE_pair, firstE_pair]
  by_cases h0 : cmpZ (gradeZ x.st.toList) (gradeZ y.st.toList) = 0
  · rw [if_pos h0, if_pos (by omega), h2]
  · rw [if_neg h0, if_neg (by omega), h1]
theorem cmpR_trans (x y z : RowR) (h1 : cmpR x y ≤ 0) (h2 : cmpR y z ≤ 0) : cmpR x z ≤ 0 := by
  unfold cmpR ordZ at *
  rw [firstE_pair] at *
  generalize gradeZ x.st.toList = a at *
  generalize gradeZ y.st.toList = b at *
  generalize gradeZ z.st.toList = c at *
  have f1 := cmpL_flip y.xs x.xs
  have f2 := cmpL_flip z.xs y.xs
  have f3 := cmpL_flip z.xs x.xs
  have ih := cmpL_trans z.xs y.xs x.xs
  rcases cmpZ_cases a b with ⟨p, e⟩ | ⟨p, e⟩ | ⟨p, e⟩ <;> rcases cmpZ_cases b c with ⟨q, f⟩ | ⟨q, f⟩ | ⟨q, f⟩ <;> rcases cmpZ_cases a c with ⟨s, k⟩ | ⟨s, k⟩ | ⟨s, k⟩ <;>
    rw [e] at h1 <;> rw [f] at h2 <;> rw [k] <;> simp at h1 h2 ⊢ <;> first | omega | exact ih h2 h1
end Go.Proofs.YtebnbjaaogfikaaGreatDoor
namespace Go.Proofs.YtebnbjaaogfikaaGreatDoor
open Go.RowKit Go.Lib
set_option linter.unusedSimpArgs false
set_option linter.unusedVariables false
instance : Inhabited RowR := ⟨⟨⟨#[]⟩, ⟨#[]⟩, undef, []⟩⟩
/-- the row at a place -/
def rowOf (xs : List RowR) (a : Nat) : RowR := (xs[a]?).getD default
theorem rowOf_at {xs : List RowR} {a : Nat} {x : RowR} (h : xs[a]? = some x) : rowOf xs a = x := by unfold rowOf; rw [h]; rfl
/-- the rank of a result: one more than there are results ahead -/
def rankR (xs : List RowR) (x : RowR) : Int := 1 + (xs.countP fun y => decide (cmpR y x < 0) : Nat)
theorem rows_range (xs : List RowR) : (List.range xs.length).map (rowOf xs) = xs := by
  apply List.ext_getElem?
  intro i
  rw [List.getElem?_map]
  by_cases h : i < xs.length
  · rw [List.getElem?_range h, Option.map_some, List.getElem?_eq_getElem h, rowOf_at (List.getElem?_eq_getElem h)]
  · rw [List.getElem?_eq_none (by simp; omega), List.getElem?_eq_none (by omega)]
    rfl
/-- places in the order of comparisons -/
structure InOrder (xs : List RowR) (ps : List Nat) : Prop where
  perm : ps.Perm (List.range xs.length)
  sorted : ∀ (i j a b : Nat), i < j → ps[i]? = some a → ps[j]? = some b → cmpR (rowOf xs a) (rowOf xs b) ≤ 0
theorem InOrder.len {xs : List RowR} {ps : List Nat} (h : InOrder xs ps) : ps.length = xs.length := by
  have := h.perm.length_eq
  simpa using this
theorem InOrder.lt {xs : List RowR} {ps : List Nat} (h : InOrder xs ps) {i a : Nat} (hi : ps[i]? = some a) : a < xs.length := by
  have := h.perm.mem_iff.1 (List.mem_of_getElem? hi)
  simpa using this
theorem InOrder.inj {xs : List RowR} {ps : List Nat} (h : InOrder xs ps) {i j a : Nat} (hi : ps[i]? = some a) (hj : ps[j]? = some a) : i = j := by
  have hn : ps.Nodup := h.perm.nodup_iff.2 List.nodup_range
  obtain ⟨h1, e1⟩ := List.getElem?_eq_some_iff.1 hi
  obtain ⟨h2, e2⟩ := List.getElem?_eq_some_iff.1 hj
  have hp := List.pairwise_iff_getElem.1 hn
  rcases Nat.lt_trichotomy i j with h3 | h3 | h3
  · exact absurd (e1.trans e2.symm) (hp i j h1 h2 h3)
  · exact h3
  · exact absurd (e2.trans e1.symm) (hp j i h2 h1 h3)
theorem InOrder.onto {xs : List RowR} {ps : List Nat} (h : InOrder xs ps) {a : Nat} (ha : a < xs.length) : ∃ i : Nat, ps[i]? = some a :=
  List.mem_iff_getElem?.1 (h.perm.mem_iff.2 (by simpa using ha))
theorem cmpR_self (x : RowR) : cmpR x x = 0 := by have := cmpR_flip x x; omega
theorem countP_take {α : Type} (P : α → Bool) : ∀ (l : List α) (p : Nat), p ≤ l.length → (∀ (i : Nat) (x : α), i < p → l[i]? = some x → P x = true) → (∀ (i : Nat) (x : α), p ≤ i → l[i]? = some x → P x = false) → l.countP P = p
  | [], p, h, _, _ => by simp at h; simp [h]
  | x :: l, 0, _, _, h2 => by
    rw [List.countP_cons, h2 0 x (Nat.le_refl _) rfl, countP_take P l 0 (Nat.zero_le _) (fun i _ hi => by omega) (fun i y hi hy => h2 (i + 1) y (by omega) (by simpa using hy))]
    simp
  | x :: l, p + 1, h, h1, h2 => by
    rw [List.countP_cons, h1 0 x (by omega) rfl, countP_take P l p (by simp at h; omega) (fun i y hi hy => h1 (i + 1) y (by omega) (by simpa using hy)) (fun i y hi hy => h2 (i + 1) y (by omega) (by simpa using hy))]
    simp
theorem rank_count {xs : List RowR} {ps : List Nat} (h : InOrder xs ps) (x : RowR) : (xs.countP fun y => decide (cmpR y x < 0)) = ps.countP fun a => decide (cmpR (rowOf xs a) x < 0) := by
  have h1 : (ps.map (rowOf xs)).Perm xs := by
    have := h.perm.map (rowOf xs)
    rwa [rows_range] at this
  rw [← h1.countP_eq, List.countP_map]
  rfl
/-- the first of its kind in the order -/
theorem rank_first {xs : List RowR} {ps : List Nat} (h : InOrder xs ps) {p a : Nat} (hp : ps[p]? = some a) (hf : ∀ (q c : Nat), q + 1 = p → ps[q]? = some c → cmpR (rowOf xs c) (rowOf xs a) < 0) : rankR xs (rowOf xs a) = p + 1 := by
  have hlt := (List.getElem?_eq_some_iff.1 hp).1
  unfold rankR
  rw [rank_count h, countP_take _ ps p (by omega)]
  · omega
  · intro i c hi hc
    refine decide_eq_true ?_
    obtain ⟨q, rfl⟩ : ∃ q, p = q + 1 := ⟨p - 1, by omega⟩
    obtain ⟨d, hd⟩ : ∃ d, ps[q]? = some d := ⟨ps[q]'(by omega), List.getElem?_eq_getElem _⟩
    have h1 := hf q d rfl hd
    by_cases hiq : i = q
    · subst hiq
      rw [hc] at hd
      cases hd
      exact h1
    · have h2 := h.sorted i q c d (by omega) hc hd
      have h3 := cmpR_flip (rowOf xs c) (rowOf xs a)
      have h4 := cmpR_flip (rowOf xs d) (rowOf xs a)
      refine Int.not_le.1 fun h5 => ?_
      have := cmpR_trans (rowOf xs a) (rowOf xs c) (rowOf xs d) (by omega) h2
      omega
  · intro i c hi hc
    refine decide_eq_false ?_
    by_cases hip : i = p
    · subst hip
      rw [hp] at hc
      cases hc
      rw [cmpR_self]
      omega
    · have h2 := h.sorted p i a c (by omega) hp hc
      have h3 := cmpR_flip (rowOf xs a) (rowOf xs c)
      omega
/-- those that are alike have one rank -/
theorem rank_alike {xs : List RowR} {x y : RowR} (h : cmpR x y = 0) : rankR xs x = rankR xs y := by
  unfold rankR
  congr 2
  apply List.countP_congr
  intro z _
  have f1 := cmpR_flip z x
  have f2 := cmpR_flip z y
  have f3 := cmpR_flip x y
  have t1 := cmpR_trans x y z
  have t2 := cmpR_trans y x z
  rw [decide_eq_true_eq, decide_eq_true_eq]
  constructor
  · intro h1
    refine Int.not_le.1 fun h2 => ?_
    have := t1 (by omega) (by omega)
    omega
  · intro h1
    refine Int.not_le.1 fun h2 => ?_
    have := t2 (by omega) (by omega)
    omega
/-- all ranks -/
def ranksL (xs : List RowR) : List Int := xs.map (rankR xs)
end Go.Proofs.YtebnbjaaogfikaaGreatDoor
namespace Go.Proofs.YtebnbjaaogfikaaGreatDoor
open Go.RowKit Go.Lib
set_option linter.unusedSimpArgs false
set_option linter.unusedVariables false
open Go.Sort Go.Shelf in
/-- what the library's sort by a comparison does -/
structure SortFOK : Prop where
  some : ∀ {n : Nat} [Inhabited (Fin n)] (enc : Fin n → Value) (h1 : OneCell enc) (cf : Fin n → Fin n → Int) (hO : SWO (ltOf cf)) (cb : Array Value) (blk off cap : Nat) (d : Array (Fin n)) (w : World),
    CmpLays1 Tryz.prog 46 cb enc cf blk off d.size w → Holds enc w blk off d → blk < w.heap.size → d.size < 4611686018427387904 →
    Calls Tryz.prog 45 #[.slice (some ⟨blk, off, none⟩) d.size cap, .func (.func 46) #[] cb] w fun e w' =>
      e = .returned (.tuple #[]) ∧ ∃ d' n os, PermIn 0 d.size d d' ∧ SortedIn (ltOf cf) 0 d.size d' ∧ w' = sortWorld enc w blk off n d' os
section
open Go.Sort Go.Shelf
theorem heap_sortedF {α : Type} [Inhabited α] (enc : α → Value) {w : World} {g n : Nat} {os : Array Obj} {cur : Array Value} {e : TypeId} {fr : Nat × Nat} (d : Array α) (hb : w.heap[g]? = some (.cells cur e fr)) :
    (sortWorld enc w g 0 n d os).heap[g]? = some (.cells (putCells enc 0 d cur) e fr) := by
  have hlt := (Array.getElem?_eq_some_iff.1 hb).1
  unfold sortWorld
  rw [heap_grow_old _ _ (by simpa using hlt)]
  simp [putRow, mapBlock, Sort.ahead, Array.getElem?_modify, hb, onCells]
theorem grownBy_sortedF {α : Type} [Inhabited α] (enc : α → Value) {w : World} {g n : Nat} {os : Array Obj} (d : Array α) : w.grownBy (sortWorld enc w g 0 n d os) (some g) := by
  unfold sortWorld
  refine ⟨rfl, rfl, rfl, by simp, fun k hk hne => ?_⟩
  rw [heap_grow_old _ _ (by simpa using hk)]
  have : g ≠ k := fun e => hne (by rw [e])
  simp [putRow, mapBlock, Sort.ahead, Array.getElem?_modify, this]
end
/-- the places as values -/
def encF {n : Nat} (i : Fin n) : Value := .int .i64 ((i.val : Nat) : Int)
def natsV (ps : List Nat) : List Value := ps.map fun (p : Nat) => Value.int .i64 (p : Int)
open Go.Sort in
theorem putCells_all {n : Nat} [Inhabited (Fin n)] (d : Array (Fin n)) (cur : Array Value) (h : cur.size = d.size) : putCells encF 0 d cur = (natsV (d.toList.map Fin.val)).toArray := by
  apply Array.ext_getElem?
  intro i
  by_cases hi : i < cur.size
  · have hd : i < d.size := by omega
    simp [putCells, natsV, encF, hi, hd]
  · simp [putCells, natsV, hi, show ¬ i < d.size by omega]
theorem swo_cmp (xs : List RowR) : Go.Sort.SWO (ltOf fun (i j : Fin xs.length) => cmpR (rowOf xs i) (rowOf xs j)) where
  irrefl x := by
    have := cmpR_self (rowOf xs x)
    simp only [ltOf]
    exact decide_eq_false (by omega)
  trans x y z h1 h2 := by
    simp only [ltOf] at *
    rw [decide_eq_true_eq] at *
    have f1 := cmpR_flip (rowOf xs x) (rowOf xs z)
    have f2 := cmpR_flip (rowOf xs y) (rowOf xs z)
    refine Int.not_le.1 fun h => ?_
    have := cmpR_trans (rowOf xs z) (rowOf xs x) (rowOf xs y) (by omega) (by omega)
    omega
  ntrans x y z h1 h2 := by
    simp only [ltOf] at *
    rw [decide_eq_false_iff_not] at *
    have f1 := cmpR_flip (rowOf xs x) (rowOf xs y)
    have f2 := cmpR_flip (rowOf xs y) (rowOf xs z)
    have f3 := cmpR_flip (rowOf xs x) (rowOf xs z)
    have := cmpR_trans (rowOf xs z) (rowOf xs y) (rowOf xs x) (by omega) (by omega)
    omega
open Go.Sort Go.Shelf in
theorem sortRows_c (hS : SortFOK) (xs : List RowR) (n b off cap O F L : Nat) {w0 w : World} (hn : xs.length = n) (h0 : 0 < n) (h1 : n ≤ 160) (hSt : StatesIn w0) (hg : Gr w0 w) (hO : w0.heap.size ≤ O)
    (hc : ∀ i x, xs[i]? = some x → RowAt w0 b (off + i * 3) x) (hF : w0.cell? ⟨F, 0, none⟩ = some (.func (.func 20) #[] #[])) (hL : w0.cell? ⟨L, 0, none⟩ = some (.slice (some ⟨b, off, none⟩) n cap))
    (hcur : w.heap[O]? = some (.cells (natsV (List.range n)).toArray 3 (0, 0))) :
    Calls Tryz.prog 45 #[.slice (some ⟨O, 0, none⟩) n n, .func (.func 46) #[] #[.pointer (some ⟨F, 0, none⟩), .pointer (some ⟨L, 0, none⟩)]] w fun e w' =>
      e = .returned (.tuple #[]) ∧ ∃ ps, InOrder xs ps ∧ w'.heap[O]? = some (.cells (natsV ps).toArray 3 (0, 0)) ∧ Gr w0 w' := by
  subst hn
  haveI : Inhabited (Fin xs.length) := ⟨⟨0, h0⟩⟩
  have hlt := (Array.getElem?_eq_some_iff.1 hcur).1
  obtain ⟨d, hd, hds⟩ : ∃ d : Array (Fin xs.length), d.toList.map Fin.val = List.range xs.length ∧ d.size = xs.length := by
    refine ⟨Array.ofFn id, ?_, by simp⟩
    apply List.ext_getElem?
    intro i
    simp only [List.getElem?_map, Array.getElem?_toList, Array.getElem?_ofFn]
    by_cases h : i < xs.length
    · simp [h]
    · simp [h]
  have hsw : ∀ (m : Nat) (os : Array Obj) (dk : Array (Fin xs.length)), Gr w0 (sortWorld encF w O 0 m dk os) := fun m os dk =>
    Below.grown hg (grownBy_sortedF encF dk) hg.size (fun k hk => by cases hk; exact hO)
  have hH : Holds encF w O 0 d := by
    intro j hj
    refine ⟨?_, by simp [World.frozen?, hcur]⟩
    rw [hds] at hj
    have e1 : (d.toList.map Fin.val)[j]? = some j := by rw [hd]; simp [hj]
    rw [List.getElem?_map, Option.map_eq_some_iff] at e1
    obtain ⟨y, hy, rfl⟩ := e1
    rw [Array.getElem?_toList] at hy
    obtain ⟨hj2, hy⟩ := Array.getElem?_eq_some_iff.1 hy
    simp only [World.cell?, hcur, Nat.zero_add]
    have e2 : d[y.val]! = y := by rw [getElem!_pos d y.val hj2, hy]
    simp [natsV, e2, encF]
  have hcmp : CmpLays1 Tryz.prog 46 #[.pointer (some ⟨F, 0, none⟩), .pointer (some ⟨L, 0, none⟩)] encF (fun (i j : Fin xs.length) => cmpR (rowOf xs i) (rowOf xs j)) O 0 d.size w := by
    intro m os dk _ x y
    have g := hsw m os dk
    have hx : xs[x.val]? = some (rowOf xs x) := by
      have := List.getElem?_eq_getElem x.isLt
      rw [this, rowOf_at this]
    have hy : xs[y.val]? = some (rowOf xs y) := by
      have := List.getElem?_eq_getElem y.isLt
      rw [this, rowOf_at this]
    refine (cmpAt_c xs.length b off cap x.val y.val F L (rowOf xs x) (rowOf xs y) _ x.isLt y.isLt (by omega) (hSt.gr g) ((hc _ _ hx).gr g) ((hc _ _ hy).gr g) (g.cell hF) (g.cell hL)).mono ?_
    rintro e w' ⟨rfl, gd⟩
    exact ⟨rfl, gd.grow⟩
  have hcall := hS.some encF (fun _ => rfl) (fun (i j : Fin xs.length) => cmpR (rowOf xs i) (rowOf xs j)) (swo_cmp xs) #[.pointer (some ⟨F, 0, none⟩), .pointer (some ⟨L, 0, none⟩)] O 0 xs.length d w hcmp hH hlt (by omega)
  rw [hds] at hcall
  refine hcall.mono ?_
  rintro e w' ⟨rfl, d', m, os, hp, hso, rfl⟩
  have hsz : d'.size = xs.length := by rw [hp.1, hds]
  refine ⟨rfl, d'.toList.map Fin.val, ⟨?_, ?_⟩, ?_, hsw m os d'⟩
  · have h3 := hp.2.2
    have ex : ∀ (q : Array (Fin xs.length)) (m : Nat), m = q.size → q.extract 0 m = q := by
      intro q m hm
      subst hm
      simp
    rw [ex d' xs.length hsz.symm, ex d xs.length hds.symm] at h3
    have := h3.map Fin.val
    rwa [hd] at this
  · intro i j a c hij hi hj
    simp only [List.getElem?_map, Option.map_eq_some_iff, Array.getElem?_toList] at hi hj
    obtain ⟨x, hx, rfl⟩ := hi
    obtain ⟨y, hy, rfl⟩ := hj
    obtain ⟨hi2, ex⟩ := Array.getElem?_eq_some_iff.1 hx
    obtain ⟨hj2, ey⟩ := Array.getElem?_eq_some_iff.1 hy
    have := hso i j (Nat.zero_le _) hij (by omega)
    rw [getElem!_pos d' i hi2, getElem!_pos d' j hj2, ex, ey] at this
    simp only [ltOf] at this
    rw [decide_eq_false_iff_not] at this
    have f := cmpR_flip (rowOf xs x) (rowOf xs y)
    omega
  · rw [heap_sortedF encF d' hcur, putCells_all d' _ (by simp [natsV, hsz])]
end Go.Proofs.YtebnbjaaogfikaaGreatDoor
