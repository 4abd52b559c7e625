/- Places: the sorts, the ranks, the places of an empty list. -/
import Derived.Test.YtnbboheaheicnabGreatDoorThDEF
import Derived.Test.YtnbboheaheicnabGreatDoorRkR
import Derived.Test.YtnbboheaheicnabGreatDoorRkFGH
namespace Go.Proofs.YtnbboheaheicnabGreatDoor
open Go.RowKit Go.Lib
set_option linter.unusedSimpArgs false
set_option linter.unusedVariables false
set_option maxHeartbeats 1000000
set_option maxRecDepth 100000
theorem insI_0 (p : Option Addr) (cap : Nat) (f : Value) (w : World) :
    Calls Tryz.prog 104 #[.slice p 0 cap, .int .i64 0, .int .i64 0, f] w fun e w' => e = .returned (.tuple #[]) ∧ w' = w := by
  go_enter Tryz.func104, Tryz.ntmps104
  go_wp2_with fail
  refine wp_loop_rounds 2 ?_
  rw [rounds_succ]
  go_wp2_with fail
  go_end0
  exact ⟨rfl, rfl⟩
theorem insP_0 (p : Option Addr) (cap : Nat) (f : Value) (w : World) :
    Calls Tryz.prog 102 #[.slice p 0 cap, .int .i64 0, .int .i64 0, f] w fun e w' => e = .returned (.tuple #[]) ∧ w' = w := by
  go_enter Tryz.func102, Tryz.ntmps102
  go_wp2_with fail
  refine wp_loop_rounds 2 ?_
  rw [rounds_succ]
  go_wp2_with fail
  go_end0
  exact ⟨rfl, rfl⟩
theorem stable_0 (p : Option Addr) (cap : Nat) (f : Value) (w : World) :
    Calls Tryz.prog 81 #[.slice p 0 cap, .int .i64 0, f] w fun e w' => e = .returned (.tuple #[]) ∧ w' = w := by
  have HI := Lib.hid (insP_0 p cap f)
  go_enter Tryz.func81, Tryz.ntmps81
  go_wp2_with fail
  refine wp_loop_rounds 2 ?_
  rw [rounds_succ]
  go_wp2_with (refine (HI.out _).mono ?_; rintro e w4 ⟨rfl, rfl⟩)
  refine wp_loop_rounds 2 ?_
  rw [rounds_succ]
  go_wp2_with fail
  go_end0
  exact ⟨rfl, rfl⟩
theorem sortS_0 (p : Option Addr) (cap : Nat) (f : Value) (w : World) :
    Calls Tryz.prog 49 #[.slice p 0 cap, f] w fun e w' => e = .returned (.tuple #[]) ∧ w' = w := by
  have HI := Lib.hid (stable_0 p cap f)
  go_enter Tryz.func49, Tryz.ntmps49
  go_wp2_with (refine (HI.out _).mono ?_; rintro e w4 ⟨rfl, rfl⟩)
  go_end0
  exact ⟨rfl, rfl⟩
theorem placed_0 (p q : Option Addr) (cap cap2 : Nat) (w : World) :
    Calls Tryz.prog 25 #[.slice p 0 cap, .slice q 0 cap2] w fun e w' => e = .returned (.slice none 0 0) ∧ Gr w w' := by
  have HB := Lib.hid (fun f W => by_c f W)
  have HI := Lib.hid (fun f W => sortS_0 none 0 f W)
  go_enter Tryz.func25, Tryz.ntmps25
  go_wp2_with fail
  refine wp_loop_rounds 2 ?_
  rw [rounds_succ]
  go_wp2_with (first
    | (refine (HB.out _ _).mono ?_; rintro e w4 ⟨rfl, rfl⟩)
    | (refine (HI.out _ _).mono ?_; rintro e w4 ⟨rfl, rfl⟩))
  go_ret
  exact ⟨rfl, (Gr.refl w).alloc _⟩
theorem climbers_0 (p : Option Addr) (cap : Nat) (w : World) :
    Calls Tryz.prog 26 #[.slice p 0 cap] w fun e w' => e = .returned (.slice none 0 0) ∧ w' = w := by
  go_enter Tryz.func26, Tryz.ntmps26
  go_wp2_with fail
  refine wp_loop_rounds 2 ?_
  rw [rounds_succ]
  go_wp2_with fail
  go_ret
  exact ⟨rfl, rfl⟩
theorem len64_0 (w : World) : Calls Tryz.prog 113 #[.int .u64 0] w fun e w' => e = .returned (.int .i64 0) ∧ w' = w := by
  have h0 : wrap64 (wrap64 (len8 0)) = 0 := by kernel_rfl
  go_enter Tryz.func113, Tryz.ntmps113
  go_wp2_with fail
  go_ret
  refine ⟨?_, rfl⟩
  show Ending.returned (.int .i64 (wrap64 (wrap64 (len8 0)))) = _
  rw [h0]
theorem len_0 (w : World) : Calls Tryz.prog 84 #[.int .u64 0] w fun e w' => e = .returned (.int .i64 0) ∧ w' = w := by
  have H := Lib.hid (fun W => len64_0 W)
  go_enter Tryz.func84, Tryz.ntmps84
  go_wp2_with (refine (H.out _).mono ?_; rintro e w4 ⟨rfl, rfl⟩)
  go_ret
  exact ⟨rfl, rfl⟩
theorem pdq_0 (p : Option Addr) (cap : Nat) (f : Value) (w : World) :
    Calls Tryz.prog 83 #[.slice p 0 cap, .int .i64 0, .int .i64 0, .int .i64 0, f] w fun e w' => e = .returned (.tuple #[]) ∧ w' = w := by
  have H := Lib.hid (fun W => insI_0 p cap f W)
  go_enter Tryz.func83, Tryz.ntmps83
  go_wp2_with fail
  refine wp_loop_rounds 2 ?_
  rw [rounds_succ]
  go_wp2_with (refine (H.out _).mono ?_; rintro e w4 ⟨rfl, rfl⟩)
  exact bodyPost_ret (v := .tuple #[]) (by simp [results, Tryz.results83, go_sem]) rfl ⟨rfl, rfl⟩
theorem sortF_0 (p : Option Addr) (cap : Nat) (f : Value) (w : World) :
    Calls Tryz.prog 52 #[.slice p 0 cap, f] w fun e w' => e = .returned (.tuple #[]) ∧ w' = w := by
  have H := Lib.hid (fun W => pdq_0 p cap f W)
  have H2 := Lib.hid (fun W => len_0 W)
  go_enter Tryz.func52, Tryz.ntmps52
  go_wp2_with (first
    | (refine (H.out _).mono ?_; rintro e w4 ⟨rfl, rfl⟩)
    | (refine (H2.out _).mono ?_; rintro e w4 ⟨rfl, rfl⟩))
  go_end0
  exact ⟨rfl, rfl⟩
theorem make_int0 (w : World) : (Instr.makeSlice 31 (.int .i64 0) (.int .i64 0)).run Tryz.prog w = .ok (.slice (some ⟨w.heap.size, 0, none⟩) 0 0) (w.alloc (.cells #[] 3)) := by
  simpa using make_ints 0 (by omega) w
theorem ranks_0 (p : Option Addr) (cap : Nat) (w : World) :
    Calls Tryz.prog 27 #[.slice p 0 cap, .func (.func 28) #[] #[]] w fun e w' => ∃ q cap2, e = .returned (.slice q 0 cap2) ∧ Gr w w' := by
  have HS := Lib.hid (fun p cap f W => sortF_0 p cap f W)
  have hmk := fun W => make_int0 W
  obtain ⟨W1, hW1, g1, l0⟩ := box1 w (.slice p 0 cap) 22
  obtain ⟨W, hW, g2, f0⟩ := box1 W1 (.func (.func 28) #[] #[]) 65
  have HW1 := Lib.hid hW1
  have HW := Lib.hid hW
  have hs1 : W1.heap.size = w.heap.size + 1 := by rw [← hW1, World.size_alloc]
  rw [hs1] at f0
  have l0' := g2.cell l0
  have g := g1.trans g2
  clear hW1 hW
  go_enter Tryz.func27, Tryz.ntmps27
  go_wp2_with fail
  rw [HW1.out, HW.out]
  refine wp_loop_rounds 2 ?_
  rw [rounds_succ]
  have l1 := ((Gr.refl W).alloc (.cells #[] 3)).cell l0'
  have f1 := ((Gr.refl W).alloc (.cells #[] 3)).cell f0
  have g3 := g.alloc (.cells #[] 3)
  clear l0' f0 l0 g1 g2 HW1 HW g
  generalize W.alloc (.cells #[] 3) = W4 at *
  go_wp2_with (refine (HS.out _ _ _ _).mono ?_; rintro e w4 ⟨rfl, rfl⟩)
  refine wp_loop_rounds 2 ?_
  rw [rounds_succ]
  go_wp2_with fail
  go_ret
  exact ⟨_, _, rfl, g3.alloc _⟩
end Go.Proofs.YtnbboheaheicnabGreatDoor
namespace Go.Proofs.YtnbboheaheicnabGreatDoor
open Go.RowKit Go.Lib
set_option linter.unusedSimpArgs false
set_option linter.unusedVariables false
/-- the results with values -/
def fine (xs : List RowR) : List RowR := xs.filter hasV
theorem fine_take {xs : List RowR} {k : Nat} {x : RowR} (h : xs[k]? = some x) : fine (xs.take (k + 1)) = fine (xs.take k) ++ (if hasV x then [x] else []) := by
  rw [List.take_add_one, h]
  unfold fine
  rw [List.filter_append]
  cases e : hasV x <;> simp [e]
/-- the names of those at a rank of at most m -/
def goOn (m : Int) (ps : List PlR) : List ByteArray := (ps.filter fun p => decide (p.rk ≤ m)).map fun p => p.nm
theorem goOn_take {m : Int} {ps : List PlR} {k : Nat} {x : PlR} (h : ps[k]? = some x) : goOn m (ps.take (k + 1)) = goOn m (ps.take k) ++ (if decide (x.rk ≤ m) then [x.nm] else []) := by
  rw [List.take_add_one, h]
  unfold goOn
  rw [List.filter_append, List.map_append]
  by_cases e : x.rk ≤ m <;> simp [e]
def strsV (ns : List ByteArray) : List Value := ns.map fun s => .string s
/-- the slice v reads as the names ns -/
structure StrsV (w : World) (v : Value) (ns : List ByteArray) : Prop where
  mk' ::
  out : ∃ p cap, v = .slice p ns.length cap ∧ (ns.length ≤ cap ∧ cap ≤ maxLen) ∧ ((ns = [] ∧ p = none ∧ cap = 0) ∨ ∃ b, p = some ⟨b, 0, none⟩ ∧ ∀ i s, ns[i]? = some s → w.cell? ⟨b, i, none⟩ = some (.string s))
theorem StrsV.gr {w w' : World} {v : Value} {ns : List ByteArray} (h : StrsV w v ns) (k : Gr w w') : StrsV w' v ns := by
  obtain ⟨⟨p, cap, rfl, hc, hh⟩⟩ := h
  refine ⟨p, cap, rfl, hc, ?_⟩
  rcases hh with h | ⟨b, h1, h2⟩
  · exact .inl h
  · exact .inr ⟨b, h1, fun i s hs => k.cell (h2 i s hs)⟩
theorem strs_of_owns {w : World} {base : Nat} {v : Value} {ns : List ByteArray} {T : TypeId} {n : Nat} (h : w.ownsRow base T 1 v n (strsV ns)) (hn : ns.length = n) : StrsV w v ns := by
  have hh := h
  subst hn
  rcases h.2 with ⟨rfl, h0'⟩ | ⟨g, cap, cur, rfl, hb, hcur, hle, hmx, h5, h6⟩
  · have : ns.length = 0 := by simpa using h0'
    rw [List.length_eq_zero_iff] at this
    subst this
    exact ⟨none, 0, rfl, ⟨Nat.le_refl _, by unfold maxLen; omega⟩, .inl ⟨rfl, rfl, rfl⟩⟩
  · refine ⟨_, cap, rfl, ⟨by omega, by omega⟩, .inr ⟨g, rfl, fun i s hs => ?_⟩⟩
    have e : ∀ t, (⟨g, 0, none⟩ : Addr).add t = ⟨g, t, none⟩ := fun t => by unfold Addr.add; split <;> simp_all
    have := hh.cells (g := g) rfl i (.string s) (by simp [strsV, hs])
    rwa [e] at this
/-- who goes on -/
def thru (xs : List RowR) (m : Int) : List ByteArray := goOn m (srtP (pls ((fine xs).map fun x => x.nm) (ranksL (fine xs))))
theorem ranksL_len (xs : List RowR) : (ranksL xs).length = xs.length := by unfold ranksL; simp
/-- placed, whatever the names and ranks: what the loop behind it asks -/
theorem fine_le (xs : List RowR) : (fine xs).length ≤ xs.length := List.length_filter_le _ _
set_option maxHeartbeats 1000000 in
set_option maxRecDepth 100000 in
/-- the three calls in the midst of Through -/
theorem mid_c (hS : SortFOK) (I : InsOK) (ys : List RowR) (base : Nat) {v : Value} {w : World} (h : w.ownsRow base 33 3 v ys.length (rowCs ys)) (h1 : ys.length < 20) (hSt : StatesIn w)
    (hv : ∀ (i : Nat) (x : RowR), ys[i]? = some x → IntsV w x.u x.xs ∧ x.xs.length ≤ 1000) :
    ∃ (p : Option Addr) (cap : Nat), v = .slice p ys.length cap ∧
    Calls Tryz.prog 26 #[v] w fun e w1 => ∃ (p1 : Option Addr) (cap1 : Nat), e = .returned (.slice p1 ys.length cap1) ∧ Gr w w1 ∧
      ∀ w1', Gr w1 w1' → Calls Tryz.prog 27 #[v, .func (.func 28) #[] #[]] w1' fun e w2 => ∃ (p2 : Option Addr) (cap2 : Nat), e = .returned (.slice p2 ys.length cap2) ∧ Gr w1' w2 ∧
        ∀ w2', Gr w2 w2' → Calls Tryz.prog 25 #[.slice p1 ys.length cap1, .slice p2 ys.length cap2] w2' fun e w3 => ∃ v3, e = .returned v3 ∧ PlsV w3 v3 (srtP (pls (ys.map fun x => x.nm) (ranksL ys))) ∧ Gr w2' w3 := by
  by_cases h0 : 0 < ys.length
  · obtain ⟨g, cap, rfl, hbg, hc1, hc2, hr⟩ := rows_of_owns h h0 hv
    refine ⟨_, cap, rfl, ?_⟩
    refine (climbers_pos ys ys.length g 0 cap w rfl (by omega) hr).mono ?_
    rintro e w1 ⟨v1, rfl, hown1, g1⟩
    rcases hown1.2 with ⟨rfl, h0'⟩ | ⟨g1', cap1, cur1, rfl, hb1, hcur1, hle1, hmx1, h51, h61⟩
    · omega
    · refine ⟨_, cap1, rfl, g1, fun w1' gw1 => ?_⟩
      have hg1 := g1.trans gw1
      refine (ranks_pos hS ys ys.length g 0 cap w1' rfl h0 (by omega) (hSt.gr hg1) (fun i x hx => (hr i x hx).gr hg1)).mono ?_
      rintro e w2 ⟨R, rfl, hR, hRc, g2⟩
      refine ⟨_, _, rfl, g2, fun w2' gw2 => ?_⟩
      have hg2 := (gw1.trans g2).trans gw2
      refine placed_pos I (ys.map fun x => x.nm) (ranksL ys) ys.length g1' cap1 R ys.length w2' (by simp) (ranksL_len ys) h0 h1 (fun i s hs => ?_) (fun i r hr' => ?_)
      · have e : ∀ t, (⟨g1', 0, none⟩ : Addr).add t = ⟨g1', t, none⟩ := fun t => by unfold Addr.add; split <;> simp_all
        have := hown1.cells (g := g1') rfl i (.string s) (by simp only [List.getElem?_map] at hs; simp only [nmsV, List.getElem?_map]; cases hh : ys[i]? with
          | none => rw [hh] at hs; cases hs
          | some x => rw [hh] at hs; cases hs; rfl)
        rw [e] at this
        exact hg2.cell this
      · exact gw2.cell (cell_ints hRc hr')
  · have hz : ys.length = 0 := by omega
    have hnil : ys = [] := List.length_eq_zero_iff.1 hz
    subst hnil
    rcases h.2 with ⟨rfl, h0'⟩ | ⟨g, cap, cur, rfl, hb, hcur, hle, hmx, h5, h6⟩
    all_goals
      refine ⟨_, _, rfl, ?_⟩
      refine (climbers_0 _ _ w).mono ?_
      rintro e w1 ⟨rfl, rfl⟩
      refine ⟨none, 0, rfl, Gr.refl _, fun w1' gw1 => ?_⟩
      refine (ranks_0 _ _ w1').mono ?_
      rintro e w2 ⟨q, c2, rfl, g2⟩
      refine ⟨q, c2, rfl, g2, fun w2' gw2 => ?_⟩
      refine (placed_0 _ _ _ _ w2').mono ?_
      rintro e w3 ⟨rfl, g3⟩
      have hl : (srtP (pls (([] : List RowR).map fun x => x.nm) (ranksL []))).length = 0 := by rw [(srtP_spec _).2.1]; rfl
      exact ⟨_, rfl, ⟨none, 0, by rw [hl], fun h => absurd h (by omega)⟩, g3⟩
end Go.Proofs.YtnbboheaheicnabGreatDoor
namespace Go.Proofs.YtnbboheaheicnabGreatDoor
open Go.RowKit Go.Lib
set_option linter.unusedSimpArgs false
set_option linter.unusedVariables false
set_option maxHeartbeats 2000000 in
set_option maxRecDepth 100000 in
theorem through_pos (hS : SortFOK) (I : InsOK) (xs : List RowR) (n b off cap : Nat) (m : Int) (w : World) (hn : xs.length = n) (h0 : 0 < n) (h1 : n < 20) (hcap : n ≤ cap) (hmx : cap ≤ maxLen) (hSt : StatesIn w)
    (hc : ∀ i x, xs[i]? = some x → RowAt w b (off + i * 3) x) (hE : rowFrom xs (firstV xs) n 0 = 0) (hm : outE m 0 160 = 0) :
    Calls Tryz.prog 8 #[.slice (some ⟨b, off, none⟩) n cap, .int .i64 m] w fun e w' => ∃ v, e = .returned (.tuple #[v, .int .i64 0]) ∧ StrsV w' v (thru xs m) ∧ Gr w w' := by
  obtain ⟨i0, hi, hz0, hz1, hz2⟩ := info_parts infoRes
  obtain ⟨i1, hj, hy0, hy1, hy2⟩ := info_parts infoTh
  have HC := Lib.hid (checkRound_pos xs n b off cap w hn (by omega) hcap hmx hSt hc)
  rw [hE] at HC
  have HRg := Lib.hid (fun W => range_c m 0 160 W)
  rw [hm] at HRg
  have HF := Lib.hid (fun b cap W => first_pair 0 0 b cap W)
  have HFz : Hid (firstE [0, 0] = 0) := rfl
  have HM := Lib.hid (fun (ys : List RowR) (v : Value) (W : World) h a s q => mid_c hS I ys w.heap.size (v := v) (w := W) h a s q)
  have HV := Lib.hid (fun c s p n cap W => hasValues_c c s (.slice p n cap) ⟨p, n, cap, rfl⟩ W)
  have HX := Lib.hid (fun k (h : k < n) => (show ∃ x, xs[k]? = some x from ⟨xs[k]'(by omega), List.getElem?_eq_getElem _⟩))
  have HCc := Lib.hid hc
  have HN := Lib.hid hn
  have HFl := Lib.hid (fun k => (show (fine (xs.take k)).length < 20 from by have := fine_le (xs.take k); rw [List.length_take] at this; omega))
  have HT : Hid (thru xs m = goOn m (srtP (pls ((fine xs).map fun x => x.nm) (ranksL (fine xs))))) := rfl
  have HSt : Hid (StatesIn w) := hSt
  clear hc hn hE hm hSt hS I hcap hmx
  go_enter Tryz.func8, Tryz.ntmps8
  go_wp2_with fail
  refine HC.out.mono ?_
  rintro e w0 ⟨rfl, g0⟩
  go_wp2_with fail
  refine (HRg.out _).mono ?_
  rintro e w0' ⟨rfl, rfl⟩
  go_wp2_with fail
  refine (HF.out _ _ _ (by exact cell_new _ #[_, _] _ 0 (by simp)) (by exact cell_new _ #[_, _] _ 1 (by simp))).mono ?_
  rintro e w0'' ⟨rfl, rfl⟩
  rw [HFz.out]
  have g1 : Gr w (w0.alloc (.cells #[.int .i64 0, .int .i64 0] 27)) := g0.alloc _
  generalize w0.alloc (.cells #[.int .i64 0, .int .i64 0] 27) = W1 at *
  go_wp2_with fail
  go_loopw [7, 24] (fun v i wr => ∃ k : Nat, k ≤ n ∧ i = .int .i64 k ∧ wr.ownsRow w.heap.size 33 3 v (fine (xs.take k)).length (rowCs (fine (xs.take k))) ∧ Gr w wr) (fun _ i _ => n - (intOf i).toNat)
  case atStart => exact ⟨0, Nat.zero_le _, rfl, World.ownsRow_nil _ _ _ _, g1⟩
  case round =>
    obtain ⟨k, hk, rfl, hown, hnx⟩ := hrel
    have hsize := hnx.size
    by_cases hkN : k < n
    · obtain ⟨x, hx⟩ := HX.out k hkN
      obtain ⟨c0, c1, c2, hv, _⟩ := (HCc.out k x hx).gr hnx
      obtain ⟨⟨p', cap', hu, _⟩⟩ := hv
      rw [hu] at c2
      have HQ := Lib.hid (fine_take hx)
      have HL := Lib.hid (HFl.out k)
      have HRc := Lib.hid (rowCs_len (fine (xs.take k)))
      have hi2 : (k : Int) < n := by omega
      cases hh : hasV x
      · have hh2 : x.st.toList.isEmpty = false := hh
        have HQ2 := Lib.hid (show fine (xs.take (k + 1)) = fine (xs.take k) from by
          have := HQ.out; rw [hh] at this; simpa using this)
        have HVx := Lib.hid (fun W => HV.out x.nm x.st p' x.xs.length cap' W)
        rw [hh2] at HVx
        have HOW := Lib.hid (fun W (g : Gr wr W) => own_gr hown g)
        clear hown hx hh hh2
        go_wp2_with (refine (HVx.out _).mono ?_; rintro e wq ⟨rfl, gq⟩)
        go_roundw
        case rel =>
          have gz := ((Gr.refl wr).alloc _).trans gq
          exact ⟨k + 1, by omega, by go_num, by rw [HQ2.out]; exact HOW.out _ gz, hnx.trans gz⟩
        case measure => simp [intOf]; omega
      · have hh2 : x.st.toList.isEmpty = true := hh
        have HQ2 := Lib.hid (show fine (xs.take (k + 1)) = fine (xs.take k) ++ [x] from by
          have := HQ.out; rw [hh] at this; simpa using this)
        have HQ3 := Lib.hid (show rowCs (fine (xs.take k) ++ [x]) = rowCs (fine (xs.take k)) ++ [.string x.nm, .string x.st, .slice p' x.xs.length cap'] from by rw [rowCs_add]; unfold rowC; rw [hu])
        have HQ4 := Lib.hid (show (fine (xs.take k) ++ [x]).length = (fine (xs.take k)).length + 1 from by simp)
        have HVx := Lib.hid (fun W => HV.out x.nm x.st p' x.xs.length cap' W)
        rw [hh2] at HVx
        have HOW := Lib.hid (fun W (g : Gr wr W) => own_gr hown g)
        have hl20 := HL.out
        clear hown hx hh hh2 hu
        generalize (fine (xs.take k)).length = q at *
        go_wp2_with (first
          | (refine (HVx.out _).mono ?_; rintro e wq ⟨rfl, gq⟩; have gz := ((Gr.refl wr).alloc _).trans gq; have hsz := gz.size; have cc0 := gq.cell (cell_new wr #[.string x.nm, .string x.st, .slice p' x.xs.length cap'] 33 0 (by simp)); have cc1 := gq.cell (cell_new wr #[.string x.nm, .string x.st, .slice p' x.xs.length cap'] 33 1 (by simp)); have cc2 := gq.cell (cell_new wr #[.string x.nm, .string x.st, .slice p' x.xs.length cap'] 33 2 (by simp)); simp only [List.getElem_toArray, List.getElem_cons_zero, List.getElem_cons_succ] at cc0 cc1 cc2)
          | (at_builtin; refine wpList_append_own _ rfl _ _ 22 rfl w.heap.size 33 i0 (.agg #[.string ⟨#[]⟩, .string ⟨#[]⟩, .slice none 0 0]) 3 56 Tryz.underlying22 hi hz0 hz1 hz2 rfl (by decide) _ _ _ rfl ((HOW.out _ gz).alloc _) ⟨wq.heap.size, 0, none⟩ 1 1 [.string x.nm, .string x.st, .slice p' x.xs.length cap'] rfl rfl (cell_three_new _ _ _ _ _) (by intro u hu; simp at hu; rcases hu with rfl | rfl | rfl <;> rfl) (by unfold maxLen; omega) (by omega) (by simp; omega) ?_; intro v1 w1 hown1 hgrow1 hnil1))
        go_roundw
        case rel =>
          exact ⟨k + 1, by omega, by go_num, by rw [HQ2.out, HQ3.out, HQ4.out]; exact hown1, Below.grown ((hnx.trans gz).alloc _) hgrow1 (by simp; omega) (fun j hj => ((HOW.out _ gz).lt j hj).1)⟩
        case measure => simp [intOf]; omega
    · obtain rfl : k = n := by omega
      rw [List.take_of_length_le (by have := HN.out; omega)] at hown
      have hlf : (fine xs).length < 20 := by have := HFl.out k; rwa [List.take_of_length_le (by have := HN.out; omega)] at this
      have hvals : ∀ (i : Nat) (x : RowR), (fine xs)[i]? = some x → IntsV wr x.u x.xs ∧ x.xs.length ≤ 1000 := fun i x hx => by
        have hmem : x ∈ xs := (List.mem_filter.1 (List.mem_of_getElem? hx)).1
        obtain ⟨j, hj⟩ := List.mem_iff_getElem?.1 hmem
        have := (HCc.out j x hj).gr hnx
        exact ⟨this.val, this.len⟩
      obtain ⟨p, cap7, rfl, hM⟩ := HM.out (fine xs) _ wr hown hlf (HSt.out.gr hnx) hvals
      have HM2 := Lib.hid hM
      have hplen : (srtP (pls ((fine xs).map fun x => x.nm) (ranksL (fine xs)))).length = (fine xs).length := by
        rw [(srtP_spec _).2.1]; exact pls_len _ _ _ (by simp) (ranksL_len _)
      generalize srtP (pls ((fine xs).map fun x => x.nm) (ranksL (fine xs))) = ps at *
      have hlf := hplen ▸ hlf
      have HLf := Lib.hid hlf
      have HPl := Lib.hid hplen
      clear hM HM HX HCc HN HFl hvals hown HC HRg HF hplen hi hz0 hz1 hz2
      go_wp2_with fail
      refine HM2.out.mono ?_
      rintro e wa ⟨p1, cap1, rfl, ga, HR⟩
      go_wp2_with fail
      refine (HR _ (Gr.refl _)).mono ?_
      rintro e wb ⟨p2, cap2, rfl, gb, HP⟩
      go_wp2_with fail
      refine (HP _ (Gr.refl _)).mono ?_
      rintro e wc ⟨v3, rfl, hps, gc⟩
      have g4 : Gr w wc := hnx.trans (ga.trans (gb.trans gc))
      obtain ⟨⟨p3, cap3, rfl, hp3⟩⟩ := hps
      have HP3 := Lib.hid hp3
      clear hp3 HR HP HM2 ga gb gc hnx
      have hl2 := HLf.out
      have HGet := Lib.hid (fun k (h : k < ps.length) => (show ∃ x, ps[k]? = some x from ⟨ps[k]'h, List.getElem?_eq_getElem _⟩))
      go_wp2_with fail
      go_loopw [10, 41] (fun v i wr => ∃ k : Nat, k ≤ ps.length ∧ i = .int .i64 k ∧ wr.ownsRow wc.heap.size 9 1 v (goOn m (ps.take k)).length (strsV (goOn m (ps.take k))) ∧ Gr wc wr) (fun _ i _ => ps.length - (intOf i).toNat)
      case atStart => exact ⟨0, Nat.zero_le _, rfl, World.ownsRow_nil _ _ _ _, Gr.refl _⟩
      case round =>
        obtain ⟨q, hq, rfl, hown, hnc⟩ := hrel
        have hsize := hnc.size
        by_cases hqN : q < ps.length
        · obtain ⟨bq, rfl, hpa⟩ := HP3.out (by omega)
          obtain ⟨x, hx⟩ := HGet.out q hqN
          obtain ⟨c0, c1⟩ := (hpa q x hx).gr hnc
          have HQ := Lib.hid (goOn_take (m := m) hx)
          have HL := Lib.hid (show (goOn m (ps.take q)).length < 20 from by unfold goOn; rw [List.length_map]; have := List.length_filter_le (fun p => decide (p.rk ≤ m)) (ps.take q); rw [List.length_take] at this; omega)
          have hi2 : (q : Int) < ps.length := by omega
          have hl20 := HL.out
          by_cases hle : x.rk ≤ m
          · have HQ2 := Lib.hid (show goOn m (ps.take (q + 1)) = goOn m (ps.take q) ++ [x.nm] from by rw [HQ.out, if_pos (by simp [hle])])
            have HQ3 := Lib.hid (show strsV (goOn m (ps.take q) ++ [x.nm]) = strsV (goOn m (ps.take q)) ++ [.string x.nm] from by simp [strsV])
            have HQ4 := Lib.hid (show (goOn m (ps.take q) ++ [x.nm]).length = (goOn m (ps.take q)).length + 1 from by simp)
            have HRc := Lib.hid (show (strsV (goOn m (ps.take q))).length = (goOn m (ps.take q)).length from by simp [strsV])
            clear hx hpa HGet
            generalize (goOn m (ps.take q)).length = z at *
            go_wp2_with (first
              | (at_builtin; refine wpList_append_own _ rfl _ _ 23 rfl wc.heap.size 9 i1 (.string ⟨#[]⟩) 1 16 Tryz.underlying23 hj hy0 hy1 hy2 rfl (by decide) _ _ _ rfl ((hown.alloc _).alloc _) ⟨wr.heap.size + 1, 0, none⟩ 1 1 [.string x.nm] rfl rfl (cell_one_two _ _ _ _) (by intro u hu; simp at hu; subst hu; rfl) (by unfold maxLen; omega) (by omega) (by simp; omega) ?_; intro v1 w1 hown1 hgrow1 hnil1))
            go_roundw
            case rel =>
              exact ⟨q + 1, by omega, by go_num, by rw [HQ2.out, HQ3.out, HQ4.out]; exact hown1, Below.grown ((hnc.alloc _).alloc _) hgrow1 (by simp; omega) (fun j hj => (hown.lt j hj).1)⟩
            case measure => simp [intOf]; omega
          · have HQ2 := Lib.hid (show goOn m (ps.take (q + 1)) = goOn m (ps.take q) from by rw [HQ.out, if_neg (by simp [hle])]; simp)
            have HOW := Lib.hid (fun W (g : Gr wr W) => own_gr hown g)
            clear hx hpa HGet hown
            go_wp2_with fail
            go_roundw
            case rel =>
              exact ⟨q + 1, by omega, by go_num, by rw [HQ2.out]; exact HOW.out _ ((Gr.refl wr).alloc _), hnc.alloc _⟩
            case measure => simp [intOf]; omega
        · obtain rfl : q = ps.length := by omega
          rw [List.take_length] at hown
          go_wp2_with fail
          exact bodyPost_ret (v := .tuple #[u10, .int .i64 0]) (by simp [results, Tryz.results8, go_sem]) rfl ⟨_, rfl, by rw [HT.out]; exact strs_of_owns hown rfl, g4.trans hnc⟩
end Go.Proofs.YtnbboheaheicnabGreatDoor
namespace Go.Proofs.YtnbboheaheicnabGreatDoor
open Go.RowKit Go.Lib
set_option linter.unusedSimpArgs false
set_option linter.unusedVariables false
set_option maxHeartbeats 1000000 in
set_option maxRecDepth 100000 in
theorem sameWords_pos (ns : List ByteArray) (n b b2 cap cap2 : Nat) (w : World) (hn : ns.length = n) (h1 : n ≤ 1000) (ha : ∀ i s, ns[i]? = some s → w.cell? ⟨b, i, none⟩ = some (.string s)) (hb : ∀ i s, ns[i]? = some s → w.cell? ⟨b2, i, none⟩ = some (.string s)) :
    Calls Tryz.prog 11 #[.slice (some ⟨b, 0, none⟩) n cap, .slice (some ⟨b2, 0, none⟩) n cap2] w fun e w' => e = .returned (.bool true) ∧ Gr w w' := by
  have HX := Lib.hid (fun k (h : k < n) => (show ∃ x, ns[k]? = some x from ⟨ns[k]'(by omega), List.getElem?_eq_getElem _⟩))
  have HA := Lib.hid ha
  have HB := Lib.hid hb
  clear ha hb hn
  go_enter Tryz.func11, Tryz.ntmps11
  go_wp2_with fail
  go_loopg [5] n (fun gk s5 wr => ∃ i : Nat, s5 = .int .i64 i ∧ gk + i = n ∧ Gr w wr)
  case atStart => exact ⟨0, rfl, by omega, Gr.refl _⟩
  case round =>
    obtain ⟨i, rfl, hi, hnx⟩ := hrel
    by_cases hlt : i < n
    · obtain ⟨x, hx⟩ := HX.out i hlt
      have c0 := hnx.cell (HA.out i x hx)
      have c1 := hnx.cell (HB.out i x hx)
      have hi2 : (i : Int) < n := by omega
      clear hx
      go_wp2_with fail
      go_quiet (fail)
      go_wp2_with fail
      go_roundg (gk - 1)
      case measure => omega
      case rel => exact ⟨i + 1, by go_num, by omega, hnx.drewN _⟩
    · obtain rfl : i = n := by omega
      go_wp2_with fail
      go_ret
      exact ⟨rfl, hnx⟩
theorem sameWords_nil (p p2 : Option Addr) (cap cap2 : Nat) (w : World) :
    Calls Tryz.prog 11 #[.slice p 0 cap, .slice p2 0 cap2] w fun e w' => e = .returned (.bool true) ∧ Gr w w' := by
  go_enter Tryz.func11, Tryz.ntmps11
  go_wp2_with fail
  refine wp_loop_rounds 2 ?_
  rw [rounds_succ]
  go_wp2_with fail
  go_ret
  exact ⟨rfl, Gr.refl _⟩
theorem sameWords_c {v v2 : Value} {ns : List ByteArray} {w : World} (h : StrsV w v ns) (h2 : StrsV w v2 ns) (hs : ns.length ≤ 1000) :
    Calls Tryz.prog 11 #[v, v2] w fun e w' => e = .returned (.bool true) ∧ Gr w w' := by
  obtain ⟨⟨p, cap, rfl, _, ha⟩⟩ := h
  obtain ⟨⟨p2, cap2, rfl, _, hb⟩⟩ := h2
  rcases ha with ⟨rfl, rfl, rfl⟩ | ⟨g, rfl, a⟩
  · exact sameWords_nil _ p2 _ cap2 w
  · rcases hb with ⟨rfl, rfl, rfl⟩ | ⟨g2, rfl, b⟩
    · exact sameWords_nil _ _ cap _ w
    · exact sameWords_pos ns _ g g2 cap cap2 w rfl hs a b
end Go.Proofs.YtnbboheaheicnabGreatDoor
