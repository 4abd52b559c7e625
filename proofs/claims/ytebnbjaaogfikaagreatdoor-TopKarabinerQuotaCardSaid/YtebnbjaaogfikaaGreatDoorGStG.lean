/- Who goes on (chapter 6): those who are out pass the checks. -/
import Derived.Test.YtebnbjaaogfikaaGreatDoorGRoC
import Derived.Test.YtebnbjaaogfikaaGreatDoorStF
import Derived.Test.YtebnbjaaogfikaaGreatDoorGRkB
namespace Go.Proofs.YtebnbjaaogfikaaGreatDoor
open Go.RowKit Go.Lib
set_option linter.unusedSimpArgs false
set_option linter.unusedVariables false
set_option maxHeartbeats 2000000
set_option maxRecDepth 100000
theorem box11 (w : World) (a0 b0 : Value) (T U : Nat) : ∃ W, (w.alloc (.cells #[a0] T)).alloc (.cells #[b0] U) = W ∧ Gr w W ∧ W.cell? ⟨w.heap.size, 0, none⟩ = some a0 ∧ W.cell? ⟨w.heap.size + 1, 0, none⟩ = some b0 := by
  obtain ⟨W1, h1, g1, p0⟩ := box1 w a0 T
  obtain ⟨W2, h2, g2, q0⟩ := box1 W1 b0 U
  have hs : W1.heap.size = w.heap.size + 1 := by rw [← h1, World.size_alloc]
  rw [hs] at q0
  exact ⟨W2, by rw [h1, h2], g1.trans g2, g2.cell p0, q0⟩
/-- words in a list -/
structure WordsV (w : World) (v : Value) (ns : List ByteArray) : Prop where
  mk' ::
  out : ∃ p cap, v = .slice p ns.length cap ∧ (ns.length ≤ cap ∧ cap ≤ maxLen) ∧ (0 < ns.length → ∃ b off, p = some ⟨b, off, none⟩ ∧ ∀ i t, ns[i]? = some t → w.cell? ⟨b, off + i, none⟩ = some (.string t))
theorem WordsV.gr {w w' : World} {v : Value} {ns : List ByteArray} (h : WordsV w v ns) (k : Gr w w') : WordsV w' v ns := by
  obtain ⟨⟨p, cap, rfl, hcap, hh⟩⟩ := h
  refine ⟨p, cap, rfl, hcap, fun h0 => ?_⟩
  obtain ⟨b, off, h1, h2⟩ := hh h0
  exact ⟨b, off, h1, fun i x hx => k.cell (h2 i x hx)⟩
/-- those who are out have results and are apart -/
structure OutOK (xs : List RowR) (ns : List ByteArray) : Prop where
  has : ∀ s ∈ ns, dupR xs xs.length s = true
  apart : ∀ j s, ns[j]? = some s → hasS (ns.take j) s = false
theorem twiceS_ok (ns : List ByteArray) (n b off cap j : Nat) (s : ByteArray) (w : World) (hn : ns.length = n) (h1 : n ≤ 160) (hcap : n ≤ cap) (hmx : cap ≤ maxLen) (hs : ns[j]? = some s) (hno : hasS (ns.take j) s = false) (hc : ∀ i t, ns[i]? = some t → w.cell? ⟨b, off + i, none⟩ = some (.string t)) :
    Calls Tryz.prog 66 #[.slice (some ⟨b, off, none⟩) n cap, .int .i64 j] w fun e w' => e = .returned (.int .i64 0) ∧ Gr w w' := by
  have hjn := (List.getElem?_eq_some_iff.1 hs).1
  have HI := Lib.hid (fun (n : Int) (W : World) => (show Calls Tryz.prog 42 #[.bool false, .int .i64 n] W fun e w' => e = .returned (.int .i64 0) ∧ W = w' from by simpa using if_c false n W))
  have HC := Lib.hid (fun (W : World) (g : Gr w W) => containsS_pos ns j b off cap s W (by omega) (by omega) (fun i t ht => g.cell (hc i t ht)))
  rw [hno] at HC
  have hs0 := hc j s hs
  have hj1 : (j : Int) ≤ cap := by omega
  have hj0 : (0 : Int) ≤ j := by omega
  have hj2 : (j : Int) < n := by omega
  clear hc hs hno hn
  go_enter Tryz.func66, Tryz.ntmps66
  go_wp2_with fail
  have g := (Gr.refl w).drew
  have c0 := g.cell hs0
  refine wp_region_held_drew (S := (fun w' => w'.cell? ⟨b, off + j, none⟩ = some (.string s))) (by kernel_rfl) c0 (fun hHeld => ?_)
  generalize w.drew = V at *
  refine wpAnyH_take (i := 0) (v := (.slice (some ⟨b, off, none⟩) n cap)) (op_at rfl) (by kernel_rfl) (by kernel_rfl) (by kernel_rfl) (fun _ _ _ h => h) (Or.inl ⟨rfl, fun w hSw => ?_⟩) (by assumption) ?_
  · (try dsimp only at hSw); go_simp; try with_reducible rfl
  (try simp only [Act.put, List.setIfInBounds_toArray, List.set_cons_zero, List.set_cons_succ])
  refine wpAnyH_take (i := 1) (v := (.int .i64 j)) (op_at rfl) (by kernel_rfl) (by kernel_rfl) (by kernel_rfl) (fun _ _ _ h => h) (Or.inl ⟨rfl, fun w hSw => ?_⟩) (by assumption) ?_
  · (try dsimp only at hSw); go_simp; try with_reducible rfl
  (try simp only [Act.put, List.setIfInBounds_toArray, List.set_cons_zero, List.set_cons_succ])
  refine wpAnyH_take (i := 2) (v := (.slice (some ⟨b, off, none⟩) j cap)) (op_at rfl) (by kernel_rfl) (by kernel_rfl) (by kernel_rfl) (fun _ _ _ h => h) (Or.inl ⟨rfl, fun w hSw => ?_⟩) (by assumption) ?_
  · (try dsimp only at hSw); go_simp; try with_reducible rfl
  (try simp only [Act.put, List.setIfInBounds_toArray, List.set_cons_zero, List.set_cons_succ])
  refine wpAnyH_take (i := 3) (v := (.slice (some ⟨b, off, none⟩) n cap)) (op_at rfl) (by kernel_rfl) (by kernel_rfl) (by kernel_rfl) (fun _ _ _ h => h) (Or.inl ⟨rfl, fun w hSw => ?_⟩) (by assumption) ?_
  · (try dsimp only at hSw); go_simp; try with_reducible rfl
  (try simp only [Act.put, List.setIfInBounds_toArray, List.set_cons_zero, List.set_cons_succ])
  refine wpAnyH_take (i := 4) (v := (.int .i64 j)) (op_at rfl) (by kernel_rfl) (by kernel_rfl) (by kernel_rfl) (fun _ _ _ h => h) (Or.inl ⟨rfl, fun w hSw => ?_⟩) (by assumption) ?_
  · (try dsimp only at hSw); go_simp; try with_reducible rfl
  (try simp only [Act.put, List.setIfInBounds_toArray, List.set_cons_zero, List.set_cons_succ])
  refine wpAnyH_take (i := 5) (v := (.pointer (some ⟨b, off + j, none⟩))) (op_at rfl) (by kernel_rfl) (by kernel_rfl) (by kernel_rfl) (fun _ _ _ h => h) (Or.inl ⟨rfl, fun w hSw => ?_⟩) (by assumption) ?_
  · (try dsimp only at hSw); go_simp; try with_reducible rfl
  (try simp only [Act.put, List.setIfInBounds_toArray, List.set_cons_zero, List.set_cons_succ])
  refine wpAnyH_take (i := 6) (v := (.string s)) (op_at rfl) (by kernel_rfl) (by kernel_rfl) (by kernel_rfl) (fun _ _ _ h => h) (Or.inl ⟨rfl, fun w hSw => ?_⟩) (by assumption) ?_
  · (try dsimp only at hSw); go_simp; try with_reducible rfl
  (try simp only [Act.put, List.setIfInBounds_toArray, List.set_cons_zero, List.set_cons_succ])
  refine wpAnyH_ready (rs := [7]) (by kernel_rfl) (by simp) (AllReadyH.cons (op_at rfl) (fun K hK => ?_) AllReadyH.nil)
  go_simp
  (refine (HC.out _ g).mono ?_; rintro e w' ⟨rfl, rfl⟩)
  go_wp2_with fail
  refine hK.out _ _ c0 (fun hHeld => ?_)
  clear hK K
  (try simp only [Act.put, List.setIfInBounds_toArray, List.set_cons_zero, List.set_cons_succ])
  refine wpAnyH_ready (rs := [8]) (by kernel_rfl) (by simp) (AllReadyH.cons (op_at rfl) (fun K hK => ?_) AllReadyH.nil)
  go_simp
  (refine (HI.out 9 _).mono ?_; rintro e w' ⟨rfl, rfl⟩)
  go_wp2_with fail
  refine hK.out _ _ c0 (fun hHeld => ?_)
  clear hK K
  (try simp only [Act.put, List.setIfInBounds_toArray, List.set_cons_zero, List.set_cons_succ])
  refine wpAnyH_take (i := 9) (v := (.int .i64 0)) (op_at rfl) (by kernel_rfl) (by kernel_rfl) (by kernel_rfl) (fun _ _ _ h => h) (Or.inl ⟨rfl, fun w hSw => ?_⟩) (by assumption) ?_
  · (try dsimp only at hSw); go_simp; try with_reducible rfl
  (try simp only [Act.put, List.setIfInBounds_toArray, List.set_cons_zero, List.set_cons_succ])
  refine wpAnyH_done (by kernel_rfl) ?_ _
  go_wp2_with fail
  go_ret
  exact ⟨rfl, g⟩
theorem oneOut_ok {xs : List RowR} {ns : List ByteArray} {n1 b1 off1 cap1 n b off cap j L1 L2 : Nat} {s : ByteArray} {w : World} (hO : OutOK xs ns) (hn1 : xs.length = n1) (h11 : n1 ≤ 160) (hn : ns.length = n) (h1 : n ≤ 160) (hcap : n ≤ cap) (hmx : cap ≤ maxLen) (hs : ns[j]? = some s) (hc1 : ∀ i x, xs[i]? = some x → RowAt w b1 (off1 + i * 3) x) (hc : ∀ i t, ns[i]? = some t → w.cell? ⟨b, off + i, none⟩ = some (.string t)) (hL1 : w.cell? ⟨L1, 0, none⟩ = some (.slice (some ⟨b1, off1, none⟩) n1 cap1)) (hL2 : w.cell? ⟨L2, 0, none⟩ = some (.slice (some ⟨b, off, none⟩) n cap)) :
    Calls Tryz.prog 64 #[.int .i64 j, .string s, .pointer (some ⟨L1, 0, none⟩), .pointer (some ⟨L2, 0, none⟩)] w fun e w' => e = .returned (.int .i64 0) ∧ Gr w w' := by
  have HI := Lib.hid (fun (n : Int) (W : World) => (show Calls Tryz.prog 42 #[.bool false, .int .i64 n] W fun e w' => e = .returned (.int .i64 0) ∧ W = w' from by simpa using if_c false n W))
  have HD := Lib.hid (fun (W : World) (g : Gr w W) => hasResult_pos xs n1 b1 off1 cap1 s W (by omega) (by omega) (fun i x hx => (hc1 i x hx).gr g))
  rw [← hn1, hO.has s (List.mem_of_getElem? hs), hn1] at HD
  have HT := Lib.hid (fun (W : World) (g : Gr w W) => twiceS_ok ns n b off cap j s W hn h1 hcap hmx hs (hO.apart j s hs) (fun i t ht => g.cell (hc i t ht)))
  have HF := Lib.hid (fun b cap W => first_pair 0 0 b cap W)
  have HFz : Hid (firstE [0, 0] = 0) := rfl
  clear hc1 hc hO hs
  go_enter Tryz.func64, Tryz.ntmps64
  go_wp2_with fail
  have g := (Gr.refl w).drew
  have l1 := g.cell hL1
  have l2 := g.cell hL2
  refine wp_region_held_drew (S := (fun w' => w'.cell? ⟨L1, 0, none⟩ = some (.slice (some ⟨b1, off1, none⟩) n1 cap1) ∧ w'.cell? ⟨L2, 0, none⟩ = some (.slice (some ⟨b, off, none⟩) n cap))) (by kernel_rfl) ⟨l1, l2⟩ (fun hHeld => ?_)
  generalize w.drew = V at *
  refine wpAnyH_take (i := 0) (v := (.slice (some ⟨b1, off1, none⟩) n1 cap1)) (op_at rfl) (by kernel_rfl) (by kernel_rfl) (by kernel_rfl) (fun _ _ _ h => h) (Or.inl ⟨rfl, fun w hSw => ?_⟩) (by assumption) ?_
  · (try dsimp only at hSw); go_simp; try with_reducible rfl
  (try simp only [Act.put, List.setIfInBounds_toArray, List.set_cons_zero, List.set_cons_succ])
  refine wpAnyH_take (i := 1) (v := (.string s)) (op_at rfl) (by kernel_rfl) (by kernel_rfl) (by kernel_rfl) (fun _ _ _ h => h) (Or.inl ⟨rfl, fun w hSw => ?_⟩) (by assumption) ?_
  · (try dsimp only at hSw); go_simp; try with_reducible rfl
  (try simp only [Act.put, List.setIfInBounds_toArray, List.set_cons_zero, List.set_cons_succ])
  refine wpAnyH_take (i := 5) (v := (.slice (some ⟨b, off, none⟩) n cap)) (op_at rfl) (by kernel_rfl) (by kernel_rfl) (by kernel_rfl) (fun _ _ _ h => h) (Or.inl ⟨rfl, fun w hSw => ?_⟩) (by assumption) ?_
  · (try dsimp only at hSw); go_simp; try with_reducible rfl
  (try simp only [Act.put, List.setIfInBounds_toArray, List.set_cons_zero, List.set_cons_succ])
  refine wpAnyH_take (i := 6) (v := (.int .i64 j)) (op_at rfl) (by kernel_rfl) (by kernel_rfl) (by kernel_rfl) (fun _ _ _ h => h) (Or.inl ⟨rfl, fun w hSw => ?_⟩) (by assumption) ?_
  · (try dsimp only at hSw); go_simp; try with_reducible rfl
  (try simp only [Act.put, List.setIfInBounds_toArray, List.set_cons_zero, List.set_cons_succ])
  refine wpAnyH_ready (rs := [2]) (by kernel_rfl) (by simp) (AllReadyH.cons (op_at rfl) (fun K hK => ?_) AllReadyH.nil)
  go_simp
  (refine (HD.out _ g).mono ?_; rintro e W5 ⟨rfl, hg⟩; replace l1 := hg.cell l1; replace l2 := hg.cell l2; replace g := g.trans hg; clear hg)
  go_wp2_with fail
  refine hK.out _ _ ⟨l1, l2⟩ (fun hHeld => ?_)
  clear hK K
  (try simp only [Act.put, List.setIfInBounds_toArray, List.set_cons_zero, List.set_cons_succ])
  refine wpAnyH_take (i := 3) (v := (.bool false)) (op_at rfl) (by kernel_rfl) (by kernel_rfl) (by kernel_rfl) (fun _ _ _ h => h) (Or.inl ⟨rfl, fun w hSw => ?_⟩) (by assumption) ?_
  · (try dsimp only at hSw); go_simp; try with_reducible rfl
  (try simp only [Act.put, List.setIfInBounds_toArray, List.set_cons_zero, List.set_cons_succ])
  refine wpAnyH_ready (rs := [4]) (by kernel_rfl) (by simp) (AllReadyH.cons (op_at rfl) (fun K hK => ?_) AllReadyH.nil)
  go_simp
  (refine (HI.out 10 _).mono ?_; rintro e w' ⟨rfl, rfl⟩)
  go_wp2_with fail
  refine hK.out _ _ ⟨l1, l2⟩ (fun hHeld => ?_)
  clear hK K
  (try simp only [Act.put, List.setIfInBounds_toArray, List.set_cons_zero, List.set_cons_succ])
  refine wpAnyH_ready (rs := [7]) (by kernel_rfl) (by simp) (AllReadyH.cons (op_at rfl) (fun K hK => ?_) AllReadyH.nil)
  go_simp
  (refine (HT.out _ g).mono ?_; rintro e W6 ⟨rfl, hg⟩; replace l1 := hg.cell l1; replace l2 := hg.cell l2; replace g := g.trans hg; clear hg)
  go_wp2_with fail
  refine hK.out _ _ ⟨l1, l2⟩ (fun hHeld => ?_)
  clear hK K
  (try simp only [Act.put, List.setIfInBounds_toArray, List.set_cons_zero, List.set_cons_succ])
  refine wpAnyH_ready (rs := [8]) (by kernel_rfl) (by simp) (AllReadyH.cons (op_at rfl) (fun K hK => ?_) AllReadyH.nil)
  go_simp
  obtain ⟨W3, hW3, g3, s0, s1⟩ := box2 W6 (.int .i64 0) (.int .i64 0) 28
  rw [hW3]
  clear hW3
  replace l1 := g3.cell l1
  replace l2 := g3.cell l2
  replace g := g.trans g3
  refine hK.out _ _ ⟨l1, l2⟩ (fun hHeld => ?_)
  clear hK K
  (try simp only [Act.put, List.setIfInBounds_toArray, List.set_cons_zero, List.set_cons_succ])
  refine wpAnyH_ready (rs := [9]) (by kernel_rfl) (by simp) (AllReadyH.cons (op_at rfl) (fun K hK => ?_) AllReadyH.nil)
  go_simp
  (refine (HF.out _ _ W3 s0 s1).mono ?_; rintro e w8 ⟨rfl, rfl⟩; rw [HFz.out])
  go_wp2_with fail
  refine hK.out _ _ ⟨l1, l2⟩ (fun hHeld => ?_)
  clear hK K
  (try simp only [Act.put, List.setIfInBounds_toArray, List.set_cons_zero, List.set_cons_succ])
  refine wpAnyH_take (i := 10) (v := (.int .i64 0)) (op_at rfl) (by kernel_rfl) (by kernel_rfl) (by kernel_rfl) (fun _ _ _ h => h) (Or.inl ⟨rfl, fun w hSw => ?_⟩) (by assumption) ?_
  · (try dsimp only at hSw); go_simp; try with_reducible rfl
  (try simp only [Act.put, List.setIfInBounds_toArray, List.set_cons_zero, List.set_cons_succ])
  refine wpAnyH_done (by kernel_rfl) ?_ _
  go_wp2_with fail
  go_ret
  exact ⟨rfl, g⟩
theorem findOut_ok {xs : List RowR} {ns : List ByteArray} {n1 b1 off1 cap1 n b off cap L1 L2 : Nat} {w : World} (hO : OutOK xs ns) (hn1 : xs.length = n1) (h11 : n1 ≤ 160) (hn : ns.length = n) (h1 : n ≤ 160) (hcap : n ≤ cap) (hmx : cap ≤ maxLen) (hc1 : ∀ i x, xs[i]? = some x → RowAt w b1 (off1 + i * 3) x) (hc : ∀ i t, ns[i]? = some t → w.cell? ⟨b, off + i, none⟩ = some (.string t)) (hL1 : w.cell? ⟨L1, 0, none⟩ = some (.slice (some ⟨b1, off1, none⟩) n1 cap1)) (hL2 : w.cell? ⟨L2, 0, none⟩ = some (.slice (some ⟨b, off, none⟩) n cap)) :
    Calls Tryz.prog 87 #[.slice (some ⟨b, off, none⟩) n cap, .func (.func 64) #[] #[.pointer (some ⟨L1, 0, none⟩), .pointer (some ⟨L2, 0, none⟩)]] w fun e w' => e = .returned (.tuple #[.int .i64 0, .int .i64 0]) ∧ Gr w w' := by
  have HX := Lib.hid (fun k (h : k < n) => (show ∃ x, ns[k]? = some x from ⟨ns[k]'(by omega), List.getElem?_eq_getElem _⟩))
  have HC := Lib.hid hc
  have HO := Lib.hid (fun (j : Nat) (s : ByteArray) (W : World) (g : Gr w W) (hs : ns[j]? = some s) => oneOut_ok (L1 := L1) (L2 := L2) (w := W) hO hn1 h11 hn h1 hcap hmx hs (fun i x hx => (hc1 i x hx).gr g) (fun i t ht => g.cell (hc i t ht)) (g.cell hL1) (g.cell hL2))
  clear hc hL1 hL2 hO hn hc1 hn1
  go_enter Tryz.func87, Tryz.ntmps87
  go_wp2_with fail
  go_loopg [11] n (fun gk s11 wr => ∃ i : Nat, s11 = .int .i64 i ∧ gk + i = n ∧ Gr w wr)
  case atStart => exact ⟨0, rfl, by omega, Gr.refl _⟩
  case round =>
    obtain ⟨i, rfl, hi, hg⟩ := hrel
    by_cases hlt : i < n
    · obtain ⟨x, hx⟩ := HX.out i hlt
      have c0 := hg.cell (HC.out i x hx)
      have hi2 : (i : Int) < n := by omega
      have HT := Lib.hid (HO.out i x _ hg hx)
      clear hx
      go_wp2_with (refine HT.out.mono ?_; rintro e w4 ⟨rfl, hg2⟩)
      go_roundg (gk - 1)
      case measure => omega
      case rel => exact ⟨i + 1, by go_num, by omega, hg.trans hg2⟩
    · obtain rfl : i = n := by omega
      go_wp2_with fail
      exact bodyPost_ret (v := .tuple #[.int .i64 0, .int .i64 0]) (by simp [results, Tryz.results87, go_sem]) rfl ⟨rfl, hg⟩
theorem findOut_0 (p : Option Addr) (cap : Nat) (f : Value) (w : World) :
    Calls Tryz.prog 87 #[.slice p 0 cap, f] w fun e w' => e = .returned (.tuple #[.int .i64 0, .int .i64 0]) ∧ w = w' := by
  go_enter Tryz.func87, Tryz.ntmps87
  go_wp2_with fail
  refine wp_loop_rounds 2 ?_
  rw [rounds_succ]
  go_wp2_with fail
  exact bodyPost_ret (v := .tuple #[.int .i64 0, .int .i64 0]) (by simp [results, Tryz.results87, go_sem]) rfl ⟨rfl, rfl⟩
theorem eachOut_c (v f : Value) (w : World) (h : Calls Tryz.prog 87 #[v, f] w fun e w' => e = .returned (.tuple #[.int .i64 0, .int .i64 0]) ∧ Gr w w') :
    Calls Tryz.prog 60 #[v, f] w fun e w' => e = .returned (.int .i64 0) ∧ Gr w w' := by
  have H := Lib.hid h
  clear h
  go_enter Tryz.func60, Tryz.ntmps60
  go_wp2_with (refine H.out.mono ?_; rintro e w4 ⟨rfl, hg⟩)
  go_ret
  exact ⟨rfl, hg⟩
theorem checkOut_ok {xs : List RowR} {ns : List ByteArray} {p : Option Addr} {n c : Nat} {q : Option Addr} {l k : Nat} {w : World} (hO : OutOK xs ns) (hx : RowsV w (.slice p n c) xs) (hn : xs.length = n) (h1 : n ≤ 160) (ho : WordsV w (.slice q l k) ns) (hl : ns.length = l) (h2 : l ≤ 160) :
    Calls Tryz.prog 30 #[.slice p n c, .slice q l k] w fun e w' => e = .returned (.int .i64 0) ∧ Gr w w' := by
  have HE := Lib.hid (show ∀ (L1 L2 : Nat) (W : World), Gr w W → W.cell? ⟨L1, 0, none⟩ = some (.slice p n c) → W.cell? ⟨L2, 0, none⟩ = some (.slice q l k) → Calls Tryz.prog 60 #[.slice q l k, .func (.func 64) #[] #[.pointer (some ⟨L1, 0, none⟩), .pointer (some ⟨L2, 0, none⟩)]] W fun e w' => e = .returned (.int .i64 0) ∧ Gr W w' from by
    intro L1 L2 W g a1 a2
    apply eachOut_c
    by_cases h0 : 0 < l
    · obtain ⟨⟨q', k', e, hk, hh⟩⟩ := ho
      cases e
      obtain ⟨b, off, rfl, hc⟩ := hh (by omega)
      obtain ⟨⟨p', c', e, hcc, hr⟩⟩ := hx
      cases e
      have hx0 : 0 < xs.length := by
        have hm := List.getElem_mem (l := ns) (n := 0) (by omega)
        have := hO.has _ hm
        rcases xs with _ | _
        · simp [dupR] at this
        · simp
      obtain ⟨b1, off1, rfl, hc1⟩ := hr hx0
      exact findOut_ok hO hn h1 hl h2 hk.1 hk.2 (fun i x hx => (hc1 i x hx).gr g) (fun i t ht => g.cell (hc i t ht)) a1 a2
    · obtain rfl : l = 0 := by omega
      refine (findOut_0 q k _ W).mono ?_
      rintro e w' ⟨rfl, rfl⟩
      exact ⟨rfl, Gr.refl _⟩)
  obtain ⟨W, hW, g, a1, a2⟩ := box11 w (.slice p n c) (.slice q l k) 22 23
  have HW := Lib.hid hW
  have hz2 : decide ((160 : Int) < l) = false := decide_eq_false (by omega)
  clear hW hO hx ho hn hl
  go_enter Tryz.func30, Tryz.ntmps30
  go_wp2_with fail
  rw [HW.out]
  generalize w.heap.size = B at *
  clear HW
  refine (HE.out _ _ W g a1 a2).mono ?_
  rintro e w4 ⟨rfl, hg⟩
  go_wp2_with fail
  go_ret
  exact ⟨rfl, g.trans hg⟩
end Go.Proofs.YtebnbjaaogfikaaGreatDoor
namespace Go.Proofs.YtebnbjaaogfikaaGreatDoor
open Go.RowKit Go.Lib
set_option linter.unusedSimpArgs false
set_option linter.unusedVariables false
set_option maxHeartbeats 2000000
set_option maxRecDepth 100000
theorem RowsV.at {w : World} {p : Option Addr} {n c : Nat} {xs : List RowR} (h : RowsV w (.slice p n c) xs) : xs.length = n ∧ (n ≤ c ∧ c ≤ maxLen) ∧ (0 < n → ∃ b off, p = some ⟨b, off, none⟩ ∧ ∀ i x, xs[i]? = some x → RowAt w b (off + i * 3) x) := by
  obtain ⟨⟨p', c', e, hcap, hh⟩⟩ := h
  cases e
  exact ⟨rfl, hcap, hh⟩
theorem WordsV.at {w : World} {p : Option Addr} {n c : Nat} {ns : List ByteArray} (h : WordsV w (.slice p n c) ns) : ns.length = n ∧ (n ≤ c ∧ c ≤ maxLen) ∧ (0 < n → ∃ b off, p = some ⟨b, off, none⟩ ∧ ∀ i t, ns[i]? = some t → w.cell? ⟨b, off + i, none⟩ = some (.string t)) := by
  obtain ⟨⟨p', c', e, hcap, hh⟩⟩ := h
  cases e
  exact ⟨rfl, hcap, hh⟩
theorem rowsV_owns {w : World} {base : Nat} {T : TypeId} {v : Value} {ys : List RowR} {n : Nat} (h : w.ownsRow base T 3 v n (rowCs ys)) (hn : ys.length = n) (hv : ∀ x ∈ ys, IntsV w x.u x.xs ∧ x.xs.length ≤ 1000) : ∃ p c, v = .slice p n c ∧ RowsV w (.slice p n c) ys := by
  subst hn
  rcases h.2 with ⟨rfl, h0⟩ | ⟨g, c, cur, rfl, hb, hcur, hle, hmx, _, _⟩
  · exact ⟨none, 0, by rw [h0], none, 0, rfl, ⟨by omega, by unfold maxLen; omega⟩, fun h => by omega⟩
  · refine ⟨some ⟨g, 0, none⟩, c, rfl, _, c, rfl, ⟨hle, hmx⟩, fun _ => ⟨g, 0, rfl, fun i x hx => ?_⟩⟩
    have hc : ∀ j u, j < 3 → (rowC x)[j]? = some u → w.cell? ⟨g, 0 + i * 3 + j, none⟩ = some u := fun j u hj hju => by
      have := h.cells (g := g) rfl (i * 3 + j) u (by rw [rowCs_at hx j hj]; exact hju)
      rw [Nat.zero_add]
      rwa [show (⟨g, 0, none⟩ : Addr).add (i * 3 + j) = ⟨g, i * 3 + j, none⟩ by unfold Addr.add; split <;> simp_all] at this
    exact ⟨hc 0 _ (by omega) rfl, hc 1 _ (by omega) rfl, hc 2 _ (by omega) rfl, (hv x (List.mem_of_getElem? hx)).1, (hv x (List.mem_of_getElem? hx)).2⟩
/-- those who are not out -/
def rest (ns : List ByteArray) (xs : List RowR) : List RowR := xs.filter fun x => !hasS ns x.nm
theorem rest_take {ns : List ByteArray} {xs : List RowR} {k : Nat} {x : RowR} (h : xs[k]? = some x) : rest ns (xs.take (k + 1)) = rest ns (xs.take k) ++ (if !hasS ns x.nm then [x] else []) := by
  rw [List.take_add_one, h]
  unfold rest
  rw [List.filter_append]
  congr 1
  cases hx : hasS ns x.nm <;> simp [hx]
theorem rest_le (ns : List ByteArray) (xs : List RowR) : (rest ns xs).length ≤ xs.length := List.length_filter_le _ _
theorem containsW {ns : List ByteArray} {q : Option Addr} {l k : Nat} {w : World} (h : WordsV w (.slice q l k) ns) (h1 : l ≤ 1000) (s : ByteArray) :
    Calls Tryz.prog 31 #[.slice q l k, .string s] w fun e w' => e = .returned (.bool (hasS ns s)) ∧ w = w' := by
  obtain ⟨hl, hk, hh⟩ := h.at
  by_cases h0 : 0 < l
  · obtain ⟨b, off, rfl, hc⟩ := hh h0
    have := containsS_pos ns l b off k s w (by omega) h1 hc
    rwa [List.take_of_length_le (by omega)] at this
  · obtain rfl : l = 0 := by omega
    rw [List.length_eq_zero_iff.1 hl]
    exact containsS_nil q k s w
theorem strs_slice {w : World} {v : Value} {ns : List ByteArray} (h : StrsV w v ns) : ∃ q l k, v = .slice q l k := by
  obtain ⟨⟨p, c, rfl, _⟩⟩ := h
  exact ⟨p, _, c, rfl⟩
theorem forward_ok {xs : List RowR} {p : Option Addr} {n c : Nat} {w : World} (m : Nat) (hx : RowsV w (.slice p n c) xs) (h1 : n < 20) :
    Calls Tryz.prog 32 #[.slice p n c, .int .i64 (m : Int)] w fun e w' => ∃ q l k, e = .returned (.slice q l k) ∧ StrsV w' (.slice q l k) (thruB (xs.map bare) m) ∧ Gr w w' := by
  obtain ⟨hn, _, hh⟩ := hx.at
  by_cases h0 : 0 < n
  · obtain ⟨b, off, rfl, hc⟩ := hh h0
    refine (forward_pos xs n b off c m w hn h0 h1 hc).mono ?_
    rintro e w' ⟨v, rfl, hv, g⟩
    obtain ⟨q, l, k, rfl⟩ := strs_slice hv
    exact ⟨q, l, k, rfl, hv, g⟩
  · obtain rfl : n = 0 := by omega
    have hz : xs = [] := List.length_eq_zero_iff.1 hn
    subst hz
    refine (forward_0 p c m w).mono ?_
    rintro e w' ⟨v, rfl, hv, g⟩
    obtain ⟨q, l, k, rfl⟩ := strs_slice hv
    exact ⟨q, l, k, rfl, by rw [thruB_none (xs := []) rfl m]; exact hv, g⟩
theorem forwardS_ok {xs : List RowR} {p : Option Addr} {n c : Nat} {w : World} (m : Nat) (hx : RowsV w (.slice p n c) xs) (h1 : n < 20) (hV : ValidB (xs.map bare)) (hm : outE (m : Int) 0 160 = 0) :
    Calls Tryz.prog 15 #[.slice p n c, .int .i64 (m : Int)] w fun e w' => ∃ q l k, e = .returned (.tuple #[.slice q l k, .int .i64 0]) ∧ StrsV w' (.slice q l k) (thruB (xs.map bare) m) ∧ Gr w w' := by
  obtain ⟨hn, _, _⟩ := hx.at
  have HQ := Lib.hid (quota_ok hx hn hV (by omega) m hm)
  have HFw := Lib.hid (fun W (g : Gr w W) => forward_ok m (hx.gr g) h1)
  clear hx hn hV hm
  go_enter Tryz.func15, Tryz.ntmps15
  go_wp2_with fail
  refine HQ.out.mono ?_
  rintro e w1 ⟨rfl, g1⟩
  go_wp2_with fail
  refine (HFw.out _ g1).mono ?_
  rintro e w2 ⟨q, l, k, rfl, hv, g2⟩
  go_wp2_with fail
  exact bodyPost_ret (v := .tuple #[.slice q l k, .int .i64 0]) (by simp [results, Tryz.results15, go_sem]) rfl ⟨q, l, k, rfl, hv, g1.trans g2⟩
set_option maxHeartbeats 4000000 in
theorem replace_ok {xs : List RowR} {ns : List ByteArray} {p : Option Addr} {n c : Nat} {q : Option Addr} {l k0 : Nat} {w : World} (m : Nat) (hO : OutOK xs ns) (hx : RowsV w (.slice p n c) xs) (h1 : n < 20) (hV : ValidB (xs.map bare)) (ho : WordsV w (.slice q l k0) ns) (h2 : l ≤ 160) (hm : outE (m : Int) 0 160 = 0) :
    Calls Tryz.prog 10 #[.slice p n c, .int .i64 (m : Int), .slice q l k0] w fun e w' => ∃ q l k, e = .returned (.tuple #[.slice q l k, .int .i64 0]) ∧ StrsV w' (.slice q l k) (thruB ((rest ns xs).map bare) m) ∧ Gr w w' := by
  obtain ⟨i0, hi, hz0, hz1, hz2⟩ := info_parts infoRes
  obtain ⟨hn, _, hh⟩ := hx.at
  have hln := ho.at.1
  have HQ := Lib.hid (quota_ok hx hn hV (by omega) m hm)
  have HO := Lib.hid (fun W (g : Gr w W) => checkOut_ok hO (hx.gr g) hn (by omega) (ho.gr g) hln h2)
  have HFw := Lib.hid (fun (ys : List RowR) (p : Option Addr) (n c : Nat) (W : World) (hx : RowsV W (.slice p n c) ys) (h : n < 20) => forward_ok m hx h)
  have HCon := Lib.hid (fun W (g : Gr w W) s => containsW (ho.gr g) (by omega) s)
  have HF := Lib.hid (fun b cap W => first_pair 0 0 b cap W)
  have HFz : Hid (firstE [0, 0] = 0) := rfl
  have HX := Lib.hid (fun k (h : k < n) => (show ∃ x, xs[k]? = some x from ⟨xs[k]'(by omega), List.getElem?_eq_getElem _⟩))
  have HFl := Lib.hid (fun k => (show (rest ns (xs.take k)).length < 20 from by have := rest_le ns (xs.take k); rw [List.length_take] at this; omega))
  have HH := Lib.hid hh
  have HN := Lib.hid hn
  clear hx hn hV hm hO ho hh hln
  go_enter Tryz.func10, Tryz.ntmps10
  go_wp2_with fail
  refine HQ.out.mono ?_
  rintro e w1 ⟨rfl, g1⟩
  go_wp2_with fail
  refine (HO.out _ g1).mono ?_
  rintro e w2 ⟨rfl, g2⟩
  go_wp2_with fail
  refine (HF.out _ _ _ (by exact cell_new _ #[_, _] _ 0 (by simp)) (by exact cell_new _ #[_, _] _ 1 (by simp))).mono ?_
  rintro e w3 ⟨rfl, rfl⟩
  rw [HFz.out]
  have gg : Gr w (w2.alloc (.cells #[.int .i64 0, .int .i64 0] 28)) := (g1.trans g2).alloc _
  generalize w2.alloc (.cells #[.int .i64 0, .int .i64 0] 28) = W0 at *
  clear g1 g2
  go_wp2_with fail
  go_loopw [9, 25] (fun v i wr => ∃ k : Nat, k ≤ n ∧ i = .int .i64 k ∧ wr.ownsRow W0.heap.size 34 3 v (rest ns (xs.take k)).length (rowCs (rest ns (xs.take k))) ∧ Gr W0 wr) (fun _ i _ => n - (intOf i).toNat)
  case atStart => exact ⟨0, Nat.zero_le _, rfl, World.ownsRow_nil _ _ _ _, Gr.refl _⟩
  case round =>
    obtain ⟨k, hk, rfl, hown, hnx⟩ := hrel
    have hsize := hnx.size
    by_cases hkN : k < n
    · obtain ⟨x, hx⟩ := HX.out k hkN
      obtain ⟨b, off, rfl, hc⟩ := HH.out (by omega)
      obtain ⟨c0, c1, c2, hv, _⟩ := (hc k x hx).gr (gg.trans hnx)
      obtain ⟨⟨p', cap', hu, _⟩⟩ := hv
      rw [hu] at c2
      have HQ := Lib.hid (rest_take (ns := ns) hx)
      have HL := Lib.hid (HFl.out k)
      have HRc := Lib.hid (rowCs_len (rest ns (xs.take k)))
      have hi2 : (k : Int) < n := by omega
      have gz := ((Gr.refl wr).alloc (.cells #[.string x.nm, .string x.st, .slice p' x.xs.length cap'] 34))
      have HCx := Lib.hid (HCon.out _ ((gg.trans hnx).trans gz) x.nm)
      have HOW := Lib.hid (fun W (g : Gr wr W) => own_gr hown g)
      have HGZ := Lib.hid gz
      cases hh : hasS ns x.nm
      · rw [hh] at HCx
        have HQ2 := Lib.hid (show rest ns (xs.take (k + 1)) = rest ns (xs.take k) ++ [x] from by
          have := HQ.out; rw [hh] at this; simpa using this)
        have HQ3 := Lib.hid (show rowCs (rest ns (xs.take k) ++ [x]) = rowCs (rest ns (xs.take k)) ++ [.string x.nm, .string x.st, .slice p' x.xs.length cap'] from by rw [rowCs_add]; unfold rowC; rw [hu])
        have HQ4 := Lib.hid (show (rest ns (xs.take k) ++ [x]).length = (rest ns (xs.take k)).length + 1 from by simp)
        have hl20 := HL.out
        clear hown hx hh hu hc gz
        generalize (rest ns (xs.take k)).length = z at *
        go_wp2_with (first
          | (refine HCx.out.mono ?_; rintro e w4 ⟨rfl, rfl⟩)
          | (at_builtin; refine wpList_append_own _ rfl _ _ 22 rfl W0.heap.size 34 i0 (.agg #[.string ⟨#[]⟩, .string ⟨#[]⟩, .slice none 0 0]) 3 56 Tryz.underlying22 hi hz0 hz1 hz2 rfl (by decide) _ _ _ rfl ((HOW.out _ HGZ.out).alloc _) ⟨wr.heap.size + 1, 0, none⟩ 1 1 [.string x.nm, .string x.st, .slice p' x.xs.length cap'] rfl rfl (cell_three_sz _ _ (by simp) _ _ _ _) (by intro u hu; simp at hu; rcases hu with rfl | rfl | rfl <;> rfl) (by unfold maxLen; omega) (by omega) (by simp; omega) ?_; intro v1 w1 hown1 hgrow1 hnil1))
        go_roundw
        case rel =>
          exact ⟨k + 1, by omega, by go_num, by rw [HQ2.out, HQ3.out, HQ4.out]; exact hown1, Below.grown ((hnx.trans HGZ.out).alloc _) hgrow1 (by simp; omega) (fun j hj => ((HOW.out _ HGZ.out).lt j hj).1)⟩
        case measure => simp [intOf]; omega
      · rw [hh] at HCx
        have HQ2 := Lib.hid (show rest ns (xs.take (k + 1)) = rest ns (xs.take k) from by
          have := HQ.out; rw [hh] at this; simpa using this)
        clear hown hx hh hu hc gz
        go_wp2_with (refine HCx.out.mono ?_; rintro e w4 ⟨rfl, rfl⟩)
        go_roundw
        case rel => exact ⟨k + 1, by omega, by go_num, by rw [HQ2.out]; exact HOW.out _ HGZ.out, hnx.trans HGZ.out⟩
        case measure => simp [intOf]; omega
    · obtain rfl : k = n := by omega
      rw [List.take_of_length_le (by have := HN.out; omega)] at hown
      have hlr : (rest ns xs).length < 20 := by have := HFl.out k; rwa [List.take_of_length_le (by have := HN.out; omega)] at this
      obtain ⟨p2, c2, rfl, hrows⟩ := rowsV_owns hown rfl (fun x hx => by
        have hmem : x ∈ xs := (List.mem_filter.1 hx).1
        obtain ⟨j, hj⟩ := List.mem_iff_getElem?.1 hmem
        have hjl := (List.getElem?_eq_some_iff.1 hj).1
        obtain ⟨b, off, _, hc⟩ := HH.out (by have := HN.out; omega)
        have := hc j x hj
        exact ⟨this.val.gr (gg.trans hnx), this.len⟩)
      have HT := Lib.hid (HFw.out _ _ _ _ _ hrows hlr)
      clear hown hrows hlr
      go_wp2_with fail
      refine HT.out.mono ?_
      rintro e w5 ⟨q5, l5, k5, rfl, hv5, g5⟩
      go_wp2_with fail
      exact bodyPost_ret (v := .tuple #[.slice q5 l5 k5, .int .i64 0]) (by simp [results, Tryz.results10, go_sem]) rfl ⟨q5, l5, k5, rfl, hv5, gg.trans (hnx.trans g5)⟩
end Go.Proofs.YtebnbjaaogfikaaGreatDoor
namespace Go.Proofs.YtebnbjaaogfikaaGreatDoor
open Go.RowKit Go.Lib
set_option linter.unusedSimpArgs false
set_option linter.unusedVariables false
/-- the three cells of a result at a place, and its values, however many -/
structure Row0 (w : World) (b off : Nat) (x : RowR) : Prop where
  nm : w.cell? ⟨b, off, none⟩ = some (.string x.nm)
  st : w.cell? ⟨b, off + 1, none⟩ = some (.string x.st)
  u : w.cell? ⟨b, off + 2, none⟩ = some x.u
  val : IntsV w x.u x.xs
theorem Row0.at {w : World} {b off : Nat} {x : RowR} (h : Row0 w b off x) (hl : x.xs.length ≤ 1000) : RowAt w b off x := ⟨h.nm, h.st, h.u, h.val, hl⟩
theorem Row0.gr {w w' : World} {b off : Nat} {x : RowR} (h : Row0 w b off x) (k : Gr w w') : Row0 w' b off x := ⟨k.cell h.nm, k.cell h.st, k.cell h.u, h.val.gr k⟩
end Go.Proofs.YtebnbjaaogfikaaGreatDoor
namespace Go.Proofs.YtebnbjaaogfikaaGreatDoor
open Go.RowKit Go.Lib
set_option linter.unusedSimpArgs false
set_option linter.unusedVariables false
inductive ShortS (c s : ByteArray) (n : Nat) : Prop where
  | name (h : 40 < c.size)
  | state (h : c.size ≤ 40) (h2 : 20 < s.size)
  | values (h : c.size ≤ 40) (h2 : s.size ≤ 20) (h3 : 10 < n)
  | yes (h : c.size ≤ 40) (h2 : s.size ≤ 20) (h3 : n ≤ 10)
theorem shortS (c s : ByteArray) (n : Nat) : ShortS c s n := by
  rcases Nat.lt_or_ge 40 c.size with h | h
  · exact .name h
  rcases Nat.lt_or_ge 20 s.size with h2 | h2
  · exact .state h h2
  rcases Nat.lt_or_ge 10 n with h3 | h3
  · exact .values h h2 h3
  · exact .yes h h2 h3
/-- what ShortResults returns -/
structure ShoRet (e : Ending) (xs : List RowR) : Prop where
  out : ∃ r, e = .returned (.bool r) ∧ (r = true → ∀ x ∈ xs, x.xs.length ≤ 10)
set_option maxHeartbeats 1000000 in
set_option maxRecDepth 100000 in
theorem shortRs_pos (xs : List RowR) (n b off cap : Nat) (m : Int) (w : World) (hn : xs.length = n) (hnm : n ≤ maxLen) (hc : ∀ i x, xs[i]? = some x → Row0 w b (off + i * 3) x) :
    Calls Tryz.prog 11 #[.slice (some ⟨b, off, none⟩) n cap, .int .i64 m] w fun e w' => ShoRet e xs ∧ w = w' := by
  have HX := Lib.hid (fun k (h : k < n) => (show ∃ x, xs[k]? = some x from ⟨xs[k]'(by omega), List.getElem?_eq_getElem _⟩))
  have HC := Lib.hid hc
  have HN := Lib.hid hn
  unfold maxLen at hnm
  clear hc hn
  have hA : (decide (m < (n : Int)) = true ∧ decide ((n : Int) ≤ 160) = true) ∨ (decide (m < (n : Int)) = true ∧ decide ((n : Int) ≤ 160) = false ∧ decide ((162 : Int) < n) = true) ∨ (decide (m < (n : Int)) = false ∧ decide ((162 : Int) < n) = true) ∨ (decide (m < (n : Int)) = true ∧ decide ((n : Int) ≤ 160) = false ∧ decide ((162 : Int) < n) = false) ∨ (decide (m < (n : Int)) = false ∧ decide ((162 : Int) < n) = false) := by
    cases h1 : decide (m < (n : Int)) <;> cases h2 : decide ((n : Int) ≤ 160) <;> cases h3 : decide ((162 : Int) < n) <;> simp
  rcases hA with ⟨h1, h2⟩ | ⟨h1, h2, h3⟩ | ⟨h1, h3⟩ | ⟨h1, h2, h3⟩ | ⟨h1, h3⟩
  iterate 3
    · go_enter Tryz.func11, Tryz.ntmps11
      go_wp2_with fail
      go_ret
      exact ⟨⟨false, rfl, fun h => (by cases h)⟩, rfl⟩
  all_goals
    go_enter Tryz.func11, Tryz.ntmps11
    go_wp2_with fail
    go_loopg [5] n (fun gk s5 wr => ∃ i : Nat, s5 = .int .i64 i ∧ gk + i = n ∧ wr = w ∧ Hid (∀ (j : Nat) (x : RowR), j < i → xs[j]? = some x → x.xs.length ≤ 10))
    case atStart => exact ⟨0, rfl, by omega, rfl, fun j x h => absurd h (Nat.not_lt_zero _)⟩
    case round =>
      obtain ⟨i, rfl, hi, rfl, HF⟩ := hrel
      by_cases hlt : i < n
      · obtain ⟨x, hx⟩ := HX.out i hlt
        obtain ⟨c0, c1, c2, hv⟩ := HC.out i x hx
        obtain ⟨⟨pu, cu, hu, _⟩⟩ := hv
        rw [hu] at c2
        have hr := shortS x.nm x.st x.xs.length
        have hi2 : (i : Int) < n := by omega
        have HNX := Lib.hid (fun (h : x.xs.length ≤ 10) (j : Nat) (y : RowR) (hj : j < i + 1) (hy : xs[j]? = some y) => (show y.xs.length ≤ 10 from by
          by_cases hji : j = i
          · subst hji; rw [hx] at hy; cases hy; exact h
          · exact HF.out j y (by omega) hy))
        clear hx hu
        cases hr with
        | name h =>
          go_wp2_with fail
          go_ret
          exact ⟨⟨false, rfl, fun h => (by cases h)⟩, rfl⟩
        | state h h2 =>
          go_wp2_with fail
          go_ret
          exact ⟨⟨false, rfl, fun h => (by cases h)⟩, rfl⟩
        | values h h2 h3 =>
          go_wp2_with fail
          go_ret
          exact ⟨⟨false, rfl, fun h => (by cases h)⟩, rfl⟩
        | yes h h2 h3 =>
          go_wp2_with fail
          go_roundg (gk - 1)
          case measure => omega
          case rel => exact ⟨i + 1, by go_num, by omega, rfl, fun j y hj hy => HNX.out h3 j y hj hy⟩
      · obtain rfl : i = n := by omega
        go_wp2_with fail
        go_ret
        refine ⟨⟨true, rfl, fun _ x hx => ?_⟩, rfl⟩
        obtain ⟨j, hj⟩ := List.mem_iff_getElem?.1 hx
        have := (List.getElem?_eq_some_iff.1 hj).1
        have hN := HN.out
        exact HF.out j x (by omega) hj
theorem shortRs_nil (p : Option Addr) (cap : Nat) (m : Int) (hm : 0 ≤ m) (w : World) :
    Calls Tryz.prog 11 #[.slice p 0 cap, .int .i64 m] w fun e w' => e = .returned (.bool true) ∧ w = w' := by
  have h1 : decide (m < (0 : Int)) = false := decide_eq_false (by omega)
  go_enter Tryz.func11, Tryz.ntmps11
  go_wp2_with fail
  refine wp_loop_rounds 2 ?_
  rw [rounds_succ]
  go_wp2_with fail
  go_ret
  exact ⟨rfl, rfl⟩
theorem dupR_step {xs : List RowR} {k : Nat} {y : RowR} (h : xs[k]? = some y) (s : ByteArray) : dupR xs (k + 1) s = (dupR xs k s || (y.nm.toList == s.toList)) := by
  unfold dupR; rw [List.take_add_one, h]; simp
/-- what CheckOut returns -/
structure OutRet (e : Ending) (xs : List RowR) (ns : List ByteArray) : Prop where
  out : ∃ z : Int, e = .returned (.int .i64 z) ∧ (z = 0 → OutOK xs ns)
set_option maxHeartbeats 2000000 in
set_option maxRecDepth 100000 in
theorem refOut_c {xs : List RowR} {ns : List ByteArray} {p : Option Addr} {N c : Nat} {q : Option Addr} {n k0 : Nat} {w : World} (hx : RowsV w (.slice p N c) xs) (ho : WordsV w (.slice q n k0) ns) (h1 : N ≤ 160) (h2 : n ≤ 160) :
    Calls Tryz.prog 5 #[.slice p N c, .slice q n k0] w fun e w' => OutRet e xs ns ∧ Gr w w' := by
  obtain ⟨hN, _, hh⟩ := hx.at
  obtain ⟨hn, _, hw⟩ := ho.at
  have HX := Lib.hid (fun k (h : k < N) => (show ∃ x, xs[k]? = some x from ⟨xs[k]'(by omega), List.getElem?_eq_getElem _⟩))
  have HS := Lib.hid (fun k (h : k < n) => (show ∃ x, ns[k]? = some x from ⟨ns[k]'(by omega), List.getElem?_eq_getElem _⟩))
  have HH := Lib.hid hh
  have HW := Lib.hid hw
  have HNn := Lib.hid hn
  have HNN := Lib.hid hN
  have hz2 : decide ((160 : Int) < n) = false := decide_eq_false (by omega)
  clear hh hw hn hN hx ho
  go_enter Tryz.func5, Tryz.ntmps5
  go_wp2_with fail
  go_loopg [5] n (fun gk s5 wr => ∃ i : Nat, s5 = .int .i64 i ∧ gk + i = n ∧ Gr w wr ∧ Hid (∀ (j : Nat) (s : ByteArray), j < i → ns[j]? = some s → dupR xs N s = true ∧ hasS (ns.take j) s = false))
  case atStart => exact ⟨0, rfl, by omega, Gr.refl _, fun j s h => absurd h (Nat.not_lt_zero _)⟩
  case round =>
    obtain ⟨i, rfl, hi, hg, HF⟩ := hrel
    obtain ⟨gO, rfl⟩ : ∃ q, q = gk := ⟨gk, rfl⟩
    by_cases hlt : i < n
    · obtain ⟨s, hs⟩ := HS.out i hlt
      obtain ⟨b, off, rfl, hc⟩ := HW.out (by omega)
      have HSs := Lib.hid hs
      have HCs := Lib.hid hc
      have hi2 : (i : Int) < n := by omega
      clear hs hc
      go_wp2_with fail
      go_loopg [6, 7] N (fun g2 s6 s7 wr2 => ∃ k : Nat, s7 = .int .i64 k ∧ s6 = .bool (dupR xs k s) ∧ g2 + k = N ∧ Gr w wr2)
      case atStart => exact ⟨0, rfl, by simp [dupR], by omega, hg⟩
      case round =>
        obtain ⟨k, rfl, rfl, hk, hg2⟩ := hrel
        by_cases hkN : k < N
        · obtain ⟨y, hy⟩ := HX.out k hkN
          obtain ⟨b1, off1, rfl, hc1⟩ := HH.out (by omega)
          have d0 := ((hc1 k y hy).gr hg2).nm
          have e0 := hg2.cell (HCs.out i s HSs.out)
          have hk2 : (k : Int) < N := by omega
          have hdp := dupR_step hy s
          cases hd : dupR xs k s
          · rw [hd, Bool.false_or] at hdp
            cases e2 : (y.nm.toList == s.toList)
            all_goals
              rw [e2] at hdp
              have HD2 := Lib.hid hdp
              clear hdp hy hc1
              go_wp2_with fail
              go_big_quiet (fail)
              go_wp2_with fail
              go_roundg (gk - 1)
              case measure => omega
              case rel => exact ⟨k + 1, by go_num, by rw [HD2.out], by omega, hg2.drewN _⟩
          · rw [hd, Bool.true_or] at hdp
            have HD2 := Lib.hid hdp
            clear hdp hy hc1
            go_wp2_with fail
            go_big_quiet (fail)
            go_wp2_with fail
            go_roundg (gk - 1)
            case measure => omega
            case rel => exact ⟨k + 1, by go_num, by rw [HD2.out], by omega, hg2.drewN _⟩
        · have hkN2 : k = N := by omega
          have hk3 : ¬ (k : Int) < N := by omega
          cases hd : dupR xs k s
          · go_wp2_with fail
            go_ret
            exact ⟨⟨10, rfl, fun h => absurd h (by omega)⟩, hg2⟩
          · rw [hkN2] at hd
            have HD := Lib.hid hd
            clear hd
            go_wp2_with fail
            go_loopg [8] i (fun g3 s8 wr3 => ∃ j : Nat, s8 = .int .i64 j ∧ g3 + j = i ∧ Gr w wr3 ∧ Hid (hasS (ns.take j) s = false))
            case atStart => exact ⟨0, rfl, by omega, hg2, by simp [Hid, hasS]⟩
            case round =>
              obtain ⟨j, rfl, hj, hg3, HA⟩ := hrel
              by_cases hji : j < i
              · obtain ⟨t, ht⟩ := HS.out j (by omega)
                have d0 := hg3.cell (HCs.out j t ht)
                have d1 := hg3.cell (HCs.out i s HSs.out)
                have hj2 : (j : Int) < i := by omega
                have hj3 : (j : Int) < n := by omega
                have hst := hasS_succ ht s
                rw [HA.out, Bool.false_or] at hst
                clear ht
                cases e2 : (t.toList == s.toList)
                · have hb : (s.toList == t.toList) = false := beq_eq_false_iff_ne.2 (fun e => (beq_eq_false_iff_ne.1 e2) e.symm)
                  rw [hb] at hst
                  have HST := Lib.hid hst
                  clear hst hb
                  go_wp2_with fail
                  go_big_quiet (fail)
                  go_wp2_with fail
                  go_roundg (gk - 1)
                  case measure => omega
                  case rel => exact ⟨j + 1, by go_num, by omega, hg3.drewN _, HST⟩
                · clear hst
                  go_wp2_with fail
                  go_big_quiet (fail)
                  go_wp2_with fail
                  go_ret
                  exact ⟨⟨9, rfl, fun h => absurd h (by omega)⟩, hg3.drewN _⟩
              · have hji2 : j = i := by omega
                have hj3 : ¬ (j : Int) < i := by omega
                go_wp2_with fail
                go_roundg (gO - 1)
                case measure => omega
                case rel => exact ⟨i + 1, by go_num, by omega, hg3, fun j' s' hj' hs' => by
                  by_cases h : j' = i
                  · subst h
                    have := HSs.out
                    rw [this] at hs'
                    cases hs'
                    subst hji2
                    exact ⟨HD.out, HA.out⟩
                  · exact HF.out j' s' (by omega) hs'⟩
    · have hin : i = n := by omega
      have hi2 : ¬ (i : Int) < n := by omega
      go_wp2_with fail
      go_ret
      refine ⟨⟨0, rfl, fun _ => ⟨fun s hs => ?_, fun j s hs => ?_⟩⟩, hg⟩
      · obtain ⟨j, hj⟩ := List.mem_iff_getElem?.1 hs
        have hjl := (List.getElem?_eq_some_iff.1 hj).1
        have := HNn.out
        rw [HNN.out]
        exact (HF.out j s (by omega) hj).1
      · have hjl := (List.getElem?_eq_some_iff.1 hs).1
        have := HNn.out
        exact (HF.out j s (by omega) hs).2
end Go.Proofs.YtebnbjaaogfikaaGreatDoor
