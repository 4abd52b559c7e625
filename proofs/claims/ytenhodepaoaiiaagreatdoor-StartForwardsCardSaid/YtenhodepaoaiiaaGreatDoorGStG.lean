/- Who goes on (chapter 6): those who are out pass the checks. -/
import Derived.Test.YtenhodepaoaiiaaGreatDoorGRoC
import Derived.Test.YtenhodepaoaiiaaGreatDoorStF
namespace Go.Proofs.YtenhodepaoaiiaaGreatDoor
open Go.RowKit Go.Lib
set_option linter.unusedSimpArgs false
set_option linter.unusedVariables false
set_option maxHeartbeats 2000000
set_option maxRecDepth 100000
theorem box11 (w : World) (a0 b0 : Value) (T U : Nat) : ∃ W, (w.alloc (.cells #[a0] T)).alloc (.cells #[b0] U) = W ∧ Gr w W ∧ W.cell? ⟨w.heap.size, 0, none⟩ = some a0 ∧ W.cell? ⟨w.heap.size + 1, 0, none⟩ = some b0 := by
  obtain ⟨W1, h1, g1, p0⟩ := box1 w a0 T
  obtain ⟨W2, h2, g2, q0⟩ := box1 W1 b0 U
  have hs : W1.heap.size = w.heap.size + 1 := by rw [← h1, World.size_alloc]
  rw [hs] at q0
  exact ⟨W2, by rw [h1, h2], g1.trans g2, g2.cell p0, q0⟩
/-- words in a list -/
structure WordsV (w : World) (v : Value) (ns : List ByteArray) : Prop where
  mk' ::
  out : ∃ p cap, v = .slice p ns.length cap ∧ (ns.length ≤ cap ∧ cap ≤ maxLen) ∧ (0 < ns.length → ∃ b off, p = some ⟨b, off, none⟩ ∧ ∀ i t, ns[i]? = some t → w.cell? ⟨b, off + i, none⟩ = some (.string t))
theorem WordsV.gr {w w' : World} {v : Value} {ns : List ByteArray} (h : WordsV w v ns) (k : Gr w w') : WordsV w' v ns := by
  obtain ⟨⟨p, cap, rfl, hcap, hh⟩⟩ := h
  refine ⟨p, cap, rfl, hcap, fun h0 => ?_⟩
  obtain ⟨b, off, h1, h2⟩ := hh h0
  exact ⟨b, off, h1, fun i x hx => k.cell (h2 i x hx)⟩
/-- those who are out have results and are apart -/
structure OutOK (xs : List RowR) (ns : List ByteArray) : Prop where
  has : ∀ s ∈ ns, dupR xs xs.length s = true
  apart : ∀ j s, ns[j]? = some s → hasS (ns.take j) s = false
theorem twiceS_ok (ns : List ByteArray) (n b off cap j : Nat) (s : ByteArray) (w : World) (hn : ns.length = n) (h1 : n ≤ 160) (hcap : n ≤ cap) (hmx : cap ≤ maxLen) (hs : ns[j]? = some s) (hno : hasS (ns.take j) s = false) (hc : ∀ i t, ns[i]? = some t → w.cell? ⟨b, off + i, none⟩ = some (.string t)) :
    Calls Tryz.prog 95 #[.slice (some ⟨b, off, none⟩) n cap, .int .i64 j] w fun e w' => e = .returned (.int .i64 0) ∧ Gr w w' := by
  have hjn := (List.getElem?_eq_some_iff.1 hs).1
  have HI := Lib.hid (fun (n : Int) (W : World) => (show Calls Tryz.prog 42 #[.bool false, .int .i64 n] W fun e w' => e = .returned (.int .i64 0) ∧ W = w' from by simpa using if_c false n W))
  have HC := Lib.hid (fun (W : World) (g : Gr w W) => containsS_pos ns j b off cap s W (by omega) (by omega) (fun i t ht => g.cell (hc i t ht)))
  rw [hno] at HC
  have hs0 := hc j s hs
  have hj1 : (j : Int) ≤ cap := by omega
  have hj0 : (0 : Int) ≤ j := by omega
  have hj2 : (j : Int) < n := by omega
  clear hc hs hno hn
  go_enter Tryz.func95, Tryz.ntmps95
  go_wp2_with fail
  have g := (Gr.refl w).drew
  have c0 := g.cell hs0
  refine wp_region_held_drew (S := (fun w' => w'.cell? ⟨b, off + j, none⟩ = some (.string s))) (by kernel_rfl) c0 (fun hHeld => ?_)
  generalize w.drew = V at *
  refine wpAnyH_take (i := 0) (v := (.slice (some ⟨b, off, none⟩) n cap)) (op_at rfl) (by kernel_rfl) (by kernel_rfl) (by kernel_rfl) (fun _ _ _ h => h) (Or.inl ⟨rfl, fun w hSw => ?_⟩) (by assumption) ?_
  · (try dsimp only at hSw); go_simp; try with_reducible rfl
  (try simp only [Act.put, List.setIfInBounds_toArray, List.set_cons_zero, List.set_cons_succ])
  refine wpAnyH_take (i := 1) (v := (.int .i64 j)) (op_at rfl) (by kernel_rfl) (by kernel_rfl) (by kernel_rfl) (fun _ _ _ h => h) (Or.inl ⟨rfl, fun w hSw => ?_⟩) (by assumption) ?_
  · (try dsimp only at hSw); go_simp; try with_reducible rfl
  (try simp only [Act.put, List.setIfInBounds_toArray, List.set_cons_zero, List.set_cons_succ])
  refine wpAnyH_take (i := 2) (v := (.slice (some ⟨b, off, none⟩) j cap)) (op_at rfl) (by kernel_rfl) (by kernel_rfl) (by kernel_rfl) (fun _ _ _ h => h) (Or.inl ⟨rfl, fun w hSw => ?_⟩) (by assumption) ?_
  · (try dsimp only at hSw); go_simp; try with_reducible rfl
  (try simp only [Act.put, List.setIfInBounds_toArray, List.set_cons_zero, List.set_cons_succ])
  refine wpAnyH_take (i := 3) (v := (.slice (some ⟨b, off, none⟩) n cap)) (op_at rfl) (by kernel_rfl) (by kernel_rfl) (by kernel_rfl) (fun _ _ _ h => h) (Or.inl ⟨rfl, fun w hSw => ?_⟩) (by assumption) ?_
  · (try dsimp only at hSw); go_simp; try with_reducible rfl
  (try simp only [Act.put, List.setIfInBounds_toArray, List.set_cons_zero, List.set_cons_succ])
  refine wpAnyH_take (i := 4) (v := (.int .i64 j)) (op_at rfl) (by kernel_rfl) (by kernel_rfl) (by kernel_rfl) (fun _ _ _ h => h) (Or.inl ⟨rfl, fun w hSw => ?_⟩) (by assumption) ?_
  · (try dsimp only at hSw); go_simp; try with_reducible rfl
  (try simp only [Act.put, List.setIfInBounds_toArray, List.set_cons_zero, List.set_cons_succ])
  refine wpAnyH_take (i := 5) (v := (.pointer (some ⟨b, off + j, none⟩))) (op_at rfl) (by kernel_rfl) (by kernel_rfl) (by kernel_rfl) (fun _ _ _ h => h) (Or.inl ⟨rfl, fun w hSw => ?_⟩) (by assumption) ?_
  · (try dsimp only at hSw); go_simp; try with_reducible rfl
  (try simp only [Act.put, List.setIfInBounds_toArray, List.set_cons_zero, List.set_cons_succ])
  refine wpAnyH_take (i := 6) (v := (.string s)) (op_at rfl) (by kernel_rfl) (by kernel_rfl) (by kernel_rfl) (fun _ _ _ h => h) (Or.inl ⟨rfl, fun w hSw => ?_⟩) (by assumption) ?_
  · (try dsimp only at hSw); go_simp; try with_reducible rfl
  (try simp only [Act.put, List.setIfInBounds_toArray, List.set_cons_zero, List.set_cons_succ])
  refine wpAnyH_ready (rs := [7]) (by kernel_rfl) (by simp) (AllReadyH.cons (op_at rfl) (fun K hK => ?_) AllReadyH.nil)
  go_simp
  (refine (HC.out _ g).mono ?_; rintro e w' ⟨rfl, rfl⟩)
  go_wp2_with fail
  refine hK.out _ _ c0 (fun hHeld => ?_)
  clear hK K
  (try simp only [Act.put, List.setIfInBounds_toArray, List.set_cons_zero, List.set_cons_succ])
  refine wpAnyH_ready (rs := [8]) (by kernel_rfl) (by simp) (AllReadyH.cons (op_at rfl) (fun K hK => ?_) AllReadyH.nil)
  go_simp
  (refine (HI.out 9 _).mono ?_; rintro e w' ⟨rfl, rfl⟩)
  go_wp2_with fail
  refine hK.out _ _ c0 (fun hHeld => ?_)
  clear hK K
  (try simp only [Act.put, List.setIfInBounds_toArray, List.set_cons_zero, List.set_cons_succ])
  refine wpAnyH_take (i := 9) (v := (.int .i64 0)) (op_at rfl) (by kernel_rfl) (by kernel_rfl) (by kernel_rfl) (fun _ _ _ h => h) (Or.inl ⟨rfl, fun w hSw => ?_⟩) (by assumption) ?_
  · (try dsimp only at hSw); go_simp; try with_reducible rfl
  (try simp only [Act.put, List.setIfInBounds_toArray, List.set_cons_zero, List.set_cons_succ])
  refine wpAnyH_done (by kernel_rfl) ?_ _
  go_wp2_with fail
  go_ret
  exact ⟨rfl, g⟩
theorem oneOut_ok {xs : List RowR} {ns : List ByteArray} {n1 b1 off1 cap1 n b off cap j L1 L2 : Nat} {s : ByteArray} {w : World} (hO : OutOK xs ns) (hn1 : xs.length = n1) (h11 : n1 ≤ 160) (hn : ns.length = n) (h1 : n ≤ 160) (hcap : n ≤ cap) (hmx : cap ≤ maxLen) (hs : ns[j]? = some s) (hc1 : ∀ i x, xs[i]? = some x → RowAt w b1 (off1 + i * 3) x) (hc : ∀ i t, ns[i]? = some t → w.cell? ⟨b, off + i, none⟩ = some (.string t)) (hL1 : w.cell? ⟨L1, 0, none⟩ = some (.slice (some ⟨b1, off1, none⟩) n1 cap1)) (hL2 : w.cell? ⟨L2, 0, none⟩ = some (.slice (some ⟨b, off, none⟩) n cap)) :
    Calls Tryz.prog 94 #[.int .i64 j, .string s, .pointer (some ⟨L1, 0, none⟩), .pointer (some ⟨L2, 0, none⟩)] w fun e w' => e = .returned (.int .i64 0) ∧ Gr w w' := by
  have HI := Lib.hid (fun (n : Int) (W : World) => (show Calls Tryz.prog 42 #[.bool false, .int .i64 n] W fun e w' => e = .returned (.int .i64 0) ∧ W = w' from by simpa using if_c false n W))
  have HD := Lib.hid (fun (W : World) (g : Gr w W) => hasResult_pos xs n1 b1 off1 cap1 s W (by omega) (by omega) (fun i x hx => (hc1 i x hx).gr g))
  rw [← hn1, hO.has s (List.mem_of_getElem? hs), hn1] at HD
  have HT := Lib.hid (fun (W : World) (g : Gr w W) => twiceS_ok ns n b off cap j s W hn h1 hcap hmx hs (hO.apart j s hs) (fun i t ht => g.cell (hc i t ht)))
  have HF := Lib.hid (fun b cap W => first_pair 0 0 b cap W)
  have HFz : Hid (firstE [0, 0] = 0) := rfl
  clear hc1 hc hO hs
  go_enter Tryz.func94, Tryz.ntmps94
  go_wp2_with fail
  have g := (Gr.refl w).drew
  have l1 := g.cell hL1
  have l2 := g.cell hL2
  refine wp_region_held_drew (S := (fun w' => w'.cell? ⟨L1, 0, none⟩ = some (.slice (some ⟨b1, off1, none⟩) n1 cap1) ∧ w'.cell? ⟨L2, 0, none⟩ = some (.slice (some ⟨b, off, none⟩) n cap))) (by kernel_rfl) ⟨l1, l2⟩ (fun hHeld => ?_)
  generalize w.drew = V at *
  refine wpAnyH_take (i := 0) (v := (.slice (some ⟨b1, off1, none⟩) n1 cap1)) (op_at rfl) (by kernel_rfl) (by kernel_rfl) (by kernel_rfl) (fun _ _ _ h => h) (Or.inl ⟨rfl, fun w hSw => ?_⟩) (by assumption) ?_
  · (try dsimp only at hSw); go_simp; try with_reducible rfl
  (try simp only [Act.put, List.setIfInBounds_toArray, List.set_cons_zero, List.set_cons_succ])
  refine wpAnyH_take (i := 1) (v := (.string s)) (op_at rfl) (by kernel_rfl) (by kernel_rfl) (by kernel_rfl) (fun _ _ _ h => h) (Or.inl ⟨rfl, fun w hSw => ?_⟩) (by assumption) ?_
  · (try dsimp only at hSw); go_simp; try with_reducible rfl
  (try simp only [Act.put, List.setIfInBounds_toArray, List.set_cons_zero, List.set_cons_succ])
  refine wpAnyH_take (i := 5) (v := (.slice (some ⟨b, off, none⟩) n cap)) (op_at rfl) (by kernel_rfl) (by kernel_rfl) (by kernel_rfl) (fun _ _ _ h => h) (Or.inl ⟨rfl, fun w hSw => ?_⟩) (by assumption) ?_
  · (try dsimp only at hSw); go_simp; try with_reducible rfl
  (try simp only [Act.put, List.setIfInBounds_toArray, List.set_cons_zero, List.set_cons_succ])
  refine wpAnyH_take (i := 6) (v := (.int .i64 j)) (op_at rfl) (by kernel_rfl) (by kernel_rfl) (by kernel_rfl) (fun _ _ _ h => h) (Or.inl ⟨rfl, fun w hSw => ?_⟩) (by assumption) ?_
  · (try dsimp only at hSw); go_simp; try with_reducible rfl
  (try simp only [Act.put, List.setIfInBounds_toArray, List.set_cons_zero, List.set_cons_succ])
  refine wpAnyH_ready (rs := [2]) (by kernel_rfl) (by simp) (AllReadyH.cons (op_at rfl) (fun K hK => ?_) AllReadyH.nil)
  go_simp
  (refine (HD.out _ g).mono ?_; rintro e W5 ⟨rfl, hg⟩; replace l1 := hg.cell l1; replace l2 := hg.cell l2; replace g := g.trans hg; clear hg)
  go_wp2_with fail
  refine hK.out _ _ ⟨l1, l2⟩ (fun hHeld => ?_)
  clear hK K
  (try simp only [Act.put, List.setIfInBounds_toArray, List.set_cons_zero, List.set_cons_succ])
  refine wpAnyH_take (i := 3) (v := (.bool false)) (op_at rfl) (by kernel_rfl) (by kernel_rfl) (by kernel_rfl) (fun _ _ _ h => h) (Or.inl ⟨rfl, fun w hSw => ?_⟩) (by assumption) ?_
  · (try dsimp only at hSw); go_simp; try with_reducible rfl
  (try simp only [Act.put, List.setIfInBounds_toArray, List.set_cons_zero, List.set_cons_succ])
  refine wpAnyH_ready (rs := [4]) (by kernel_rfl) (by simp) (AllReadyH.cons (op_at rfl) (fun K hK => ?_) AllReadyH.nil)
  go_simp
  (refine (HI.out 10 _).mono ?_; rintro e w' ⟨rfl, rfl⟩)
  go_wp2_with fail
  refine hK.out _ _ ⟨l1, l2⟩ (fun hHeld => ?_)
  clear hK K
  (try simp only [Act.put, List.setIfInBounds_toArray, List.set_cons_zero, List.set_cons_succ])
  refine wpAnyH_ready (rs := [7]) (by kernel_rfl) (by simp) (AllReadyH.cons (op_at rfl) (fun K hK => ?_) AllReadyH.nil)
  go_simp
  (refine (HT.out _ g).mono ?_; rintro e W6 ⟨rfl, hg⟩; replace l1 := hg.cell l1; replace l2 := hg.cell l2; replace g := g.trans hg; clear hg)
  go_wp2_with fail
  refine hK.out _ _ ⟨l1, l2⟩ (fun hHeld => ?_)
  clear hK K
  (try simp only [Act.put, List.setIfInBounds_toArray, List.set_cons_zero, List.set_cons_succ])
  refine wpAnyH_ready (rs := [8]) (by kernel_rfl) (by simp) (AllReadyH.cons (op_at rfl) (fun K hK => ?_) AllReadyH.nil)
  go_simp
  obtain ⟨W3, hW3, g3, s0, s1⟩ := box2 W6 (.int .i64 0) (.int .i64 0) 27
  rw [hW3]
  clear hW3
  replace l1 := g3.cell l1
  replace l2 := g3.cell l2
  replace g := g.trans g3
  refine hK.out _ _ ⟨l1, l2⟩ (fun hHeld => ?_)
  clear hK K
  (try simp only [Act.put, List.setIfInBounds_toArray, List.set_cons_zero, List.set_cons_succ])
  refine wpAnyH_ready (rs := [9]) (by kernel_rfl) (by simp) (AllReadyH.cons (op_at rfl) (fun K hK => ?_) AllReadyH.nil)
  go_simp
  (refine (HF.out _ _ W3 s0 s1).mono ?_; rintro e w8 ⟨rfl, rfl⟩; rw [HFz.out])
  go_wp2_with fail
  refine hK.out _ _ ⟨l1, l2⟩ (fun hHeld => ?_)
  clear hK K
  (try simp only [Act.put, List.setIfInBounds_toArray, List.set_cons_zero, List.set_cons_succ])
  refine wpAnyH_take (i := 10) (v := (.int .i64 0)) (op_at rfl) (by kernel_rfl) (by kernel_rfl) (by kernel_rfl) (fun _ _ _ h => h) (Or.inl ⟨rfl, fun w hSw => ?_⟩) (by assumption) ?_
  · (try dsimp only at hSw); go_simp; try with_reducible rfl
  (try simp only [Act.put, List.setIfInBounds_toArray, List.set_cons_zero, List.set_cons_succ])
  refine wpAnyH_done (by kernel_rfl) ?_ _
  go_wp2_with fail
  go_ret
  exact ⟨rfl, g⟩
theorem findOut_ok {xs : List RowR} {ns : List ByteArray} {n1 b1 off1 cap1 n b off cap L1 L2 : Nat} {w : World} (hO : OutOK xs ns) (hn1 : xs.length = n1) (h11 : n1 ≤ 160) (hn : ns.length = n) (h1 : n ≤ 160) (hcap : n ≤ cap) (hmx : cap ≤ maxLen) (hc1 : ∀ i x, xs[i]? = some x → RowAt w b1 (off1 + i * 3) x) (hc : ∀ i t, ns[i]? = some t → w.cell? ⟨b, off + i, none⟩ = some (.string t)) (hL1 : w.cell? ⟨L1, 0, none⟩ = some (.slice (some ⟨b1, off1, none⟩) n1 cap1)) (hL2 : w.cell? ⟨L2, 0, none⟩ = some (.slice (some ⟨b, off, none⟩) n cap)) :
    Calls Tryz.prog 134 #[.slice (some ⟨b, off, none⟩) n cap, .func (.func 94) #[] #[.pointer (some ⟨L1, 0, none⟩), .pointer (some ⟨L2, 0, none⟩)]] w fun e w' => e = .returned (.tuple #[.int .i64 0, .int .i64 0]) ∧ Gr w w' := by
  have HX := Lib.hid (fun k (h : k < n) => (show ∃ x, ns[k]? = some x from ⟨ns[k]'(by omega), List.getElem?_eq_getElem _⟩))
  have HC := Lib.hid hc
  have HO := Lib.hid (fun (j : Nat) (s : ByteArray) (W : World) (g : Gr w W) (hs : ns[j]? = some s) => oneOut_ok (L1 := L1) (L2 := L2) (w := W) hO hn1 h11 hn h1 hcap hmx hs (fun i x hx => (hc1 i x hx).gr g) (fun i t ht => g.cell (hc i t ht)) (g.cell hL1) (g.cell hL2))
  clear hc hL1 hL2 hO hn hc1 hn1
  go_enter Tryz.func134, Tryz.ntmps134
  go_wp2_with fail
  go_loopg [11] n (fun gk s11 wr => ∃ i : Nat, s11 = .int .i64 i ∧ gk + i = n ∧ Gr w wr)
  case atStart => exact ⟨0, rfl, by omega, Gr.refl _⟩
  case round =>
    obtain ⟨i, rfl, hi, hg⟩ := hrel
    by_cases hlt : i < n
    · obtain ⟨x, hx⟩ := HX.out i hlt
      have c0 := hg.cell (HC.out i x hx)
      have hi2 : (i : Int) < n := by omega
      have HT := Lib.hid (HO.out i x _ hg hx)
      clear hx
      go_wp2_with (refine HT.out.mono ?_; rintro e w4 ⟨rfl, hg2⟩)
      go_roundg (gk - 1)
      case measure => omega
      case rel => exact ⟨i + 1, by go_num, by omega, hg.trans hg2⟩
    · obtain rfl : i = n := by omega
      go_wp2_with fail
      exact bodyPost_ret (v := .tuple #[.int .i64 0, .int .i64 0]) (by simp [results, Tryz.results134, go_sem]) rfl ⟨rfl, hg⟩
theorem findOut_0 (p : Option Addr) (cap : Nat) (f : Value) (w : World) :
    Calls Tryz.prog 134 #[.slice p 0 cap, f] w fun e w' => e = .returned (.tuple #[.int .i64 0, .int .i64 0]) ∧ w = w' := by
  go_enter Tryz.func134, Tryz.ntmps134
  go_wp2_with fail
  refine wp_loop_rounds 2 ?_
  rw [rounds_succ]
  go_wp2_with fail
  exact bodyPost_ret (v := .tuple #[.int .i64 0, .int .i64 0]) (by simp [results, Tryz.results134, go_sem]) rfl ⟨rfl, rfl⟩
theorem eachOut_c (v f : Value) (w : World) (h : Calls Tryz.prog 134 #[v, f] w fun e w' => e = .returned (.tuple #[.int .i64 0, .int .i64 0]) ∧ Gr w w') :
    Calls Tryz.prog 93 #[v, f] w fun e w' => e = .returned (.int .i64 0) ∧ Gr w w' := by
  have H := Lib.hid h
  clear h
  go_enter Tryz.func93, Tryz.ntmps93
  go_wp2_with (refine H.out.mono ?_; rintro e w4 ⟨rfl, hg⟩)
  go_ret
  exact ⟨rfl, hg⟩
theorem checkOut_ok {xs : List RowR} {ns : List ByteArray} {p : Option Addr} {n c : Nat} {q : Option Addr} {l k : Nat} {w : World} (hO : OutOK xs ns) (hx : RowsV w (.slice p n c) xs) (hn : xs.length = n) (h1 : n ≤ 160) (ho : WordsV w (.slice q l k) ns) (hl : ns.length = l) (h2 : l ≤ 160) :
    Calls Tryz.prog 49 #[.slice p n c, .slice q l k] w fun e w' => e = .returned (.int .i64 0) ∧ Gr w w' := by
  have HE := Lib.hid (show ∀ (L1 L2 : Nat) (W : World), Gr w W → W.cell? ⟨L1, 0, none⟩ = some (.slice p n c) → W.cell? ⟨L2, 0, none⟩ = some (.slice q l k) → Calls Tryz.prog 93 #[.slice q l k, .func (.func 94) #[] #[.pointer (some ⟨L1, 0, none⟩), .pointer (some ⟨L2, 0, none⟩)]] W fun e w' => e = .returned (.int .i64 0) ∧ Gr W w' from by
    intro L1 L2 W g a1 a2
    apply eachOut_c
    by_cases h0 : 0 < l
    · obtain ⟨⟨q', k', e, hk, hh⟩⟩ := ho
      cases e
      obtain ⟨b, off, rfl, hc⟩ := hh (by omega)
      obtain ⟨⟨p', c', e, hcc, hr⟩⟩ := hx
      cases e
      have hx0 : 0 < xs.length := by
        have hm := List.getElem_mem (l := ns) (n := 0) (by omega)
        have := hO.has _ hm
        rcases xs with _ | _
        · simp [dupR] at this
        · simp
      obtain ⟨b1, off1, rfl, hc1⟩ := hr hx0
      exact findOut_ok hO hn h1 hl h2 hk.1 hk.2 (fun i x hx => (hc1 i x hx).gr g) (fun i t ht => g.cell (hc i t ht)) a1 a2
    · obtain rfl : l = 0 := by omega
      refine (findOut_0 q k _ W).mono ?_
      rintro e w' ⟨rfl, rfl⟩
      exact ⟨rfl, Gr.refl _⟩)
  obtain ⟨W, hW, g, a1, a2⟩ := box11 w (.slice p n c) (.slice q l k) 22 23
  have HW := Lib.hid hW
  have hz2 : decide ((160 : Int) < l) = false := decide_eq_false (by omega)
  clear hW hO hx ho hn hl
  go_enter Tryz.func49, Tryz.ntmps49
  go_wp2_with fail
  rw [HW.out]
  generalize w.heap.size = B at *
  clear HW
  refine (HE.out _ _ W g a1 a2).mono ?_
  rintro e w4 ⟨rfl, hg⟩
  go_wp2_with fail
  go_ret
  exact ⟨rfl, g.trans hg⟩
end Go.Proofs.YtenhodepaoaiiaaGreatDoor
namespace Go.Proofs.YtenhodepaoaiiaaGreatDoor
open Go.RowKit Go.Lib
set_option linter.unusedSimpArgs false
set_option linter.unusedVariables false
set_option maxHeartbeats 2000000
set_option maxRecDepth 100000
theorem RowsV.at {w : World} {p : Option Addr} {n c : Nat} {xs : List RowR} (h : RowsV w (.slice p n c) xs) : xs.length = n ∧ (n ≤ c ∧ c ≤ maxLen) ∧ (0 < n → ∃ b off, p = some ⟨b, off, none⟩ ∧ ∀ i x, xs[i]? = some x → RowAt w b (off + i * 3) x) := by
  obtain ⟨⟨p', c', e, hcap, hh⟩⟩ := h
  cases e
  exact ⟨rfl, hcap, hh⟩
theorem WordsV.at {w : World} {p : Option Addr} {n c : Nat} {ns : List ByteArray} (h : WordsV w (.slice p n c) ns) : ns.length = n ∧ (n ≤ c ∧ c ≤ maxLen) ∧ (0 < n → ∃ b off, p = some ⟨b, off, none⟩ ∧ ∀ i t, ns[i]? = some t → w.cell? ⟨b, off + i, none⟩ = some (.string t)) := by
  obtain ⟨⟨p', c', e, hcap, hh⟩⟩ := h
  cases e
  exact ⟨rfl, hcap, hh⟩
theorem rowsV_owns {w : World} {base : Nat} {T : TypeId} {v : Value} {ys : List RowR} {n : Nat} (h : w.ownsRow base T 3 v n (rowCs ys)) (hn : ys.length = n) (hv : ∀ x ∈ ys, IntsV w x.u x.xs ∧ x.xs.length ≤ 1000) : ∃ p c, v = .slice p n c ∧ RowsV w (.slice p n c) ys := by
  subst hn
  rcases h.2 with ⟨rfl, h0⟩ | ⟨g, c, cur, rfl, hb, hcur, hle, hmx, _, _⟩
  · exact ⟨none, 0, by rw [h0], none, 0, rfl, ⟨by omega, by unfold maxLen; omega⟩, fun h => by omega⟩
  · refine ⟨some ⟨g, 0, none⟩, c, rfl, _, c, rfl, ⟨hle, hmx⟩, fun _ => ⟨g, 0, rfl, fun i x hx => ?_⟩⟩
    have hc : ∀ j u, j < 3 → (rowC x)[j]? = some u → w.cell? ⟨g, 0 + i * 3 + j, none⟩ = some u := fun j u hj hju => by
      have := h.cells (g := g) rfl (i * 3 + j) u (by rw [rowCs_at hx j hj]; exact hju)
      rw [Nat.zero_add]
      rwa [show (⟨g, 0, none⟩ : Addr).add (i * 3 + j) = ⟨g, i * 3 + j, none⟩ by unfold Addr.add; split <;> simp_all] at this
    exact ⟨hc 0 _ (by omega) rfl, hc 1 _ (by omega) rfl, hc 2 _ (by omega) rfl, (hv x (List.mem_of_getElem? hx)).1, (hv x (List.mem_of_getElem? hx)).2⟩
/-- those who are not out -/
def rest (ns : List ByteArray) (xs : List RowR) : List RowR := xs.filter fun x => !hasS ns x.nm
theorem rest_take {ns : List ByteArray} {xs : List RowR} {k : Nat} {x : RowR} (h : xs[k]? = some x) : rest ns (xs.take (k + 1)) = rest ns (xs.take k) ++ (if !hasS ns x.nm then [x] else []) := by
  rw [List.take_add_one, h]
  unfold rest
  rw [List.filter_append]
  congr 1
  cases hx : hasS ns x.nm <;> simp [hx]
theorem rest_le (ns : List ByteArray) (xs : List RowR) : (rest ns xs).length ≤ xs.length := List.length_filter_le _ _
theorem containsW {ns : List ByteArray} {q : Option Addr} {l k : Nat} {w : World} (h : WordsV w (.slice q l k) ns) (h1 : l ≤ 1000) (s : ByteArray) :
    Calls Tryz.prog 50 #[.slice q l k, .string s] w fun e w' => e = .returned (.bool (hasS ns s)) ∧ w = w' := by
  obtain ⟨hl, hk, hh⟩ := h.at
  by_cases h0 : 0 < l
  · obtain ⟨b, off, rfl, hc⟩ := hh h0
    have := containsS_pos ns l b off k s w (by omega) h1 hc
    rwa [List.take_of_length_le (by omega)] at this
  · obtain rfl : l = 0 := by omega
    rw [List.length_eq_zero_iff.1 hl]
    exact containsS_nil q k s w
theorem strs_slice {w : World} {v : Value} {ns : List ByteArray} (h : StrsV w v ns) : ∃ q l k, v = .slice q l k := by
  obtain ⟨⟨p, c, rfl, _⟩⟩ := h
  exact ⟨p, _, c, rfl⟩
theorem forward_ok {xs : List RowR} {p : Option Addr} {n c : Nat} {w : World} (m : Nat) (hx : RowsV w (.slice p n c) xs) (h1 : n < 20) :
    Calls Tryz.prog 48 #[.slice p n c, .int .i64 (m : Int)] w fun e w' => ∃ q l k, e = .returned (.slice q l k) ∧ StrsV w' (.slice q l k) (thruB (xs.map bare) m) ∧ Gr w w' := by
  obtain ⟨hn, _, hh⟩ := hx.at
  by_cases h0 : 0 < n
  · obtain ⟨b, off, rfl, hc⟩ := hh h0
    refine (forward_pos xs n b off c m w hn h0 h1 hc).mono ?_
    rintro e w' ⟨v, rfl, hv, g⟩
    obtain ⟨q, l, k, rfl⟩ := strs_slice hv
    exact ⟨q, l, k, rfl, hv, g⟩
  · obtain rfl : n = 0 := by omega
    have hz : xs = [] := List.length_eq_zero_iff.1 hn
    subst hz
    refine (forward_0 p c m w).mono ?_
    rintro e w' ⟨v, rfl, hv, g⟩
    obtain ⟨q, l, k, rfl⟩ := strs_slice hv
    exact ⟨q, l, k, rfl, by rw [thruB_none (xs := []) rfl m]; exact hv, g⟩
theorem forwardS_ok {xs : List RowR} {p : Option Addr} {n c : Nat} {w : World} (m : Nat) (hx : RowsV w (.slice p n c) xs) (h1 : n < 20) (hV : ValidB (xs.map bare)) (hm : outE (m : Int) 0 160 = 0) :
    Calls Tryz.prog 9 #[.slice p n c, .int .i64 (m : Int)] w fun e w' => ∃ q l k, e = .returned (.tuple #[.slice q l k, .int .i64 0]) ∧ StrsV w' (.slice q l k) (thruB (xs.map bare) m) ∧ Gr w w' := by
  obtain ⟨hn, _, _⟩ := hx.at
  have HQ := Lib.hid (quota_ok hx hn hV (by omega) m hm)
  have HFw := Lib.hid (fun W (g : Gr w W) => forward_ok m (hx.gr g) h1)
  clear hx hn hV hm
  go_enter Tryz.func9, Tryz.ntmps9
  go_wp2_with fail
  refine HQ.out.mono ?_
  rintro e w1 ⟨rfl, g1⟩
  go_wp2_with fail
  refine (HFw.out _ g1).mono ?_
  rintro e w2 ⟨q, l, k, rfl, hv, g2⟩
  go_wp2_with fail
  exact bodyPost_ret (v := .tuple #[.slice q l k, .int .i64 0]) (by simp [results, Tryz.results9, go_sem]) rfl ⟨q, l, k, rfl, hv, g1.trans g2⟩
set_option maxHeartbeats 4000000 in
theorem replace_ok {xs : List RowR} {ns : List ByteArray} {p : Option Addr} {n c : Nat} {q : Option Addr} {l k0 : Nat} {w : World} (m : Nat) (hO : OutOK xs ns) (hx : RowsV w (.slice p n c) xs) (h1 : n < 20) (hV : ValidB (xs.map bare)) (ho : WordsV w (.slice q l k0) ns) (h2 : l ≤ 160) (hm : outE (m : Int) 0 160 = 0) :
    Calls Tryz.prog 10 #[.slice p n c, .int .i64 (m : Int), .slice q l k0] w fun e w' => ∃ q l k, e = .returned (.tuple #[.slice q l k, .int .i64 0]) ∧ StrsV w' (.slice q l k) (thruB ((rest ns xs).map bare) m) ∧ Gr w w' := by
  obtain ⟨i0, hi, hz0, hz1, hz2⟩ := info_parts infoRes
  obtain ⟨hn, _, hh⟩ := hx.at
  have hln := ho.at.1
  have HQ := Lib.hid (quota_ok hx hn hV (by omega) m hm)
  have HO := Lib.hid (fun W (g : Gr w W) => checkOut_ok hO (hx.gr g) hn (by omega) (ho.gr g) hln h2)
  have HFw := Lib.hid (fun (ys : List RowR) (p : Option Addr) (n c : Nat) (W : World) (hx : RowsV W (.slice p n c) ys) (h : n < 20) => forward_ok m hx h)
  have HCon := Lib.hid (fun W (g : Gr w W) s => containsW (ho.gr g) (by omega) s)
  have HF := Lib.hid (fun b cap W => first_pair 0 0 b cap W)
  have HFz : Hid (firstE [0, 0] = 0) := rfl
  have HX := Lib.hid (fun k (h : k < n) => (show ∃ x, xs[k]? = some x from ⟨xs[k]'(by omega), List.getElem?_eq_getElem _⟩))
  have HFl := Lib.hid (fun k => (show (rest ns (xs.take k)).length < 20 from by have := rest_le ns (xs.take k); rw [List.length_take] at this; omega))
  have HH := Lib.hid hh
  have HN := Lib.hid hn
  clear hx hn hV hm hO ho hh hln
  go_enter Tryz.func10, Tryz.ntmps10
  go_wp2_with fail
  refine HQ.out.mono ?_
  rintro e w1 ⟨rfl, g1⟩
  go_wp2_with fail
  refine (HO.out _ g1).mono ?_
  rintro e w2 ⟨rfl, g2⟩
  go_wp2_with fail
  refine (HF.out _ _ _ (by exact cell_new _ #[_, _] _ 0 (by simp)) (by exact cell_new _ #[_, _] _ 1 (by simp))).mono ?_
  rintro e w3 ⟨rfl, rfl⟩
  rw [HFz.out]
  have gg : Gr w (w2.alloc (.cells #[.int .i64 0, .int .i64 0] 27)) := (g1.trans g2).alloc _
  generalize w2.alloc (.cells #[.int .i64 0, .int .i64 0] 27) = W0 at *
  clear g1 g2
  go_wp2_with fail
  go_loopw [9, 25] (fun v i wr => ∃ k : Nat, k ≤ n ∧ i = .int .i64 k ∧ wr.ownsRow W0.heap.size 42 3 v (rest ns (xs.take k)).length (rowCs (rest ns (xs.take k))) ∧ Gr W0 wr) (fun _ i _ => n - (intOf i).toNat)
  case atStart => exact ⟨0, Nat.zero_le _, rfl, World.ownsRow_nil _ _ _ _, Gr.refl _⟩
  case round =>
    obtain ⟨k, hk, rfl, hown, hnx⟩ := hrel
    have hsize := hnx.size
    by_cases hkN : k < n
    · obtain ⟨x, hx⟩ := HX.out k hkN
      obtain ⟨b, off, rfl, hc⟩ := HH.out (by omega)
      obtain ⟨c0, c1, c2, hv, _⟩ := (hc k x hx).gr (gg.trans hnx)
      obtain ⟨⟨p', cap', hu, _⟩⟩ := hv
      rw [hu] at c2
      have HQ := Lib.hid (rest_take (ns := ns) hx)
      have HL := Lib.hid (HFl.out k)
      have HRc := Lib.hid (rowCs_len (rest ns (xs.take k)))
      have hi2 : (k : Int) < n := by omega
      have gz := ((Gr.refl wr).alloc (.cells #[.string x.nm, .string x.st, .slice p' x.xs.length cap'] 42))
      have HCx := Lib.hid (HCon.out _ ((gg.trans hnx).trans gz) x.nm)
      have HOW := Lib.hid (fun W (g : Gr wr W) => own_gr hown g)
      have HGZ := Lib.hid gz
      cases hh : hasS ns x.nm
      · rw [hh] at HCx
        have HQ2 := Lib.hid (show rest ns (xs.take (k + 1)) = rest ns (xs.take k) ++ [x] from by
          have := HQ.out; rw [hh] at this; simpa using this)
        have HQ3 := Lib.hid (show rowCs (rest ns (xs.take k) ++ [x]) = rowCs (rest ns (xs.take k)) ++ [.string x.nm, .string x.st, .slice p' x.xs.length cap'] from by rw [rowCs_add]; unfold rowC; rw [hu])
        have HQ4 := Lib.hid (show (rest ns (xs.take k) ++ [x]).length = (rest ns (xs.take k)).length + 1 from by simp)
        have hl20 := HL.out
        clear hown hx hh hu hc gz
        generalize (rest ns (xs.take k)).length = z at *
        go_wp2_with (first
          | (refine HCx.out.mono ?_; rintro e w4 ⟨rfl, rfl⟩)
          | (at_builtin; refine wpList_append_own _ rfl _ _ 22 rfl W0.heap.size 42 i0 (.agg #[.string ⟨#[]⟩, .string ⟨#[]⟩, .slice none 0 0]) 3 56 Tryz.underlying22 hi hz0 hz1 hz2 rfl (by decide) _ _ _ rfl ((HOW.out _ HGZ.out).alloc _) ⟨wr.heap.size + 1, 0, none⟩ 1 1 [.string x.nm, .string x.st, .slice p' x.xs.length cap'] rfl rfl (cell_three_sz _ _ (by simp) _ _ _ _) (by intro u hu; simp at hu; rcases hu with rfl | rfl | rfl <;> rfl) (by unfold maxLen; omega) (by omega) (by simp; omega) ?_; intro v1 w1 hown1 hgrow1 hnil1))
        go_roundw
        case rel =>
          exact ⟨k + 1, by omega, by go_num, by rw [HQ2.out, HQ3.out, HQ4.out]; exact hown1, Below.grown ((hnx.trans HGZ.out).alloc _) hgrow1 (by simp; omega) (fun j hj => ((HOW.out _ HGZ.out).lt j hj).1)⟩
        case measure => simp [intOf]; omega
      · rw [hh] at HCx
        have HQ2 := Lib.hid (show rest ns (xs.take (k + 1)) = rest ns (xs.take k) from by
          have := HQ.out; rw [hh] at this; simpa using this)
        clear hown hx hh hu hc gz
        go_wp2_with (refine HCx.out.mono ?_; rintro e w4 ⟨rfl, rfl⟩)
        go_roundw
        case rel => exact ⟨k + 1, by omega, by go_num, by rw [HQ2.out]; exact HOW.out _ HGZ.out, hnx.trans HGZ.out⟩
        case measure => simp [intOf]; omega
    · obtain rfl : k = n := by omega
      rw [List.take_of_length_le (by have := HN.out; omega)] at hown
      have hlr : (rest ns xs).length < 20 := by have := HFl.out k; rwa [List.take_of_length_le (by have := HN.out; omega)] at this
      obtain ⟨p2, c2, rfl, hrows⟩ := rowsV_owns hown rfl (fun x hx => by
        have hmem : x ∈ xs := (List.mem_filter.1 hx).1
        obtain ⟨j, hj⟩ := List.mem_iff_getElem?.1 hmem
        have hjl := (List.getElem?_eq_some_iff.1 hj).1
        obtain ⟨b, off, _, hc⟩ := HH.out (by have := HN.out; omega)
        have := hc j x hj
        exact ⟨this.val.gr (gg.trans hnx), this.len⟩)
      have HT := Lib.hid (HFw.out _ _ _ _ _ hrows hlr)
      clear hown hrows hlr
      go_wp2_with fail
      refine HT.out.mono ?_
      rintro e w5 ⟨q5, l5, k5, rfl, hv5, g5⟩
      go_wp2_with fail
      exact bodyPost_ret (v := .tuple #[.slice q5 l5 k5, .int .i64 0]) (by simp [results, Tryz.results10, go_sem]) rfl ⟨q5, l5, k5, rfl, hv5, gg.trans (hnx.trans g5)⟩
end Go.Proofs.YtenhodepaoaiiaaGreatDoor
