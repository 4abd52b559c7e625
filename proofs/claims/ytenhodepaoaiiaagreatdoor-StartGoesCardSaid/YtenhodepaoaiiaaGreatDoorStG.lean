/- Who goes on (chapter 6): those who are out pass the checks. -/
import Derived.Test.YtenhodepaoaiiaaGreatDoorGRoC
namespace Go.Proofs.YtenhodepaoaiiaaGreatDoor
open Go.RowKit Go.Lib
set_option linter.unusedSimpArgs false
set_option linter.unusedVariables false
set_option maxHeartbeats 2000000
set_option maxRecDepth 100000
theorem box11 (w : World) (a0 b0 : Value) (T U : Nat) : ∃ W, (w.alloc (.cells #[a0] T)).alloc (.cells #[b0] U) = W ∧ Gr w W ∧ W.cell? ⟨w.heap.size, 0, none⟩ = some a0 ∧ W.cell? ⟨w.heap.size + 1, 0, none⟩ = some b0 := by
  obtain ⟨W1, h1, g1, p0⟩ := box1 w a0 T
  obtain ⟨W2, h2, g2, q0⟩ := box1 W1 b0 U
  have hs : W1.heap.size = w.heap.size + 1 := by rw [← h1, World.size_alloc]
  rw [hs] at q0
  exact ⟨W2, by rw [h1, h2], g1.trans g2, g2.cell p0, q0⟩
/-- words in a list -/
structure WordsV (w : World) (v : Value) (ns : List ByteArray) : Prop where
  mk' ::
  out : ∃ p cap, v = .slice p ns.length cap ∧ (ns.length ≤ cap ∧ cap ≤ maxLen) ∧ (0 < ns.length → ∃ b off, p = some ⟨b, off, none⟩ ∧ ∀ i t, ns[i]? = some t → w.cell? ⟨b, off + i, none⟩ = some (.string t))
theorem WordsV.gr {w w' : World} {v : Value} {ns : List ByteArray} (h : WordsV w v ns) (k : Gr w w') : WordsV w' v ns := by
  obtain ⟨⟨p, cap, rfl, hcap, hh⟩⟩ := h
  refine ⟨p, cap, rfl, hcap, fun h0 => ?_⟩
  obtain ⟨b, off, h1, h2⟩ := hh h0
  exact ⟨b, off, h1, fun i x hx => k.cell (h2 i x hx)⟩
/-- those who are out have results and are apart -/
structure OutOK (xs : List RowR) (ns : List ByteArray) : Prop where
  has : ∀ s ∈ ns, dupR xs xs.length s = true
  apart : ∀ j s, ns[j]? = some s → hasS (ns.take j) s = false
theorem twiceS_ok (ns : List ByteArray) (n b off cap j : Nat) (s : ByteArray) (w : World) (hn : ns.length = n) (h1 : n ≤ 160) (hcap : n ≤ cap) (hmx : cap ≤ maxLen) (hs : ns[j]? = some s) (hno : hasS (ns.take j) s = false) (hc : ∀ i t, ns[i]? = some t → w.cell? ⟨b, off + i, none⟩ = some (.string t)) :
    Calls Tryz.prog 95 #[.slice (some ⟨b, off, none⟩) n cap, .int .i64 j] w fun e w' => e = .returned (.int .i64 0) ∧ Gr w w' := by
  have hjn := (List.getElem?_eq_some_iff.1 hs).1
  have HI := Lib.hid (fun (n : Int) (W : World) => (show Calls Tryz.prog 42 #[.bool false, .int .i64 n] W fun e w' => e = .returned (.int .i64 0) ∧ W = w' from by simpa using if_c false n W))
  have HC := Lib.hid (fun (W : World) (g : Gr w W) => containsS_pos ns j b off cap s W (by omega) (by omega) (fun i t ht => g.cell (hc i t ht)))
  rw [hno] at HC
  have hs0 := hc j s hs
  have hj1 : (j : Int) ≤ cap := by omega
  have hj0 : (0 : Int) ≤ j := by omega
  have hj2 : (j : Int) < n := by omega
  clear hc hs hno hn
  go_enter Tryz.func95, Tryz.ntmps95
  go_wp2_with fail
  have g := (Gr.refl w).drew
  have c0 := g.cell hs0
  refine wp_region_held_drew (S := (fun w' => w'.cell? ⟨b, off + j, none⟩ = some (.string s))) (by kernel_rfl) c0 (fun hHeld => ?_)
  generalize w.drew = V at *
  refine wpAnyH_take (i := 0) (v := (.slice (some ⟨b, off, none⟩) n cap)) (op_at rfl) (by kernel_rfl) (by kernel_rfl) (by kernel_rfl) (fun _ _ _ h => h) (Or.inl ⟨rfl, fun w hSw => ?_⟩) (by assumption) ?_
  · (try dsimp only at hSw); go_simp; try with_reducible rfl
  (try simp only [Act.put, List.setIfInBounds_toArray, List.set_cons_zero, List.set_cons_succ])
  refine wpAnyH_take (i := 1) (v := (.int .i64 j)) (op_at rfl) (by kernel_rfl) (by kernel_rfl) (by kernel_rfl) (fun _ _ _ h => h) (Or.inl ⟨rfl, fun w hSw => ?_⟩) (by assumption) ?_
  · (try dsimp only at hSw); go_simp; try with_reducible rfl
  (try simp only [Act.put, List.setIfInBounds_toArray, List.set_cons_zero, List.set_cons_succ])
  refine wpAnyH_take (i := 2) (v := (.slice (some ⟨b, off, none⟩) j cap)) (op_at rfl) (by kernel_rfl) (by kernel_rfl) (by kernel_rfl) (fun _ _ _ h => h) (Or.inl ⟨rfl, fun w hSw => ?_⟩) (by assumption) ?_
  · (try dsimp only at hSw); go_simp; try with_reducible rfl
  (try simp only [Act.put, List.setIfInBounds_toArray, List.set_cons_zero, List.set_cons_succ])
  refine wpAnyH_take (i := 3) (v := (.slice (some ⟨b, off, none⟩) n cap)) (op_at rfl) (by kernel_rfl) (by kernel_rfl) (by kernel_rfl) (fun _ _ _ h => h) (Or.inl ⟨rfl, fun w hSw => ?_⟩) (by assumption) ?_
  · (try dsimp only at hSw); go_simp; try with_reducible rfl
  (try simp only [Act.put, List.setIfInBounds_toArray, List.set_cons_zero, List.set_cons_succ])
  refine wpAnyH_take (i := 4) (v := (.int .i64 j)) (op_at rfl) (by kernel_rfl) (by kernel_rfl) (by kernel_rfl) (fun _ _ _ h => h) (Or.inl ⟨rfl, fun w hSw => ?_⟩) (by assumption) ?_
  · (try dsimp only at hSw); go_simp; try with_reducible rfl
  (try simp only [Act.put, List.setIfInBounds_toArray, List.set_cons_zero, List.set_cons_succ])
  refine wpAnyH_take (i := 5) (v := (.pointer (some ⟨b, off + j, none⟩))) (op_at rfl) (by kernel_rfl) (by kernel_rfl) (by kernel_rfl) (fun _ _ _ h => h) (Or.inl ⟨rfl, fun w hSw => ?_⟩) (by assumption) ?_
  · (try dsimp only at hSw); go_simp; try with_reducible rfl
  (try simp only [Act.put, List.setIfInBounds_toArray, List.set_cons_zero, List.set_cons_succ])
  refine wpAnyH_take (i := 6) (v := (.string s)) (op_at rfl) (by kernel_rfl) (by kernel_rfl) (by kernel_rfl) (fun _ _ _ h => h) (Or.inl ⟨rfl, fun w hSw => ?_⟩) (by assumption) ?_
  · (try dsimp only at hSw); go_simp; try with_reducible rfl
  (try simp only [Act.put, List.setIfInBounds_toArray, List.set_cons_zero, List.set_cons_succ])
  refine wpAnyH_ready (rs := [7]) (by kernel_rfl) (by simp) (AllReadyH.cons (op_at rfl) (fun K hK => ?_) AllReadyH.nil)
  go_simp
  (refine (HC.out _ g).mono ?_; rintro e w' ⟨rfl, rfl⟩)
  go_wp2_with fail
  refine hK.out _ _ c0 (fun hHeld => ?_)
  clear hK K
  (try simp only [Act.put, List.setIfInBounds_toArray, List.set_cons_zero, List.set_cons_succ])
  refine wpAnyH_ready (rs := [8]) (by kernel_rfl) (by simp) (AllReadyH.cons (op_at rfl) (fun K hK => ?_) AllReadyH.nil)
  go_simp
  (refine (HI.out 9 _).mono ?_; rintro e w' ⟨rfl, rfl⟩)
  go_wp2_with fail
  refine hK.out _ _ c0 (fun hHeld => ?_)
  clear hK K
  (try simp only [Act.put, List.setIfInBounds_toArray, List.set_cons_zero, List.set_cons_succ])
  refine wpAnyH_take (i := 9) (v := (.int .i64 0)) (op_at rfl) (by kernel_rfl) (by kernel_rfl) (by kernel_rfl) (fun _ _ _ h => h) (Or.inl ⟨rfl, fun w hSw => ?_⟩) (by assumption) ?_
  · (try dsimp only at hSw); go_simp; try with_reducible rfl
  (try simp only [Act.put, List.setIfInBounds_toArray, List.set_cons_zero, List.set_cons_succ])
  refine wpAnyH_done (by kernel_rfl) ?_ _
  go_wp2_with fail
  go_ret
  exact ⟨rfl, g⟩
theorem oneOut_ok {xs : List RowR} {ns : List ByteArray} {n1 b1 off1 cap1 n b off cap j L1 L2 : Nat} {s : ByteArray} {w : World} (hO : OutOK xs ns) (hn1 : xs.length = n1) (h11 : n1 ≤ 160) (hn : ns.length = n) (h1 : n ≤ 160) (hcap : n ≤ cap) (hmx : cap ≤ maxLen) (hs : ns[j]? = some s) (hc1 : ∀ i x, xs[i]? = some x → RowAt w b1 (off1 + i * 3) x) (hc : ∀ i t, ns[i]? = some t → w.cell? ⟨b, off + i, none⟩ = some (.string t)) (hL1 : w.cell? ⟨L1, 0, none⟩ = some (.slice (some ⟨b1, off1, none⟩) n1 cap1)) (hL2 : w.cell? ⟨L2, 0, none⟩ = some (.slice (some ⟨b, off, none⟩) n cap)) :
    Calls Tryz.prog 94 #[.int .i64 j, .string s, .pointer (some ⟨L1, 0, none⟩), .pointer (some ⟨L2, 0, none⟩)] w fun e w' => e = .returned (.int .i64 0) ∧ Gr w w' := by
  have HI := Lib.hid (fun (n : Int) (W : World) => (show Calls Tryz.prog 42 #[.bool false, .int .i64 n] W fun e w' => e = .returned (.int .i64 0) ∧ W = w' from by simpa using if_c false n W))
  have HD := Lib.hid (fun (W : World) (g : Gr w W) => hasResult_pos xs n1 b1 off1 cap1 s W (by omega) (by omega) (fun i x hx => (hc1 i x hx).gr g))
  rw [← hn1, hO.has s (List.mem_of_getElem? hs), hn1] at HD
  have HT := Lib.hid (fun (W : World) (g : Gr w W) => twiceS_ok ns n b off cap j s W hn h1 hcap hmx hs (hO.apart j s hs) (fun i t ht => g.cell (hc i t ht)))
  have HF := Lib.hid (fun b cap W => first_pair 0 0 b cap W)
  have HFz : Hid (firstE [0, 0] = 0) := rfl
  clear hc1 hc hO hs
  go_enter Tryz.func94, Tryz.ntmps94
  go_wp2_with fail
  have g := (Gr.refl w).drew
  have l1 := g.cell hL1
  have l2 := g.cell hL2
  refine wp_region_held_drew (S := (fun w' => w'.cell? ⟨L1, 0, none⟩ = some (.slice (some ⟨b1, off1, none⟩) n1 cap1) ∧ w'.cell? ⟨L2, 0, none⟩ = some (.slice (some ⟨b, off, none⟩) n cap))) (by kernel_rfl) ⟨l1, l2⟩ (fun hHeld => ?_)
  generalize w.drew = V at *
  refine wpAnyH_take (i := 0) (v := (.slice (some ⟨b1, off1, none⟩) n1 cap1)) (op_at rfl) (by kernel_rfl) (by kernel_rfl) (by kernel_rfl) (fun _ _ _ h => h) (Or.inl ⟨rfl, fun w hSw => ?_⟩) (by assumption) ?_
  · (try dsimp only at hSw); go_simp; try with_reducible rfl
  (try simp only [Act.put, List.setIfInBounds_toArray, List.set_cons_zero, List.set_cons_succ])
  refine wpAnyH_take (i := 1) (v := (.string s)) (op_at rfl) (by kernel_rfl) (by kernel_rfl) (by kernel_rfl) (fun _ _ _ h => h) (Or.inl ⟨rfl, fun w hSw => ?_⟩) (by assumption) ?_
  · (try dsimp only at hSw); go_simp; try with_reducible rfl
  (try simp only [Act.put, List.setIfInBounds_toArray, List.set_cons_zero, List.set_cons_succ])
  refine wpAnyH_take (i := 5) (v := (.slice (some ⟨b, off, none⟩) n cap)) (op_at rfl) (by kernel_rfl) (by kernel_rfl) (by kernel_rfl) (fun _ _ _ h => h) (Or.inl ⟨rfl, fun w hSw => ?_⟩) (by assumption) ?_
  · (try dsimp only at hSw); go_simp; try with_reducible rfl
  (try simp only [Act.put, List.setIfInBounds_toArray, List.set_cons_zero, List.set_cons_succ])
  refine wpAnyH_take (i := 6) (v := (.int .i64 j)) (op_at rfl) (by kernel_rfl) (by kernel_rfl) (by kernel_rfl) (fun _ _ _ h => h) (Or.inl ⟨rfl, fun w hSw => ?_⟩) (by assumption) ?_
  · (try dsimp only at hSw); go_simp; try with_reducible rfl
  (try simp only [Act.put, List.setIfInBounds_toArray, List.set_cons_zero, List.set_cons_succ])
  refine wpAnyH_ready (rs := [2]) (by kernel_rfl) (by simp) (AllReadyH.cons (op_at rfl) (fun K hK => ?_) AllReadyH.nil)
  go_simp
  (refine (HD.out _ g).mono ?_; rintro e W5 ⟨rfl, hg⟩; replace l1 := hg.cell l1; replace l2 := hg.cell l2; replace g := g.trans hg; clear hg)
  go_wp2_with fail
  refine hK.out _ _ ⟨l1, l2⟩ (fun hHeld => ?_)
  clear hK K
  (try simp only [Act.put, List.setIfInBounds_toArray, List.set_cons_zero, List.set_cons_succ])
  refine wpAnyH_take (i := 3) (v := (.bool false)) (op_at rfl) (by kernel_rfl) (by kernel_rfl) (by kernel_rfl) (fun _ _ _ h => h) (Or.inl ⟨rfl, fun w hSw => ?_⟩) (by assumption) ?_
  · (try dsimp only at hSw); go_simp; try with_reducible rfl
  (try simp only [Act.put, List.setIfInBounds_toArray, List.set_cons_zero, List.set_cons_succ])
  refine wpAnyH_ready (rs := [4]) (by kernel_rfl) (by simp) (AllReadyH.cons (op_at rfl) (fun K hK => ?_) AllReadyH.nil)
  go_simp
  (refine (HI.out 10 _).mono ?_; rintro e w' ⟨rfl, rfl⟩)
  go_wp2_with fail
  refine hK.out _ _ ⟨l1, l2⟩ (fun hHeld => ?_)
  clear hK K
  (try simp only [Act.put, List.setIfInBounds_toArray, List.set_cons_zero, List.set_cons_succ])
  refine wpAnyH_ready (rs := [7]) (by kernel_rfl) (by simp) (AllReadyH.cons (op_at rfl) (fun K hK => ?_) AllReadyH.nil)
  go_simp
  (refine (HT.out _ g).mono ?_; rintro e W6 ⟨rfl, hg⟩; replace l1 := hg.cell l1; replace l2 := hg.cell l2; replace g := g.trans hg; clear hg)
  go_wp2_with fail
  refine hK.out _ _ ⟨l1, l2⟩ (fun hHeld => ?_)
  clear hK K
  (try simp only [Act.put, List.setIfInBounds_toArray, List.set_cons_zero, List.set_cons_succ])
  refine wpAnyH_ready (rs := [8]) (by kernel_rfl) (by simp) (AllReadyH.cons (op_at rfl) (fun K hK => ?_) AllReadyH.nil)
  go_simp
  obtain ⟨W3, hW3, g3, s0, s1⟩ := box2 W6 (.int .i64 0) (.int .i64 0) 27
  rw [hW3]
  clear hW3
  replace l1 := g3.cell l1
  replace l2 := g3.cell l2
  replace g := g.trans g3
  refine hK.out _ _ ⟨l1, l2⟩ (fun hHeld => ?_)
  clear hK K
  (try simp only [Act.put, List.setIfInBounds_toArray, List.set_cons_zero, List.set_cons_succ])
  refine wpAnyH_ready (rs := [9]) (by kernel_rfl) (by simp) (AllReadyH.cons (op_at rfl) (fun K hK => ?_) AllReadyH.nil)
  go_simp
  (refine (HF.out _ _ W3 s0 s1).mono ?_; rintro e w8 ⟨rfl, rfl⟩; rw [HFz.out])
  go_wp2_with fail
  refine hK.out _ _ ⟨l1, l2⟩ (fun hHeld => ?_)
  clear hK K
  (try simp only [Act.put, List.setIfInBounds_toArray, List.set_cons_zero, List.set_cons_succ])
  refine wpAnyH_take (i := 10) (v := (.int .i64 0)) (op_at rfl) (by kernel_rfl) (by kernel_rfl) (by kernel_rfl) (fun _ _ _ h => h) (Or.inl ⟨rfl, fun w hSw => ?_⟩) (by assumption) ?_
  · (try dsimp only at hSw); go_simp; try with_reducible rfl
  (try simp only [Act.put, List.setIfInBounds_toArray, List.set_cons_zero, List.set_cons_succ])
  refine wpAnyH_done (by kernel_rfl) ?_ _
  go_wp2_with fail
  go_ret
  exact ⟨rfl, g⟩
theorem findOut_ok {xs : List RowR} {ns : List ByteArray} {n1 b1 off1 cap1 n b off cap L1 L2 : Nat} {w : World} (hO : OutOK xs ns) (hn1 : xs.length = n1) (h11 : n1 ≤ 160) (hn : ns.length = n) (h1 : n ≤ 160) (hcap : n ≤ cap) (hmx : cap ≤ maxLen) (hc1 : ∀ i x, xs[i]? = some x → RowAt w b1 (off1 + i * 3) x) (hc : ∀ i t, ns[i]? = some t → w.cell? ⟨b, off + i, none⟩ = some (.string t)) (hL1 : w.cell? ⟨L1, 0, none⟩ = some (.slice (some ⟨b1, off1, none⟩) n1 cap1)) (hL2 : w.cell? ⟨L2, 0, none⟩ = some (.slice (some ⟨b, off, none⟩) n cap)) :
    Calls Tryz.prog 134 #[.slice (some ⟨b, off, none⟩) n cap, .func (.func 94) #[] #[.pointer (some ⟨L1, 0, none⟩), .pointer (some ⟨L2, 0, none⟩)]] w fun e w' => e = .returned (.tuple #[.int .i64 0, .int .i64 0]) ∧ Gr w w' := by
  have HX := Lib.hid (fun k (h : k < n) => (show ∃ x, ns[k]? = some x from ⟨ns[k]'(by omega), List.getElem?_eq_getElem _⟩))
  have HC := Lib.hid hc
  have HO := Lib.hid (fun (j : Nat) (s : ByteArray) (W : World) (g : Gr w W) (hs : ns[j]? = some s) => oneOut_ok (L1 := L1) (L2 := L2) (w := W) hO hn1 h11 hn h1 hcap hmx hs (fun i x hx => (hc1 i x hx).gr g) (fun i t ht => g.cell (hc i t ht)) (g.cell hL1) (g.cell hL2))
  clear hc hL1 hL2 hO hn hc1 hn1
  go_enter Tryz.func134, Tryz.ntmps134
  go_wp2_with fail
  go_loopg [11] n (fun gk s11 wr => ∃ i : Nat, s11 = .int .i64 i ∧ gk + i = n ∧ Gr w wr)
  case atStart => exact ⟨0, rfl, by omega, Gr.refl _⟩
  case round =>
    obtain ⟨i, rfl, hi, hg⟩ := hrel
    by_cases hlt : i < n
    · obtain ⟨x, hx⟩ := HX.out i hlt
      have c0 := hg.cell (HC.out i x hx)
      have hi2 : (i : Int) < n := by omega
      have HT := Lib.hid (HO.out i x _ hg hx)
      clear hx
      go_wp2_with (refine HT.out.mono ?_; rintro e w4 ⟨rfl, hg2⟩)
      go_roundg (gk - 1)
      case measure => omega
      case rel => exact ⟨i + 1, by go_num, by omega, hg.trans hg2⟩
    · obtain rfl : i = n := by omega
      go_wp2_with fail
      exact bodyPost_ret (v := .tuple #[.int .i64 0, .int .i64 0]) (by simp [results, Tryz.results134, go_sem]) rfl ⟨rfl, hg⟩
theorem findOut_0 (p : Option Addr) (cap : Nat) (f : Value) (w : World) :
    Calls Tryz.prog 134 #[.slice p 0 cap, f] w fun e w' => e = .returned (.tuple #[.int .i64 0, .int .i64 0]) ∧ w = w' := by
  go_enter Tryz.func134, Tryz.ntmps134
  go_wp2_with fail
  refine wp_loop_rounds 2 ?_
  rw [rounds_succ]
  go_wp2_with fail
  exact bodyPost_ret (v := .tuple #[.int .i64 0, .int .i64 0]) (by simp [results, Tryz.results134, go_sem]) rfl ⟨rfl, rfl⟩
theorem eachOut_c (v f : Value) (w : World) (h : Calls Tryz.prog 134 #[v, f] w fun e w' => e = .returned (.tuple #[.int .i64 0, .int .i64 0]) ∧ Gr w w') :
    Calls Tryz.prog 93 #[v, f] w fun e w' => e = .returned (.int .i64 0) ∧ Gr w w' := by
  have H := Lib.hid h
  clear h
  go_enter Tryz.func93, Tryz.ntmps93
  go_wp2_with (refine H.out.mono ?_; rintro e w4 ⟨rfl, hg⟩)
  go_ret
  exact ⟨rfl, hg⟩
theorem checkOut_ok {xs : List RowR} {ns : List ByteArray} {p : Option Addr} {n c : Nat} {q : Option Addr} {l k : Nat} {w : World} (hO : OutOK xs ns) (hx : RowsV w (.slice p n c) xs) (hn : xs.length = n) (h1 : n ≤ 160) (ho : WordsV w (.slice q l k) ns) (hl : ns.length = l) (h2 : l ≤ 160) :
    Calls Tryz.prog 49 #[.slice p n c, .slice q l k] w fun e w' => e = .returned (.int .i64 0) ∧ Gr w w' := by
  have HE := Lib.hid (show ∀ (L1 L2 : Nat) (W : World), Gr w W → W.cell? ⟨L1, 0, none⟩ = some (.slice p n c) → W.cell? ⟨L2, 0, none⟩ = some (.slice q l k) → Calls Tryz.prog 93 #[.slice q l k, .func (.func 94) #[] #[.pointer (some ⟨L1, 0, none⟩), .pointer (some ⟨L2, 0, none⟩)]] W fun e w' => e = .returned (.int .i64 0) ∧ Gr W w' from by
    intro L1 L2 W g a1 a2
    apply eachOut_c
    by_cases h0 : 0 < l
    · obtain ⟨⟨q', k', e, hk, hh⟩⟩ := ho
      cases e
      obtain ⟨b, off, rfl, hc⟩ := hh (by omega)
      obtain ⟨⟨p', c', e, hcc, hr⟩⟩ := hx
      cases e
      have hx0 : 0 < xs.length := by
        have hm := List.getElem_mem (l := ns) (n := 0) (by omega)
        have := hO.has _ hm
        rcases xs with _ | _
        · simp [dupR] at this
        · simp
      obtain ⟨b1, off1, rfl, hc1⟩ := hr hx0
      exact findOut_ok hO hn h1 hl h2 hk.1 hk.2 (fun i x hx => (hc1 i x hx).gr g) (fun i t ht => g.cell (hc i t ht)) a1 a2
    · obtain rfl : l = 0 := by omega
      refine (findOut_0 q k _ W).mono ?_
      rintro e w' ⟨rfl, rfl⟩
      exact ⟨rfl, Gr.refl _⟩)
  obtain ⟨W, hW, g, a1, a2⟩ := box11 w (.slice p n c) (.slice q l k) 22 23
  have HW := Lib.hid hW
  have hz2 : decide ((160 : Int) < l) = false := decide_eq_false (by omega)
  clear hW hO hx ho hn hl
  go_enter Tryz.func49, Tryz.ntmps49
  go_wp2_with fail
  rw [HW.out]
  generalize w.heap.size = B at *
  clear HW
  refine (HE.out _ _ W g a1 a2).mono ?_
  rintro e w4 ⟨rfl, hg⟩
  go_wp2_with fail
  go_ret
  exact ⟨rfl, g.trans hg⟩
end Go.Proofs.YtenhodepaoaiiaaGreatDoor
