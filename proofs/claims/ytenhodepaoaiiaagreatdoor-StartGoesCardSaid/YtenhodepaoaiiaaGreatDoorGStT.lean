/- Who goes on (chapter 6): checkOut of the program and of the reference, exactly; Replace with an error. -/
import Derived.Test.YtenhodepaoaiiaaGreatDoorGStR
import Derived.Test.YtenhodepaoaiiaaGreatDoorGThE
namespace Go.Proofs.YtenhodepaoaiiaaGreatDoor
open Go.RowKit Go.Lib
set_option linter.unusedSimpArgs false
set_option linter.unusedVariables false
set_option maxHeartbeats 2000000
set_option maxRecDepth 100000
theorem findOut_c {xs : List RowR} {ns : List ByteArray} {p1 : Option Addr} {n1 cap1 n b off cap L1 L2 : Nat} {w : World} (hx : RowsV w (.slice p1 n1 cap1) xs) (h11 : n1 ≤ 160) (hn : ns.length = n) (h1 : n ≤ 160) (hcap : n ≤ cap) (hmx : cap ≤ maxLen) (hc : ∀ i t, ns[i]? = some t → w.cell? ⟨b, off + i, none⟩ = some (.string t)) (hL1 : w.cell? ⟨L1, 0, none⟩ = some (.slice p1 n1 cap1)) (hL2 : w.cell? ⟨L2, 0, none⟩ = some (.slice (some ⟨b, off, none⟩) n cap)) :
    Calls Tryz.prog 134 #[.slice (some ⟨b, off, none⟩) n cap, .func (.func 94) #[] #[.pointer (some ⟨L1, 0, none⟩), .pointer (some ⟨L2, 0, none⟩)]] w fun e w' => (∃ i : Int, e = .returned (.tuple #[.int .i64 i, .int .i64 (namesG xs ns n 0)])) ∧ Gr w w' := by
  have HX := Lib.hid (fun k (h : k < n) => (show ∃ x, ns[k]? = some x from ⟨ns[k]'(by omega), List.getElem?_eq_getElem _⟩))
  have HC := Lib.hid hc
  have HS := Lib.hid (fun i x (hi : i < n) (h : ns[i]? = some x) => namesG_step (xs := xs) hi h)
  have HE : Hid (namesG xs ns 0 n = 0) := rfl
  have HO := Lib.hid (fun (j : Nat) (s : ByteArray) (W : World) (g : Gr w W) (hs : ns[j]? = some s) => oneOut_c (L1 := L1) (L2 := L2) (w := W) (hx.gr g) h11 hn h1 hcap hmx hs (fun i t ht => g.cell (hc i t ht)) (g.cell hL1) (g.cell hL2))
  generalize hrg : namesG xs ns = R at *
  clear hc hL1 hL2 hn hx hrg
  go_enter Tryz.func134, Tryz.ntmps134
  go_wp2_with fail
  go_loopg [11] n (fun gk s11 wr => ∃ i : Nat, s11 = .int .i64 i ∧ gk + i = n ∧ Gr w wr ∧ Hid (R (n - i) i = R n 0))
  case atStart => exact ⟨0, rfl, by omega, Gr.refl _, by simp [Hid]⟩
  case round =>
    obtain ⟨i, rfl, hi, hg, HF⟩ := hrel
    by_cases hlt : i < n
    · obtain ⟨x, hx⟩ := HX.out i hlt
      have c0 := hg.cell (HC.out i x hx)
      have hi2 : (i : Int) < n := by omega
      have hst := HS.out i x hlt hx
      have HT := Lib.hid (HO.out i x _ hg hx)
      clear hx
      by_cases h0 : nameG xs ns i x = 0
      · rw [h0] at HT
        rw [if_pos h0] at hst
        have HF2 := Lib.hid hst
        clear hst h0
        go_wp2_with (refine HT.out.mono ?_; rintro e w4 ⟨rfl, hg2⟩)
        go_roundg (gk - 1)
        case measure => omega
        case rel => exact ⟨i + 1, by go_num, by omega, hg.trans hg2, by unfold Hid; rw [← HF2.out, HF.out]⟩
      · rw [if_neg h0] at hst
        generalize nameG xs ns i x = z at *
        have q2 : (z != 0) = true := bne_iff_ne.2 h0
        have HQ : Hid (R n 0 = z) := by unfold Hid; rw [← HF.out, hst]
        clear hst h0
        go_wp2_with (refine HT.out.mono ?_; rintro e w4 ⟨rfl, hg2⟩)
        exact bodyPost_ret (v := .tuple #[.int .i64 i, .int .i64 z]) (by simp [results, Tryz.results134, go_sem]) rfl ⟨⟨i, by rw [HQ.out]⟩, hg.trans hg2⟩
    · have hin : i = n := by omega
      have hi2 : ¬ (i : Int) < n := by omega
      have HQ : Hid (R n 0 = 0) := by unfold Hid; rw [← HF.out, hin, Nat.sub_self]; exact HE.out
      go_wp2_with fail
      exact bodyPost_ret (v := .tuple #[.int .i64 0, .int .i64 0]) (by simp [results, Tryz.results134, go_sem]) rfl ⟨⟨0, by rw [HQ.out]⟩, hg⟩
theorem eachOut6_c (v f : Value) (z : Int) (w : World) (h : Calls Tryz.prog 134 #[v, f] w fun e w' => (∃ i : Int, e = .returned (.tuple #[.int .i64 i, .int .i64 z])) ∧ Gr w w') :
    Calls Tryz.prog 93 #[v, f] w fun e w' => e = .returned (.int .i64 z) ∧ Gr w w' := by
  have H := Lib.hid h
  clear h
  go_enter Tryz.func93, Tryz.ntmps93
  go_wp2_with (refine H.out.mono ?_; rintro e w4 ⟨⟨i, rfl⟩, hg⟩)
  go_ret
  exact ⟨rfl, hg⟩
theorem checkOut_many (p : Option Addr) (n c : Nat) (q : Option Addr) (l k : Nat) (h : 160 < l) (w : World) :
    Calls Tryz.prog 49 #[.slice p n c, .slice q l k] w fun e w' => e = .returned (.int .i64 5) ∧ Gr w w' := by
  have h2 : decide ((160 : Int) < l) = true := decide_eq_true (by omega)
  go_enter Tryz.func49, Tryz.ntmps49
  go_wp2_with fail
  go_ret
  exact ⟨rfl, ((Gr.refl w).alloc _).alloc _⟩
theorem checkOut_c {xs : List RowR} {ns : List ByteArray} {p : Option Addr} {n c : Nat} {q : Option Addr} {l k : Nat} {w : World} (hx : RowsV w (.slice p n c) xs) (h1 : n ≤ 160) (ho : WordsV w (.slice q l k) ns) :
    Calls Tryz.prog 49 #[.slice p n c, .slice q l k] w fun e w' => e = .returned (.int .i64 (outG xs ns)) ∧ Gr w w' := by
  obtain ⟨hl, hk, hh⟩ := ho.at
  unfold outG
  by_cases h2 : 160 < l
  · rw [if_pos (by omega)]; exact checkOut_many p n c q l k h2 w
  rw [if_neg (by omega), hl]
  have HE := Lib.hid (show ∀ (L1 L2 : Nat) (W : World), Gr w W → W.cell? ⟨L1, 0, none⟩ = some (.slice p n c) → W.cell? ⟨L2, 0, none⟩ = some (.slice q l k) → Calls Tryz.prog 93 #[.slice q l k, .func (.func 94) #[] #[.pointer (some ⟨L1, 0, none⟩), .pointer (some ⟨L2, 0, none⟩)]] W fun e w' => e = .returned (.int .i64 (namesG xs ns l 0)) ∧ Gr W w' from by
    intro L1 L2 W g a1 a2
    apply eachOut6_c
    by_cases h0 : 0 < l
    · obtain ⟨b, off, rfl, hc⟩ := hh h0
      exact findOut_c (hx.gr g) h1 hl (by omega) hk.1 hk.2 (fun i t ht => g.cell (hc i t ht)) a1 a2
    · obtain rfl : l = 0 := by omega
      refine (findOut_0 q k _ W).mono ?_
      rintro e w' ⟨rfl, rfl⟩
      exact ⟨⟨0, rfl⟩, Gr.refl _⟩)
  generalize namesG xs ns l 0 = R at *
  obtain ⟨W, hW, g, a1, a2⟩ := box11 w (.slice p n c) (.slice q l k) 22 23
  have HW := Lib.hid hW
  have hz2 : decide ((160 : Int) < l) = false := decide_eq_false (by omega)
  clear hW hx ho hl hh
  go_enter Tryz.func49, Tryz.ntmps49
  go_wp2_with fail
  rw [HW.out]
  generalize w.heap.size = B at *
  clear HW
  refine (HE.out _ _ W g a1 a2).mono ?_
  rintro e w4 ⟨rfl, hg⟩
  go_wp2_with fail
  go_ret
  exact ⟨rfl, g.trans hg⟩
/-- Replace with an error -/
theorem replace_bad {xs : List RowR} {ns : List ByteArray} {p : Option Addr} {n c : Nat} {q : Option Addr} {l k : Nat} {w : World} (m : Int) (hx : RowsV w (.slice p n c) xs) (h1 : n ≤ 160) (ho : WordsV w (.slice q l k) ns) {E : Int} (hE : firstE [firstE [listG xs, outE m 0 160], outG xs ns] = E) (hE0 : E ≠ 0) :
    Calls Tryz.prog 10 #[.slice p n c, .int .i64 m, .slice q l k] w fun e w' => e = .returned (.tuple #[.slice none 0 0, .int .i64 E]) ∧ Gr w w' := by
  have HQ := Lib.hid (quota_c hx m)
  have HO := Lib.hid (fun W (g : Gr w W) => checkOut_c (hx.gr g) h1 (ho.gr g))
  generalize firstE [listG xs, outE m 0 160] = E1 at *
  generalize outG xs ns = E2 at *
  have HF := Lib.hid (fun b cap W => first_pair E1 E2 b cap W)
  have HFz := Lib.hid hE
  have hE2 : (E != 0) = true := bne_iff_ne.2 hE0
  clear hx ho hE hE0
  go_enter Tryz.func10, Tryz.ntmps10
  go_wp2_with fail
  refine HQ.out.mono ?_
  rintro e w1 ⟨rfl, g1⟩
  go_wp2_with fail
  refine (HO.out _ g1).mono ?_
  rintro e w2 ⟨rfl, g2⟩
  go_wp2_with fail
  refine (HF.out _ _ _ (by exact cell_new _ #[_, _] _ 0 (by simp)) (by exact cell_new _ #[_, _] _ 1 (by simp))).mono ?_
  rintro e w3 ⟨rfl, rfl⟩
  rw [HFz.out]
  go_wp2_with fail
  exact bodyPost_ret (v := .tuple #[.slice none 0 0, .int .i64 E]) (by simp [results, Tryz.results10, go_sem]) rfl ⟨rfl, (g1.trans g2).alloc _⟩
set_option maxHeartbeats 2000000 in
set_option maxRecDepth 100000 in
theorem refOut6_c {xs : List RowR} {ns : List ByteArray} {p : Option Addr} {N c : Nat} {q : Option Addr} {n k0 : Nat} {w : World} (hx : RowsV w (.slice p N c) xs) (ho : WordsV w (.slice q n k0) ns) (h1 : N ≤ 160) (h2 : n ≤ 160) :
    Calls Tryz.prog 15 #[.slice p N c, .slice q n k0] w fun e w' => e = .returned (.int .i64 (namesG xs ns n 0)) ∧ Gr w w' := by
  obtain ⟨hN, _, hh⟩ := hx.at
  obtain ⟨hn, _, hw⟩ := ho.at
  have HX := Lib.hid (fun k (h : k < N) => (show ∃ x, xs[k]? = some x from ⟨xs[k]'(by omega), List.getElem?_eq_getElem _⟩))
  have HS := Lib.hid (fun k (h : k < n) => (show ∃ x, ns[k]? = some x from ⟨ns[k]'(by omega), List.getElem?_eq_getElem _⟩))
  have HH := Lib.hid hh
  have HW := Lib.hid hw
  have HNn := Lib.hid hn
  have HNN := Lib.hid hN
  have hz2 : decide ((160 : Int) < n) = false := decide_eq_false (by omega)
  have HSt := Lib.hid (fun i x (hi : i < n) (h : ns[i]? = some x) => namesG_step (xs := xs) hi h)
  have HNm := Lib.hid (fun i s => (show nameG xs ns i s = if dupR xs N s = true then (if hasS (ns.take i) s = true then 9 else 0) else 10 from by unfold nameG; rw [hN]))
  have HE : Hid (namesG xs ns 0 n = 0) := rfl
  have HLe := Lib.hid (fun (j i : Nat) (s : ByteArray) (h : j ≤ i) (hd : hasS (ns.take j) s = true) => hasS_le (n := i) h hd)
  generalize hrg : namesG xs ns = R at *
  clear hh hw hn hN hx ho hrg
  go_enter Tryz.func15, Tryz.ntmps15
  go_wp2_with fail
  go_loopg [5] n (fun gk s5 wr => ∃ i : Nat, s5 = .int .i64 i ∧ gk + i = n ∧ Gr w wr ∧ Hid (R (n - i) i = R n 0))
  case atStart => exact ⟨0, rfl, by omega, Gr.refl _, by simp [Hid]⟩
  case round =>
    obtain ⟨i, rfl, hi, hg, HF⟩ := hrel
    obtain ⟨gO, rfl⟩ : ∃ q, q = gk := ⟨gk, rfl⟩
    by_cases hlt : i < n
    · obtain ⟨s, hs⟩ := HS.out i hlt
      obtain ⟨b, off, rfl, hc⟩ := HW.out (by omega)
      have HSs := Lib.hid hs
      have HCs := Lib.hid hc
      have HSi := Lib.hid (HSt.out i s hlt hs)
      have HNi := Lib.hid (HNm.out i s)
      have hi2 : (i : Int) < n := by omega
      clear hs hc
      go_wp2_with fail
      go_loopg [6, 7] N (fun g2 s6 s7 wr2 => ∃ k : Nat, s7 = .int .i64 k ∧ s6 = .bool (dupR xs k s) ∧ g2 + k = N ∧ Gr w wr2)
      case atStart => exact ⟨0, rfl, by simp [dupR], by omega, hg⟩
      case round =>
        obtain ⟨k, rfl, rfl, hk, hg2⟩ := hrel
        by_cases hkN : k < N
        · obtain ⟨y, hy⟩ := HX.out k hkN
          obtain ⟨b1, off1, rfl, hc1⟩ := HH.out (by omega)
          have d0 := ((hc1 k y hy).gr hg2).nm
          have e0 := hg2.cell (HCs.out i s HSs.out)
          have hk2 : (k : Int) < N := by omega
          have hdp := dupR_step hy s
          cases hd : dupR xs k s
          · rw [hd, Bool.false_or] at hdp
            cases e2 : (y.nm.toList == s.toList)
            all_goals
              rw [e2] at hdp
              have HD2 := Lib.hid hdp
              clear hdp hy hc1
              go_wp2_with fail
              go_big_quiet (fail)
              go_wp2_with fail
              go_roundg (gk - 1)
              case measure => omega
              case rel => exact ⟨k + 1, by go_num, by rw [HD2.out], by omega, hg2.drewN _⟩
          · rw [hd, Bool.true_or] at hdp
            have HD2 := Lib.hid hdp
            clear hdp hy hc1
            go_wp2_with fail
            go_big_quiet (fail)
            go_wp2_with fail
            go_roundg (gk - 1)
            case measure => omega
            case rel => exact ⟨k + 1, by go_num, by rw [HD2.out], by omega, hg2.drewN _⟩
        · have hkN2 : k = N := by omega
          have hk3 : ¬ (k : Int) < N := by omega
          cases hd : dupR xs k s
          · have HQ : Hid (R n 0 = 10) := by
              have h3 := HNi.out
              rw [← hkN2, hd, if_neg (by decide)] at h3
              unfold Hid; rw [← HF.out, HSi.out, h3, if_neg (by decide)]
            go_wp2_with fail
            go_ret
            exact ⟨by rw [HQ.out]; rfl, hg2⟩
          · rw [hkN2] at hd
            have HD := Lib.hid hd
            clear hd
            go_wp2_with fail
            go_loopg [8] i (fun g3 s8 wr3 => ∃ j : Nat, s8 = .int .i64 j ∧ g3 + j = i ∧ Gr w wr3 ∧ Hid (hasS (ns.take j) s = false))
            case atStart => exact ⟨0, rfl, by omega, hg2, by simp [Hid, hasS]⟩
            case round =>
              obtain ⟨j, rfl, hj, hg3, HA⟩ := hrel
              by_cases hji : j < i
              · obtain ⟨t, ht⟩ := HS.out j (by omega)
                have d0 := hg3.cell (HCs.out j t ht)
                have d1 := hg3.cell (HCs.out i s HSs.out)
                have hj2 : (j : Int) < i := by omega
                have hj3 : (j : Int) < n := by omega
                have hst := hasS_succ ht s
                rw [HA.out, Bool.false_or] at hst
                clear ht
                cases e2 : (t.toList == s.toList)
                · have hb : (s.toList == t.toList) = false := beq_eq_false_iff_ne.2 (fun e => (beq_eq_false_iff_ne.1 e2) e.symm)
                  rw [hb] at hst
                  have HST := Lib.hid hst
                  clear hst hb
                  go_wp2_with fail
                  go_big_quiet (fail)
                  go_wp2_with fail
                  go_roundg (gk - 1)
                  case measure => omega
                  case rel => exact ⟨j + 1, by go_num, by omega, hg3.drewN _, HST⟩
                · have hb : (s.toList == t.toList) = true := by rw [beq_iff_eq] at e2 ⊢; exact e2.symm
                  rw [hb] at hst
                  have HQ : Hid (R n 0 = 9) := by
                    have h3 := HNi.out
                    rw [HD.out, if_pos rfl, HLe.out (j + 1) i s (by omega) hst, if_pos rfl] at h3
                    unfold Hid; rw [← HF.out, HSi.out, h3, if_neg (by decide)]
                  clear hst hb
                  go_wp2_with fail
                  go_big_quiet (fail)
                  go_wp2_with fail
                  go_ret
                  exact ⟨by rw [HQ.out]; rfl, hg3.drewN _⟩
              · have hji2 : j = i := by omega
                have hj3 : ¬ (j : Int) < i := by omega
                have HQ : Hid (R (n - (i + 1)) (i + 1) = R n 0) := by
                  have h3 := HNi.out
                  have h4 := HA.out
                  rw [hji2] at h4
                  rw [HD.out, if_pos rfl, h4, if_neg (by decide)] at h3
                  unfold Hid; rw [← HF.out, HSi.out, h3, if_pos rfl]
                go_wp2_with fail
                go_roundg (gO - 1)
                case measure => omega
                case rel => exact ⟨i + 1, by go_num, by omega, hg3, HQ⟩
    · have hin : i = n := by omega
      have hi2 : ¬ (i : Int) < n := by omega
      have HQ : Hid (R n 0 = 0) := by unfold Hid; rw [← HF.out, hin, Nat.sub_self]; exact HE.out
      go_wp2_with fail
      go_ret
      exact ⟨by rw [HQ.out]; rfl, hg⟩
end Go.Proofs.YtenhodepaoaiiaaGreatDoor
namespace Go.Proofs.YtenhodepaoaiiaaGreatDoor
open Go.RowKit Go.Lib
set_option linter.unusedSimpArgs false
set_option linter.unusedVariables false
set_option maxHeartbeats 1000000 in
set_option maxRecDepth 100000 in
theorem sameWords_pos (ns : List ByteArray) (n b b2 cap cap2 : Nat) (w : World) (hn : ns.length = n) (h1 : n ≤ 1000) (ha : ∀ i s, ns[i]? = some s → w.cell? ⟨b, i, none⟩ = some (.string s)) (hb : ∀ i s, ns[i]? = some s → w.cell? ⟨b2, i, none⟩ = some (.string s)) :
    Calls Tryz.prog 18 #[.slice (some ⟨b, 0, none⟩) n cap, .slice (some ⟨b2, 0, none⟩) n cap2] w fun e w' => e = .returned (.bool true) ∧ Gr w w' := by
  have HX := Lib.hid (fun k (h : k < n) => (show ∃ x, ns[k]? = some x from ⟨ns[k]'(by omega), List.getElem?_eq_getElem _⟩))
  have HA := Lib.hid ha
  have HB := Lib.hid hb
  clear ha hb hn
  go_enter Tryz.func18, Tryz.ntmps18
  go_wp2_with fail
  go_loopg [5] n (fun gk s5 wr => ∃ i : Nat, s5 = .int .i64 i ∧ gk + i = n ∧ Gr w wr)
  case atStart => exact ⟨0, rfl, by omega, Gr.refl _⟩
  case round =>
    obtain ⟨i, rfl, hi, hnx⟩ := hrel
    by_cases hlt : i < n
    · obtain ⟨x, hx⟩ := HX.out i hlt
      have c0 := hnx.cell (HA.out i x hx)
      have c1 := hnx.cell (HB.out i x hx)
      have hi2 : (i : Int) < n := by omega
      clear hx
      go_wp2_with fail
      go_quiet (fail)
      go_wp2_with fail
      go_roundg (gk - 1)
      case measure => omega
      case rel => exact ⟨i + 1, by go_num, by omega, hnx.drewN _⟩
    · obtain rfl : i = n := by omega
      go_wp2_with fail
      go_ret
      exact ⟨rfl, hnx⟩
theorem sameWords_nil (p p2 : Option Addr) (cap cap2 : Nat) (w : World) :
    Calls Tryz.prog 18 #[.slice p 0 cap, .slice p2 0 cap2] w fun e w' => e = .returned (.bool true) ∧ Gr w w' := by
  go_enter Tryz.func18, Tryz.ntmps18
  go_wp2_with fail
  refine wp_loop_rounds 2 ?_
  rw [rounds_succ]
  go_wp2_with fail
  go_ret
  exact ⟨rfl, Gr.refl _⟩
theorem sameWords_c {v v2 : Value} {ns : List ByteArray} {w : World} (h : StrsV w v ns) (h2 : StrsV w v2 ns) (hs : ns.length ≤ 1000) :
    Calls Tryz.prog 18 #[v, v2] w fun e w' => e = .returned (.bool true) ∧ Gr w w' := by
  obtain ⟨⟨p, cap, rfl, _, ha⟩⟩ := h
  obtain ⟨⟨p2, cap2, rfl, _, hb⟩⟩ := h2
  rcases ha with ⟨rfl, rfl, rfl⟩ | ⟨g, rfl, a⟩
  · exact sameWords_nil _ p2 _ cap2 w
  · rcases hb with ⟨rfl, rfl, rfl⟩ | ⟨g2, rfl, b⟩
    · exact sameWords_nil _ _ cap _ w
    · exact sameWords_pos ns _ g g2 cap cap2 w rfl hs a b
end Go.Proofs.YtenhodepaoaiiaaGreatDoor
