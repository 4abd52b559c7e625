/- Who goes on (chapter 6): checkOut of the program and of the reference, exactly; Replace with an error. -/
import Derived.Test.YtenhodepaoaiiaaGreatDoorGStR
import Derived.Test.YtenhodepaoaiiaaGreatDoorGRkR
import Derived.Test.YtenhodepaoaiiaaGreatDoorGLaid
namespace Go.Proofs.YtenhodepaoaiiaaGreatDoor
open Go.RowKit Go.Lib
set_option linter.unusedSimpArgs false
set_option linter.unusedVariables false
set_option maxHeartbeats 2000000
set_option maxRecDepth 100000
theorem findOut_c {xs : List RowR} {ns : List ByteArray} {p1 : Option Addr} {n1 cap1 n b off cap L1 L2 : Nat} {w : World} (hx : RowsV w (.slice p1 n1 cap1) xs) (h11 : n1 ≤ 200) (hn : ns.length = n) (h1 : n ≤ 160) (hcap : n ≤ cap) (hmx : cap ≤ maxLen) (hc : ∀ i t, ns[i]? = some t → w.cell? ⟨b, off + i, none⟩ = some (.string t)) (hL1 : w.cell? ⟨L1, 0, none⟩ = some (.slice p1 n1 cap1)) (hL2 : w.cell? ⟨L2, 0, none⟩ = some (.slice (some ⟨b, off, none⟩) n cap)) :
    Calls Tryz.prog 134 #[.slice (some ⟨b, off, none⟩) n cap, .func (.func 94) #[] #[.pointer (some ⟨L1, 0, none⟩), .pointer (some ⟨L2, 0, none⟩)]] w fun e w' => (∃ i : Int, e = .returned (.tuple #[.int .i64 i, .int .i64 (namesG xs ns n 0)])) ∧ Gr w w' := by
  have HX := Lib.hid (fun k (h : k < n) => (show ∃ x, ns[k]? = some x from ⟨ns[k]'(by omega), List.getElem?_eq_getElem _⟩))
  have HC := Lib.hid hc
  have HS := Lib.hid (fun i x (hi : i < n) (h : ns[i]? = some x) => namesG_step (xs := xs) hi h)
  have HE : Hid (namesG xs ns 0 n = 0) := rfl
  have HO := Lib.hid (fun (j : Nat) (s : ByteArray) (W : World) (g : Gr w W) (hs : ns[j]? = some s) => oneOut_c (L1 := L1) (L2 := L2) (w := W) (hx.gr g) h11 hn h1 hcap hmx hs (fun i t ht => g.cell (hc i t ht)) (g.cell hL1) (g.cell hL2))
  generalize hrg : namesG xs ns = R at *
  clear hc hL1 hL2 hn hx hrg
  go_enter Tryz.func134, Tryz.ntmps134
  go_wp2_with fail
  go_loopg [11] n (fun gk s11 wr => ∃ i : Nat, s11 = .int .i64 i ∧ gk + i = n ∧ Gr w wr ∧ Hid (R (n - i) i = R n 0))
  case atStart => exact ⟨0, rfl, by omega, Gr.refl _, by simp [Hid]⟩
  case round =>
    obtain ⟨i, rfl, hi, hg, HF⟩ := hrel
    by_cases hlt : i < n
    · obtain ⟨x, hx⟩ := HX.out i hlt
      have c0 := hg.cell (HC.out i x hx)
      have hi2 : (i : Int) < n := by omega
      have hst := HS.out i x hlt hx
      have HT := Lib.hid (HO.out i x _ hg hx)
      clear hx
      by_cases h0 : nameG xs ns i x = 0
      · rw [h0] at HT
        rw [if_pos h0] at hst
        have HF2 := Lib.hid hst
        clear hst h0
        go_wp2_with (refine HT.out.mono ?_; rintro e w4 ⟨rfl, hg2⟩)
        go_roundg (gk - 1)
        case measure => omega
        case rel => exact ⟨i + 1, by go_num, by omega, hg.trans hg2, by unfold Hid; rw [← HF2.out, HF.out]⟩
      · rw [if_neg h0] at hst
        generalize nameG xs ns i x = z at *
        have q2 : (z != 0) = true := bne_iff_ne.2 h0
        have HQ : Hid (R n 0 = z) := by unfold Hid; rw [← HF.out, hst]
        clear hst h0
        go_wp2_with (refine HT.out.mono ?_; rintro e w4 ⟨rfl, hg2⟩)
        exact bodyPost_ret (v := .tuple #[.int .i64 i, .int .i64 z]) (by simp [results, Tryz.results134, go_sem]) rfl ⟨⟨i, by rw [HQ.out]⟩, hg.trans hg2⟩
    · have hin : i = n := by omega
      have hi2 : ¬ (i : Int) < n := by omega
      have HQ : Hid (R n 0 = 0) := by unfold Hid; rw [← HF.out, hin, Nat.sub_self]; exact HE.out
      go_wp2_with fail
      exact bodyPost_ret (v := .tuple #[.int .i64 0, .int .i64 0]) (by simp [results, Tryz.results134, go_sem]) rfl ⟨⟨0, by rw [HQ.out]⟩, hg⟩
theorem eachOut6_c (v f : Value) (z : Int) (w : World) (h : Calls Tryz.prog 134 #[v, f] w fun e w' => (∃ i : Int, e = .returned (.tuple #[.int .i64 i, .int .i64 z])) ∧ Gr w w') :
    Calls Tryz.prog 93 #[v, f] w fun e w' => e = .returned (.int .i64 z) ∧ Gr w w' := by
  have H := Lib.hid h
  clear h
  go_enter Tryz.func93, Tryz.ntmps93
  go_wp2_with (refine H.out.mono ?_; rintro e w4 ⟨⟨i, rfl⟩, hg⟩)
  go_ret
  exact ⟨rfl, hg⟩
theorem checkOut_many (p : Option Addr) (n c : Nat) (q : Option Addr) (l k : Nat) (h : 160 < l) (w : World) :
    Calls Tryz.prog 49 #[.slice p n c, .slice q l k] w fun e w' => e = .returned (.int .i64 5) ∧ Gr w w' := by
  have h2 : decide ((160 : Int) < l) = true := decide_eq_true (by omega)
  go_enter Tryz.func49, Tryz.ntmps49
  go_wp2_with fail
  go_ret
  exact ⟨rfl, ((Gr.refl w).alloc _).alloc _⟩
theorem checkOut_c {xs : List RowR} {ns : List ByteArray} {p : Option Addr} {n c : Nat} {q : Option Addr} {l k : Nat} {w : World} (hx : RowsV w (.slice p n c) xs) (h1 : n ≤ 200) (ho : WordsV w (.slice q l k) ns) :
    Calls Tryz.prog 49 #[.slice p n c, .slice q l k] w fun e w' => e = .returned (.int .i64 (outG xs ns)) ∧ Gr w w' := by
  obtain ⟨hl, hk, hh⟩ := ho.at
  unfold outG
  by_cases h2 : 160 < l
  · rw [if_pos (by omega)]; exact checkOut_many p n c q l k h2 w
  rw [if_neg (by omega), hl]
  have HE := Lib.hid (show ∀ (L1 L2 : Nat) (W : World), Gr w W → W.cell? ⟨L1, 0, none⟩ = some (.slice p n c) → W.cell? ⟨L2, 0, none⟩ = some (.slice q l k) → Calls Tryz.prog 93 #[.slice q l k, .func (.func 94) #[] #[.pointer (some ⟨L1, 0, none⟩), .pointer (some ⟨L2, 0, none⟩)]] W fun e w' => e = .returned (.int .i64 (namesG xs ns l 0)) ∧ Gr W w' from by
    intro L1 L2 W g a1 a2
    apply eachOut6_c
    by_cases h0 : 0 < l
    · obtain ⟨b, off, rfl, hc⟩ := hh h0
      exact findOut_c (hx.gr g) h1 hl (by omega) hk.1 hk.2 (fun i t ht => g.cell (hc i t ht)) a1 a2
    · obtain rfl : l = 0 := by omega
      refine (findOut_0 q k _ W).mono ?_
      rintro e w' ⟨rfl, rfl⟩
      exact ⟨⟨0, rfl⟩, Gr.refl _⟩)
  generalize namesG xs ns l 0 = R at *
  obtain ⟨W, hW, g, a1, a2⟩ := box11 w (.slice p n c) (.slice q l k) 22 23
  have HW := Lib.hid hW
  have hz2 : decide ((160 : Int) < l) = false := decide_eq_false (by omega)
  clear hW hx ho hl hh
  go_enter Tryz.func49, Tryz.ntmps49
  go_wp2_with fail
  rw [HW.out]
  generalize w.heap.size = B at *
  clear HW
  refine (HE.out _ _ W g a1 a2).mono ?_
  rintro e w4 ⟨rfl, hg⟩
  go_wp2_with fail
  go_ret
  exact ⟨rfl, g.trans hg⟩
/-- Replace with an error -/
theorem replace_bad {xs : List RowR} {ns : List ByteArray} {p : Option Addr} {n c : Nat} {q : Option Addr} {l k : Nat} {w : World} (m : Int) (hx : RowsV w (.slice p n c) xs) (h1 : n ≤ 200) (ho : WordsV w (.slice q l k) ns) {E : Int} (hE : firstE [firstE [listG xs, outE m 0 160], outG xs ns] = E) (hE0 : E ≠ 0) :
    Calls Tryz.prog 10 #[.slice p n c, .int .i64 m, .slice q l k] w fun e w' => e = .returned (.tuple #[.slice none 0 0, .int .i64 E]) ∧ Gr w w' := by
  have HQ := Lib.hid (quota_c hx m)
  have HO := Lib.hid (fun W (g : Gr w W) => checkOut_c (hx.gr g) h1 (ho.gr g))
  generalize firstE [listG xs, outE m 0 160] = E1 at *
  generalize outG xs ns = E2 at *
  have HF := Lib.hid (fun b cap W => first_pair E1 E2 b cap W)
  have HFz := Lib.hid hE
  have hE2 : (E != 0) = true := bne_iff_ne.2 hE0
  clear hx ho hE hE0
  go_enter Tryz.func10, Tryz.ntmps10
  go_wp2_with fail
  refine HQ.out.mono ?_
  rintro e w1 ⟨rfl, g1⟩
  go_wp2_with fail
  refine (HO.out _ g1).mono ?_
  rintro e w2 ⟨rfl, g2⟩
  go_wp2_with fail
  refine (HF.out _ _ _ (by exact cell_new _ #[_, _] _ 0 (by simp)) (by exact cell_new _ #[_, _] _ 1 (by simp))).mono ?_
  rintro e w3 ⟨rfl, rfl⟩
  rw [HFz.out]
  go_wp2_with fail
  exact bodyPost_ret (v := .tuple #[.slice none 0 0, .int .i64 E]) (by simp [results, Tryz.results10, go_sem]) rfl ⟨rfl, (g1.trans g2).alloc _⟩
set_option maxHeartbeats 2000000 in
set_option maxRecDepth 100000 in
theorem refOut6_c {xs : List RowR} {ns : List ByteArray} {p : Option Addr} {N c : Nat} {q : Option Addr} {n k0 : Nat} {w : World} (hx : RowsV w (.slice p N c) xs) (ho : WordsV w (.slice q n k0) ns) (h1 : N ≤ 160) (h2 : n ≤ 160) :
    Calls Tryz.prog 15 #[.slice p N c, .slice q n k0] w fun e w' => e = .returned (.int .i64 (namesG xs ns n 0)) ∧ Gr w w' := by
  obtain ⟨hN, _, hh⟩ := hx.at
  obtain ⟨hn, _, hw⟩ := ho.at
  have HX := Lib.hid (fun k (h : k < N) => (show ∃ x, xs[k]? = some x from ⟨xs[k]'(by omega), List.getElem?_eq_getElem _⟩))
  have HS := Lib.hid (fun k (h : k < n) => (show ∃ x, ns[k]? = some x from ⟨ns[k]'(by omega), List.getElem?_eq_getElem _⟩))
  have HH := Lib.hid hh
  have HW := Lib.hid hw
  have HNn := Lib.hid hn
  have HNN := Lib.hid hN
  have hz2 : decide ((160 : Int) < n) = false := decide_eq_false (by omega)
  have HSt := Lib.hid (fun i x (hi : i < n) (h : ns[i]? = some x) => namesG_step (xs := xs) hi h)
  have HNm := Lib.hid (fun i s => (show nameG xs ns i s = if dupR xs N s = true then (if hasS (ns.take i) s = true then 9 else 0) else 10 from by unfold nameG; rw [hN]))
  have HE : Hid (namesG xs ns 0 n = 0) := rfl
  have HLe := Lib.hid (fun (j i : Nat) (s : ByteArray) (h : j ≤ i) (hd : hasS (ns.take j) s = true) => hasS_le (n := i) h hd)
  generalize hrg : namesG xs ns = R at *
  clear hh hw hn hN hx ho hrg
  go_enter Tryz.func15, Tryz.ntmps15
  go_wp2_with fail
  go_loopg [5] n (fun gk s5 wr => ∃ i : Nat, s5 = .int .i64 i ∧ gk + i = n ∧ Gr w wr ∧ Hid (R (n - i) i = R n 0))
  case atStart => exact ⟨0, rfl, by omega, Gr.refl _, by simp [Hid]⟩
  case round =>
    obtain ⟨i, rfl, hi, hg, HF⟩ := hrel
    obtain ⟨gO, rfl⟩ : ∃ q, q = gk := ⟨gk, rfl⟩
    by_cases hlt : i < n
    · obtain ⟨s, hs⟩ := HS.out i hlt
      obtain ⟨b, off, rfl, hc⟩ := HW.out (by omega)
      have HSs := Lib.hid hs
      have HCs := Lib.hid hc
      have HSi := Lib.hid (HSt.out i s hlt hs)
      have HNi := Lib.hid (HNm.out i s)
      have hi2 : (i : Int) < n := by omega
      clear hs hc
      go_wp2_with fail
      go_loopg [6, 7] N (fun g2 s6 s7 wr2 => ∃ k : Nat, s7 = .int .i64 k ∧ s6 = .bool (dupR xs k s) ∧ g2 + k = N ∧ Gr w wr2)
      case atStart => exact ⟨0, rfl, by simp [dupR], by omega, hg⟩
      case round =>
        obtain ⟨k, rfl, rfl, hk, hg2⟩ := hrel
        by_cases hkN : k < N
        · obtain ⟨y, hy⟩ := HX.out k hkN
          obtain ⟨b1, off1, rfl, hc1⟩ := HH.out (by omega)
          have d0 := ((hc1 k y hy).gr hg2).nm
          have e0 := hg2.cell (HCs.out i s HSs.out)
          have hk2 : (k : Int) < N := by omega
          have hdp := dupR_step hy s
          cases hd : dupR xs k s
          · rw [hd, Bool.false_or] at hdp
            cases e2 : (y.nm.toList == s.toList)
            all_goals
              rw [e2] at hdp
              have HD2 := Lib.hid hdp
              clear hdp hy hc1
              go_wp2_with fail
              go_big_quiet (fail)
              go_wp2_with fail
              go_roundg (gk - 1)
              case measure => omega
              case rel => exact ⟨k + 1, by go_num, by rw [HD2.out], by omega, hg2.drewN _⟩
          · rw [hd, Bool.true_or] at hdp
            have HD2 := Lib.hid hdp
            clear hdp hy hc1
            go_wp2_with fail
            go_big_quiet (fail)
            go_wp2_with fail
            go_roundg (gk - 1)
            case measure => omega
            case rel => exact ⟨k + 1, by go_num, by rw [HD2.out], by omega, hg2.drewN _⟩
        · have hkN2 : k = N := by omega
          have hk3 : ¬ (k : Int) < N := by omega
          cases hd : dupR xs k s
          · have HQ : Hid (R n 0 = 10) := by
              have h3 := HNi.out
              rw [← hkN2, hd, if_neg (by decide)] at h3
              unfold Hid; rw [← HF.out, HSi.out, h3, if_neg (by decide)]
            go_wp2_with fail
            go_ret
            exact ⟨by rw [HQ.out]; rfl, hg2⟩
          · rw [hkN2] at hd
            have HD := Lib.hid hd
            clear hd
            go_wp2_with fail
            go_loopg [8] i (fun g3 s8 wr3 => ∃ j : Nat, s8 = .int .i64 j ∧ g3 + j = i ∧ Gr w wr3 ∧ Hid (hasS (ns.take j) s = false))
            case atStart => exact ⟨0, rfl, by omega, hg2, by simp [Hid, hasS]⟩
            case round =>
              obtain ⟨j, rfl, hj, hg3, HA⟩ := hrel
              by_cases hji : j < i
              · obtain ⟨t, ht⟩ := HS.out j (by omega)
                have d0 := hg3.cell (HCs.out j t ht)
                have d1 := hg3.cell (HCs.out i s HSs.out)
                have hj2 : (j : Int) < i := by omega
                have hj3 : (j : Int) < n := by omega
                have hst := hasS_succ ht s
                rw [HA.out, Bool.false_or] at hst
                clear ht
                cases e2 : (t.toList == s.toList)
                · have hb : (s.toList == t.toList) = false := beq_eq_false_iff_ne.2 (fun e => (beq_eq_false_iff_ne.1 e2) e.symm)
                  rw [hb] at hst
                  have HST := Lib.hid hst
                  clear hst hb
                  go_wp2_with fail
                  go_big_quiet (fail)
                  go_wp2_with fail
                  go_roundg (gk - 1)
                  case measure => omega
                  case rel => exact ⟨j + 1, by go_num, by omega, hg3.drewN _, HST⟩
                · have hb : (s.toList == t.toList) = true := by rw [beq_iff_eq] at e2 ⊢; exact e2.symm
                  rw [hb] at hst
                  have HQ : Hid (R n 0 = 9) := by
                    have h3 := HNi.out
                    rw [HD.out, if_pos rfl, HLe.out (j + 1) i s (by omega) hst, if_pos rfl] at h3
                    unfold Hid; rw [← HF.out, HSi.out, h3, if_neg (by decide)]
                  clear hst hb
                  go_wp2_with fail
                  go_big_quiet (fail)
                  go_wp2_with fail
                  go_ret
                  exact ⟨by rw [HQ.out]; rfl, hg3.drewN _⟩
              · have hji2 : j = i := by omega
                have hj3 : ¬ (j : Int) < i := by omega
                have HQ : Hid (R (n - (i + 1)) (i + 1) = R n 0) := by
                  have h3 := HNi.out
                  have h4 := HA.out
                  rw [hji2] at h4
                  rw [HD.out, if_pos rfl, h4, if_neg (by decide)] at h3
                  unfold Hid; rw [← HF.out, HSi.out, h3, if_pos rfl]
                go_wp2_with fail
                go_roundg (gO - 1)
                case measure => omega
                case rel => exact ⟨i + 1, by go_num, by omega, hg3, HQ⟩
    · have hin : i = n := by omega
      have hi2 : ¬ (i : Int) < n := by omega
      have HQ : Hid (R n 0 = 0) := by unfold Hid; rw [← HF.out, hin, Nat.sub_self]; exact HE.out
      go_wp2_with fail
      go_ret
      exact ⟨by rw [HQ.out]; rfl, hg⟩
end Go.Proofs.YtenhodepaoaiiaaGreatDoor
namespace Go.Proofs.YtenhodepaoaiiaaGreatDoor
open Go.RowKit Go.Lib
set_option linter.unusedSimpArgs false
set_option linter.unusedVariables false
set_option maxHeartbeats 1000000 in
set_option maxRecDepth 100000 in
theorem sameWords_pos (ns : List ByteArray) (n b b2 cap cap2 : Nat) (w : World) (hn : ns.length = n) (h1 : n ≤ 1000) (ha : ∀ i s, ns[i]? = some s → w.cell? ⟨b, i, none⟩ = some (.string s)) (hb : ∀ i s, ns[i]? = some s → w.cell? ⟨b2, i, none⟩ = some (.string s)) :
    Calls Tryz.prog 18 #[.slice (some ⟨b, 0, none⟩) n cap, .slice (some ⟨b2, 0, none⟩) n cap2] w fun e w' => e = .returned (.bool true) ∧ Gr w w' := by
  have HX := Lib.hid (fun k (h : k < n) => (show ∃ x, ns[k]? = some x from ⟨ns[k]'(by omega), List.getElem?_eq_getElem _⟩))
  have HA := Lib.hid ha
  have HB := Lib.hid hb
  clear ha hb hn
  go_enter Tryz.func18, Tryz.ntmps18
  go_wp2_with fail
  go_loopg [5] n (fun gk s5 wr => ∃ i : Nat, s5 = .int .i64 i ∧ gk + i = n ∧ Gr w wr)
  case atStart => exact ⟨0, rfl, by omega, Gr.refl _⟩
  case round =>
    obtain ⟨i, rfl, hi, hnx⟩ := hrel
    by_cases hlt : i < n
    · obtain ⟨x, hx⟩ := HX.out i hlt
      have c0 := hnx.cell (HA.out i x hx)
      have c1 := hnx.cell (HB.out i x hx)
      have hi2 : (i : Int) < n := by omega
      clear hx
      go_wp2_with fail
      go_quiet (fail)
      go_wp2_with fail
      go_roundg (gk - 1)
      case measure => omega
      case rel => exact ⟨i + 1, by go_num, by omega, hnx.drewN _⟩
    · obtain rfl : i = n := by omega
      go_wp2_with fail
      go_ret
      exact ⟨rfl, hnx⟩
theorem sameWords_nil (p p2 : Option Addr) (cap cap2 : Nat) (w : World) :
    Calls Tryz.prog 18 #[.slice p 0 cap, .slice p2 0 cap2] w fun e w' => e = .returned (.bool true) ∧ Gr w w' := by
  go_enter Tryz.func18, Tryz.ntmps18
  go_wp2_with fail
  refine wp_loop_rounds 2 ?_
  rw [rounds_succ]
  go_wp2_with fail
  go_ret
  exact ⟨rfl, Gr.refl _⟩
theorem sameWords_c {v v2 : Value} {ns : List ByteArray} {w : World} (h : StrsV w v ns) (h2 : StrsV w v2 ns) (hs : ns.length ≤ 1000) :
    Calls Tryz.prog 18 #[v, v2] w fun e w' => e = .returned (.bool true) ∧ Gr w w' := by
  obtain ⟨⟨p, cap, rfl, _, ha⟩⟩ := h
  obtain ⟨⟨p2, cap2, rfl, _, hb⟩⟩ := h2
  rcases ha with ⟨rfl, rfl, rfl⟩ | ⟨g, rfl, a⟩
  · exact sameWords_nil _ p2 _ cap2 w
  · rcases hb with ⟨rfl, rfl, rfl⟩ | ⟨g2, rfl, b⟩
    · exact sameWords_nil _ _ cap _ w
    · exact sameWords_pos ns _ g g2 cap cap2 w rfl hs a b
end Go.Proofs.YtenhodepaoaiiaaGreatDoor
namespace Go.Proofs.YtenhodepaoaiiaaGreatDoor
open Go.RowKit Go.Lib
set_option linter.unusedSimpArgs false
set_option linter.unusedVariables false
set_option maxHeartbeats 4000000
set_option maxRecDepth 100000
theorem refWithout_c {xs : List RowR} {ns : List ByteArray} {p : Option Addr} {n c : Nat} {q : Option Addr} {l k0 : Nat} {w : World} (hx : RowsV w (.slice p n c) xs) (h1 : n < 20) (ho : WordsV w (.slice q l k0) ns) (h2 : l ≤ 1000) :
    Calls Tryz.prog 16 #[.slice p n c, .slice q l k0] w fun e w' => ∃ q l k, e = .returned (.slice q l k) ∧ RowsV w' (.slice q l k) (rest ns xs) ∧ Gr w w' := by
  obtain ⟨i0, hi, hz0, hz1, hz2⟩ := info_parts infoRes
  obtain ⟨hn, _, hh⟩ := hx.at
  have HHas := Lib.hid (fun W (g : Gr w W) s => hasWord_c (ho.gr g) h2 s)
  have HX := Lib.hid (fun k (h : k < n) => (show ∃ x, xs[k]? = some x from ⟨xs[k]'(by omega), List.getElem?_eq_getElem _⟩))
  have HFl := Lib.hid (fun k => (show (rest ns (xs.take k)).length < 20 from by have := rest_le ns (xs.take k); rw [List.length_take] at this; omega))
  have HH := Lib.hid hh
  have HN := Lib.hid hn
  clear hx hn ho hh
  go_enter Tryz.func16, Tryz.ntmps16
  go_wp2_with fail
  go_loopw [5, 6] (fun v i wr => ∃ k : Nat, k ≤ n ∧ i = .int .i64 k ∧ wr.ownsRow w.heap.size 42 3 v (rest ns (xs.take k)).length (rowCs (rest ns (xs.take k))) ∧ Gr w wr) (fun _ i _ => n - (intOf i).toNat)
  case atStart => exact ⟨0, Nat.zero_le _, rfl, World.ownsRow_nil _ _ _ _, Gr.refl _⟩
  case round =>
    obtain ⟨k, hk, rfl, hown, hnx⟩ := hrel
    have hsize := hnx.size
    by_cases hkN : k < n
    · obtain ⟨x, hx⟩ := HX.out k hkN
      obtain ⟨b, off, rfl, hc⟩ := HH.out (by omega)
      obtain ⟨c0, c1, c2, hv, _⟩ := (hc k x hx).gr hnx
      obtain ⟨⟨p', cap', hu, _⟩⟩ := hv
      rw [hu] at c2
      have HQ := Lib.hid (rest_take (ns := ns) hx)
      have HL := Lib.hid (HFl.out k)
      have HRc := Lib.hid (rowCs_len (rest ns (xs.take k)))
      have hi2 : (k : Int) < n := by omega
      have HCx := Lib.hid (HHas.out _ hnx x.nm)
      have HOW := Lib.hid hown
      cases hh : hasS ns x.nm
      · rw [hh] at HCx
        have HQ2 := Lib.hid (show rest ns (xs.take (k + 1)) = rest ns (xs.take k) ++ [x] from by
          have := HQ.out; rw [hh] at this; simpa using this)
        have HQ3 := Lib.hid (show rowCs (rest ns (xs.take k) ++ [x]) = rowCs (rest ns (xs.take k)) ++ [.string x.nm, .string x.st, .slice p' x.xs.length cap'] from by rw [rowCs_add]; unfold rowC; rw [hu])
        have HQ4 := Lib.hid (show (rest ns (xs.take k) ++ [x]).length = (rest ns (xs.take k)).length + 1 from by simp)
        have hl20 := HL.out
        clear hown hx hh hu hc
        generalize (rest ns (xs.take k)).length = z at *
        go_wp2_with (first
          | (refine HCx.out.mono ?_; rintro e w4 ⟨rfl, rfl⟩)
          | (at_builtin; refine wpList_append_own _ rfl _ _ 22 rfl w.heap.size 42 i0 (.agg #[.string ⟨#[]⟩, .string ⟨#[]⟩, .slice none 0 0]) 3 56 Tryz.underlying22 hi hz0 hz1 hz2 rfl (by decide) _ _ _ rfl (HOW.out.alloc _) ⟨wr.heap.size, 0, none⟩ 1 1 [.string x.nm, .string x.st, .slice p' x.xs.length cap'] rfl rfl (cell_three_sz _ _ (by simp) _ _ _ _) (by intro u hu; simp at hu; rcases hu with rfl | rfl | rfl <;> rfl) (by unfold maxLen; omega) (by omega) (by simp; omega) ?_; intro v1 w1 hown1 hgrow1 hnil1))
        go_roundw
        case rel =>
          exact ⟨k + 1, by omega, by go_num, by rw [HQ2.out, HQ3.out, HQ4.out]; exact hown1, Below.grown (hnx.alloc _) hgrow1 (by simp; omega) (fun j hj => (HOW.out.lt j hj).1)⟩
        case measure => simp [intOf]; omega
      · rw [hh] at HCx
        have HQ2 := Lib.hid (show rest ns (xs.take (k + 1)) = rest ns (xs.take k) from by
          have := HQ.out; rw [hh] at this; simpa using this)
        clear hown hx hh hu hc
        go_wp2_with (refine HCx.out.mono ?_; rintro e w4 ⟨rfl, rfl⟩)
        go_roundw
        case rel => exact ⟨k + 1, by omega, by go_num, by rw [HQ2.out]; exact HOW.out, hnx⟩
        case measure => simp [intOf]; omega
    · obtain rfl : k = n := by omega
      have hi2 : ¬ (k : Int) < k := by omega
      rw [List.take_of_length_le (by have := HN.out; omega)] at hown
      obtain ⟨p2, c2, rfl, hrows⟩ := rowsV_owns hown rfl (fun x hx => by
        have hmem : x ∈ xs := (List.mem_filter.1 hx).1
        obtain ⟨j, hj⟩ := List.mem_iff_getElem?.1 hmem
        have hjl := (List.getElem?_eq_some_iff.1 hj).1
        obtain ⟨b, off, _, hc⟩ := HH.out (by have := HN.out; omega)
        have := hc j x hj
        exact ⟨this.val.gr hnx, this.len⟩)
      clear hown
      go_wp2_with fail
      go_ret
      exact ⟨_, _, _, rfl, hrows, hnx⟩
theorem shortRs_lim {xs : List RowR} {p : Option Addr} {n c : Nat} {w : World} (m : Nat) (h : Rows0V w (.slice p n c) xs) :
    Calls Tryz.prog 6 #[.slice p n c, .int .i64 m] w fun e w' => ShoRet e xs ∧ w = w' := by
  obtain ⟨⟨p', c', e, hcap, hh⟩⟩ := h
  cases e
  by_cases h0 : 0 < xs.length
  · obtain ⟨b, off, rfl, hc⟩ := hh h0
    exact shortRs_pos xs _ b off c m w rfl (Nat.le_trans hcap.1 hcap.2) hc
  · have hz : xs = [] := List.length_eq_zero_iff.1 (by omega)
    subst hz
    refine (shortRs_nil p c m (by omega) w).mono ?_
    rintro e w' ⟨rfl, rfl⟩
    exact ⟨⟨true, rfl, fun _ x hx => by cases hx⟩, rfl⟩
theorem shortRs_mid (p : Option Addr) (n c m : Nat) (w : World) (h1 : m < n) (h2 : n ≤ 160) :
    Calls Tryz.prog 6 #[.slice p n c, .int .i64 m] w fun e w' => e = .returned (.bool false) ∧ w = w' := by
  have h3 : decide ((m : Int) < (n : Int)) = true := decide_eq_true (by omega)
  have h4 : decide ((n : Int) ≤ 160) = true := decide_eq_true (by omega)
  go_enter Tryz.func6, Tryz.ntmps6
  go_wp2_with fail
  go_ret
  exact ⟨rfl, rfl⟩
theorem refRes6_many (p : Option Addr) (n c : Nat) (w : World) (h : 160 < n) :
    Calls Tryz.prog 7 #[.slice p n c] w fun e w' => e = .returned (.int .i64 5) ∧ Gr w w' := by
  have h2 : decide ((160 : Int) < n) = true := decide_eq_true (by omega)
  go_enter Tryz.func7, Tryz.ntmps7
  go_wp2_with fail
  go_ret
  exact ⟨rfl, Gr.refl _⟩
/-- names in a slice that was made just now -/
theorem words_one (w : World) (s : ByteArray) (T : TypeId) : WordsV (w.alloc (.cells #[.string s] T)) (.slice (some ⟨w.heap.size, 0, none⟩) 1 1) [s] :=
  ⟨_, 1, rfl, ⟨Nat.le_refl _, by unfold maxLen; omega⟩, fun _ => ⟨_, 0, rfl, fun i t ht => by
    match i, ht with
    | 0, ht => simp at ht; subst ht; exact cell_new w #[.string s] T 0 (by simp)
    | i + 1, ht => simp at ht⟩⟩
theorem words_two (w : World) (s t : ByteArray) (T : TypeId) : WordsV (w.alloc (.cells #[.string s, .string t] T)) (.slice (some ⟨w.heap.size, 0, none⟩) 2 2) [s, t] :=
  ⟨_, 2, rfl, ⟨Nat.le_refl _, by unfold maxLen; omega⟩, fun _ => ⟨_, 0, rfl, fun i u hu => by
    match i, hu with
    | 0, hu => simp at hu; subst hu; exact cell_new w #[.string s, .string t] T 0 (by simp)
    | 1, hu => simp at hu; subst hu; exact cell_new w #[.string s, .string t] T 1 (by simp)
    | i + 2, hu => simp at hu⟩⟩
theorem dupR_mem {xs : List RowR} {i : Nat} {x : RowR} (h : xs[i]? = some x) : dupR xs xs.length x.nm = true := by
  unfold dupR
  rw [List.take_of_length_le (Nat.le_refl _), List.any_eq_true]
  exact ⟨x, List.mem_of_getElem? h, by simp⟩
theorem outOK_one {xs : List RowR} {i : Nat} {x : RowR} (h : xs[i]? = some x) : OutOK xs [x.nm] where
  has := fun s hs => by simp at hs; subst hs; exact dupR_mem h
  apart := fun j s hs => by
    match j, hs with
    | 0, hs => rfl
    | j + 1, hs => simp at hs
theorem outOK_two {xs : List RowR} {i j : Nat} {x y : RowR} (h : xs[i]? = some x) (h2 : xs[j]? = some y) (hne : (y.nm.toList == x.nm.toList) = false) : OutOK xs [x.nm, y.nm] where
  has := fun s hs => by simp at hs; rcases hs with e | e; { rw [e]; exact dupR_mem h }; { rw [e]; exact dupR_mem h2 }
  apart := fun j s hs => by
    match j, hs with
    | 0, hs => rfl
    | 1, hs => simp at hs; subst hs; simpa [hasS] using hne
    | j + 2, hs => simp at hs
theorem outOK_rest {xs : List RowR} {j : Nat} {s : ByteArray} {y : RowR} (h2 : xs[j]? = some y) (hne : (y.nm.toList == s.toList) = false) : OutOK (rest [s] xs) [y.nm] where
  has := fun t ht => by
    simp at ht; subst ht
    have : y ∈ rest [s] xs := List.mem_filter.2 ⟨List.mem_of_getElem? h2, by simp [hasS, hne]⟩
    obtain ⟨k, hk⟩ := List.mem_iff_getElem?.1 this
    exact dupR_mem hk
  apart := fun j s hs => by
    match j, hs with
    | 0, hs => rfl
    | j + 1, hs => simp at hs
end Go.Proofs.YtenhodepaoaiiaaGreatDoor
