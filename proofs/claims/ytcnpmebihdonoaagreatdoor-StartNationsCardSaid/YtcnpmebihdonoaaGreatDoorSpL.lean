/- Starters kept apart: the list is made. -/
import Derived.Test.YtcnpmebihdonoaaGreatDoorGSwG
import Derived.WalkMore
import Derived.BigQuiet
namespace Go.Proofs.YtcnpmebihdonoaaGreatDoor
open Go.RowKit Go.Lib
set_option linter.unusedSimpArgs false
set_option linter.unusedVariables false
theorem asc_at_T {r : List SlT} (h : Asc (ltK keyT) r) {i j : Nat} {s t : SlT} (hi : r[i]? = some s) (hj : r[j]? = some t) (hij : i ≤ j) : t.2.1 ≤ s.2.1 := by
  obtain ⟨hi1, hi2⟩ := List.getElem?_eq_some_iff.1 hi
  obtain ⟨hj1, hj2⟩ := List.getElem?_eq_some_iff.1 hj
  by_cases e : i = j
  · subst e
    rw [hi] at hj
    cases hj
    exact Nat.le_refl _
  · have := List.pairwise_iff_getElem.1 h i j hi1 hj1 (by omega)
    rw [hi2, hj2] at this
    unfold ltK keyT at this
    have := of_decide_eq_false this
    omega
theorem at_map {W : World} {r : List SlT} {i : Nat} {s : SlT} (h : r[i]? = some s) : (r.map (lstW W))[i]? = some (lstW W s) := by rw [List.getElem?_map, h]; rfl
theorem set_map {W : World} {r : List SlT} {i : Nat} {s : SlT} : (r.set i s).map (lstW W) = (r.map (lstW W)).set i (lstW W s) := by rw [List.map_set]
theorem pick_good {xs : List EntR} {n : Nat} {p : List Nat} {r : List SlT} {W1 : World} {G i a : Nat} {s : SlT} (h : ApI xs n p (r.map (lstW W1))) (hgood : ∀ s ∈ r, GoodS W1 G s) (hasc : Asc (ltK keyT) r) (hi : r[i]? = some s) (hl : lstW W1 s = a :: lstW W1 (tailT s)) (hnot : (natO xs p).getLast? ≠ some (natA xs a))
    (hb : ∀ j s', j < i → r[j]? = some s' → ∀ b ∈ lstW W1 s', (natO xs p).getLast? = some (natA xs b)) : ApI xs n (p ++ [a]) ((r.set i (tailT s)).map (lstW W1)) := by
  rw [set_map]
  refine h.next (by rw [at_map hi, hl]) (.inl ⟨hnot, fun l' hl' hex => ?_⟩)
  obtain ⟨t, ht, rfl⟩ := List.mem_map.1 hl'
  obtain ⟨j, hj⟩ := List.mem_iff_getElem?.1 ht
  obtain ⟨b, hbl, hbn⟩ := hex
  rw [← hl, lstW_len (hgood t ht), lstW_len (hgood s (List.mem_of_getElem? hi))]
  rcases Nat.lt_or_ge j i with h1 | h1
  · exact absurd (hb j t h1 hj b hbl) hbn
  · exact asc_at_T hasc hi hj h1
theorem pick_rest {xs : List EntR} {n : Nat} {p : List Nat} {r : List SlT} {W1 : World} {i a : Nat} {s : SlT} (h : ApI xs n p (r.map (lstW W1))) (hi : r[i]? = some s) (hl : lstW W1 s = a :: lstW W1 (tailT s))
    (hb : ∀ j s', j < r.length → r[j]? = some s' → ∀ b ∈ lstW W1 s', (natO xs p).getLast? = some (natA xs b)) : ApI xs n (p ++ [a]) ((r.set i (tailT s)).map (lstW W1)) := by
  rw [set_map]
  refine h.next (by rw [at_map hi, hl]) (.inr fun l' hl' b hbl => ?_)
  obtain ⟨t, ht, rfl⟩ := List.mem_map.1 hl'
  obtain ⟨j, hj⟩ := List.mem_iff_getElem?.1 ht
  exact hb j t (List.getElem?_eq_some_iff.1 hj).1 hj b hbl
theorem first_long {xs : List EntR} {n : Nat} {p : List Nat} {r : List SlT} {W1 : World} {G : Nat} {s : SlT} (h : ApI xs n p (r.map (lstW W1))) (hgood : ∀ s ∈ r, GoodS W1 G s) (hasc : Asc (ltK keyT) r) (hi : r[0]? = some s) (hm : p.length < n) : 0 < s.2.1 := by
  have h1 := h.len
  rcases Nat.eq_zero_or_pos s.2.1 with h0 | h0
  · have h2 : (r.map (lstW W1)).flatten = [] := by
      rw [List.flatten_eq_nil_iff]
      intro l hl
      obtain ⟨t, ht, rfl⟩ := List.mem_map.1 hl
      obtain ⟨j, hj⟩ := List.mem_iff_getElem?.1 ht
      have := asc_at_T hasc hi hj (Nat.zero_le _)
      exact lstW_nil (by omega)
    rw [h2] at h1
    simp at h1
    omega
  · exact h0
theorem some_team {xs : List EntR} {n : Nat} {p : List Nat} {L : List (List Nat)} (h : ApI xs n p L) (hm : p.length < n) : 0 < L.length := by
  have h1 := h.len
  cases L with
  | nil => simp at h1; omega
  | cons a L => simp
set_option maxHeartbeats 8000000 in
set_option maxRecDepth 100000 in
theorem apart_c (I : InsNOKT) (xs : List EntR) (v : Value) (w : World) (hv : EntAts w v xs) (h1 : xs.length ≤ 160)
    (HCk : ∀ W, Gr w W → Calls Tryz.prog 41 #[v] W fun e w' => e = .returned (.int .i64 0) ∧ Gr W w') :
    Calls Tryz.prog 14 #[v] w fun e w' => ∃ (pO : Option Addr) (cO : Nat) (p : List Nat), e = .returned (.tuple #[.slice pO xs.length cO, .int .i64 0]) ∧ p.Perm (List.range xs.length) ∧ Greedy none (natO xs p) ∧ (xs.length ≤ cO ∧ cO ≤ maxLen) ∧ (0 < xs.length → ∃ g, pO = some ⟨g, 0, none⟩ ∧ ∀ (i a : Nat), p[i]? = some a → w'.cell? ⟨g, i, none⟩ = some (.int .i64 (a : Int))) ∧ Gr w w' := by
  have HV0 := Lib.hid hv
  have HT := Lib.hid (fun W (g : Gr w W) => teams_c xs v W (hv.gr g) (by omega))
  have HCk' := Lib.hid HCk
  obtain ⟨⟨pv, cap, rfl, _, _⟩⟩ := hv
  obtain ⟨n, hn⟩ : ∃ n, n = xs.length := ⟨_, rfl⟩
  rw [← hn] at h1 HT HV0 HCk' ⊢
  have HN := Lib.hid hn
  clear hn HCk
  go_enter Tryz.func14, Tryz.ntmps14
  go_wp2_with fail
  go_step3
  go_wp2_with fail
  refine (HCk'.out _ (Gr.refl w)).mono ?_
  rintro e W0 ⟨rfl, g0⟩
  go_wp2_with fail
  refine (HT.out _ g0).mono ?_
  rintro e W1 ⟨tv, vs, ks, L, mg, rfl, hT, hF, g1⟩
  have HG1 := Lib.hid (g0.trans g1)
  have HTM := Lib.hid hT
  have HLO := Lib.hid g0.size
  have HTF := Lib.hid (ApI.start hF)
  have HFEW := Lib.hid hF.few
  clear hT g0 g1 hF
  go_wp2_with fail
  go_step3
  go_wp2_with fail
  rcases Nat.eq_zero_or_pos n with hn0 | hn0
  · subst hn0
    obtain ⟨tp, tc, rfl, _, _⟩ := own_shape HTM.out.own
    refine wp_loop_rounds 2 ?_
    rw [rounds_succ]
    go_wp2_with fail
    rw [Exit.noGoto_ret]
    refine bodyPost_ret (v := .tuple #[.slice none 0 0, .int .i64 0]) (by simp [results, Tryz.results14, go_sem]) rfl ?_
    exact ⟨none, 0, [], rfl, by simp, trivial, ⟨Nat.le_refl _, by unfold maxLen; omega⟩, fun h => absurd h (by omega), HG1.out⟩
  obtain ⟨G, capG, ss, rfl, hbG0, hAW, hmap⟩ := HTM.out.state (by rw [HTM.out.len]; exact some_team HTF.out hn0)
  have HLG : Hid (w.heap.size ≤ G) := by have := HLO.out; unfold Hid; omega
  have HAW0 := Lib.hid hAW
  have HTF2 := Lib.hid HTF.out
  rw [← hmap] at HTF2
  have HNT : Hid (0 < ss.length ∧ ss.length ≤ n) := by
    unfold Hid
    have h2 := some_team HTF.out hn0
    have h3 := HFEW.out
    rw [← hmap, List.length_map] at h2 h3
    exact ⟨h2, h3⟩
  obtain ⟨N, hNN⟩ : ∃ N, N = ss.length := ⟨_, rfl⟩
  rw [← hNN] at HNT ⊢
  have HNS0 : Hid (ss.length = N) := hNN.symm
  obtain ⟨hN0, hN1⟩ := HNT.out
  clear hbG0 hAW hmap hNN HTM HTF HNT
  go_loopg [6, 7, 8, 25] n (fun gk s6 s7 s8 s25 wr => ∃ (ss : List SlT) (m : Nat) (pO : Option Addr) (cO : Nat) (p : List Nat), s6 = .slice pO m cO ∧ Hid (p.length = m) ∧ m ≤ n ∧ gk + m = n ∧ Hid (ss.length = N) ∧ Hid (ApW W1 wr G ss (.slice pO m cO) p) ∧ Hid (ApI xs n p (ss.map (lstW W1))))
  case atStart => exact ⟨ss, 0, none, 0, [], rfl, rfl, by omega, by omega, HNS0.out, HAW0.out, HTF2.out⟩
  case round =>
    clear HNS0 HAW0 HTF2
    obtain ⟨r0, m, pO, cO, p, rfl, HM, hmn, hgk, HRN0, HA0, HI0⟩ := hrel
    obtain ⟨G0, rfl⟩ : ∃ G, G = gk := ⟨gk, rfl⟩
    by_cases hlt : m < n
    · have hmi : (m : Int) < n := by omega
      have HSO := Lib.hid (sortTm_c I r0 N HRN0.out (by omega) G capG wr (Nat.lt_of_lt_of_le HA0.out.lt HA0.out.kp.size) HA0.out.hold)
      go_wp2_with fail
      refine HSO.out.mono ?_
      rintro e W2 ⟨rfl, hk, r, hp, hasc, hH⟩
      have HA := Lib.hid (HA0.out.sort hk hp hH)
      have HI := Lib.hid (HI0.out.sort (hp.map (lstW W1)))
      have HRN : Hid (r.length = N) := by unfold Hid; rw [hp.length_eq]; exact HRN0.out
      have HASC := Lib.hid hasc
      clear hk hp hasc hH HSO HA0 HI0 HRN0
      go_wp2_with fail
      go_loopg [6, 7, 8, 25] N (fun gk s6 s7 s8 s25 wr => ∃ i : Nat, s25 = .int .i64 (i : Int) ∧ s6 = .slice pO m cO ∧ i ≤ N ∧ gk + i = N ∧ Hid (ApW W1 wr G r (.slice pO m cO) p) ∧ Hid (∀ j s', j < i → r[j]? = some s' → ∀ b ∈ lstW W1 s', (natO xs p).getLast? = some (natA xs b)))
      case atStart => exact ⟨0, rfl, rfl, by omega, by omega, HA.out, fun j s' h => absurd h (by omega)⟩
      case round =>
        clear HA
        obtain ⟨i, rfl, rfl, hiN, hgk2, HA, HB⟩ := hrel
        by_cases hil : i < N
        · have hii : (i : Int) < N := by omega
          obtain ⟨s, hsi⟩ : ∃ s, r[i]? = some s := ⟨r[i]'(by have := HRN.out; omega), List.getElem?_eq_getElem _⟩
          have hgd := HA.out.good s (List.mem_of_getElem? hsi)
          have f1 := HA.out.at_ hsi
          rcases Nat.eq_zero_or_pos s.2.1 with h0 | h0
          · have HB2 : Hid (∀ j s', j < i + 1 → r[j]? = some s' → ∀ b ∈ lstW W1 s', (natO xs p).getLast? = some (natA xs b)) := fun j s' hj hs' b hb => by
              by_cases e : j = i
              · subst e
                rw [hsi] at hs'
                cases hs'
                rw [lstW_nil h0] at hb
                cases hb
              · exact HB.out j s' (by omega) hs' b hb
            obtain ⟨sp, sn, sc⟩ := s
            simp only at h0
            subst h0
            unfold encNT at f1
            simp only at f1
            clear hsi hgd
            go_wp2_with fail
            go_roundg (gk - 1)
            case measure => omega
            case rel => exact ⟨i + 1, by go_num, rfl, by omega, by omega, HA.out, HB2.out⟩
          · obtain ⟨b, o, a, hsp, hbG, hbl, ha0, hlc, hgt⟩ := good_cons hgd h0
            have hmem : a ∈ p ++ (r.map (lstW W1)).flatten := by
              refine List.mem_append_right _ (List.mem_flatten.2 ⟨lstW W1 s, List.mem_of_getElem? (at_map hsi), ?_⟩)
              rw [hlc]; simp
            have han := HI.out.lt a hmem
            obtain ⟨x, hx⟩ : ∃ x, xs[a]? = some x := ⟨xs[a]'(by have := HN.out; omega), List.getElem?_eq_getElem _⟩
            have HO1 := Lib.hid (HA.out.read hbG ha0)
            have hBO := fun W (g : Gr wr W) => behindOwn_c xs (.slice pv n cap) p pO m cO a x W (HV0.out.gr ((HA.out.base HG1.out HLG.out).trans g)) HM.out (by omega) (fun hm0 => by
              obtain ⟨g3, c3, e3, _, _, _, hc3⟩ := own_at (by have := (HA.out.gr g).ord; rw [HM.out] at this; exact this) hm0
              simp only [Value.slice.injEq] at e3
              refine ⟨g3, 0, e3.1, fun k z hz => ?_⟩
              rw [Nat.zero_add]
              exact hc3 k _ (by unfold nats; rw [List.getElem?_map, hz]; rfl)) (fun z hz => by have := HI.out.lt z (List.mem_append_left _ hz); have := HN.out; omega) hx
            rw [← natA_at hx] at hBO
            have HNA := Lib.hid (natA_at hx)
            have HPG := Lib.hid (fun (hq : (natO xs p).getLast? ≠ some (natA xs a)) => pick_good HI.out HA.out.good HASC.out hsi hlc hq HB.out)
            have HB3 := Lib.hid (fun (hq : (natO xs p).getLast? = some (natA xs a)) => (show ∀ j s', j < i + 1 → r[j]? = some s' → ∀ b ∈ lstW W1 s', (natO xs p).getLast? = some (natA xs b) from fun j s' hj hs' b' hb' => by
              by_cases e : j = i
              · subst e
                rw [hsi] at hs'
                cases hs'
                rw [hq, HI.out.same _ (List.mem_of_getElem? (at_map hsi)) a (by rw [hlc]; simp) b' hb']
              · exact HB.out j s' (by omega) hs' b' hb'))
            have hsnc := hgd.le
            obtain ⟨sp, sn, sc⟩ := s
            simp only at h0 hsp hsnc
            subst hsp
            have hsn0 := h0
            unfold encNT at f1
            simp only at f1
            have f2 := HO1.out
            have h00 : (0 : Int) < (sn : Int) := by omega
            have h01 : decide ((0 : Int) < (sn : Int)) = true := decide_eq_true h00
            have h02 : decide (0 < sn) = true := decide_eq_true h0
            have HBO := Lib.hid (hBO _ (Gr.refl wr))
            clear hBO hx hmem hgd HNA
            by_cases hq : (natO xs p).getLast? = some (natA xs a)
            · rw [decide_eq_true hq] at HBO
              have HB4 := Lib.hid (HB3.out hq)
              clear hq HB3 HPG hsi hlc hgt hbG hbl ha0
              go_wp2_with (refine HBO.out.mono ?_; rintro e W3 ⟨rfl, hg3⟩; have HA3 := Lib.hid (HA.out.gr hg3); clear hg3)
              go_roundg (gk - 1)
              case measure => omega
              case rel => exact ⟨i + 1, by go_num, rfl, by omega, by omega, HA3.out, HB4.out⟩
            · rw [decide_eq_false hq] at HBO
              have HNX := Lib.hid (HPG.out hq)
              clear hq HB3 HPG hlc hbl
              go_wp2_with (refine HBO.out.mono ?_; rintro e W3 ⟨rfl, hg3⟩; have HAV := Lib.hid (HA.out.gr (hg3.trans (Gr.refl W3).drew)); have HO0 := Lib.hid (HAV.out.read hbG ha0); clear hg3 f1 f2)
              refine wp_region_held_drew (S := (fun w' => w'.cell? ⟨b, o, none⟩ = some (.int .i64 (a : Int)))) (by kernel_rfl) HO0.out (fun hHeld => ?_)
              generalize hV : W3.drew = V at *
              clear hV
              obtain ⟨⟨tp, tn, tc⟩, ht9⟩ : ∃ t : SlT, t = tailT (some ⟨b, o, none⟩, sn, sc) := ⟨_, rfl⟩
              have HTP : Hid (tp = (if sc = 1 then some ⟨b, o, none⟩ else some ⟨b, o + 1, none⟩) ∧ tn = sn - 1 ∧ tc = sc - 1) := by
                unfold tailT at ht9
                simp only [Prod.mk.injEq] at ht9
                obtain ⟨h1, h2, h3⟩ := ht9
                refine ⟨?_, h2, h3⟩
                rw [h1]
                have hadd : (⟨b, o, none⟩ : Addr).add 1 = ⟨b, o + 1, none⟩ := by unfold Addr.add; split <;> simp_all
                simp [hadd]
              have hs1 : (1 : Int) ≤ (sn : Int) := by omega
              rw [← ht9] at hgt HNX
              clear ht9
              have HBS : Hid (W1.heap.size ≤ V.heap.size) := HAV.out.kp.size
              have HO := Lib.hid (HAV.out.read hbG ha0)
              have HOA := Lib.hid (own_kept HAV.out.ord ((Gr.refl V).alloc (.cells #[.int .i64 (a : Int)] 3)))
              rw [HM.out] at HOA
              have STEP := Lib.hid (fun w1 v1 (ho : w1.ownsRow W1.heap.size 3 1 v1 (m + 1) (nats (p ++ [a]))) (hgr : (V.alloc (.cells #[.int .i64 (a : Int)] 3)).grownBy w1 (Value.slice pO m cO).ownBlock) (hat : v1.ownBlock = (Value.slice pO m cO).ownBlock ∨ v1.ownBlock = some (V.alloc (.cells #[.int .i64 (a : Int)] 3)).heap.size) => HAV.out.pick hsi hgt (by rw [HM.out]; exact ho) hgr hat)
              refine wpAnyH_take (i := 0) (v := (.slice (some ⟨G, 0, none⟩) N capG)) (op_at rfl) (by kernel_rfl) (by kernel_rfl) (by kernel_rfl) (fun _ _ _ h => h) (Or.inl ⟨rfl, fun w hSw => ?_⟩) (by assumption) ?_
              · (try dsimp only at hSw); go_simp; try with_reducible rfl
              (try simp only [Act.put, List.setIfInBounds_toArray, List.set_cons_zero, List.set_cons_succ])
              refine wpAnyH_take (i := 1) (v := (.int .i64 (i : Int))) (op_at rfl) (by kernel_rfl) (by kernel_rfl) (by kernel_rfl) (fun _ _ _ h => h) (Or.inl ⟨rfl, fun w hSw => ?_⟩) (by assumption) ?_
              · (try dsimp only at hSw); go_simp; try with_reducible rfl
              (try simp only [Act.put, List.setIfInBounds_toArray, List.set_cons_zero, List.set_cons_succ])
              refine wpAnyH_take (i := 2) (v := (.slice pO m cO)) (op_at rfl) (by kernel_rfl) (by kernel_rfl) (by kernel_rfl) (fun _ _ _ h => h) (Or.inl ⟨rfl, fun w hSw => ?_⟩) (by assumption) ?_
              · (try dsimp only at hSw); go_simp; try with_reducible rfl
              (try simp only [Act.put, List.setIfInBounds_toArray, List.set_cons_zero, List.set_cons_succ])
              refine wpAnyH_take (i := 3) (v := (.slice (some ⟨b, o, none⟩) sn sc)) (op_at rfl) (by kernel_rfl) (by kernel_rfl) (by kernel_rfl) (fun _ _ _ h => h) (Or.inl ⟨rfl, fun w hSw => ?_⟩) (by assumption) ?_
              · (try dsimp only at hSw); go_simp; try with_reducible rfl
              (try simp only [Act.put, List.setIfInBounds_toArray, List.set_cons_zero, List.set_cons_succ])
              refine wpAnyH_take (i := 4) (v := (.pointer (some ⟨b, o, none⟩))) (op_at rfl) (by kernel_rfl) (by kernel_rfl) (by kernel_rfl) (fun _ _ _ h => h) (Or.inl ⟨rfl, fun w hSw => ?_⟩) (by assumption) ?_
              · (try dsimp only at hSw); go_simp; try with_reducible rfl
              (try simp only [Act.put, List.setIfInBounds_toArray, List.set_cons_zero, List.set_cons_succ])
              refine wpAnyH_take (i := 5) (v := (.int .i64 (a : Int))) (op_at rfl) (by kernel_rfl) (by kernel_rfl) (by kernel_rfl) (fun _ _ _ h => h) (Or.inl ⟨rfl, fun w hSw => ?_⟩) (by assumption) ?_
              · (try dsimp only at hSw); go_simp; try with_reducible rfl
              (try simp only [Act.put, List.setIfInBounds_toArray, List.set_cons_zero, List.set_cons_succ])
              refine wpAnyH_take (i := 8) (v := (.slice (some ⟨b, o, none⟩) sn sc)) (op_at rfl) (by kernel_rfl) (by kernel_rfl) (by kernel_rfl) (fun _ _ _ h => h) (Or.inl ⟨rfl, fun w hSw => ?_⟩) (by assumption) ?_
              · (try dsimp only at hSw); go_simp; try with_reducible rfl
              (try simp only [Act.put, List.setIfInBounds_toArray, List.set_cons_zero, List.set_cons_succ])
              refine wpAnyH_take (i := 9) (v := (.slice tp tn tc)) (op_at rfl) (by kernel_rfl) (by kernel_rfl) (by kernel_rfl) (fun _ _ _ h => h) (Or.inl ⟨rfl, fun w hSw => ?_⟩) (by assumption) ?_
              · (try dsimp only at hSw); go_simp; exact ⟨HTP.out.1.symm, HTP.out.2.1.symm, HTP.out.2.2.symm⟩
              (try simp only [Act.put, List.setIfInBounds_toArray, List.set_cons_zero, List.set_cons_succ])
              refine wpAnyH_ready (rs := [6]) (by kernel_rfl) (by simp) (AllReadyH.cons (op_at rfl) (fun K hK => ?_) AllReadyH.nil)
              go_simp
              refine hK.out _ _ (((Gr.refl V).alloc _).cell HO.out) (fun hHeld => ?_)
              clear hK K
              (try simp only [Act.put, List.setIfInBounds_toArray, List.set_cons_zero, List.set_cons_succ])
              refine wpAnyH_ready (rs := [7]) (by kernel_rfl) (by simp) (AllReadyH.cons (op_at rfl) (fun K hK => ?_) AllReadyH.nil)
              rw [if_pos (show Region.wanted _ _ = true from rfl)]
              refine step_nats _ _ rfl W1.heap.size (.slice pO m cO) p [a] m 1 HM.out rfl rfl HOA.out ⟨V.heap.size, 0, none⟩ 1 rfl (cell_one_new _ _ _) (by omega) (by simp; have := HBS.out; omega) ?_
              intro v1 w1 hown1 hgrow1 hat1
              obtain ⟨p1, cc1, rfl, hs1, hs2⟩ := own_shape hown1
              obtain ⟨c0, c1, c2, c3⟩ := STEP.out w1 _ hown1 hgrow1 hat1
              have C0 := Lib.hid c0
              have C3 := Lib.hid c3
              have HOW := Lib.hid (c0.read hbG ha0)
              have HOS := Lib.hid (c3.read hbG ha0)
              clear c0 c3 hown1 hgrow1 hat1 hs1 hs2
              unfold encNT at c1
              simp only at c1
              refine hK.out _ _ HOW.out (fun hHeld => ?_)
              clear hK K
              (try simp only [Act.put, List.setIfInBounds_toArray, List.set_cons_zero, List.set_cons_succ])
              refine wpAnyH_take (i := 10) (v := (.slice p1 (m + 1) cc1)) (op_at rfl) (by kernel_rfl) (by kernel_rfl) (by kernel_rfl) (fun _ _ _ h => h) (Or.inl ⟨rfl, fun w hSw => ?_⟩) (by assumption) ?_
              · (try dsimp only at hSw); go_simp; try with_reducible rfl
              (try simp only [Act.put, List.setIfInBounds_toArray, List.set_cons_zero, List.set_cons_succ])
              refine wpAnyH_take (i := 11) (v := (.pointer (some ⟨G, i, none⟩))) (op_at rfl) (by kernel_rfl) (by kernel_rfl) (by kernel_rfl) (fun _ _ _ h => h) (Or.inl ⟨rfl, fun w hSw => ?_⟩) (by assumption) ?_
              · (try dsimp only at hSw); go_simp; try with_reducible rfl
              (try simp only [Act.put, List.setIfInBounds_toArray, List.set_cons_zero, List.set_cons_succ])
              refine wpAnyH_ready (rs := [12]) (by kernel_rfl) (by simp) (AllReadyH.cons (op_at rfl) (fun K hK => ?_) AllReadyH.nil)
              go_simp
              refine hK.out _ _ HOS.out (fun hHeld => ?_)
              clear hK K
              (try simp only [Act.put, List.setIfInBounds_toArray, List.set_cons_zero, List.set_cons_succ])
              refine wpAnyH_done (by kernel_rfl) ?_ _
              go_wp2_with fail
              go_roundg (G0 - 1)
              case measure => omega
              case rel => exact ⟨r.set i (tp, tn, tc), m + 1, p1, cc1, p ++ [a], rfl, by have := HM.out; unfold Hid; simp [this], by omega, by omega, by have := HRN.out; unfold Hid; rw [List.length_set]; exact this, C3.out, HNX.out⟩
        · obtain rfl : i = N := by omega
          have hii : (i : Int) ≤ i := by omega
          obtain ⟨s, hsi⟩ : ∃ s, r[0]? = some s := ⟨r[0]'(by have := HRN.out; omega), List.getElem?_eq_getElem _⟩
          have hgd := HA.out.good s (List.mem_of_getElem? hsi)
          have h0 := first_long HI.out HA.out.good HASC.out hsi (by rw [HM.out]; exact hlt)
          obtain ⟨b, o, a, hsp, hbG, hbl, ha0, hlc, hgt⟩ := good_cons hgd h0
          have HNX := Lib.hid (pick_rest HI.out hsi hlc (fun j s' hj => HB.out j s' (by rw [← HRN.out]; exact hj)))
          have HAV := Lib.hid (HA.out.gr ((Gr.refl wr).drew))
          have HO0 := Lib.hid (HAV.out.read hbG ha0)
          have hsnc := hgd.le
          obtain ⟨sp, sn, sc⟩ := s
          simp only at h0 hsp hsnc
          subst hsp
          have hsn0 := h0
          have h00 : (0 : Int) < (sn : Int) := by omega
          have hN00 : (0 : Int) < (i : Int) := by omega
          clear hgd hlc hbl HB
          go_wp2_with fail
          refine wp_region_held_drew (S := (fun w' => w'.cell? ⟨b, o, none⟩ = some (.int .i64 (a : Int)))) (by kernel_rfl) HO0.out (fun hHeld => ?_)
          generalize hV : wr.drew = V at *
          clear hV
          obtain ⟨⟨tp, tn, tc⟩, ht9⟩ : ∃ t : SlT, t = tailT (some ⟨b, o, none⟩, sn, sc) := ⟨_, rfl⟩
          have HTP : Hid (tp = (if sc = 1 then some ⟨b, o, none⟩ else some ⟨b, o + 1, none⟩) ∧ tn = sn - 1 ∧ tc = sc - 1) := by
            unfold tailT at ht9
            simp only [Prod.mk.injEq] at ht9
            obtain ⟨h1, h2, h3⟩ := ht9
            refine ⟨?_, h2, h3⟩
            rw [h1]
            have hadd : (⟨b, o, none⟩ : Addr).add 1 = ⟨b, o + 1, none⟩ := by unfold Addr.add; split <;> simp_all
            simp [hadd]
          have hs1 : (1 : Int) ≤ (sn : Int) := by omega
          rw [← ht9] at hgt HNX
          clear ht9
          have HBS : Hid (W1.heap.size ≤ V.heap.size) := HAV.out.kp.size
          have HO := Lib.hid (HAV.out.read hbG ha0)
          have HOA := Lib.hid (own_kept HAV.out.ord ((Gr.refl V).alloc (.cells #[.int .i64 (a : Int)] 3)))
          rw [HM.out] at HOA
          have STEP := Lib.hid (fun w1 v1 (ho : w1.ownsRow W1.heap.size 3 1 v1 (m + 1) (nats (p ++ [a]))) (hgr : (V.alloc (.cells #[.int .i64 (a : Int)] 3)).grownBy w1 (Value.slice pO m cO).ownBlock) (hat : v1.ownBlock = (Value.slice pO m cO).ownBlock ∨ v1.ownBlock = some (V.alloc (.cells #[.int .i64 (a : Int)] 3)).heap.size) => HAV.out.pick hsi hgt (by rw [HM.out]; exact ho) hgr hat)
          have f4 := HAV.out.at_ hsi
          unfold encNT at f4
          have f4a := ((Gr.refl V).alloc (.cells #[.int .i64 (a : Int)] 3)).cell f4
          refine wpAnyH_take (i := 0) (v := (.slice (some ⟨G, 0, none⟩) i capG)) (op_at rfl) (by kernel_rfl) (by kernel_rfl) (by kernel_rfl) (fun _ _ _ h => h) (Or.inl ⟨rfl, fun w hSw => ?_⟩) (by assumption) ?_
          · (try dsimp only at hSw); go_simp; try with_reducible rfl
          (try simp only [Act.put, List.setIfInBounds_toArray, List.set_cons_zero, List.set_cons_succ])
          refine wpAnyH_take (i := 1) (v := (.slice pO m cO)) (op_at rfl) (by kernel_rfl) (by kernel_rfl) (by kernel_rfl) (fun _ _ _ h => h) (Or.inl ⟨rfl, fun w hSw => ?_⟩) (by assumption) ?_
          · (try dsimp only at hSw); go_simp; try with_reducible rfl
          (try simp only [Act.put, List.setIfInBounds_toArray, List.set_cons_zero, List.set_cons_succ])
          refine wpAnyH_take (i := 2) (v := (.slice (some ⟨G, 0, none⟩) i capG)) (op_at rfl) (by kernel_rfl) (by kernel_rfl) (by kernel_rfl) (fun _ _ _ h => h) (Or.inl ⟨rfl, fun w hSw => ?_⟩) (by assumption) ?_
          · (try dsimp only at hSw); go_simp; try with_reducible rfl
          (try simp only [Act.put, List.setIfInBounds_toArray, List.set_cons_zero, List.set_cons_succ])
          refine wpAnyH_take (i := 3) (v := (.pointer (some ⟨G, 0, none⟩))) (op_at rfl) (by kernel_rfl) (by kernel_rfl) (by kernel_rfl) (fun _ _ _ h => h) (Or.inl ⟨rfl, fun w hSw => ?_⟩) (by assumption) ?_
          · (try dsimp only at hSw); go_simp; try with_reducible rfl
          (try simp only [Act.put, List.setIfInBounds_toArray, List.set_cons_zero, List.set_cons_succ])
          refine wpAnyH_take (i := 9) (v := (.slice (some ⟨G, 0, none⟩) i capG)) (op_at rfl) (by kernel_rfl) (by kernel_rfl) (by kernel_rfl) (fun _ _ _ h => h) (Or.inl ⟨rfl, fun w hSw => ?_⟩) (by assumption) ?_
          · (try dsimp only at hSw); go_simp; try with_reducible rfl
          (try simp only [Act.put, List.setIfInBounds_toArray, List.set_cons_zero, List.set_cons_succ])
          refine wpAnyH_take (i := 10) (v := (.pointer (some ⟨G, 0, none⟩))) (op_at rfl) (by kernel_rfl) (by kernel_rfl) (by kernel_rfl) (fun _ _ _ h => h) (Or.inl ⟨rfl, fun w hSw => ?_⟩) (by assumption) ?_
          · (try dsimp only at hSw); go_simp; try with_reducible rfl
          (try simp only [Act.put, List.setIfInBounds_toArray, List.set_cons_zero, List.set_cons_succ])
          refine wpAnyH_ready (rs := [4, 11]) (by kernel_rfl) (by simp) (AllReadyH.cons (op_at rfl) (fun K hK => ?_) (AllReadyH.cons (op_at rfl) (fun K hK => ?_) AllReadyH.nil))
          · go_simp
            refine hK.out _ _ hHeld (fun hHeld => ?_)
            clear hK K
            (try simp only [Act.put, List.setIfInBounds_toArray, List.set_cons_zero, List.set_cons_succ])
            refine wpAnyH_take (i := 5) (v := (.pointer (some ⟨b, o, none⟩))) (op_at rfl) (by kernel_rfl) (by kernel_rfl) (by kernel_rfl) (fun _ _ _ h => h) (Or.inl ⟨rfl, fun w hSw => ?_⟩) (by assumption) ?_
            · (try dsimp only at hSw); go_simp; try with_reducible rfl
            (try simp only [Act.put, List.setIfInBounds_toArray, List.set_cons_zero, List.set_cons_succ])
            refine wpAnyH_take (i := 6) (v := (.int .i64 (a : Int))) (op_at rfl) (by kernel_rfl) (by kernel_rfl) (by kernel_rfl) (fun _ _ _ h => h) (Or.inl ⟨rfl, fun w hSw => ?_⟩) (by assumption) ?_
            · (try dsimp only at hSw); go_simp; try with_reducible rfl
            (try simp only [Act.put, List.setIfInBounds_toArray, List.set_cons_zero, List.set_cons_succ])
            refine wpAnyH_ready (rs := [7, 11]) (by kernel_rfl) (by simp) (AllReadyH.cons (op_at rfl) (fun K hK => ?_) (AllReadyH.cons (op_at rfl) (fun K hK => ?_) AllReadyH.nil))
            · go_simp
              refine hK.out _ _ (((Gr.refl V).alloc _).cell HO.out) (fun hHeld => ?_)
              clear hK K
              (try simp only [Act.put, List.setIfInBounds_toArray, List.set_cons_zero, List.set_cons_succ])
              refine wpAnyH_ready (rs := [8, 11]) (by kernel_rfl) (by simp) (AllReadyH.cons (op_at rfl) (fun K hK => ?_) (AllReadyH.cons (op_at rfl) (fun K hK => ?_) AllReadyH.nil))
              · rw [if_pos (show Region.wanted _ _ = true from rfl)]
                refine step_nats _ _ rfl W1.heap.size (.slice pO m cO) p [a] m 1 HM.out rfl rfl HOA.out ⟨V.heap.size, 0, none⟩ 1 rfl (cell_one_new _ _ _) (by omega) (by simp; have := HBS.out; omega) ?_
                intro v1 w1 hown1 hgrow1 hat1
                obtain ⟨p1, cc1, rfl, hs1, hs2⟩ := own_shape hown1
                obtain ⟨c0, c1, c2, c3⟩ := STEP.out w1 _ hown1 hgrow1 hat1
                have C0 := Lib.hid c0
                have C3 := Lib.hid c3
                have HOW := Lib.hid (c0.read hbG ha0)
                have HOS := Lib.hid (c3.read hbG ha0)
                clear c0 c3 hown1 hgrow1 hat1 hs1 hs2
                unfold encNT at c1
                simp only at c1
                refine hK.out _ _ HOW.out (fun hHeld => ?_)
                clear hK K
                (try simp only [Act.put, List.setIfInBounds_toArray, List.set_cons_zero, List.set_cons_succ])
                refine wpAnyH_take (i := 13) (v := (.slice p1 (m + 1) cc1)) (op_at rfl) (by kernel_rfl) (by kernel_rfl) (by kernel_rfl) (fun _ _ _ h => h) (Or.inl ⟨rfl, fun w hSw => ?_⟩) (by assumption) ?_
                · (try dsimp only at hSw); go_simp; try with_reducible rfl
                (try simp only [Act.put, List.setIfInBounds_toArray, List.set_cons_zero, List.set_cons_succ])
                refine wpAnyH_ready (rs := [11]) (by kernel_rfl) (by simp) (AllReadyH.cons (op_at rfl) (fun K hK => ?_) AllReadyH.nil)
                go_simp
                refine hK.out _ _ HOW.out (fun hHeld => ?_)
                clear hK K
                (try simp only [Act.put, List.setIfInBounds_toArray, List.set_cons_zero, List.set_cons_succ])
                refine wpAnyH_take (i := 12) (v := (.slice tp tn tc)) (op_at rfl) (by kernel_rfl) (by kernel_rfl) (by kernel_rfl) (fun _ _ _ h => h) (Or.inl ⟨rfl, fun w hSw => ?_⟩) (by assumption) ?_
                · (try dsimp only at hSw); go_simp; exact ⟨HTP.out.1.symm, HTP.out.2.1.symm, HTP.out.2.2.symm⟩
                (try simp only [Act.put, List.setIfInBounds_toArray, List.set_cons_zero, List.set_cons_succ])
                refine wpAnyH_take (i := 14) (v := (.pointer (some ⟨G, 0, none⟩))) (op_at rfl) (by kernel_rfl) (by kernel_rfl) (by kernel_rfl) (fun _ _ _ h => h) (Or.inl ⟨rfl, fun w hSw => ?_⟩) (by assumption) ?_
                · (try dsimp only at hSw); go_simp; try with_reducible rfl
                (try simp only [Act.put, List.setIfInBounds_toArray, List.set_cons_zero, List.set_cons_succ])
                refine wpAnyH_ready (rs := [15]) (by kernel_rfl) (by simp) (AllReadyH.cons (op_at rfl) (fun K hK => ?_) AllReadyH.nil)
                go_simp
                refine hK.out _ _ HOS.out (fun hHeld => ?_)
                clear hK K
                (try simp only [Act.put, List.setIfInBounds_toArray, List.set_cons_zero, List.set_cons_succ])
                refine wpAnyH_done (by kernel_rfl) ?_ _
                go_wp2_with fail
                go_roundg (G0 - 1)
                case measure => omega
                case rel => exact ⟨r.set 0 (tp, tn, tc), m + 1, p1, cc1, p ++ [a], rfl, by have := HM.out; unfold Hid; simp [this], by omega, by omega, by have := HRN.out; unfold Hid; rw [List.length_set]; exact this, C3.out, HNX.out⟩
              · go_simp
                refine hK.out _ _ (((Gr.refl V).alloc _).cell HO.out) (fun hHeld => ?_)
                clear hK K
                (try simp only [Act.put, List.setIfInBounds_toArray, List.set_cons_zero, List.set_cons_succ])
                refine wpAnyH_take (i := 12) (v := (.slice tp tn tc)) (op_at rfl) (by kernel_rfl) (by kernel_rfl) (by kernel_rfl) (fun _ _ _ h => h) (Or.inl ⟨rfl, fun w hSw => ?_⟩) (by assumption) ?_
                · (try dsimp only at hSw); go_simp; exact ⟨HTP.out.1.symm, HTP.out.2.1.symm, HTP.out.2.2.symm⟩
                (try simp only [Act.put, List.setIfInBounds_toArray, List.set_cons_zero, List.set_cons_succ])
                refine wpAnyH_ready (rs := [8]) (by kernel_rfl) (by simp) (AllReadyH.cons (op_at rfl) (fun K hK => ?_) AllReadyH.nil)
                rw [if_pos (show Region.wanted _ _ = true from rfl)]
                refine step_nats _ _ rfl W1.heap.size (.slice pO m cO) p [a] m 1 HM.out rfl rfl HOA.out ⟨V.heap.size, 0, none⟩ 1 rfl (cell_one_new _ _ _) (by omega) (by simp; have := HBS.out; omega) ?_
                intro v1 w1 hown1 hgrow1 hat1
                obtain ⟨p1, cc1, rfl, hs1, hs2⟩ := own_shape hown1
                obtain ⟨c0, c1, c2, c3⟩ := STEP.out w1 _ hown1 hgrow1 hat1
                have C0 := Lib.hid c0
                have C3 := Lib.hid c3
                have HOW := Lib.hid (c0.read hbG ha0)
                have HOS := Lib.hid (c3.read hbG ha0)
                clear c0 c3 hown1 hgrow1 hat1 hs1 hs2
                unfold encNT at c1
                simp only at c1
                refine hK.out _ _ HOW.out (fun hHeld => ?_)
                clear hK K
                (try simp only [Act.put, List.setIfInBounds_toArray, List.set_cons_zero, List.set_cons_succ])
                refine wpAnyH_take (i := 13) (v := (.slice p1 (m + 1) cc1)) (op_at rfl) (by kernel_rfl) (by kernel_rfl) (by kernel_rfl) (fun _ _ _ h => h) (Or.inl ⟨rfl, fun w hSw => ?_⟩) (by assumption) ?_
                · (try dsimp only at hSw); go_simp; try with_reducible rfl
                (try simp only [Act.put, List.setIfInBounds_toArray, List.set_cons_zero, List.set_cons_succ])
                refine wpAnyH_take (i := 14) (v := (.pointer (some ⟨G, 0, none⟩))) (op_at rfl) (by kernel_rfl) (by kernel_rfl) (by kernel_rfl) (fun _ _ _ h => h) (Or.inl ⟨rfl, fun w hSw => ?_⟩) (by assumption) ?_
                · (try dsimp only at hSw); go_simp; try with_reducible rfl
                (try simp only [Act.put, List.setIfInBounds_toArray, List.set_cons_zero, List.set_cons_succ])
                refine wpAnyH_ready (rs := [15]) (by kernel_rfl) (by simp) (AllReadyH.cons (op_at rfl) (fun K hK => ?_) AllReadyH.nil)
                go_simp
                refine hK.out _ _ HOS.out (fun hHeld => ?_)
                clear hK K
                (try simp only [Act.put, List.setIfInBounds_toArray, List.set_cons_zero, List.set_cons_succ])
                refine wpAnyH_done (by kernel_rfl) ?_ _
                go_wp2_with fail
                go_roundg (G0 - 1)
                case measure => omega
                case rel => exact ⟨r.set 0 (tp, tn, tc), m + 1, p1, cc1, p ++ [a], rfl, by have := HM.out; unfold Hid; simp [this], by omega, by omega, by have := HRN.out; unfold Hid; rw [List.length_set]; exact this, C3.out, HNX.out⟩
            · go_simp
              refine hK.out _ _ hHeld (fun hHeld => ?_)
              clear hK K
              (try simp only [Act.put, List.setIfInBounds_toArray, List.set_cons_zero, List.set_cons_succ])
              refine wpAnyH_take (i := 12) (v := (.slice tp tn tc)) (op_at rfl) (by kernel_rfl) (by kernel_rfl) (by kernel_rfl) (fun _ _ _ h => h) (Or.inl ⟨rfl, fun w hSw => ?_⟩) (by assumption) ?_
              · (try dsimp only at hSw); go_simp; exact ⟨HTP.out.1.symm, HTP.out.2.1.symm, HTP.out.2.2.symm⟩
              (try simp only [Act.put, List.setIfInBounds_toArray, List.set_cons_zero, List.set_cons_succ])
              refine wpAnyH_ready (rs := [7]) (by kernel_rfl) (by simp) (AllReadyH.cons (op_at rfl) (fun K hK => ?_) AllReadyH.nil)
              go_simp
              refine hK.out _ _ (((Gr.refl V).alloc _).cell HO.out) (fun hHeld => ?_)
              clear hK K
              (try simp only [Act.put, List.setIfInBounds_toArray, List.set_cons_zero, List.set_cons_succ])
              refine wpAnyH_ready (rs := [8]) (by kernel_rfl) (by simp) (AllReadyH.cons (op_at rfl) (fun K hK => ?_) AllReadyH.nil)
              rw [if_pos (show Region.wanted _ _ = true from rfl)]
              refine step_nats _ _ rfl W1.heap.size (.slice pO m cO) p [a] m 1 HM.out rfl rfl HOA.out ⟨V.heap.size, 0, none⟩ 1 rfl (cell_one_new _ _ _) (by omega) (by simp; have := HBS.out; omega) ?_
              intro v1 w1 hown1 hgrow1 hat1
              obtain ⟨p1, cc1, rfl, hs1, hs2⟩ := own_shape hown1
              obtain ⟨c0, c1, c2, c3⟩ := STEP.out w1 _ hown1 hgrow1 hat1
              have C0 := Lib.hid c0
              have C3 := Lib.hid c3
              have HOW := Lib.hid (c0.read hbG ha0)
              have HOS := Lib.hid (c3.read hbG ha0)
              clear c0 c3 hown1 hgrow1 hat1 hs1 hs2
              unfold encNT at c1
              simp only at c1
              refine hK.out _ _ HOW.out (fun hHeld => ?_)
              clear hK K
              (try simp only [Act.put, List.setIfInBounds_toArray, List.set_cons_zero, List.set_cons_succ])
              refine wpAnyH_take (i := 13) (v := (.slice p1 (m + 1) cc1)) (op_at rfl) (by kernel_rfl) (by kernel_rfl) (by kernel_rfl) (fun _ _ _ h => h) (Or.inl ⟨rfl, fun w hSw => ?_⟩) (by assumption) ?_
              · (try dsimp only at hSw); go_simp; try with_reducible rfl
              (try simp only [Act.put, List.setIfInBounds_toArray, List.set_cons_zero, List.set_cons_succ])
              refine wpAnyH_take (i := 14) (v := (.pointer (some ⟨G, 0, none⟩))) (op_at rfl) (by kernel_rfl) (by kernel_rfl) (by kernel_rfl) (fun _ _ _ h => h) (Or.inl ⟨rfl, fun w hSw => ?_⟩) (by assumption) ?_
              · (try dsimp only at hSw); go_simp; try with_reducible rfl
              (try simp only [Act.put, List.setIfInBounds_toArray, List.set_cons_zero, List.set_cons_succ])
              refine wpAnyH_ready (rs := [15]) (by kernel_rfl) (by simp) (AllReadyH.cons (op_at rfl) (fun K hK => ?_) AllReadyH.nil)
              go_simp
              refine hK.out _ _ HOS.out (fun hHeld => ?_)
              clear hK K
              (try simp only [Act.put, List.setIfInBounds_toArray, List.set_cons_zero, List.set_cons_succ])
              refine wpAnyH_done (by kernel_rfl) ?_ _
              go_wp2_with fail
              go_roundg (G0 - 1)
              case measure => omega
              case rel => exact ⟨r.set 0 (tp, tn, tc), m + 1, p1, cc1, p ++ [a], rfl, by have := HM.out; unfold Hid; simp [this], by omega, by omega, by have := HRN.out; unfold Hid; rw [List.length_set]; exact this, C3.out, HNX.out⟩
          · go_simp
            refine hK.out _ _ hHeld (fun hHeld => ?_)
            clear hK K
            (try simp only [Act.put, List.setIfInBounds_toArray, List.set_cons_zero, List.set_cons_succ])
            refine wpAnyH_take (i := 12) (v := (.slice tp tn tc)) (op_at rfl) (by kernel_rfl) (by kernel_rfl) (by kernel_rfl) (fun _ _ _ h => h) (Or.inl ⟨rfl, fun w hSw => ?_⟩) (by assumption) ?_
            · (try dsimp only at hSw); go_simp; exact ⟨HTP.out.1.symm, HTP.out.2.1.symm, HTP.out.2.2.symm⟩
            (try simp only [Act.put, List.setIfInBounds_toArray, List.set_cons_zero, List.set_cons_succ])
            refine wpAnyH_ready (rs := [4]) (by kernel_rfl) (by simp) (AllReadyH.cons (op_at rfl) (fun K hK => ?_) AllReadyH.nil)
            go_simp
            refine hK.out _ _ hHeld (fun hHeld => ?_)
            clear hK K
            (try simp only [Act.put, List.setIfInBounds_toArray, List.set_cons_zero, List.set_cons_succ])
            refine wpAnyH_take (i := 5) (v := (.pointer (some ⟨b, o, none⟩))) (op_at rfl) (by kernel_rfl) (by kernel_rfl) (by kernel_rfl) (fun _ _ _ h => h) (Or.inl ⟨rfl, fun w hSw => ?_⟩) (by assumption) ?_
            · (try dsimp only at hSw); go_simp; try with_reducible rfl
            (try simp only [Act.put, List.setIfInBounds_toArray, List.set_cons_zero, List.set_cons_succ])
            refine wpAnyH_take (i := 6) (v := (.int .i64 (a : Int))) (op_at rfl) (by kernel_rfl) (by kernel_rfl) (by kernel_rfl) (fun _ _ _ h => h) (Or.inl ⟨rfl, fun w hSw => ?_⟩) (by assumption) ?_
            · (try dsimp only at hSw); go_simp; try with_reducible rfl
            (try simp only [Act.put, List.setIfInBounds_toArray, List.set_cons_zero, List.set_cons_succ])
            refine wpAnyH_ready (rs := [7]) (by kernel_rfl) (by simp) (AllReadyH.cons (op_at rfl) (fun K hK => ?_) AllReadyH.nil)
            go_simp
            refine hK.out _ _ (((Gr.refl V).alloc _).cell HO.out) (fun hHeld => ?_)
            clear hK K
            (try simp only [Act.put, List.setIfInBounds_toArray, List.set_cons_zero, List.set_cons_succ])
            refine wpAnyH_ready (rs := [8]) (by kernel_rfl) (by simp) (AllReadyH.cons (op_at rfl) (fun K hK => ?_) AllReadyH.nil)
            rw [if_pos (show Region.wanted _ _ = true from rfl)]
            refine step_nats _ _ rfl W1.heap.size (.slice pO m cO) p [a] m 1 HM.out rfl rfl HOA.out ⟨V.heap.size, 0, none⟩ 1 rfl (cell_one_new _ _ _) (by omega) (by simp; have := HBS.out; omega) ?_
            intro v1 w1 hown1 hgrow1 hat1
            obtain ⟨p1, cc1, rfl, hs1, hs2⟩ := own_shape hown1
            obtain ⟨c0, c1, c2, c3⟩ := STEP.out w1 _ hown1 hgrow1 hat1
            have C0 := Lib.hid c0
            have C3 := Lib.hid c3
            have HOW := Lib.hid (c0.read hbG ha0)
            have HOS := Lib.hid (c3.read hbG ha0)
            clear c0 c3 hown1 hgrow1 hat1 hs1 hs2
            unfold encNT at c1
            simp only at c1
            refine hK.out _ _ HOW.out (fun hHeld => ?_)
            clear hK K
            (try simp only [Act.put, List.setIfInBounds_toArray, List.set_cons_zero, List.set_cons_succ])
            refine wpAnyH_take (i := 13) (v := (.slice p1 (m + 1) cc1)) (op_at rfl) (by kernel_rfl) (by kernel_rfl) (by kernel_rfl) (fun _ _ _ h => h) (Or.inl ⟨rfl, fun w hSw => ?_⟩) (by assumption) ?_
            · (try dsimp only at hSw); go_simp; try with_reducible rfl
            (try simp only [Act.put, List.setIfInBounds_toArray, List.set_cons_zero, List.set_cons_succ])
            refine wpAnyH_take (i := 14) (v := (.pointer (some ⟨G, 0, none⟩))) (op_at rfl) (by kernel_rfl) (by kernel_rfl) (by kernel_rfl) (fun _ _ _ h => h) (Or.inl ⟨rfl, fun w hSw => ?_⟩) (by assumption) ?_
            · (try dsimp only at hSw); go_simp; try with_reducible rfl
            (try simp only [Act.put, List.setIfInBounds_toArray, List.set_cons_zero, List.set_cons_succ])
            refine wpAnyH_ready (rs := [15]) (by kernel_rfl) (by simp) (AllReadyH.cons (op_at rfl) (fun K hK => ?_) AllReadyH.nil)
            go_simp
            refine hK.out _ _ HOS.out (fun hHeld => ?_)
            clear hK K
            (try simp only [Act.put, List.setIfInBounds_toArray, List.set_cons_zero, List.set_cons_succ])
            refine wpAnyH_done (by kernel_rfl) ?_ _
            go_wp2_with fail
            go_roundg (G0 - 1)
            case measure => omega
            case rel => exact ⟨r.set 0 (tp, tn, tc), m + 1, p1, cc1, p ++ [a], rfl, by have := HM.out; unfold Hid; simp [this], by omega, by omega, by have := HRN.out; unfold Hid; rw [List.length_set]; exact this, C3.out, HNX.out⟩
    · obtain rfl : m = n := by omega
      have hmi : (m : Int) ≤ m := by omega
      have HD := Lib.hid (HI0.out.done (by have := HM.out; omega))
      have HW := Lib.hid (HA0.out.base HG1.out HLG.out)
      have HCE := Lib.hid (fun (h : 0 < m) => own_at (by have := HA0.out.ord; rw [HM.out] at this; exact this) h)
      have HSH := Lib.hid (own_shape HA0.out.ord)
      go_wp2_with fail
      rw [Exit.noGoto_ret]
      refine bodyPost_ret (v := .tuple #[.slice pO m cO, .int .i64 0]) (by simp [results, Tryz.results14, go_sem]) rfl ?_
      refine ⟨pO, cO, p, rfl, HD.out.1, HD.out.2, ?_, fun h => ?_, HW.out⟩
      · obtain ⟨p', c', e, h2, h3⟩ := HSH.out
        simp only [Value.slice.injEq] at e
        obtain ⟨_, _, rfl⟩ := e
        exact ⟨by have := HM.out; omega, h3⟩
      · obtain ⟨g3, c3, e3, _, _, _, hc3⟩ := HCE.out h
        simp only [Value.slice.injEq] at e3
        exact ⟨g3, e3.1, fun k z hz => hc3 k _ (by unfold nats; rw [List.getElem?_map, hz]; rfl)⟩

end Go.Proofs.YtcnpmebihdonoaaGreatDoor
