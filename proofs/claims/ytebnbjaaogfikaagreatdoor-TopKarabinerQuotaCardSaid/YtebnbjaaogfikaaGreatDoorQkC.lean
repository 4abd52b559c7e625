/- TopKarabinerQuota: the law, walked. -/
import Derived.Test.YtebnbjaaogfikaaGreatDoorGRlR
namespace Go.Proofs.YtebnbjaaogfikaaGreatDoor
open Go.RowKit Go.Lib
set_option linter.unusedSimpArgs false
set_option linter.unusedVariables false
set_option maxHeartbeats 4000000
set_option maxRecDepth 100000
theorem lawq_bad {xs : List RowR} {p : Option Addr} {n c : Nat} {q : Option Addr} {l k0 : Nat} {m : Int} {w : World} (h : Rows0V w (.slice p n c) xs) (hA : GoesOn w)
    (hb : decide (m < 0) = true ∨ (decide (m < 0) = false ∧ decide (20 < m) = true) ∨ (decide (m < 0) = false ∧ decide (20 < m) = false ∧ decide ((10 : Int) < l) = true)) :
    Calls Tryz.prog 3 #[.slice p n c, .int .i64 m, .slice q l k0] w fun e w' => e = .returned (.bool true) ∧ Gr w w' := by
  have HK := Lib.hid (kRes_c h)
  have HA : Hid (GoesOn w) := hA
  clear h hA
  rcases hb with h1 | ⟨h1, h2⟩ | ⟨h1, h2, h3⟩
  all_goals
    go_enter Tryz.func3, Tryz.ntmps3
    go_wp2_with fail
    refine HK.out.mono ?_
    rintro e w1 ⟨⟨r, rfl, hr⟩, g1⟩
    clear hr
    cases r
    all_goals
      go_wp2_with (refine (HA.out _ g1).mono ?_; rintro e w2 ⟨rfl, g2⟩)
      go_ret
      exact ⟨rfl, g1.trans g2⟩
/-- no two of those before are tied -/
def Untied (bs : List Bare) (i : Nat) : Prop := ∀ (i' j : Nat) (b c : Bare), i' < i → j < i' → bs[i']? = some b → bs[j]? = some c → b.st.toList.isEmpty = true → rankB bs b ≠ rankB bs c
def UntiedAt (bs : List Bare) (i k : Nat) : Prop := ∀ (j : Nat) (b c : Bare), j < k → bs[i]? = some b → bs[j]? = some c → b.st.toList.isEmpty = true → rankB bs b ≠ rankB bs c
theorem Untied.next {bs : List Bare} {i : Nat} (h : Untied bs i) (k : UntiedAt bs i i) : Untied bs (i + 1) := fun i' j b c hi hj hb hc hf => by
  rcases Nat.lt_or_ge i' i with q | q
  · exact h i' j b c q hj hb hc hf
  · obtain rfl : i' = i := by omega
    exact k j b c hj hb hc hf
theorem UntiedAt.next {bs : List Bare} {i j : Nat} (h : UntiedAt bs i j) (k : ∀ b c, bs[i]? = some b → bs[j]? = some c → b.st.toList.isEmpty = true → rankB bs b ≠ rankB bs c) : UntiedAt bs i (j + 1) := fun j' b c hj hb hc hf => by
  rcases Nat.lt_or_ge j' j with q | q
  · exact h j' b c q hb hc hf
  · obtain rfl : j' = j := by omega
    exact k b c hb hc hf
theorem lawq_good (hS : SortFOK) (I : InsOK) {xs : List RowR} {ns : List ByteArray} {p : Option Addr} {n c : Nat} {q : Option Addr} {l k0 : Nat} {w : World} (mm : Nat) (hm20 : mm ≤ 20) (hl10 : l ≤ 10) (h : Rows0V w (.slice p n c) xs) (ho : WordsV w (.slice q l k0) ns) (hSt : StatesIn w) (hA : GoesOn w) :
    Calls Tryz.prog 3 #[.slice p n c, .int .i64 (mm : Int), .slice q l k0] w fun e w' => e = .returned (.bool true) ∧ Gr w w' := by
  have hO0 : outE (mm : Int) 0 160 = 0 := outE_zero.2 ⟨by omega, by omega⟩
  have HK := Lib.hid (kRes_c h)
  have HA : Hid (GoesOn w) := hA
  have HRows := Lib.hid (fun (G : Good xs n) W (g : Gr w W) => (h.rows G.short).gr g)
  have HOut := Lib.hid (fun (G : Good xs n) W (g : Gr w W) => refOut_c ((h.rows G.short).gr g) (ho.gr g) (by have := G.few; omega) (by omega))
  have HXL : Hid (xs.length = n) := by
    obtain ⟨⟨p', cap', e, _⟩⟩ := h
    cases e
    rfl
  have HLN : Hid (ns.length = l) := by
    obtain ⟨⟨p', cap', e, _⟩⟩ := ho
    cases e
    rfl
  have HRk := Lib.hid (fun (G : Good xs n) W (g : Gr w W) => rank_good hS ((h.rows G.short).gr g) HXL.out (by have := G.few; omega) (hSt.gr g) G.valid)
  have HTh := Lib.hid (fun (G : Good xs n) W (g : Gr w W) => throughK_ok hS I ((h.rows G.short).gr g) (by have := G.few; omega) (hSt.gr g) G.valid (n : Int) (outE_zero.2 ⟨by omega, by have := G.few; omega⟩))
  have HRp := Lib.hid (fun (G : Good xs n) (O : OutOK xs ns) W (g : Gr w W) => replace_ok mm O ((h.rows G.short).gr g) (by have := G.few; omega) G.valid (ho.gr g) (by omega) hO0)
  have HOS : Hid (StrAts w (.slice q l k0) ns) := by
    obtain ⟨⟨p', cap', e, e2, e3⟩⟩ := ho
    exact ⟨p', cap', e, e2, fun h0 => by
      obtain ⟨b, off, e4, e5⟩ := e3 h0
      exact ⟨b, off, e4, fun i x hx => ⟨e5 i x hx⟩⟩⟩
  have hm0 : decide ((mm : Int) < 0) = false := decide_eq_false (by omega)
  have hm1 : decide ((20 : Int) < mm) = false := decide_eq_false (by omega)
  have hl0 : decide ((10 : Int) < l) = false := decide_eq_false (by omega)
  clear h ho hSt hA hO0 hS I
  go_enter Tryz.func3, Tryz.ntmps3
  go_wp2_with fail
  refine HK.out.mono ?_
  rintro e w1 ⟨⟨r, rfl, hr⟩, g1⟩
  cases r
  · clear hr
    go_wp2_with (refine (HA.out _ g1).mono ?_; rintro e w2 ⟨rfl, g2⟩)
    go_ret
    exact ⟨rfl, g1.trans g2⟩
  have G := hr rfl
  have HG := Lib.hid G
  clear hr
  go_wp2_with fail
  refine (HOut.out G _ g1).mono ?_
  rintro e w2 ⟨⟨z, rfl, hz⟩, g2⟩
  replace g2 := g1.trans g2
  by_cases hzz : z = 0
  case neg =>
    have hz3 : (z != 0) = true := bne_iff_ne.2 hzz
    clear hz hzz
    go_wp2_with (refine (HA.out _ g2).mono ?_; rintro e w3 ⟨rfl, g3⟩)
    go_ret
    exact ⟨rfl, g2.trans g3⟩
  have hz3 : (z != 0) = false := by rw [hzz]; rfl
  have HO := Lib.hid (hz hzz)
  clear hz hzz
  go_wp2_with fail
  refine (HRk.out G _ g2).mono ?_
  rintro e w3 ⟨qk, kk, rfl, hk, g3⟩
  replace g3 := g2.trans g3
  go_wp2_with fail
  refine (HTh.out G _ g3).mono ?_
  rintro e W4 ⟨q9, l9, k9, rfl, hv9, g4⟩
  have G4 := Lib.hid (g3.trans g4)
  have HKs := Lib.hid (hk.gr g4)
  have HV9 := Lib.hid hv9
  clear hk hv9 g4 g3 g2 g1 G
  have hfew := HG.out.few
  go_wp2_with fail
  go_loopg [11, 12, 69] n (fun gk s11 s12 s69 wr => ∃ i : Nat, s69 = .int .i64 i ∧ gk + i = n ∧ Hid (Gr W4 wr) ∧ Hid (Untied (xs.map bare) i))
  case atStart => exact ⟨0, rfl, by omega, Gr.refl _, fun i' j b c hi => by omega⟩
  case round =>
    obtain ⟨i, rfl, hi, HGr, HU⟩ := hrel
    obtain ⟨gO, rfl⟩ : ∃ q, q = gk := ⟨gk, rfl⟩
    by_cases hlt : i < n
    · obtain ⟨x, hx⟩ : ∃ x, xs[i]? = some x := ⟨xs[i]'(by have := HXL.out; omega), List.getElem?_eq_getElem _⟩
      have hbx : (xs.map bare)[i]? = some (bare x) := by rw [List.getElem?_map, hx]; rfl
      obtain ⟨hn, _, hh⟩ := (HRows.out HG.out _ G4.out).at
      obtain ⟨b, off, rfl, hc⟩ := hh (by omega)
      have hc1 := (hc i x hx).st
      obtain ⟨⟨pk, ck, hke, hks⟩⟩ := HKs.out
      have hrl : (ranksB (xs.map bare)).length = n := by rw [ranksB_len, List.length_map]; exact HXL.out
      rw [hrl] at hke hks
      obtain ⟨R, rfl, hR⟩ := hks (by omega)
      simp only [Value.slice.injEq] at hke
      obtain ⟨rfl, -, rfl⟩ := hke
      have hri := hR i _ (ranksB_at hbx)
      obtain ⟨ri, hrie⟩ : ∃ r, r = rankB (xs.map bare) (bare x) := ⟨_, rfl⟩
      rw [← hrie] at hri
      have hii : (i : Int) < n := by omega
      have HRI := Lib.hid hrie
      have HR := Lib.hid hR
      have HC1 := Lib.hid hc1
      have HRi := Lib.hid hri
      have HBX := Lib.hid hbx
      clear hx hbx hn hh hc hc1 hks hrl hR hri hrie
      go_wp2_with fail
      go_loopg [12, 73] i (fun gk s12 s73 wr => ∃ j : Nat, s73 = .int .i64 j ∧ gk + j = i ∧ Hid (Gr W4 wr) ∧ Hid (UntiedAt (xs.map bare) i j))
      case atStart => exact ⟨0, rfl, by omega, HGr.out, fun j b c hj => by omega⟩
      case round =>
        obtain ⟨j, rfl, hgk, HGi, HUi⟩ := hrel
        by_cases hjl : j < i
        · obtain ⟨y, hby⟩ : ∃ y, (xs.map bare)[j]? = some y := ⟨(xs.map bare)[j]'(by rw [List.length_map]; have := HXL.out; omega), List.getElem?_eq_getElem _⟩
          obtain ⟨rj, hrj⟩ : ∃ r, r = rankB (xs.map bare) y := ⟨_, rfl⟩
          have r2 := HGi.out.drew.cell (HR.out j _ (ranksB_at hby))
          rw [← hrj] at r2
          have r1 := HGi.out.drew.cell HRi.out
          have c1 := HGi.out.drew.cell HC1.out
          have HG2 := Lib.hid HGi.out.drew
          have hji : (j : Int) < i := by omega
          have hjn : (j : Int) < n := by omega
          by_cases hf : x.st.toList.isEmpty = true
          · have hst : x.st = ⟨#[]⟩ := by
              have e1 : x.st.toList = [] := by simpa using hf
              rw [ByteArray.toList_eq] at e1
              exact ByteArray.ext (Array.toList_inj.1 e1)
            rw [hst] at c1
            cases he : (ri == rj)
            · have HD2 : Hid (UntiedAt (xs.map bare) i (j + 1)) := UntiedAt.next HUi.out fun b' c' hb' hc' _ => by
                rw [HBX.out] at hb'
                rw [hby] at hc'
                cases hb'
                cases hc'
                rw [← HRI.out, ← hrj]
                simpa using he
              clear hf hst hby hrj
              go_wp2_with fail
              refine wp_region_held_drew (S := (fun w' => w'.cell? ⟨b, off + i * 3 + 1, none⟩ = some (.string ⟨#[]⟩) ∧ w'.cell? ⟨R, i, none⟩ = some (.int .i64 ri) ∧ w'.cell? ⟨R, j, none⟩ = some (.int .i64 rj))) (by kernel_rfl) ⟨c1, r1, r2⟩ (fun hHeld => ?_)
              generalize wr.drew = V at *
              refine wpAnyH_take (i := 0) (v := (.slice (some ⟨b, off, none⟩) n c)) (op_at rfl) (by kernel_rfl) (by kernel_rfl) (by kernel_rfl) (fun _ _ _ h => h) (Or.inl ⟨rfl, fun w hSw => ?_⟩) (by assumption) ?_
              · (try dsimp only at hSw); go_simp; try with_reducible rfl
              (try simp only [Act.put, List.setIfInBounds_toArray, List.set_cons_zero, List.set_cons_succ])
              refine wpAnyH_take (i := 1) (v := (.int .i64 (i : Int))) (op_at rfl) (by kernel_rfl) (by kernel_rfl) (by kernel_rfl) (fun _ _ _ h => h) (Or.inl ⟨rfl, fun w hSw => ?_⟩) (by assumption) ?_
              · (try dsimp only at hSw); go_simp; try with_reducible rfl
              (try simp only [Act.put, List.setIfInBounds_toArray, List.set_cons_zero, List.set_cons_succ])
              refine wpAnyH_take (i := 2) (v := (.pointer (some ⟨b, off + i * 3, none⟩))) (op_at rfl) (by kernel_rfl) (by kernel_rfl) (by kernel_rfl) (fun _ _ _ h => h) (Or.inl ⟨rfl, fun w hSw => ?_⟩) (by assumption) ?_
              · (try dsimp only at hSw); go_simp; try with_reducible rfl
              (try simp only [Act.put, List.setIfInBounds_toArray, List.set_cons_zero, List.set_cons_succ])
              refine wpAnyH_take (i := 3) (v := (.pointer (some ⟨b, off + i * 3 + 1, none⟩))) (op_at rfl) (by kernel_rfl) (by kernel_rfl) (by kernel_rfl) (fun _ _ _ h => h) (Or.inl ⟨rfl, fun w hSw => ?_⟩) (by assumption) ?_
              · (try dsimp only at hSw); go_simp; try with_reducible rfl
              (try simp only [Act.put, List.setIfInBounds_toArray, List.set_cons_zero, List.set_cons_succ])
              refine wpAnyH_take (i := 4) (v := (.string ⟨#[]⟩)) (op_at rfl) (by kernel_rfl) (by kernel_rfl) (by kernel_rfl) (fun _ _ _ h => h) (Or.inl ⟨rfl, fun w hSw => ?_⟩) (by assumption) ?_
              · (try dsimp only at hSw); go_simp; try with_reducible rfl
              (try simp only [Act.put, List.setIfInBounds_toArray, List.set_cons_zero, List.set_cons_succ])
              refine wpAnyH_take (i := 5) (v := (.bool true)) (op_at rfl) (by kernel_rfl) (by kernel_rfl) (by kernel_rfl) (fun _ _ _ h => h) (Or.inl ⟨rfl, fun w hSw => ?_⟩) (by assumption) ?_
              · (try dsimp only at hSw); go_simp; try with_reducible rfl
              (try simp only [Act.put, List.setIfInBounds_toArray, List.set_cons_zero, List.set_cons_succ])
              refine wpAnyH_take (i := 6) (v := (.bool true)) (op_at rfl) (by kernel_rfl) (by kernel_rfl) (by kernel_rfl) (fun _ _ _ h => h) (Or.inl ⟨rfl, fun w hSw => ?_⟩) (by assumption) ?_
              · (try dsimp only at hSw); go_simp; try with_reducible rfl
              (try simp only [Act.put, List.setIfInBounds_toArray, List.set_cons_zero, List.set_cons_succ])
              refine wpAnyH_take (i := 7) (v := (.slice (some ⟨R, 0, none⟩) n kk)) (op_at rfl) (by kernel_rfl) (by kernel_rfl) (by kernel_rfl) (fun _ _ _ h => h) (Or.inl ⟨rfl, fun w hSw => ?_⟩) (by assumption) ?_
              · (try dsimp only at hSw); go_simp; try with_reducible rfl
              (try simp only [Act.put, List.setIfInBounds_toArray, List.set_cons_zero, List.set_cons_succ])
              refine wpAnyH_take (i := 8) (v := (.int .i64 (i : Int))) (op_at rfl) (by kernel_rfl) (by kernel_rfl) (by kernel_rfl) (fun _ _ _ h => h) (Or.inl ⟨rfl, fun w hSw => ?_⟩) (by assumption) ?_
              · (try dsimp only at hSw); go_simp; try with_reducible rfl
              (try simp only [Act.put, List.setIfInBounds_toArray, List.set_cons_zero, List.set_cons_succ])
              refine wpAnyH_take (i := 9) (v := (.pointer (some ⟨R, i, none⟩))) (op_at rfl) (by kernel_rfl) (by kernel_rfl) (by kernel_rfl) (fun _ _ _ h => h) (Or.inl ⟨rfl, fun w hSw => ?_⟩) (by assumption) ?_
              · (try dsimp only at hSw); go_simp; try with_reducible rfl
              (try simp only [Act.put, List.setIfInBounds_toArray, List.set_cons_zero, List.set_cons_succ])
              refine wpAnyH_take (i := 10) (v := (.int .i64 ri)) (op_at rfl) (by kernel_rfl) (by kernel_rfl) (by kernel_rfl) (fun _ _ _ h => h) (Or.inl ⟨rfl, fun w hSw => ?_⟩) (by assumption) ?_
              · (try dsimp only at hSw); go_simp; try with_reducible rfl
              (try simp only [Act.put, List.setIfInBounds_toArray, List.set_cons_zero, List.set_cons_succ])
              refine wpAnyH_take (i := 11) (v := (.slice (some ⟨R, 0, none⟩) n kk)) (op_at rfl) (by kernel_rfl) (by kernel_rfl) (by kernel_rfl) (fun _ _ _ h => h) (Or.inl ⟨rfl, fun w hSw => ?_⟩) (by assumption) ?_
              · (try dsimp only at hSw); go_simp; try with_reducible rfl
              (try simp only [Act.put, List.setIfInBounds_toArray, List.set_cons_zero, List.set_cons_succ])
              refine wpAnyH_take (i := 12) (v := (.int .i64 (j : Int))) (op_at rfl) (by kernel_rfl) (by kernel_rfl) (by kernel_rfl) (fun _ _ _ h => h) (Or.inl ⟨rfl, fun w hSw => ?_⟩) (by assumption) ?_
              · (try dsimp only at hSw); go_simp; try with_reducible rfl
              (try simp only [Act.put, List.setIfInBounds_toArray, List.set_cons_zero, List.set_cons_succ])
              refine wpAnyH_take (i := 13) (v := (.pointer (some ⟨R, j, none⟩))) (op_at rfl) (by kernel_rfl) (by kernel_rfl) (by kernel_rfl) (fun _ _ _ h => h) (Or.inl ⟨rfl, fun w hSw => ?_⟩) (by assumption) ?_
              · (try dsimp only at hSw); go_simp; try with_reducible rfl
              (try simp only [Act.put, List.setIfInBounds_toArray, List.set_cons_zero, List.set_cons_succ])
              refine wpAnyH_take (i := 14) (v := (.int .i64 rj)) (op_at rfl) (by kernel_rfl) (by kernel_rfl) (by kernel_rfl) (fun _ _ _ h => h) (Or.inl ⟨rfl, fun w hSw => ?_⟩) (by assumption) ?_
              · (try dsimp only at hSw); go_simp; try with_reducible rfl
              (try simp only [Act.put, List.setIfInBounds_toArray, List.set_cons_zero, List.set_cons_succ])
              refine wpAnyH_take (i := 15) (v := (.bool false)) (op_at rfl) (by kernel_rfl) (by kernel_rfl) (by kernel_rfl) (fun _ _ _ h => h) (Or.inl ⟨rfl, fun w hSw => ?_⟩) (by assumption) ?_
              · (try dsimp only at hSw); go_simp; try with_reducible rfl
              (try simp only [Act.put, List.setIfInBounds_toArray, List.set_cons_zero, List.set_cons_succ])
              refine wpAnyH_take (i := 16) (v := (.bool false)) (op_at rfl) (by kernel_rfl) (by kernel_rfl) (by kernel_rfl) (fun _ _ _ h => h) (Or.inl ⟨rfl, fun w hSw => ?_⟩) (by assumption) ?_
              · (try dsimp only at hSw); go_simp; try with_reducible rfl
              (try simp only [Act.put, List.setIfInBounds_toArray, List.set_cons_zero, List.set_cons_succ])
              refine wpAnyH_done (by kernel_rfl) ?_ _
              go_wp2_with fail
              go_roundg (gk - 1)
              case measure => omega
              case rel => exact ⟨j + 1, by go_num, by omega, HG2.out, HD2.out⟩
            · clear hf hst hby hrj
              go_wp2_with fail
              refine wp_region_held_drew (S := (fun w' => w'.cell? ⟨b, off + i * 3 + 1, none⟩ = some (.string ⟨#[]⟩) ∧ w'.cell? ⟨R, i, none⟩ = some (.int .i64 ri) ∧ w'.cell? ⟨R, j, none⟩ = some (.int .i64 rj))) (by kernel_rfl) ⟨c1, r1, r2⟩ (fun hHeld => ?_)
              generalize wr.drew = V at *
              refine wpAnyH_take (i := 0) (v := (.slice (some ⟨b, off, none⟩) n c)) (op_at rfl) (by kernel_rfl) (by kernel_rfl) (by kernel_rfl) (fun _ _ _ h => h) (Or.inl ⟨rfl, fun w hSw => ?_⟩) (by assumption) ?_
              · (try dsimp only at hSw); go_simp; try with_reducible rfl
              (try simp only [Act.put, List.setIfInBounds_toArray, List.set_cons_zero, List.set_cons_succ])
              refine wpAnyH_take (i := 1) (v := (.int .i64 (i : Int))) (op_at rfl) (by kernel_rfl) (by kernel_rfl) (by kernel_rfl) (fun _ _ _ h => h) (Or.inl ⟨rfl, fun w hSw => ?_⟩) (by assumption) ?_
              · (try dsimp only at hSw); go_simp; try with_reducible rfl
              (try simp only [Act.put, List.setIfInBounds_toArray, List.set_cons_zero, List.set_cons_succ])
              refine wpAnyH_take (i := 2) (v := (.pointer (some ⟨b, off + i * 3, none⟩))) (op_at rfl) (by kernel_rfl) (by kernel_rfl) (by kernel_rfl) (fun _ _ _ h => h) (Or.inl ⟨rfl, fun w hSw => ?_⟩) (by assumption) ?_
              · (try dsimp only at hSw); go_simp; try with_reducible rfl
              (try simp only [Act.put, List.setIfInBounds_toArray, List.set_cons_zero, List.set_cons_succ])
              refine wpAnyH_take (i := 3) (v := (.pointer (some ⟨b, off + i * 3 + 1, none⟩))) (op_at rfl) (by kernel_rfl) (by kernel_rfl) (by kernel_rfl) (fun _ _ _ h => h) (Or.inl ⟨rfl, fun w hSw => ?_⟩) (by assumption) ?_
              · (try dsimp only at hSw); go_simp; try with_reducible rfl
              (try simp only [Act.put, List.setIfInBounds_toArray, List.set_cons_zero, List.set_cons_succ])
              refine wpAnyH_take (i := 4) (v := (.string ⟨#[]⟩)) (op_at rfl) (by kernel_rfl) (by kernel_rfl) (by kernel_rfl) (fun _ _ _ h => h) (Or.inl ⟨rfl, fun w hSw => ?_⟩) (by assumption) ?_
              · (try dsimp only at hSw); go_simp; try with_reducible rfl
              (try simp only [Act.put, List.setIfInBounds_toArray, List.set_cons_zero, List.set_cons_succ])
              refine wpAnyH_take (i := 5) (v := (.bool true)) (op_at rfl) (by kernel_rfl) (by kernel_rfl) (by kernel_rfl) (fun _ _ _ h => h) (Or.inl ⟨rfl, fun w hSw => ?_⟩) (by assumption) ?_
              · (try dsimp only at hSw); go_simp; try with_reducible rfl
              (try simp only [Act.put, List.setIfInBounds_toArray, List.set_cons_zero, List.set_cons_succ])
              refine wpAnyH_take (i := 6) (v := (.bool true)) (op_at rfl) (by kernel_rfl) (by kernel_rfl) (by kernel_rfl) (fun _ _ _ h => h) (Or.inl ⟨rfl, fun w hSw => ?_⟩) (by assumption) ?_
              · (try dsimp only at hSw); go_simp; try with_reducible rfl
              (try simp only [Act.put, List.setIfInBounds_toArray, List.set_cons_zero, List.set_cons_succ])
              refine wpAnyH_take (i := 7) (v := (.slice (some ⟨R, 0, none⟩) n kk)) (op_at rfl) (by kernel_rfl) (by kernel_rfl) (by kernel_rfl) (fun _ _ _ h => h) (Or.inl ⟨rfl, fun w hSw => ?_⟩) (by assumption) ?_
              · (try dsimp only at hSw); go_simp; try with_reducible rfl
              (try simp only [Act.put, List.setIfInBounds_toArray, List.set_cons_zero, List.set_cons_succ])
              refine wpAnyH_take (i := 8) (v := (.int .i64 (i : Int))) (op_at rfl) (by kernel_rfl) (by kernel_rfl) (by kernel_rfl) (fun _ _ _ h => h) (Or.inl ⟨rfl, fun w hSw => ?_⟩) (by assumption) ?_
              · (try dsimp only at hSw); go_simp; try with_reducible rfl
              (try simp only [Act.put, List.setIfInBounds_toArray, List.set_cons_zero, List.set_cons_succ])
              refine wpAnyH_take (i := 9) (v := (.pointer (some ⟨R, i, none⟩))) (op_at rfl) (by kernel_rfl) (by kernel_rfl) (by kernel_rfl) (fun _ _ _ h => h) (Or.inl ⟨rfl, fun w hSw => ?_⟩) (by assumption) ?_
              · (try dsimp only at hSw); go_simp; try with_reducible rfl
              (try simp only [Act.put, List.setIfInBounds_toArray, List.set_cons_zero, List.set_cons_succ])
              refine wpAnyH_take (i := 10) (v := (.int .i64 ri)) (op_at rfl) (by kernel_rfl) (by kernel_rfl) (by kernel_rfl) (fun _ _ _ h => h) (Or.inl ⟨rfl, fun w hSw => ?_⟩) (by assumption) ?_
              · (try dsimp only at hSw); go_simp; try with_reducible rfl
              (try simp only [Act.put, List.setIfInBounds_toArray, List.set_cons_zero, List.set_cons_succ])
              refine wpAnyH_take (i := 11) (v := (.slice (some ⟨R, 0, none⟩) n kk)) (op_at rfl) (by kernel_rfl) (by kernel_rfl) (by kernel_rfl) (fun _ _ _ h => h) (Or.inl ⟨rfl, fun w hSw => ?_⟩) (by assumption) ?_
              · (try dsimp only at hSw); go_simp; try with_reducible rfl
              (try simp only [Act.put, List.setIfInBounds_toArray, List.set_cons_zero, List.set_cons_succ])
              refine wpAnyH_take (i := 12) (v := (.int .i64 (j : Int))) (op_at rfl) (by kernel_rfl) (by kernel_rfl) (by kernel_rfl) (fun _ _ _ h => h) (Or.inl ⟨rfl, fun w hSw => ?_⟩) (by assumption) ?_
              · (try dsimp only at hSw); go_simp; try with_reducible rfl
              (try simp only [Act.put, List.setIfInBounds_toArray, List.set_cons_zero, List.set_cons_succ])
              refine wpAnyH_take (i := 13) (v := (.pointer (some ⟨R, j, none⟩))) (op_at rfl) (by kernel_rfl) (by kernel_rfl) (by kernel_rfl) (fun _ _ _ h => h) (Or.inl ⟨rfl, fun w hSw => ?_⟩) (by assumption) ?_
              · (try dsimp only at hSw); go_simp; try with_reducible rfl
              (try simp only [Act.put, List.setIfInBounds_toArray, List.set_cons_zero, List.set_cons_succ])
              refine wpAnyH_take (i := 14) (v := (.int .i64 rj)) (op_at rfl) (by kernel_rfl) (by kernel_rfl) (by kernel_rfl) (fun _ _ _ h => h) (Or.inl ⟨rfl, fun w hSw => ?_⟩) (by assumption) ?_
              · (try dsimp only at hSw); go_simp; try with_reducible rfl
              (try simp only [Act.put, List.setIfInBounds_toArray, List.set_cons_zero, List.set_cons_succ])
              refine wpAnyH_take (i := 15) (v := (.bool true)) (op_at rfl) (by kernel_rfl) (by kernel_rfl) (by kernel_rfl) (fun _ _ _ h => h) (Or.inl ⟨rfl, fun w hSw => ?_⟩) (by assumption) ?_
              · (try dsimp only at hSw); go_simp; try with_reducible rfl
              (try simp only [Act.put, List.setIfInBounds_toArray, List.set_cons_zero, List.set_cons_succ])
              refine wpAnyH_take (i := 16) (v := (.bool true)) (op_at rfl) (by kernel_rfl) (by kernel_rfl) (by kernel_rfl) (fun _ _ _ h => h) (Or.inl ⟨rfl, fun w hSw => ?_⟩) (by assumption) ?_
              · (try dsimp only at hSw); go_simp; try with_reducible rfl
              (try simp only [Act.put, List.setIfInBounds_toArray, List.set_cons_zero, List.set_cons_succ])
              refine wpAnyH_done (by kernel_rfl) ?_ _
              go_wp2_with fail
              refine (HA.out _ (G4.out.trans HG2.out)).mono ?_
              rintro e w5 ⟨rfl, g5⟩
              have HG5 := Lib.hid ((G4.out.trans HG2.out).trans g5)
              clear g5
              go_wp2_with fail
              go_ret
              exact ⟨rfl, HG5.out⟩
          · have hst : ¬ x.st.toList = [] := by simpa using hf
            have HD2 : Hid (UntiedAt (xs.map bare) i (j + 1)) := UntiedAt.next HUi.out fun b' c' hb' hc' hff => by
              rw [HBX.out] at hb'
              cases hb'
              exact absurd hff hf
            clear hf hby hrj
            go_wp2_with fail
            refine wp_region_held_drew (S := (fun w' => w'.cell? ⟨b, off + i * 3 + 1, none⟩ = some (.string x.st) ∧ w'.cell? ⟨R, i, none⟩ = some (.int .i64 ri) ∧ w'.cell? ⟨R, j, none⟩ = some (.int .i64 rj))) (by kernel_rfl) ⟨c1, r1, r2⟩ (fun hHeld => ?_)
            generalize wr.drew = V at *
            refine wpAnyH_take (i := 0) (v := (.slice (some ⟨b, off, none⟩) n c)) (op_at rfl) (by kernel_rfl) (by kernel_rfl) (by kernel_rfl) (fun _ _ _ h => h) (Or.inl ⟨rfl, fun w hSw => ?_⟩) (by assumption) ?_
            · (try dsimp only at hSw); go_simp; try with_reducible rfl
            (try simp only [Act.put, List.setIfInBounds_toArray, List.set_cons_zero, List.set_cons_succ])
            refine wpAnyH_take (i := 1) (v := (.int .i64 (i : Int))) (op_at rfl) (by kernel_rfl) (by kernel_rfl) (by kernel_rfl) (fun _ _ _ h => h) (Or.inl ⟨rfl, fun w hSw => ?_⟩) (by assumption) ?_
            · (try dsimp only at hSw); go_simp; try with_reducible rfl
            (try simp only [Act.put, List.setIfInBounds_toArray, List.set_cons_zero, List.set_cons_succ])
            refine wpAnyH_take (i := 2) (v := (.pointer (some ⟨b, off + i * 3, none⟩))) (op_at rfl) (by kernel_rfl) (by kernel_rfl) (by kernel_rfl) (fun _ _ _ h => h) (Or.inl ⟨rfl, fun w hSw => ?_⟩) (by assumption) ?_
            · (try dsimp only at hSw); go_simp; try with_reducible rfl
            (try simp only [Act.put, List.setIfInBounds_toArray, List.set_cons_zero, List.set_cons_succ])
            refine wpAnyH_take (i := 3) (v := (.pointer (some ⟨b, off + i * 3 + 1, none⟩))) (op_at rfl) (by kernel_rfl) (by kernel_rfl) (by kernel_rfl) (fun _ _ _ h => h) (Or.inl ⟨rfl, fun w hSw => ?_⟩) (by assumption) ?_
            · (try dsimp only at hSw); go_simp; try with_reducible rfl
            (try simp only [Act.put, List.setIfInBounds_toArray, List.set_cons_zero, List.set_cons_succ])
            refine wpAnyH_take (i := 4) (v := (.string x.st)) (op_at rfl) (by kernel_rfl) (by kernel_rfl) (by kernel_rfl) (fun _ _ _ h => h) (Or.inl ⟨rfl, fun w hSw => ?_⟩) (by assumption) ?_
            · (try dsimp only at hSw); go_simp; try with_reducible rfl
            (try simp only [Act.put, List.setIfInBounds_toArray, List.set_cons_zero, List.set_cons_succ])
            refine wpAnyH_take (i := 5) (v := (.bool false)) (op_at rfl) (by kernel_rfl) (by kernel_rfl) (by kernel_rfl) (fun _ _ _ h => h) (Or.inl ⟨rfl, fun w hSw => ?_⟩) (by assumption) ?_
            · (try dsimp only at hSw); go_simp; try with_reducible rfl
            (try simp only [Act.put, List.setIfInBounds_toArray, List.set_cons_zero, List.set_cons_succ])
            refine wpAnyH_take (i := 6) (v := (.bool false)) (op_at rfl) (by kernel_rfl) (by kernel_rfl) (by kernel_rfl) (fun _ _ _ h => h) (Or.inl ⟨rfl, fun w hSw => ?_⟩) (by assumption) ?_
            · (try dsimp only at hSw); go_simp; try with_reducible rfl
            (try simp only [Act.put, List.setIfInBounds_toArray, List.set_cons_zero, List.set_cons_succ])
            refine wpAnyH_take (i := 7) (v := undef) (op_at rfl) (by kernel_rfl) (by kernel_rfl) (by kernel_rfl) (fun _ _ _ h => h) (Or.inr ⟨rfl, rfl⟩) (by assumption) ?_
            (try simp only [Act.put, List.setIfInBounds_toArray, List.set_cons_zero, List.set_cons_succ])
            refine wpAnyH_take (i := 8) (v := undef) (op_at rfl) (by kernel_rfl) (by kernel_rfl) (by kernel_rfl) (fun _ _ _ h => h) (Or.inr ⟨rfl, rfl⟩) (by assumption) ?_
            (try simp only [Act.put, List.setIfInBounds_toArray, List.set_cons_zero, List.set_cons_succ])
            refine wpAnyH_take (i := 9) (v := undef) (op_at rfl) (by kernel_rfl) (by kernel_rfl) (by kernel_rfl) (fun _ _ _ h => h) (Or.inr ⟨rfl, rfl⟩) (by assumption) ?_
            (try simp only [Act.put, List.setIfInBounds_toArray, List.set_cons_zero, List.set_cons_succ])
            refine wpAnyH_take (i := 10) (v := undef) (op_at rfl) (by kernel_rfl) (by kernel_rfl) (by kernel_rfl) (fun _ _ _ h => h) (Or.inr ⟨rfl, rfl⟩) (by assumption) ?_
            (try simp only [Act.put, List.setIfInBounds_toArray, List.set_cons_zero, List.set_cons_succ])
            refine wpAnyH_take (i := 11) (v := undef) (op_at rfl) (by kernel_rfl) (by kernel_rfl) (by kernel_rfl) (fun _ _ _ h => h) (Or.inr ⟨rfl, rfl⟩) (by assumption) ?_
            (try simp only [Act.put, List.setIfInBounds_toArray, List.set_cons_zero, List.set_cons_succ])
            refine wpAnyH_take (i := 12) (v := undef) (op_at rfl) (by kernel_rfl) (by kernel_rfl) (by kernel_rfl) (fun _ _ _ h => h) (Or.inr ⟨rfl, rfl⟩) (by assumption) ?_
            (try simp only [Act.put, List.setIfInBounds_toArray, List.set_cons_zero, List.set_cons_succ])
            refine wpAnyH_take (i := 13) (v := undef) (op_at rfl) (by kernel_rfl) (by kernel_rfl) (by kernel_rfl) (fun _ _ _ h => h) (Or.inr ⟨rfl, rfl⟩) (by assumption) ?_
            (try simp only [Act.put, List.setIfInBounds_toArray, List.set_cons_zero, List.set_cons_succ])
            refine wpAnyH_take (i := 14) (v := undef) (op_at rfl) (by kernel_rfl) (by kernel_rfl) (by kernel_rfl) (fun _ _ _ h => h) (Or.inr ⟨rfl, rfl⟩) (by assumption) ?_
            (try simp only [Act.put, List.setIfInBounds_toArray, List.set_cons_zero, List.set_cons_succ])
            refine wpAnyH_take (i := 15) (v := undef) (op_at rfl) (by kernel_rfl) (by kernel_rfl) (by kernel_rfl) (fun _ _ _ h => h) (Or.inr ⟨rfl, rfl⟩) (by assumption) ?_
            (try simp only [Act.put, List.setIfInBounds_toArray, List.set_cons_zero, List.set_cons_succ])
            refine wpAnyH_take (i := 16) (v := (.bool false)) (op_at rfl) (by kernel_rfl) (by kernel_rfl) (by kernel_rfl) (fun _ _ _ h => h) (Or.inl ⟨rfl, fun w hSw => ?_⟩) (by assumption) ?_
            · (try dsimp only at hSw); go_simp; try with_reducible rfl
            (try simp only [Act.put, List.setIfInBounds_toArray, List.set_cons_zero, List.set_cons_succ])
            refine wpAnyH_done (by kernel_rfl) ?_ _
            go_wp2_with fail
            go_roundg (gk - 1)
            case measure => omega
            case rel => exact ⟨j + 1, by go_num, by omega, HG2.out, HD2.out⟩
        · obtain rfl : j = i := by omega
          have HN := Lib.hid (Untied.next HU.out HUi.out)
          go_wp2_with fail
          go_roundg (gO - 1)
          case measure => omega
          case rel => exact ⟨j + 1, by go_num, by omega, HGi.out, HN.out⟩
    · obtain rfl : i = n := by omega
      have G5 := Lib.hid (G4.out.trans HGr.out)
      have HV5 := Lib.hid (HV9.out.gr HGr.out)
      obtain ⟨Gs, hGp, hGs⟩ := sorted_row HG.out.valid (fun i' j b c hj hb hc hf => HU.out i' j b c (by have := (List.getElem?_eq_some_iff.1 hb).1; rw [List.length_map] at this; have := HXL.out; omega) hj hb hc hf)
      have HGp := Lib.hid hGp
      have HGs := Lib.hid hGs
      clear hGp hGs HKs HV9 HU HGr
      obtain ⟨W6, rfl⟩ : ∃ W, W = wr := ⟨wr, rfl⟩
      obtain ⟨W7, hW7, hQ7, hG7⟩ := QAt.new W6 mm
      have HW7 := Lib.hid hW7
      have HQ7 := Lib.hid hQ7
      have HG7 := Lib.hid hG7
      have HNB : Hid ((xs.map bare).length = i) := by unfold Hid; rw [List.length_map]; exact HXL.out
      obtain ⟨al, hal⟩ : ∃ al, al = thruB (xs.map bare) (i : Int) := ⟨_, rfl⟩
      rw [← hal] at HV5
      obtain ⟨⟨pa, ka, hae, -, hah⟩⟩ := HV5.out
      simp only [Value.slice.injEq] at hae
      obtain ⟨rfl, hal2, rfl⟩ := hae
      obtain ⟨es, hes⟩ : ∃ es, es = al.map entA := ⟨_, rfl⟩
      have HAH := Lib.hid hah
      have HAL := Lib.hid hal
      have HES := Lib.hid hes
      have HL9 := Lib.hid hal2
      have HL : Hid (es.length ≤ 10) := by
        unfold Hid
        rw [hes, List.length_map, hal]
        exact Nat.le_trans (thruB_len _ _) (by rw [HNB.out]; exact hfew)
      clear hW7 hQ7 hG7 hal hah hal2 hes HV5
      have hm20i : (mm : Int) ≤ 20 := by omega
      have hl9 : l9 ≤ 10 := by have h1 := HL.out; rw [HES.out, List.length_map] at h1; have := HL9.out; omega
      go_wp2_with fail
      rw [HW7.out]
      obtain ⟨LB, hLB⟩ : ∃ L, L = W6.heap.size := ⟨_, rfl⟩
      obtain ⟨QB, hQB⟩ : ∃ L, L = W6.heap.size + 1 := ⟨_, rfl⟩
      rw [← hQB, ← hLB]
      have HQ8 : Hid (QAt W7 W6.heap.size LB QB mm (.slice none 0 0) []) := by rw [hLB, hQB]; exact HQ7.out
      clear hLB hQB HQ7 HW7
      go_loopg [15, 102] l9 (fun gk s15 s102 wr => ∃ (k : Nat) (ev : Value), s102 = .int .i64 k ∧ gk + k = l9 ∧ Hid (QAt wr W6.heap.size LB QB mm ev (es.take k)) ∧ Hid (Gr W6 wr))
      case atStart => exact ⟨0, _, rfl, by omega, HQ8.out, HG7.out⟩
      case round =>
        obtain ⟨k, ev, rfl, hgk, HQ, HGq⟩ := hrel
        by_cases hlk : k < l9
        · obtain ⟨s, hs⟩ : ∃ s, al[k]? = some s := ⟨al[k]'(by have := HL9.out; omega), List.getElem?_eq_getElem _⟩
          obtain ⟨ab, rfl, hac⟩ : ∃ b, q9 = some ⟨b, 0, none⟩ ∧ ∀ i s, al[i]? = some s → W6.cell? ⟨b, i, none⟩ = some (.string s) := by
            rcases HAH.out with ⟨e1, _⟩ | h2
            · rw [e1] at hs; simp at hs
            · exact h2
          have c0 := HGq.out.cell (hac k s hs)
          have HQV := Lib.hid (HQ.out.gr (Gr.refl wr).drew)
          have HGV := Lib.hid HGq.out.drew
          have HTK : Hid (es.take (k + 1) = es.take k ++ [entA s]) := by
            unfold Hid
            rw [List.take_add_one, HES.out, List.getElem?_map, hs]
            rfl
          have hki : (k : Int) < l9 := by omega
          have HTKL : Hid ((es.take k).length ≤ 10) := by unfold Hid; rw [List.length_take]; have := HL.out; omega
          generalize es.take k = tk at *
          clear hs hac
          go_wp2_with fail
          refine wp_region_held_drew (S := (fun w' => w'.cell? ⟨QB, 0, none⟩ = some (.slice (some ⟨LB, 0, none⟩) 1 1))) (by kernel_rfl) HQV.out.cells.1 (fun hHeld => ?_)
          generalize wr.drew = V at *
          have c3 := HQV.out.cells.2.2
          refine wpAnyH_take (i := 0) (v := (.pointer (some ⟨QB, 0, none⟩))) (op_at rfl) (by kernel_rfl) (by kernel_rfl) (by kernel_rfl) (fun _ _ _ h => h) (Or.inl ⟨rfl, fun w hSw => ?_⟩) (by assumption) ?_
          · (try dsimp only at hSw); go_simp; try with_reducible rfl
          (try simp only [Act.put, List.setIfInBounds_toArray, List.set_cons_zero, List.set_cons_succ])
          refine wpAnyH_take (i := 1) (v := (.slice (some ⟨LB, 0, none⟩) 1 1)) (op_at rfl) (by kernel_rfl) (by kernel_rfl) (by kernel_rfl) (fun _ _ _ h => h) (Or.inl ⟨rfl, fun w hSw => ?_⟩) (by assumption) ?_
          · (try dsimp only at hSw); go_simp; try with_reducible rfl
          (try simp only [Act.put, List.setIfInBounds_toArray, List.set_cons_zero, List.set_cons_succ])
          refine wpAnyH_take (i := 2) (v := (.pointer (some ⟨QB, 0, none⟩))) (op_at rfl) (by kernel_rfl) (by kernel_rfl) (by kernel_rfl) (fun _ _ _ h => h) (Or.inl ⟨rfl, fun w hSw => ?_⟩) (by assumption) ?_
          · (try dsimp only at hSw); go_simp; try with_reducible rfl
          (try simp only [Act.put, List.setIfInBounds_toArray, List.set_cons_zero, List.set_cons_succ])
          refine wpAnyH_take (i := 3) (v := (.slice (some ⟨LB, 0, none⟩) 1 1)) (op_at rfl) (by kernel_rfl) (by kernel_rfl) (by kernel_rfl) (fun _ _ _ h => h) (Or.inl ⟨rfl, fun w hSw => ?_⟩) (by assumption) ?_
          · (try dsimp only at hSw); go_simp; try with_reducible rfl
          (try simp only [Act.put, List.setIfInBounds_toArray, List.set_cons_zero, List.set_cons_succ])
          refine wpAnyH_take (i := 4) (v := (.pointer (some ⟨LB, 0, none⟩))) (op_at rfl) (by kernel_rfl) (by kernel_rfl) (by kernel_rfl) (fun _ _ _ h => h) (Or.inl ⟨rfl, fun w hSw => ?_⟩) (by assumption) ?_
          · (try dsimp only at hSw); go_simp; try with_reducible rfl
          (try simp only [Act.put, List.setIfInBounds_toArray, List.set_cons_zero, List.set_cons_succ])
          refine wpAnyH_take (i := 5) (v := (.pointer (some ⟨LB, 2, none⟩))) (op_at rfl) (by kernel_rfl) (by kernel_rfl) (by kernel_rfl) (fun _ _ _ h => h) (Or.inl ⟨rfl, fun w hSw => ?_⟩) (by assumption) ?_
          · (try dsimp only at hSw); go_simp; try with_reducible rfl
          (try simp only [Act.put, List.setIfInBounds_toArray, List.set_cons_zero, List.set_cons_succ])
          refine wpAnyH_take (i := 7) (v := (.string s)) (op_at rfl) (by kernel_rfl) (by kernel_rfl) (by kernel_rfl) (fun _ _ _ h => h) (Or.inl ⟨rfl, fun w hSw => ?_⟩) (by assumption) ?_
          · (try dsimp only at hSw); go_simp; try with_reducible rfl
          (try simp only [Act.put, List.setIfInBounds_toArray, List.set_cons_zero, List.set_cons_succ])
          refine wpAnyH_take (i := 8) (v := (.agg #[.string s, .string ⟨#[65]⟩])) (op_at rfl) (by kernel_rfl) (by kernel_rfl) (by kernel_rfl) (fun _ _ _ h => h) (Or.inl ⟨rfl, fun w hSw => ?_⟩) (by assumption) ?_
          · (try dsimp only at hSw); go_simp; try with_reducible rfl
          (try simp only [Act.put, List.setIfInBounds_toArray, List.set_cons_zero, List.set_cons_succ])
          refine wpAnyH_ready (rs := [6, 9]) (by kernel_rfl) (by simp) (AllReadyH.cons (op_at rfl) (fun K hK => ?_) (AllReadyH.cons (op_at rfl) (fun K hK => ?_) AllReadyH.nil))
          · go_simp
            refine hK.out _ _ hHeld (fun hHeld => ?_)
            clear hK K
            (try simp only [Act.put, List.setIfInBounds_toArray, List.set_cons_zero, List.set_cons_succ])
            refine wpAnyH_ready (rs := [9]) (by kernel_rfl) (by simp) (AllReadyH.cons (op_at rfl) (fun K hK => ?_) AllReadyH.nil)
            go_simp
            refine hK.out _ _ (((Gr.refl V).alloc _).cell HQV.out.cells.1) (fun hHeld => ?_)
            clear hK K
            (try simp only [Act.put, List.setIfInBounds_toArray, List.set_cons_zero, List.set_cons_succ])
            refine wpAnyH_ready (rs := [10]) (by kernel_rfl) (by simp) (AllReadyH.cons (op_at rfl) (fun K hK => ?_) AllReadyH.nil)
            rw [if_pos (show Region.wanted _ _ = true from rfl)]
            refine step_entry _ _ rfl W6.heap.size ev tk (entA s) tk.length rfl rfl (own_gr2 HQV.out.own ((Gr.refl V).alloc _)) V.heap.size 1 rfl (cell_new V #[.string s, .string ⟨#[65]⟩] _ 0 (by simp)) (cell_new V #[.string s, .string ⟨#[65]⟩] _ 1 (by simp)) (by have := HTKL.out; omega) (by simp; have := HGV.out.size; omega) ?_
            intro v1 w1 hown1 hgrow1 hat1
            obtain ⟨pp1, cc1, rfl⟩ := shape_own hown1
            obtain ⟨s1, s2, s3, s4, s5⟩ := HQV.out.put HGV.out hown1 hgrow1 hat1
            rw [← HTK.out] at s4
            have C4 := Lib.hid s4
            have C5 := Lib.hid s5
            clear s4 s5 hown1 hgrow1 hat1
            refine hK.out _ _ s1 (fun hHeld => ?_)
            clear hK K
            (try simp only [Act.put, List.setIfInBounds_toArray, List.set_cons_zero, List.set_cons_succ])
            refine wpAnyH_take (i := 11) (v := (.pointer (some ⟨LB, 0, none⟩))) (op_at rfl) (by kernel_rfl) (by kernel_rfl) (by kernel_rfl) (fun _ _ _ h => h) (Or.inl ⟨rfl, fun w hSw => ?_⟩) (by assumption) ?_
            · (try dsimp only at hSw); go_simp; try with_reducible rfl
            (try simp only [Act.put, List.setIfInBounds_toArray, List.set_cons_zero, List.set_cons_succ])
            refine wpAnyH_take (i := 12) (v := (.pointer (some ⟨LB, 2, none⟩))) (op_at rfl) (by kernel_rfl) (by kernel_rfl) (by kernel_rfl) (fun _ _ _ h => h) (Or.inl ⟨rfl, fun w hSw => ?_⟩) (by assumption) ?_
            · (try dsimp only at hSw); go_simp; try with_reducible rfl
            (try simp only [Act.put, List.setIfInBounds_toArray, List.set_cons_zero, List.set_cons_succ])
            refine wpAnyH_ready (rs := [13]) (by kernel_rfl) (by simp) (AllReadyH.cons (op_at rfl) (fun K hK => ?_) AllReadyH.nil)
            go_simp
            refine hK.out _ _ C4.out.cells.1 (fun hHeld => ?_)
            clear hK K
            (try simp only [Act.put, List.setIfInBounds_toArray, List.set_cons_zero, List.set_cons_succ])
            refine wpAnyH_done (by kernel_rfl) ?_ _
            go_wp2_with fail
            go_roundg (gk - 1)
            case measure => omega
            case rel => exact ⟨k + 1, _, by go_num, by omega, C4.out, C5.out⟩
          · go_simp
            refine hK.out _ _ (((Gr.refl V).alloc _).cell HQV.out.cells.1) (fun hHeld => ?_)
            clear hK K
            (try simp only [Act.put, List.setIfInBounds_toArray, List.set_cons_zero, List.set_cons_succ])
            have c3b := ((Gr.refl V).alloc (.cells #[.string s, .string ⟨#[65]⟩] 42)).cell c3
            refine wpAnyH_ready (rs := [6]) (by kernel_rfl) (by simp) (AllReadyH.cons (op_at rfl) (fun K hK => ?_) AllReadyH.nil)
            go_simp
            refine hK.out _ _ hHeld (fun hHeld => ?_)
            clear hK K
            (try simp only [Act.put, List.setIfInBounds_toArray, List.set_cons_zero, List.set_cons_succ])
            refine wpAnyH_ready (rs := [10]) (by kernel_rfl) (by simp) (AllReadyH.cons (op_at rfl) (fun K hK => ?_) AllReadyH.nil)
            rw [if_pos (show Region.wanted _ _ = true from rfl)]
            refine step_entry _ _ rfl W6.heap.size ev tk (entA s) tk.length rfl rfl (own_gr2 HQV.out.own ((Gr.refl V).alloc _)) V.heap.size 1 rfl (cell_new V #[.string s, .string ⟨#[65]⟩] _ 0 (by simp)) (cell_new V #[.string s, .string ⟨#[65]⟩] _ 1 (by simp)) (by have := HTKL.out; omega) (by simp; have := HGV.out.size; omega) ?_
            intro v1 w1 hown1 hgrow1 hat1
            obtain ⟨pp1, cc1, rfl⟩ := shape_own hown1
            obtain ⟨s1, s2, s3, s4, s5⟩ := HQV.out.put HGV.out hown1 hgrow1 hat1
            rw [← HTK.out] at s4
            have C4 := Lib.hid s4
            have C5 := Lib.hid s5
            clear s4 s5 hown1 hgrow1 hat1
            refine hK.out _ _ s1 (fun hHeld => ?_)
            clear hK K
            (try simp only [Act.put, List.setIfInBounds_toArray, List.set_cons_zero, List.set_cons_succ])
            refine wpAnyH_take (i := 11) (v := (.pointer (some ⟨LB, 0, none⟩))) (op_at rfl) (by kernel_rfl) (by kernel_rfl) (by kernel_rfl) (fun _ _ _ h => h) (Or.inl ⟨rfl, fun w hSw => ?_⟩) (by assumption) ?_
            · (try dsimp only at hSw); go_simp; try with_reducible rfl
            (try simp only [Act.put, List.setIfInBounds_toArray, List.set_cons_zero, List.set_cons_succ])
            refine wpAnyH_take (i := 12) (v := (.pointer (some ⟨LB, 2, none⟩))) (op_at rfl) (by kernel_rfl) (by kernel_rfl) (by kernel_rfl) (fun _ _ _ h => h) (Or.inl ⟨rfl, fun w hSw => ?_⟩) (by assumption) ?_
            · (try dsimp only at hSw); go_simp; try with_reducible rfl
            (try simp only [Act.put, List.setIfInBounds_toArray, List.set_cons_zero, List.set_cons_succ])
            refine wpAnyH_ready (rs := [13]) (by kernel_rfl) (by simp) (AllReadyH.cons (op_at rfl) (fun K hK => ?_) AllReadyH.nil)
            go_simp
            refine hK.out _ _ C4.out.cells.1 (fun hHeld => ?_)
            clear hK K
            (try simp only [Act.put, List.setIfInBounds_toArray, List.set_cons_zero, List.set_cons_succ])
            refine wpAnyH_done (by kernel_rfl) ?_ _
            go_wp2_with fail
            go_roundg (gk - 1)
            case measure => omega
            case rel => exact ⟨k + 1, _, by go_num, by omega, C4.out, C5.out⟩
        · obtain rfl : k = l9 := by omega
          have hq8 := HQ.out
          rw [List.take_of_length_le (by rw [HES.out, List.length_map]; have := HL9.out; omega)] at hq8
          have HQ9 := Lib.hid hq8
          obtain ⟨b0, b1, -⟩ := hq8.cells
          have hz0 := plE_zero HG.out.valid HGp.out HGs.out (by rw [HXL.out]; exact hfew) HO.out (by rw [HLN.out]; omega) mm (by omega) ev
          have hgn := give_names ns HG.out.valid HGp.out HGs.out mm ev rnd (by rw [HNB.out]; exact hfew)
          rw [HNB.out, ← HAL.out, ← HES.out] at hz0 hgn
          have HPLC := Lib.hid (places_good 160 hq8.lists (HOS.out.gr (G5.out.trans HGq.out)) hz0)
          rw [hgn] at HPLC
          clear hq8 hz0 hgn
          go_wp2_with fail
          refine HPLC.out.mono ?_
          rintro e W8 ⟨B, u, rfl, hown, hg⟩
          obtain ⟨pp, pc, rfl, hpc⟩ := places_cells hown
          have HPC := Lib.hid hpc
          have HG8 := Lib.hid ((G5.out.trans HGq.out).trans hg)
          clear hown hpc hg
          go_wp2_with fail
          refine (HRp.out HG.out HO.out _ HG8.out).mono ?_
          rintro e W9 ⟨q11, l11, k11, rfl, hv11, hg⟩
          rw [rest_bare] at hv11
          have HG9 := Lib.hid (HG8.out.trans hg)
          have HG89 := Lib.hid hg
          obtain ⟨tl, htl⟩ : ∃ tl, tl = thruB (restB ns (xs.map bare)) mm := ⟨_, rfl⟩
          rw [← htl] at hv11 HPC ⊢
          obtain ⟨⟨p11, c11, hce, -, hch⟩⟩ := hv11
          simp only [Value.slice.injEq] at hce
          obtain ⟨rfl, hl11, rfl⟩ := hce
          obtain ⟨L, hL⟩ : ∃ L, L = tl.length := ⟨_, rfl⟩
          rw [← hL] at hl11 HPC ⊢
          subst hl11
          have HTL := Lib.hid hL
          have HCH := Lib.hid hch
          have hLs : l11 ≤ 10 := by
            rw [hL, htl]
            exact Nat.le_trans (thruB_len _ _) (Nat.le_trans (restB_sub _ _).length_le (by rw [HNB.out]; exact hfew))
          clear hg htl hL hch
          go_wp2_with fail
          go_loopg [20, 146] l11 (fun gk s20 s146 wr => ∃ k : Nat, s146 = .int .i64 k ∧ gk + k = l11 ∧ Hid (Gr W9 wr))
          case atStart => exact ⟨0, rfl, by omega, Gr.refl _⟩
          case round =>
            obtain ⟨k, rfl, hgk, HGz⟩ := hrel
            by_cases hlk : k < l11
            · obtain ⟨s, hs⟩ : ∃ s, tl[k]? = some s := ⟨tl[k]'(by have := HTL.out; omega), List.getElem?_eq_getElem _⟩
              obtain ⟨PG, rfl, hpg⟩ := HPC.out (by omega)
              obtain ⟨CB, rfl, hcb⟩ : ∃ b, q11 = some ⟨b, 0, none⟩ ∧ ∀ i s, tl[i]? = some s → W9.cell? ⟨b, i, none⟩ = some (.string s) := by
                rcases HCH.out with ⟨e1, _⟩ | h2
                · rw [e1] at hs; simp at hs
                · exact h2
              obtain ⟨p0, p1⟩ := hpg k s hs
              have HGd := Lib.hid HGz.out.drew
              replace p0 := (HG89.out.trans HGd.out).cell p0
              replace p1 := (HG89.out.trans HGd.out).cell p1
              have c0 := HGd.out.cell (hcb k s hs)
              have hss : (s == s) = true := by rw [beq_toListBytes]; simp
              have hki : (k : Int) < l11 := by omega
              clear hs hpg hcb
              go_wp2_with fail
              refine wp_region_held_drew (S := (fun w' => (w'.cell? ⟨PG, k * 2, none⟩ = some (.string s) ∧ w'.cell? ⟨PG, k * 2 + 1, none⟩ = some (.int .i64 0)) ∧ w'.cell? ⟨CB, k, none⟩ = some (.string s))) (by kernel_rfl) ⟨⟨p0, p1⟩, c0⟩ (fun hHeld => ?_)
              generalize wr.drew = V at *
              refine wpAnyH_take (i := 0) (v := (.slice (some ⟨PG, 0, none⟩) l11 pc)) (op_at rfl) (by kernel_rfl) (by kernel_rfl) (by kernel_rfl) (fun _ _ _ h => h) (Or.inl ⟨rfl, fun w hSw => ?_⟩) (by assumption) ?_
              · (try dsimp only at hSw); go_simp; try with_reducible rfl
              (try simp only [Act.put, List.setIfInBounds_toArray, List.set_cons_zero, List.set_cons_succ])
              refine wpAnyH_take (i := 1) (v := (.int .i64 (k : Int))) (op_at rfl) (by kernel_rfl) (by kernel_rfl) (by kernel_rfl) (fun _ _ _ h => h) (Or.inl ⟨rfl, fun w hSw => ?_⟩) (by assumption) ?_
              · (try dsimp only at hSw); go_simp; try with_reducible rfl
              (try simp only [Act.put, List.setIfInBounds_toArray, List.set_cons_zero, List.set_cons_succ])
              refine wpAnyH_take (i := 2) (v := (.pointer (some ⟨PG, k * 2, none⟩))) (op_at rfl) (by kernel_rfl) (by kernel_rfl) (by kernel_rfl) (fun _ _ _ h => h) (Or.inl ⟨rfl, fun w hSw => ?_⟩) (by assumption) ?_
              · (try dsimp only at hSw); go_simp; try with_reducible rfl
              (try simp only [Act.put, List.setIfInBounds_toArray, List.set_cons_zero, List.set_cons_succ])
              refine wpAnyH_take (i := 3) (v := (.agg #[.string s, .int .i64 0])) (op_at rfl) (by kernel_rfl) (by kernel_rfl) (by kernel_rfl) (fun _ _ _ h => h) (Or.inl ⟨rfl, fun w hSw => ?_⟩) (by assumption) ?_
              · (try dsimp only at hSw); go_simp; try with_reducible rfl
              (try simp only [Act.put, List.setIfInBounds_toArray, List.set_cons_zero, List.set_cons_succ])
              refine wpAnyH_take (i := 4) (v := (.slice (some ⟨CB, 0, none⟩) l11 k11)) (op_at rfl) (by kernel_rfl) (by kernel_rfl) (by kernel_rfl) (fun _ _ _ h => h) (Or.inl ⟨rfl, fun w hSw => ?_⟩) (by assumption) ?_
              · (try dsimp only at hSw); go_simp; try with_reducible rfl
              (try simp only [Act.put, List.setIfInBounds_toArray, List.set_cons_zero, List.set_cons_succ])
              refine wpAnyH_take (i := 5) (v := (.int .i64 (k : Int))) (op_at rfl) (by kernel_rfl) (by kernel_rfl) (by kernel_rfl) (fun _ _ _ h => h) (Or.inl ⟨rfl, fun w hSw => ?_⟩) (by assumption) ?_
              · (try dsimp only at hSw); go_simp; try with_reducible rfl
              (try simp only [Act.put, List.setIfInBounds_toArray, List.set_cons_zero, List.set_cons_succ])
              refine wpAnyH_take (i := 6) (v := (.pointer (some ⟨CB, k, none⟩))) (op_at rfl) (by kernel_rfl) (by kernel_rfl) (by kernel_rfl) (fun _ _ _ h => h) (Or.inl ⟨rfl, fun w hSw => ?_⟩) (by assumption) ?_
              · (try dsimp only at hSw); go_simp; try with_reducible rfl
              (try simp only [Act.put, List.setIfInBounds_toArray, List.set_cons_zero, List.set_cons_succ])
              refine wpAnyH_take (i := 7) (v := (.string s)) (op_at rfl) (by kernel_rfl) (by kernel_rfl) (by kernel_rfl) (fun _ _ _ h => h) (Or.inl ⟨rfl, fun w hSw => ?_⟩) (by assumption) ?_
              · (try dsimp only at hSw); go_simp; try with_reducible rfl
              (try simp only [Act.put, List.setIfInBounds_toArray, List.set_cons_zero, List.set_cons_succ])
              refine wpAnyH_take (i := 8) (v := (.agg #[.string s, .int .i64 0])) (op_at rfl) (by kernel_rfl) (by kernel_rfl) (by kernel_rfl) (fun _ _ _ h => h) (Or.inl ⟨rfl, fun w hSw => ?_⟩) (by assumption) ?_
              · (try dsimp only at hSw); go_simp; try with_reducible rfl
              (try simp only [Act.put, List.setIfInBounds_toArray, List.set_cons_zero, List.set_cons_succ])
              refine wpAnyH_take (i := 9) (v := (.bool false)) (op_at rfl) (by kernel_rfl) (by kernel_rfl) (by kernel_rfl) (fun _ _ _ h => h) (Or.inl ⟨rfl, fun w hSw => ?_⟩) (by assumption) ?_
              · (try dsimp only at hSw); go_simp; try with_reducible rfl
              (try simp only [Act.put, List.setIfInBounds_toArray, List.set_cons_zero, List.set_cons_succ])
              refine wpAnyH_done (by kernel_rfl) ?_ _
              go_wp2_with fail
              go_roundg (gk - 1)
              case measure => omega
              case rel => exact ⟨k + 1, by go_num, by omega, HGd.out⟩
            · obtain rfl : k = l11 := by omega
              have HGe := Lib.hid (HG9.out.trans HGz.out)
              go_wp2_with fail
              refine (HA.out _ HGe.out).mono ?_
              rintro e w5 ⟨rfl, g5⟩
              have HG5 := Lib.hid (HGe.out.trans g5)
              clear g5
              go_wp2_with fail
              go_ret
              exact ⟨rfl, HG5.out⟩
theorem lawQuota_c (hS : SortFOK) (I : InsOK) {xs : List RowR} {ns : List ByteArray} {v u : Value} {w : World} (h : Rows0V w v xs) (m : Int) (ho : WordsV w u ns) (hSt : StatesIn w) (hA : GoesOn w) :
    Calls Tryz.prog 3 #[v, .int .i64 m, u] w fun e w' => e = .returned (.bool true) ∧ Gr w w' := by
  obtain ⟨p, c, rfl⟩ : ∃ p c, v = .slice p xs.length c := by obtain ⟨⟨p, c, rfl, _⟩⟩ := h; exact ⟨p, c, rfl⟩
  obtain ⟨q, k, rfl⟩ : ∃ p c, u = .slice p ns.length c := by obtain ⟨⟨p, c, rfl, _⟩⟩ := ho; exact ⟨p, c, rfl⟩
  by_cases h1 : m < 0
  · exact lawq_bad h hA (.inl (decide_eq_true h1))
  by_cases h2 : 20 < m
  · exact lawq_bad h hA (.inr (.inl ⟨decide_eq_false h1, decide_eq_true h2⟩))
  by_cases h3 : (10 : Int) < ns.length
  · exact lawq_bad h hA (.inr (.inr ⟨decide_eq_false h1, decide_eq_false h2, decide_eq_true h3⟩))
  obtain ⟨mm, rfl⟩ : ∃ mm : Nat, m = mm := ⟨m.toNat, by omega⟩
  exact lawq_good hS I mm (by omega) (by omega) h ho hSt hA
end Go.Proofs.YtebnbjaaogfikaaGreatDoor
