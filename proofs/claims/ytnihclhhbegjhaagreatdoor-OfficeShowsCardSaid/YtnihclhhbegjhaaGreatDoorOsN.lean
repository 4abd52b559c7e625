/- Archives (chapter 10): Rounds of the reference. -/
import Derived.Deep.CutBlock
import Derived.Test.YtnihclhhbegjhaaGreatDoorOsM
namespace Go.Proofs.YtnihclhhbegjhaaGreatDoor
open Go.RowKit Go.Lib
set_option linter.unusedSimpArgs false
set_option linter.unusedVariables false
/-- names in memory -/
structure WdS (w : World) (q : Option Addr) (r : List ByteArray) : Prop where
  mk' ::
  out : 0 < r.length → ∃ b off, q = some ⟨b, off, none⟩ ∧ ∀ (i : Nat) (s : ByteArray), r[i]? = some s → w.cell? ⟨b, off + i, none⟩ = some (.string s)
theorem WdS.gr {w w' : World} {q : Option Addr} {r : List ByteArray} (h : WdS w q r) (k : Gr w w') : WdS w' q r := ⟨fun h0 => by
  obtain ⟨g, off, e, hc⟩ := h.out h0
  exact ⟨g, off, e, fun i s hs => k.cell (hc i s hs)⟩⟩
def wdC (r : List ByteArray) : List Value := r.map fun s => .string s
theorem wdC_len (r : List ByteArray) : (wdC r).length = r.length := by simp [wdC]
theorem one_wdC (r : List ByteArray) : ∀ u ∈ wdC r, u.oneCell' = true := fun u hu => by
  unfold wdC at hu
  obtain ⟨s, _, rfl⟩ := List.mem_map.1 hu
  rfl
theorem wd_cells {w : World} {b off : Nat} {r : List ByteArray} (h : ∀ (i : Nat) (s : ByteArray), r[i]? = some s → w.cell? ⟨b, off + i, none⟩ = some (.string s)) : ∀ (j : Nat) (u : Value), (wdC r)[j]? = some u → w.cell? ((⟨b, off, none⟩ : Addr).add j) = some u := fun j u hu => by
  rw [addr_add]
  unfold wdC at hu
  rw [List.getElem?_map, Option.map_eq_some_iff] at hu
  obtain ⟨s, hs, rfl⟩ := hu
  exact h j s hs
theorem WdS.of_own {w : World} {b n : Nat} {T : TypeId} {q : Option Addr} {c : Nat} {r : List ByteArray} (h : w.ownsRow b T 1 (.slice q n c) n (wdC r)) (hn : r.length = n) : WdS w q r := ⟨fun h0 => by
  rcases h.2 with ⟨e, hz⟩ | ⟨g, cap, cur, e, _, _, hle, hmx, _, _⟩
  · omega
  · simp only [Value.slice.injEq] at e
    obtain ⟨rfl, _, rfl⟩ := e
    refine ⟨g, 0, rfl, fun i s hs => ?_⟩
    have hi := (List.getElem?_eq_some_iff.1 hs).1
    have c0 := h.cells (g := g) rfl i (.string s) (by unfold wdC; rw [List.getElem?_map, hs]; rfl)
    rw [addr_add] at c0
    rw [Nat.zero_add] at c0 ⊢
    exact c0⟩
/-- names that are returned -/
structure RetWd (w : World) (e : Ending) (w' : World) (L : List ByteArray) : Prop where
  mk' ::
  out : ∃ v, e = .returned v ∧ StrAts w' v L ∧ ∀ q n c, v = .slice q n c → ∀ ad, q = some ad → w.heap.size ≤ ad.block
set_option maxHeartbeats 8000000 in
set_option maxRecDepth 100000 in
theorem refRounds_c {w : World} {q : Option Addr} {l : List EnR} {n cap : Nat} (hn : n = l.length) (h1 : n ≤ 1000) (hr : EnS w q l) :
    Calls Tryz.prog 24 #[.slice q n cap] w fun e w' => RetWd w e w' (rdR l) ∧ Gr w w' := by
  obtain ⟨i0, hi, hz0, hz1, hz2⟩ := info_parts infoW
  have HI0 := Lib.hid (And.intro hi (And.intro hz0 (And.intro hz1 hz2)))
  have HN := Lib.hid hn
  have HR := Lib.hid hr.out
  clear hr hn hi hz0 hz1 hz2
  go_enter Tryz.func24, Tryz.ntmps24
  go_wp2_with fail
  go_loopg [3, 4] n (fun gk s3 s4 wr => ∃ (i m : Nat) (R : List ByteArray) (q2 : Option Addr) (c2 : Nat), s4 = .int .i64 (i : Int) ∧ gk + i = n ∧ s3 = .slice q2 m c2 ∧ Hid (m = R.length) ∧ m ≤ i ∧ (m ≤ c2 ∧ c2 ≤ maxLen) ∧ Hid (m = 0 → q2 = none ∧ c2 = 0) ∧ Hid (R = rdR (l.take i)) ∧ Hid (WdS wr q2 R) ∧ Hid (Gr w wr) ∧ Hid (∀ ad, q2 = some ad → w.heap.size ≤ ad.block))
  case atStart => exact ⟨0, 0, [], none, 0, rfl, by omega, rfl, rfl, Nat.le_refl _, ⟨Nat.le_refl _, by unfold maxLen; omega⟩, fun _ => ⟨rfl, rfl⟩, by simp [rdR, Hid], ⟨fun h => absurd h (by simp)⟩, Gr.refl _, fun ad h => by cases h⟩
  case round =>
    obtain ⟨i, m, R, q2, c2, rfl, hgk, rfl, HMR, hmi, ⟨hmc, hmx⟩, HM0, HHI, HES, HG, HFR⟩ := hrel
    by_cases hlt : i < n
    · obtain ⟨x, hx⟩ : ∃ x, l[i]? = some x := ⟨l[i]'(by have := HN.out; omega), List.getElem?_eq_getElem _⟩
      obtain ⟨b, off, rfl, hc⟩ := HR.out (by have := HN.out; omega)
      obtain ⟨x0, x1, x2, x3, x4, x5, x6, _⟩ := (hc i x hx).gr HG.out
      have hlt2 : (i : Int) < (n : Int) := by omega
      have HX := Lib.hid hx
      obtain ⟨s, hs⟩ : ∃ s, s = x.ro := ⟨_, rfl⟩
      have HSR : Hid (x.ro = s) := hs.symm
      rw [← hs] at x3
      clear hx hc hs x0 x1 x2 x4 x5 x6
      go_upto_block 2 with fail
      obtain ⟨WQ, hWQ⟩ : ∃ W, W = wr := ⟨wr, rfl⟩
      subst hWQ
      clear x3
      go_cut [6] from 20 to 58 (fun s6 wx => ∃ k : Nat, s6 = .int .i64 (k : Int) ∧ k ≤ m ∧ Hid (posN R s = k) ∧ Hid (Gr WQ wx))
      case first =>
        go_wp2_with fail
        go_loopg [6] m (fun gk2 s6 wr2 => ∃ k : Nat, s6 = .int .i64 (k : Int) ∧ gk2 + k = m ∧ Hid (∀ j z, j < k → R[j]? = some z → ltS z s = true) ∧ Hid (wr2 = WQ))
        case atStart => exact ⟨0, rfl, by omega, fun j z hj => by omega, rfl⟩
        case round =>
          obtain ⟨k, rfl, hgk2, HA, HW9⟩ := hrel
          have hw9 := HW9.out
          subst hw9
          by_cases hkl : k < m
          · obtain ⟨b2, o2, rfl, hc2⟩ := HES.out.out (by have := HMR.out; omega)
            obtain ⟨z, hz⟩ : ∃ z, R[k]? = some z := ⟨R[k]'(by have := HMR.out; omega), List.getElem?_eq_getElem _⟩
            have zc := hc2 k z hz
            have hkl2 : (k : Int) < (m : Int) := by omega
            have HZ := Lib.hid hz
            cases hb : Op.bytesLess z.toList s.toList
            · clear hz hc2
              go_wp2_with fail
              go_meet
              case rel => exact ⟨k, rfl, by omega, posN_of (by have := HMR.out; omega) HA.out (fun y hy => by rw [HZ.out] at hy; cases hy; exact hb), Gr.refl _⟩
            · have HA2 : Hid (∀ j y, j < k + 1 → R[j]? = some y → ltS y s = true) := fun j y hj hy => by
                rcases Nat.lt_or_ge j k with h | h
                · exact HA.out j y h hy
                · obtain rfl : j = k := by omega
                  rw [HZ.out] at hy; cases hy; exact hb
              clear hz hc2
              go_wp2_with fail
              go_roundg (gk - 1)
              case measure => omega
              case rel => exact ⟨k + 1, by go_num, by omega, HA2, rfl⟩
          · obtain rfl : m = k := by omega
            have hkl2 : ¬ (m : Int) < (m : Int) := by omega
            go_wp2_with fail
            go_meet
            case rel => exact ⟨m, rfl, Nat.le_refl _, posN_of (by have := HMR.out; omega) HA.out (fun y hy => absurd (List.getElem?_eq_some_iff.1 hy).1 (by have := HMR.out; omega)), Gr.refl _⟩
      case rest =>
        obtain ⟨k, rfl, hkm, HIA, HGQ⟩ := hcut
        have HGW : Hid (Gr w wc) := HG.out.trans HGQ.out
        have HEC : Hid (WdS wc q2 R) := HES.out.gr HGQ.out
        have HIL : Hid (rdR (l.take (i + 1)) = insN R s) := by
          have e : l.take (i + 1) = l.take i ++ [x] := by rw [List.take_add_one, HX.out]; rfl
          rw [Hid, e, rdR_add, ← HHI.out, HSR.out]
        clear HES HG
        rcases Nat.eq_zero_or_pos m with hm0 | hm0
        · obtain ⟨rfl, rfl⟩ := HM0.out hm0
          obtain rfl : k = 0 := by omega
          have HHN : Hid (hasN R s = false) := by rw [Hid]; unfold hasN; rw [HIA.out, List.getElem?_eq_none (by have := HMR.out; omega)]
          have hkm2 : ¬ (0 : Int) < (m : Int) := by omega
          subst hm0
          have HIN : Hid (insN R s = R.take 0 ++ s :: R.drop 0) := by rw [Hid]; unfold insN; rw [if_neg (by rw [HHN.out]; simp), HIA.out]
          obtain ⟨hi, hz0, hz1, hz2⟩ := HI0.out
          have gE := (Gr.refl wc).alloc (.cells #[] 9)
          have hE : (wc.alloc (.cells #[] 9)).heap[wc.heap.size]? = some (.cells #[] 9 (0, 0)) := heap_alloc_new wc _
          have HC1 := Lib.hid (show ∀ ad, (none : Option Addr) = some ad → ∀ j u, (wdC (R.take 0))[j]? = some u → (wc.alloc (.cells #[] 9)).cell? (ad.add j) = some u from fun ad e => by cases e)
          have HC2 := Lib.hid (show ∀ U, Gr wc U → ∀ ad, (none : Option Addr) = some ad → ∀ j u, (wdC (R.drop 0))[j]? = some u → U.cell? (ad.add j) = some u from fun U g ad e => by cases e)
          have HL1 := Lib.hid (show (wdC (R.take 0)).length = 0 * 1 by rw [wdC_len, List.length_take]; have := HMR.out; omega)
          have HL2 := Lib.hid (show (wdC (R.drop 0)).length = (0) * 1 by rw [wdC_len, List.length_drop]; have := HMR.out; omega)
          go_wp2_with (at_builtin; refine wpList_append_any rfl _ _ 52 rfl wc.heap.size 9 i0 (.string ⟨#[]⟩) 1 16 Tryz.underlying52 hi hz0 hz1 hz2 rfl (by decide) _ 0 [] rfl (own_emptyT hE (Nat.le_refl _)) none 0 0 (by intro h; first | rfl | cases h) (wdC (R.take 0)) rfl HL1.out HC1.out (one_wdC _) (by unfold maxLen; omega) (by omega) (by simp) ?_; intro v1 W1 hown1 hgg1)
          have G1 := Lib.hid (hgg1 wc gE (Nat.le_refl _))
          have gd := (Gr.refl W1).drew
          have G1d := Lib.hid (G1.out.trans gd)
          have hownV2 := own_kept hown1 gd
          clear hgg1 hown1 gd hE gE HC1
          refine wp_region_held_drew (S := fun _ => True) (by kernel_rfl) trivial (fun hHeld => ?_)
          generalize W1.drew = V2 at *
          refine wpAnyH_take (i := 0) (v := v1) (op_at rfl) (by kernel_rfl) (by kernel_rfl) (by kernel_rfl) (fun _ _ _ h => h) (Or.inl ⟨rfl, fun w hSw => ?_⟩) (by assumption) ?_
          · go_simp; try with_reducible rfl
          (try simp only [Act.put, List.setIfInBounds_toArray, List.set_cons_zero, List.set_cons_succ])
          refine wpAnyH_take (i := 1) (v := (.string s)) (op_at rfl) (by kernel_rfl) (by kernel_rfl) (by kernel_rfl) (fun _ _ _ h => h) (Or.inl ⟨rfl, fun w hSw => ?_⟩) (by assumption) ?_
          · go_simp; try with_reducible rfl
          (try simp only [Act.put, List.setIfInBounds_toArray, List.set_cons_zero, List.set_cons_succ])
          refine wpAnyH_take (i := 4) (v := (.slice none 0 0)) (op_at rfl) (by kernel_rfl) (by kernel_rfl) (by kernel_rfl) (fun _ _ _ h => h) (Or.inl ⟨rfl, fun w hSw => ?_⟩) (by assumption) ?_
          · go_simp; try with_reducible rfl
          (try simp only [Act.put, List.setIfInBounds_toArray, List.set_cons_zero, List.set_cons_succ])
          refine wpAnyH_take (i := 5) (v := (.int .i64 (0 : Int))) (op_at rfl) (by kernel_rfl) (by kernel_rfl) (by kernel_rfl) (fun _ _ _ h => h) (Or.inl ⟨rfl, fun w hSw => ?_⟩) (by assumption) ?_
          · go_simp; try with_reducible rfl
          (try simp only [Act.put, List.setIfInBounds_toArray, List.set_cons_zero, List.set_cons_succ])
          refine wpAnyH_take (i := 6) (v := (.slice none (0) (0))) (op_at rfl) (by kernel_rfl) (by kernel_rfl) (by kernel_rfl) (fun _ _ _ h => h) (Or.inl ⟨rfl, fun w hSw => ?_⟩) (by assumption) ?_
          · go_simp; try with_reducible rfl
          (try simp only [Act.put, List.setIfInBounds_toArray, List.set_cons_zero, List.set_cons_succ])
          refine wpAnyH_ready (rs := [2]) (by kernel_rfl) (by simp) (AllReadyH.cons (op_at rfl) (fun K hK => ?_) AllReadyH.nil)
          go_simp
          have gX := (Gr.refl V2).alloc (.cells #[.string s] 9)
          have hXc := cell_one_new V2 (.string s) 9
          have hownV3 := own_kept hownV2 gX
          have G3 := Lib.hid (G1d.out.trans gX)
          refine hK.out _ _ trivial (fun hHeld => ?_)
          clear hK K gX hownV2
          (try simp only [Act.put, List.setIfInBounds_toArray, List.set_cons_zero, List.set_cons_succ])
          generalize V2.alloc (.cells #[.string s] 9) = V3 at *
          refine wpAnyH_ready (rs := [3]) (by kernel_rfl) (by simp) (AllReadyH.cons (op_at rfl) (fun K hK => ?_) AllReadyH.nil)
          rw [if_pos (show Region.wanted _ _ = true from rfl)]
          refine step_append_any _ _ 52 rfl wc.heap.size 9 i0 (.string ⟨#[]⟩) 1 16 Tryz.underlying52 hi hz0 hz1 hz2 rfl (by decide) v1 (0 + 0) _ rfl hownV3 (some ⟨V2.heap.size, 0, none⟩) 1 1 (by intro h; cases h) [.string s] rfl rfl (fun ad e j u hu => by cases e; exact hXc j u hu) (fun u hu => by simp at hu; subst hu; rfl) (by unfold maxLen; omega) (by omega) G3.out.size (fun v2 W2 hown2 hgg2 => ?_)
          have G2 := Lib.hid (hgg2 wc G3.out (Nat.le_refl _))
          refine hK.out _ _ trivial (fun hHeld => ?_)
          clear hK K hownV3 hgg2 hXc
          (try simp only [Act.put, List.setIfInBounds_toArray, List.set_cons_zero, List.set_cons_succ])
          refine wpAnyH_ready (rs := [7]) (by kernel_rfl) (by simp) (AllReadyH.cons (op_at rfl) (fun K hK => ?_) AllReadyH.nil)
          rw [if_pos (show Region.wanted _ _ = true from rfl)]
          refine step_append_any _ _ 52 rfl wc.heap.size 9 i0 (.string ⟨#[]⟩) 1 16 Tryz.underlying52 hi hz0 hz1 hz2 rfl (by decide) v2 (0 + 0 + 1) _ rfl hown2 none (0) (0) (by intro h; first | rfl | cases h) (wdC (R.drop 0)) rfl HL2.out (HC2.out _ G2.out) (one_wdC _) (by unfold maxLen; omega) (by omega) G2.out.size (fun v3 W3 hown3 hgg3 => ?_)
          have G4 := Lib.hid (hgg3 wc G2.out (Nat.le_refl _))
          refine hK.out _ _ trivial (fun hHeld => ?_)
          clear hK K hown2 hgg3
          (try simp only [Act.put, List.setIfInBounds_toArray, List.set_cons_zero, List.set_cons_succ])
          refine wpAnyH_take (i := 8) (v := v3) (op_at rfl) (by kernel_rfl) (by kernel_rfl) (by kernel_rfl) (fun _ _ _ h => h) (Or.inl ⟨rfl, fun w hSw => ?_⟩) (by assumption) ?_
          · go_simp; try with_reducible rfl
          (try simp only [Act.put, List.setIfInBounds_toArray, List.set_cons_zero, List.set_cons_succ])
          refine wpAnyH_done (by kernel_rfl) ?_ _
          have HCE : Hid ([] ++ wdC (R.take 0) ++ [.string s] ++ wdC (R.drop 0) = wdC (insN R s)) := by
            rw [Hid, HIN.out]
            simp [wdC]
          have hnum : 0 + 0 + 1 + (0) = 0 + 1 := by omega
          rw [HCE.out, hnum] at hown3
          have HLE : Hid ((insN R s).length = 0 + 1) := by
            rw [Hid, HIN.out, List.length_append, List.length_cons, List.length_take, List.length_drop]
            have := HMR.out
            omega
          obtain ⟨q3, c3, rfl, hc31, hc32⟩ := own_shape hown3
          have HEN : Hid (WdS W3 q3 (insN R s)) := WdS.of_own hown3 HLE.out
          have HF3 : Hid (∀ ad, q3 = some ad → w.heap.size ≤ ad.block) := fun ad h => by
            subst h
            have := (own_in hown3 (g := ad.block) rfl).2
            have := HGW.out.size
            omega
          clear hown3 HCE HC2 hnum
          go_wp2_with fail
          go_roundg (n - (i + 1))
          case measure => omega
          case rel => exact ⟨i + 1, 0 + 1, insN R s, q3, c3, by go_num, by omega, rfl, HLE.out.symm, by omega, ⟨hc31, hc32⟩, fun h => absurd h (by omega), by rw [Hid, HIL.out], HEN, HGW.out.trans G4.out, HF3⟩
        · obtain ⟨b2, o2, rfl, hc2⟩ := HEC.out.out (by have := HMR.out; omega)
          rcases Nat.lt_or_ge k m with hkl | hkl
          · obtain ⟨z, hz⟩ : ∃ z, R[k]? = some z := ⟨R[k]'(by have := HMR.out; omega), List.getElem?_eq_getElem _⟩
            have zc := hc2 k z hz
            have hkl2 : (k : Int) < (m : Int) := by omega
            have HHZ : Hid (hasN R s = (z.toList == s.toList)) := by rw [Hid]; unfold hasN; rw [HIA.out, hz]
            cases hq : (z.toList == s.toList)
            · have HHN : Hid (hasN R s = false) := by rw [Hid, HHZ.out, hq]
              clear hz HHZ
              have HIN : Hid (insN R s = R.take k ++ s :: R.drop k) := by rw [Hid]; unfold insN; rw [if_neg (by rw [HHN.out]; simp), HIA.out]
              obtain ⟨hi, hz0, hz1, hz2⟩ := HI0.out
              have gE := (Gr.refl wc).alloc (.cells #[] 9)
              have hE : (wc.alloc (.cells #[] 9)).heap[wc.heap.size]? = some (.cells #[] 9 (0, 0)) := heap_alloc_new wc _
              have hkc : k ≤ c2 := by omega
              have hkc2 : ¬ c2 < k := by omega
              have hzk : decide ((k : Int) < 0) = false := decide_eq_false (by omega)
              obtain ⟨qq, hqq, hqe⟩ : ∃ qq, (if c2 = k then some (⟨b2, o2, none⟩ : Addr) else some ⟨b2, o2 + k, none⟩) = some qq ∧ (k < c2 → qq = ⟨b2, o2 + k, none⟩) := by
                by_cases e : c2 = k
                · exact ⟨_, by rw [if_pos e], fun h => by omega⟩
                · exact ⟨_, by rw [if_neg e], fun _ => rfl⟩
              have HQE := Lib.hid hqe
              clear hqe
              have HC1 := Lib.hid (show ∀ ad, ((some ⟨b2, o2, none⟩) : Option Addr) = some ad → ∀ j u, (wdC (R.take k))[j]? = some u → (wc.alloc (.cells #[] 9)).cell? (ad.add j) = some u from fun ad e => by cases e; exact wd_cells (fun j z hz => gE.cell (hc2 j z (by rw [List.getElem?_take] at hz; split at hz <;> first | exact hz | cases hz))))
              have HC2 := Lib.hid (show ∀ U, Gr wc U → ∀ ad, ((some qq) : Option Addr) = some ad → ∀ j u, (wdC (R.drop k))[j]? = some u → U.cell? (ad.add j) = some u from fun U g ad e j u hu => by
                have hjl := (List.getElem?_eq_some_iff.1 hu).1
                rw [wdC_len, List.length_drop] at hjl
                cases e
                rw [HQE.out (by have := HMR.out; omega)]
                exact wd_cells (fun j z hz => by
                  rw [List.getElem?_drop] at hz
                  have := g.cell (hc2 (k + j) z hz)
                  rwa [show o2 + (k + j) = o2 + k + j by omega] at this) j u hu)
              have HL1 := Lib.hid (show (wdC (R.take k)).length = k * 1 by rw [wdC_len, List.length_take]; have := HMR.out; omega)
              have HL2 := Lib.hid (show (wdC (R.drop k)).length = (m - k) * 1 by rw [wdC_len, List.length_drop]; have := HMR.out; omega)
              go_wp2_with (at_builtin; refine wpList_append_any rfl _ _ 52 rfl wc.heap.size 9 i0 (.string ⟨#[]⟩) 1 16 Tryz.underlying52 hi hz0 hz1 hz2 rfl (by decide) _ 0 [] rfl (own_emptyT hE (Nat.le_refl _)) (some ⟨b2, o2, none⟩) k c2 (by intro h; first | rfl | cases h) (wdC (R.take k)) rfl HL1.out HC1.out (one_wdC _) (by unfold maxLen; omega) (by omega) (by simp) ?_; intro v1 W1 hown1 hgg1)
              have G1 := Lib.hid (hgg1 wc gE (Nat.le_refl _))
              have gd := (Gr.refl W1).drew
              have G1d := Lib.hid (G1.out.trans gd)
              have hownV2 := own_kept hown1 gd
              clear hgg1 hown1 gd hE gE HC1
              refine wp_region_held_drew (S := fun _ => True) (by kernel_rfl) trivial (fun hHeld => ?_)
              generalize W1.drew = V2 at *
              refine wpAnyH_take (i := 0) (v := v1) (op_at rfl) (by kernel_rfl) (by kernel_rfl) (by kernel_rfl) (fun _ _ _ h => h) (Or.inl ⟨rfl, fun w hSw => ?_⟩) (by assumption) ?_
              · go_simp; try with_reducible rfl
              (try simp only [Act.put, List.setIfInBounds_toArray, List.set_cons_zero, List.set_cons_succ])
              refine wpAnyH_take (i := 1) (v := (.string s)) (op_at rfl) (by kernel_rfl) (by kernel_rfl) (by kernel_rfl) (fun _ _ _ h => h) (Or.inl ⟨rfl, fun w hSw => ?_⟩) (by assumption) ?_
              · go_simp; try with_reducible rfl
              (try simp only [Act.put, List.setIfInBounds_toArray, List.set_cons_zero, List.set_cons_succ])
              refine wpAnyH_take (i := 4) (v := (.slice (some ⟨b2, o2, none⟩) m c2)) (op_at rfl) (by kernel_rfl) (by kernel_rfl) (by kernel_rfl) (fun _ _ _ h => h) (Or.inl ⟨rfl, fun w hSw => ?_⟩) (by assumption) ?_
              · go_simp; try with_reducible rfl
              (try simp only [Act.put, List.setIfInBounds_toArray, List.set_cons_zero, List.set_cons_succ])
              refine wpAnyH_take (i := 5) (v := (.int .i64 (k : Int))) (op_at rfl) (by kernel_rfl) (by kernel_rfl) (by kernel_rfl) (fun _ _ _ h => h) (Or.inl ⟨rfl, fun w hSw => ?_⟩) (by assumption) ?_
              · go_simp; try with_reducible rfl
              (try simp only [Act.put, List.setIfInBounds_toArray, List.set_cons_zero, List.set_cons_succ])
              refine wpAnyH_take (i := 6) (v := (.slice (some qq) (m - k) (c2 - k))) (op_at rfl) (by kernel_rfl) (by kernel_rfl) (by kernel_rfl) (fun _ _ _ h => h) (Or.inl ⟨rfl, fun w hSw => ?_⟩) (by assumption) ?_
              · go_simp; try with_reducible rfl
              (try simp only [Act.put, List.setIfInBounds_toArray, List.set_cons_zero, List.set_cons_succ])
              refine wpAnyH_ready (rs := [2]) (by kernel_rfl) (by simp) (AllReadyH.cons (op_at rfl) (fun K hK => ?_) AllReadyH.nil)
              go_simp
              have gX := (Gr.refl V2).alloc (.cells #[.string s] 9)
              have hXc := cell_one_new V2 (.string s) 9
              have hownV3 := own_kept hownV2 gX
              have G3 := Lib.hid (G1d.out.trans gX)
              refine hK.out _ _ trivial (fun hHeld => ?_)
              clear hK K gX hownV2
              (try simp only [Act.put, List.setIfInBounds_toArray, List.set_cons_zero, List.set_cons_succ])
              generalize V2.alloc (.cells #[.string s] 9) = V3 at *
              refine wpAnyH_ready (rs := [3]) (by kernel_rfl) (by simp) (AllReadyH.cons (op_at rfl) (fun K hK => ?_) AllReadyH.nil)
              rw [if_pos (show Region.wanted _ _ = true from rfl)]
              refine step_append_any _ _ 52 rfl wc.heap.size 9 i0 (.string ⟨#[]⟩) 1 16 Tryz.underlying52 hi hz0 hz1 hz2 rfl (by decide) v1 (0 + k) _ rfl hownV3 (some ⟨V2.heap.size, 0, none⟩) 1 1 (by intro h; cases h) [.string s] rfl rfl (fun ad e j u hu => by cases e; exact hXc j u hu) (fun u hu => by simp at hu; subst hu; rfl) (by unfold maxLen; omega) (by omega) G3.out.size (fun v2 W2 hown2 hgg2 => ?_)
              have G2 := Lib.hid (hgg2 wc G3.out (Nat.le_refl _))
              refine hK.out _ _ trivial (fun hHeld => ?_)
              clear hK K hownV3 hgg2 hXc
              (try simp only [Act.put, List.setIfInBounds_toArray, List.set_cons_zero, List.set_cons_succ])
              refine wpAnyH_ready (rs := [7]) (by kernel_rfl) (by simp) (AllReadyH.cons (op_at rfl) (fun K hK => ?_) AllReadyH.nil)
              rw [if_pos (show Region.wanted _ _ = true from rfl)]
              refine step_append_any _ _ 52 rfl wc.heap.size 9 i0 (.string ⟨#[]⟩) 1 16 Tryz.underlying52 hi hz0 hz1 hz2 rfl (by decide) v2 (0 + k + 1) _ rfl hown2 (some qq) (m - k) (c2 - k) (by intro h; first | rfl | cases h) (wdC (R.drop k)) rfl HL2.out (HC2.out _ G2.out) (one_wdC _) (by unfold maxLen; omega) (by omega) G2.out.size (fun v3 W3 hown3 hgg3 => ?_)
              have G4 := Lib.hid (hgg3 wc G2.out (Nat.le_refl _))
              refine hK.out _ _ trivial (fun hHeld => ?_)
              clear hK K hown2 hgg3
              (try simp only [Act.put, List.setIfInBounds_toArray, List.set_cons_zero, List.set_cons_succ])
              refine wpAnyH_take (i := 8) (v := v3) (op_at rfl) (by kernel_rfl) (by kernel_rfl) (by kernel_rfl) (fun _ _ _ h => h) (Or.inl ⟨rfl, fun w hSw => ?_⟩) (by assumption) ?_
              · go_simp; try with_reducible rfl
              (try simp only [Act.put, List.setIfInBounds_toArray, List.set_cons_zero, List.set_cons_succ])
              refine wpAnyH_done (by kernel_rfl) ?_ _
              have HCE : Hid ([] ++ wdC (R.take k) ++ [.string s] ++ wdC (R.drop k) = wdC (insN R s)) := by
                rw [Hid, HIN.out]
                simp [wdC]
              have hnum : 0 + k + 1 + (m - k) = m + 1 := by omega
              rw [HCE.out, hnum] at hown3
              have HLE : Hid ((insN R s).length = m + 1) := by
                rw [Hid, HIN.out, List.length_append, List.length_cons, List.length_take, List.length_drop]
                have := HMR.out
                omega
              obtain ⟨q3, c3, rfl, hc31, hc32⟩ := own_shape hown3
              have HEN : Hid (WdS W3 q3 (insN R s)) := WdS.of_own hown3 HLE.out
              have HF3 : Hid (∀ ad, q3 = some ad → w.heap.size ≤ ad.block) := fun ad h => by
                subst h
                have := (own_in hown3 (g := ad.block) rfl).2
                have := HGW.out.size
                omega
              clear hown3 HCE HC2 hnum
              go_wp2_with fail
              go_roundg (n - (i + 1))
              case measure => omega
              case rel => exact ⟨i + 1, m + 1, insN R s, q3, c3, by go_num, by omega, rfl, HLE.out.symm, by omega, ⟨hc31, hc32⟩, fun h => absurd h (by omega), by rw [Hid, HIL.out], HEN, HGW.out.trans G4.out, HF3⟩
            · have HIS : Hid (insN R s = R) := by rw [Hid]; unfold insN; rw [if_pos (by rw [HHZ.out, hq])]
              clear hz HHZ hc2
              go_wp2_with fail
              go_roundg (n - (i + 1))
              case measure => omega
              case rel => exact ⟨i + 1, m, R, _, c2, by go_num, by omega, rfl, HMR, by omega, ⟨hmc, hmx⟩, HM0, by rw [Hid, HIL.out, HIS.out], HEC, HGW, HFR⟩
          · obtain rfl : k = m := by omega
            have HHN : Hid (hasN R s = false) := by rw [Hid]; unfold hasN; rw [HIA.out, List.getElem?_eq_none (by have := HMR.out; omega)]
            have hkl2 : ¬ (k : Int) < (k : Int) := by omega
            have hkl3 : decide ((k : Int) < (k : Int)) = false := decide_eq_false (by omega)
            have HIN : Hid (insN R s = R.take k ++ s :: R.drop k) := by rw [Hid]; unfold insN; rw [if_neg (by rw [HHN.out]; simp), HIA.out]
            obtain ⟨hi, hz0, hz1, hz2⟩ := HI0.out
            have gE := (Gr.refl wc).alloc (.cells #[] 9)
            have hE : (wc.alloc (.cells #[] 9)).heap[wc.heap.size]? = some (.cells #[] 9 (0, 0)) := heap_alloc_new wc _
            have hkc : k ≤ c2 := by omega
            have hkc2 : ¬ c2 < k := by omega
            have hzk : decide ((k : Int) < 0) = false := decide_eq_false (by omega)
            obtain ⟨qq, hqq, hqe⟩ : ∃ qq, (if c2 = k then some (⟨b2, o2, none⟩ : Addr) else some ⟨b2, o2 + k, none⟩) = some qq ∧ (k < c2 → qq = ⟨b2, o2 + k, none⟩) := by
              by_cases e : c2 = k
              · exact ⟨_, by rw [if_pos e], fun h => by omega⟩
              · exact ⟨_, by rw [if_neg e], fun _ => rfl⟩
            have HQE := Lib.hid hqe
            clear hqe
            have HC1 := Lib.hid (show ∀ ad, ((some ⟨b2, o2, none⟩) : Option Addr) = some ad → ∀ j u, (wdC (R.take k))[j]? = some u → (wc.alloc (.cells #[] 9)).cell? (ad.add j) = some u from fun ad e => by cases e; exact wd_cells (fun j z hz => gE.cell (hc2 j z (by rw [List.getElem?_take] at hz; split at hz <;> first | exact hz | cases hz))))
            have HC2 := Lib.hid (show ∀ U, Gr wc U → ∀ ad, ((some qq) : Option Addr) = some ad → ∀ j u, (wdC (R.drop k))[j]? = some u → U.cell? (ad.add j) = some u from fun U g ad e j u hu => by
              have hjl := (List.getElem?_eq_some_iff.1 hu).1
              rw [wdC_len, List.length_drop] at hjl
              cases e
              rw [HQE.out (by have := HMR.out; omega)]
              exact wd_cells (fun j z hz => by
                rw [List.getElem?_drop] at hz
                have := g.cell (hc2 (k + j) z hz)
                rwa [show o2 + (k + j) = o2 + k + j by omega] at this) j u hu)
            have HL1 := Lib.hid (show (wdC (R.take k)).length = k * 1 by rw [wdC_len, List.length_take]; have := HMR.out; omega)
            have HL2 := Lib.hid (show (wdC (R.drop k)).length = (0) * 1 by rw [wdC_len, List.length_drop]; have := HMR.out; omega)
            go_wp2_with (at_builtin; refine wpList_append_any rfl _ _ 52 rfl wc.heap.size 9 i0 (.string ⟨#[]⟩) 1 16 Tryz.underlying52 hi hz0 hz1 hz2 rfl (by decide) _ 0 [] rfl (own_emptyT hE (Nat.le_refl _)) (some ⟨b2, o2, none⟩) k c2 (by intro h; first | rfl | cases h) (wdC (R.take k)) rfl HL1.out HC1.out (one_wdC _) (by unfold maxLen; omega) (by omega) (by simp) ?_; intro v1 W1 hown1 hgg1)
            have G1 := Lib.hid (hgg1 wc gE (Nat.le_refl _))
            have gd := (Gr.refl W1).drew
            have G1d := Lib.hid (G1.out.trans gd)
            have hownV2 := own_kept hown1 gd
            clear hgg1 hown1 gd hE gE HC1
            refine wp_region_held_drew (S := fun _ => True) (by kernel_rfl) trivial (fun hHeld => ?_)
            generalize W1.drew = V2 at *
            refine wpAnyH_take (i := 0) (v := v1) (op_at rfl) (by kernel_rfl) (by kernel_rfl) (by kernel_rfl) (fun _ _ _ h => h) (Or.inl ⟨rfl, fun w hSw => ?_⟩) (by assumption) ?_
            · go_simp; try with_reducible rfl
            (try simp only [Act.put, List.setIfInBounds_toArray, List.set_cons_zero, List.set_cons_succ])
            refine wpAnyH_take (i := 1) (v := (.string s)) (op_at rfl) (by kernel_rfl) (by kernel_rfl) (by kernel_rfl) (fun _ _ _ h => h) (Or.inl ⟨rfl, fun w hSw => ?_⟩) (by assumption) ?_
            · go_simp; try with_reducible rfl
            (try simp only [Act.put, List.setIfInBounds_toArray, List.set_cons_zero, List.set_cons_succ])
            refine wpAnyH_take (i := 4) (v := (.slice (some ⟨b2, o2, none⟩) k c2)) (op_at rfl) (by kernel_rfl) (by kernel_rfl) (by kernel_rfl) (fun _ _ _ h => h) (Or.inl ⟨rfl, fun w hSw => ?_⟩) (by assumption) ?_
            · go_simp; try with_reducible rfl
            (try simp only [Act.put, List.setIfInBounds_toArray, List.set_cons_zero, List.set_cons_succ])
            refine wpAnyH_take (i := 5) (v := (.int .i64 (k : Int))) (op_at rfl) (by kernel_rfl) (by kernel_rfl) (by kernel_rfl) (fun _ _ _ h => h) (Or.inl ⟨rfl, fun w hSw => ?_⟩) (by assumption) ?_
            · go_simp; try with_reducible rfl
            (try simp only [Act.put, List.setIfInBounds_toArray, List.set_cons_zero, List.set_cons_succ])
            refine wpAnyH_take (i := 6) (v := (.slice (some qq) (0) (c2 - k))) (op_at rfl) (by kernel_rfl) (by kernel_rfl) (by kernel_rfl) (fun _ _ _ h => h) (Or.inl ⟨rfl, fun w hSw => ?_⟩) (by assumption) ?_
            · go_simp; try with_reducible rfl
            (try simp only [Act.put, List.setIfInBounds_toArray, List.set_cons_zero, List.set_cons_succ])
            refine wpAnyH_ready (rs := [2]) (by kernel_rfl) (by simp) (AllReadyH.cons (op_at rfl) (fun K hK => ?_) AllReadyH.nil)
            go_simp
            have gX := (Gr.refl V2).alloc (.cells #[.string s] 9)
            have hXc := cell_one_new V2 (.string s) 9
            have hownV3 := own_kept hownV2 gX
            have G3 := Lib.hid (G1d.out.trans gX)
            refine hK.out _ _ trivial (fun hHeld => ?_)
            clear hK K gX hownV2
            (try simp only [Act.put, List.setIfInBounds_toArray, List.set_cons_zero, List.set_cons_succ])
            generalize V2.alloc (.cells #[.string s] 9) = V3 at *
            refine wpAnyH_ready (rs := [3]) (by kernel_rfl) (by simp) (AllReadyH.cons (op_at rfl) (fun K hK => ?_) AllReadyH.nil)
            rw [if_pos (show Region.wanted _ _ = true from rfl)]
            refine step_append_any _ _ 52 rfl wc.heap.size 9 i0 (.string ⟨#[]⟩) 1 16 Tryz.underlying52 hi hz0 hz1 hz2 rfl (by decide) v1 (0 + k) _ rfl hownV3 (some ⟨V2.heap.size, 0, none⟩) 1 1 (by intro h; cases h) [.string s] rfl rfl (fun ad e j u hu => by cases e; exact hXc j u hu) (fun u hu => by simp at hu; subst hu; rfl) (by unfold maxLen; omega) (by omega) G3.out.size (fun v2 W2 hown2 hgg2 => ?_)
            have G2 := Lib.hid (hgg2 wc G3.out (Nat.le_refl _))
            refine hK.out _ _ trivial (fun hHeld => ?_)
            clear hK K hownV3 hgg2 hXc
            (try simp only [Act.put, List.setIfInBounds_toArray, List.set_cons_zero, List.set_cons_succ])
            refine wpAnyH_ready (rs := [7]) (by kernel_rfl) (by simp) (AllReadyH.cons (op_at rfl) (fun K hK => ?_) AllReadyH.nil)
            rw [if_pos (show Region.wanted _ _ = true from rfl)]
            refine step_append_any _ _ 52 rfl wc.heap.size 9 i0 (.string ⟨#[]⟩) 1 16 Tryz.underlying52 hi hz0 hz1 hz2 rfl (by decide) v2 (0 + k + 1) _ rfl hown2 (some qq) (0) (c2 - k) (by intro h; first | rfl | cases h) (wdC (R.drop k)) rfl HL2.out (HC2.out _ G2.out) (one_wdC _) (by unfold maxLen; omega) (by omega) G2.out.size (fun v3 W3 hown3 hgg3 => ?_)
            have G4 := Lib.hid (hgg3 wc G2.out (Nat.le_refl _))
            refine hK.out _ _ trivial (fun hHeld => ?_)
            clear hK K hown2 hgg3
            (try simp only [Act.put, List.setIfInBounds_toArray, List.set_cons_zero, List.set_cons_succ])
            refine wpAnyH_take (i := 8) (v := v3) (op_at rfl) (by kernel_rfl) (by kernel_rfl) (by kernel_rfl) (fun _ _ _ h => h) (Or.inl ⟨rfl, fun w hSw => ?_⟩) (by assumption) ?_
            · go_simp; try with_reducible rfl
            (try simp only [Act.put, List.setIfInBounds_toArray, List.set_cons_zero, List.set_cons_succ])
            refine wpAnyH_done (by kernel_rfl) ?_ _
            have HCE : Hid ([] ++ wdC (R.take k) ++ [.string s] ++ wdC (R.drop k) = wdC (insN R s)) := by
              rw [Hid, HIN.out]
              simp [wdC]
            have hnum : 0 + k + 1 + (0) = k + 1 := by omega
            rw [HCE.out, hnum] at hown3
            have HLE : Hid ((insN R s).length = k + 1) := by
              rw [Hid, HIN.out, List.length_append, List.length_cons, List.length_take, List.length_drop]
              have := HMR.out
              omega
            obtain ⟨q3, c3, rfl, hc31, hc32⟩ := own_shape hown3
            have HEN : Hid (WdS W3 q3 (insN R s)) := WdS.of_own hown3 HLE.out
            have HF3 : Hid (∀ ad, q3 = some ad → w.heap.size ≤ ad.block) := fun ad h => by
              subst h
              have := (own_in hown3 (g := ad.block) rfl).2
              have := HGW.out.size
              omega
            clear hown3 HCE HC2 hnum
            go_wp2_with fail
            go_roundg (n - (i + 1))
            case measure => omega
            case rel => exact ⟨i + 1, k + 1, insN R s, q3, c3, by go_num, by omega, rfl, HLE.out.symm, by omega, ⟨hc31, hc32⟩, fun h => absurd h (by omega), by rw [Hid, HIL.out], HEN, HGW.out.trans G4.out, HF3⟩
    · obtain rfl : n = i := by omega
      have hlt2 : ¬ (n : Int) < (n : Int) := by omega
      have hR : R = rdR l := by rw [HHI.out, List.take_of_length_le (by have := HN.out; omega)]
      have HRet : Hid (WdS wr q2 (rdR l)) := by rw [← hR]; exact HES
      have HMR2 : Hid (m = (rdR l).length) := by rw [← hR]; exact HMR
      clear hR
      go_wp2_with fail
      go_ret
      exact ⟨⟨_, rfl, ⟨q2, c2, by rw [HMR2.out]; rfl, ⟨by rw [← HMR2.out]; exact hmc, hmx⟩, fun h => by
        obtain ⟨b3, o3, e3, hc3⟩ := HRet.out.out h
        exact ⟨b3, o3, e3, fun i s hs => ⟨hc3 i s hs⟩⟩⟩, fun q n c e ad h => by cases e; exact HFR.out ad h⟩, HG.out⟩
end Go.Proofs.YtnihclhhbegjhaaGreatDoor
