/- Who goes on (chapter 6): Forward and Replace. -/
import Derived.Test.YtenhodepaoaiiaaGreatDoorStF
import Derived.Test.YtenhodepaoaiiaaGreatDoorStG
import Derived.Test.YtenhodepaoaiiaaGreatDoorGResA
namespace Go.Proofs.YtenhodepaoaiiaaGreatDoor
open Go.RowKit Go.Lib
set_option linter.unusedSimpArgs false
set_option linter.unusedVariables false
set_option maxHeartbeats 2000000
set_option maxRecDepth 100000
theorem RowsV.at {w : World} {p : Option Addr} {n c : Nat} {xs : List RowR} (h : RowsV w (.slice p n c) xs) : xs.length = n ∧ (n ≤ c ∧ c ≤ maxLen) ∧ (0 < n → ∃ b off, p = some ⟨b, off, none⟩ ∧ ∀ i x, xs[i]? = some x → RowAt w b (off + i * 3) x) := by
  obtain ⟨⟨p', c', e, hcap, hh⟩⟩ := h
  cases e
  exact ⟨rfl, hcap, hh⟩
theorem WordsV.at {w : World} {p : Option Addr} {n c : Nat} {ns : List ByteArray} (h : WordsV w (.slice p n c) ns) : ns.length = n ∧ (n ≤ c ∧ c ≤ maxLen) ∧ (0 < n → ∃ b off, p = some ⟨b, off, none⟩ ∧ ∀ i t, ns[i]? = some t → w.cell? ⟨b, off + i, none⟩ = some (.string t)) := by
  obtain ⟨⟨p', c', e, hcap, hh⟩⟩ := h
  cases e
  exact ⟨rfl, hcap, hh⟩
theorem rowsV_owns {w : World} {base : Nat} {T : TypeId} {v : Value} {ys : List RowR} {n : Nat} (h : w.ownsRow base T 3 v n (rowCs ys)) (hn : ys.length = n) (hv : ∀ x ∈ ys, IntsV w x.u x.xs ∧ x.xs.length ≤ 1000) : ∃ p c, v = .slice p n c ∧ RowsV w (.slice p n c) ys := by
  subst hn
  rcases h.2 with ⟨rfl, h0⟩ | ⟨g, c, cur, rfl, hb, hcur, hle, hmx, _, _⟩
  · exact ⟨none, 0, by rw [h0], none, 0, rfl, ⟨by omega, by unfold maxLen; omega⟩, fun h => by omega⟩
  · refine ⟨some ⟨g, 0, none⟩, c, rfl, _, c, rfl, ⟨hle, hmx⟩, fun _ => ⟨g, 0, rfl, fun i x hx => ?_⟩⟩
    have hc : ∀ j u, j < 3 → (rowC x)[j]? = some u → w.cell? ⟨g, 0 + i * 3 + j, none⟩ = some u := fun j u hj hju => by
      have := h.cells (g := g) rfl (i * 3 + j) u (by rw [rowCs_at hx j hj]; exact hju)
      rw [Nat.zero_add]
      rwa [show (⟨g, 0, none⟩ : Addr).add (i * 3 + j) = ⟨g, i * 3 + j, none⟩ by unfold Addr.add; split <;> simp_all] at this
    exact ⟨hc 0 _ (by omega) rfl, hc 1 _ (by omega) rfl, hc 2 _ (by omega) rfl, (hv x (List.mem_of_getElem? hx)).1, (hv x (List.mem_of_getElem? hx)).2⟩
/-- those who are not out -/
def rest (ns : List ByteArray) (xs : List RowR) : List RowR := xs.filter fun x => !hasS ns x.nm
theorem rest_take {ns : List ByteArray} {xs : List RowR} {k : Nat} {x : RowR} (h : xs[k]? = some x) : rest ns (xs.take (k + 1)) = rest ns (xs.take k) ++ (if !hasS ns x.nm then [x] else []) := by
  rw [List.take_add_one, h]
  unfold rest
  rw [List.filter_append]
  congr 1
  cases hx : hasS ns x.nm <;> simp [hx]
theorem rest_le (ns : List ByteArray) (xs : List RowR) : (rest ns xs).length ≤ xs.length := List.length_filter_le _ _
theorem containsW {ns : List ByteArray} {q : Option Addr} {l k : Nat} {w : World} (h : WordsV w (.slice q l k) ns) (h1 : l ≤ 1000) (s : ByteArray) :
    Calls Tryz.prog 50 #[.slice q l k, .string s] w fun e w' => e = .returned (.bool (hasS ns s)) ∧ w = w' := by
  obtain ⟨hl, hk, hh⟩ := h.at
  by_cases h0 : 0 < l
  · obtain ⟨b, off, rfl, hc⟩ := hh h0
    have := containsS_pos ns l b off k s w (by omega) h1 hc
    rwa [List.take_of_length_le (by omega)] at this
  · obtain rfl : l = 0 := by omega
    rw [List.length_eq_zero_iff.1 hl]
    exact containsS_nil q k s w
theorem strs_slice {w : World} {v : Value} {ns : List ByteArray} (h : StrsV w v ns) : ∃ q l k, v = .slice q l k := by
  obtain ⟨⟨p, c, rfl, _⟩⟩ := h
  exact ⟨p, _, c, rfl⟩
theorem forward_ok {xs : List RowR} {p : Option Addr} {n c : Nat} {w : World} (m : Nat) (hx : RowsV w (.slice p n c) xs) (h1 : n < 20) :
    Calls Tryz.prog 48 #[.slice p n c, .int .i64 (m : Int)] w fun e w' => ∃ q l k, e = .returned (.slice q l k) ∧ StrsV w' (.slice q l k) (thruB (xs.map bare) m) ∧ Gr w w' := by
  obtain ⟨hn, _, hh⟩ := hx.at
  by_cases h0 : 0 < n
  · obtain ⟨b, off, rfl, hc⟩ := hh h0
    refine (forward_pos xs n b off c m w hn h0 h1 hc).mono ?_
    rintro e w' ⟨v, rfl, hv, g⟩
    obtain ⟨q, l, k, rfl⟩ := strs_slice hv
    exact ⟨q, l, k, rfl, hv, g⟩
  · obtain rfl : n = 0 := by omega
    have hz : xs = [] := List.length_eq_zero_iff.1 hn
    subst hz
    refine (forward_0 p c m w).mono ?_
    rintro e w' ⟨v, rfl, hv, g⟩
    obtain ⟨q, l, k, rfl⟩ := strs_slice hv
    exact ⟨q, l, k, rfl, by rw [thruB_none (xs := []) rfl m]; exact hv, g⟩
theorem forwardS_ok {xs : List RowR} {p : Option Addr} {n c : Nat} {w : World} (m : Nat) (hx : RowsV w (.slice p n c) xs) (h1 : n < 20) (hV : ValidB (xs.map bare)) (hm : outE (m : Int) 0 160 = 0) :
    Calls Tryz.prog 9 #[.slice p n c, .int .i64 (m : Int)] w fun e w' => ∃ q l k, e = .returned (.tuple #[.slice q l k, .int .i64 0]) ∧ StrsV w' (.slice q l k) (thruB (xs.map bare) m) ∧ Gr w w' := by
  obtain ⟨hn, _, _⟩ := hx.at
  have HQ := Lib.hid (quota_ok hx hn hV (by omega) m hm)
  have HFw := Lib.hid (fun W (g : Gr w W) => forward_ok m (hx.gr g) h1)
  clear hx hn hV hm
  go_enter Tryz.func9, Tryz.ntmps9
  go_wp2_with fail
  refine HQ.out.mono ?_
  rintro e w1 ⟨rfl, g1⟩
  go_wp2_with fail
  refine (HFw.out _ g1).mono ?_
  rintro e w2 ⟨q, l, k, rfl, hv, g2⟩
  go_wp2_with fail
  exact bodyPost_ret (v := .tuple #[.slice q l k, .int .i64 0]) (by simp [results, Tryz.results9, go_sem]) rfl ⟨q, l, k, rfl, hv, g1.trans g2⟩
set_option maxHeartbeats 4000000 in
theorem replace_ok {xs : List RowR} {ns : List ByteArray} {p : Option Addr} {n c : Nat} {q : Option Addr} {l k0 : Nat} {w : World} (m : Nat) (hO : OutOK xs ns) (hx : RowsV w (.slice p n c) xs) (h1 : n < 20) (hV : ValidB (xs.map bare)) (ho : WordsV w (.slice q l k0) ns) (h2 : l ≤ 160) (hm : outE (m : Int) 0 160 = 0) :
    Calls Tryz.prog 10 #[.slice p n c, .int .i64 (m : Int), .slice q l k0] w fun e w' => ∃ q l k, e = .returned (.tuple #[.slice q l k, .int .i64 0]) ∧ StrsV w' (.slice q l k) (thruB ((rest ns xs).map bare) m) ∧ Gr w w' := by
  obtain ⟨i0, hi, hz0, hz1, hz2⟩ := info_parts infoRes
  obtain ⟨hn, _, hh⟩ := hx.at
  have hln := ho.at.1
  have HQ := Lib.hid (quota_ok hx hn hV (by omega) m hm)
  have HO := Lib.hid (fun W (g : Gr w W) => checkOut_ok hO (hx.gr g) hn (by omega) (ho.gr g) hln h2)
  have HFw := Lib.hid (fun (ys : List RowR) (p : Option Addr) (n c : Nat) (W : World) (hx : RowsV W (.slice p n c) ys) (h : n < 20) => forward_ok m hx h)
  have HCon := Lib.hid (fun W (g : Gr w W) s => containsW (ho.gr g) (by omega) s)
  have HF := Lib.hid (fun b cap W => first_pair 0 0 b cap W)
  have HFz : Hid (firstE [0, 0] = 0) := rfl
  have HX := Lib.hid (fun k (h : k < n) => (show ∃ x, xs[k]? = some x from ⟨xs[k]'(by omega), List.getElem?_eq_getElem _⟩))
  have HFl := Lib.hid (fun k => (show (rest ns (xs.take k)).length < 20 from by have := rest_le ns (xs.take k); rw [List.length_take] at this; omega))
  have HH := Lib.hid hh
  have HN := Lib.hid hn
  clear hx hn hV hm hO ho hh hln
  go_enter Tryz.func10, Tryz.ntmps10
  go_wp2_with fail
  refine HQ.out.mono ?_
  rintro e w1 ⟨rfl, g1⟩
  go_wp2_with fail
  refine (HO.out _ g1).mono ?_
  rintro e w2 ⟨rfl, g2⟩
  go_wp2_with fail
  refine (HF.out _ _ _ (by exact cell_new _ #[_, _] _ 0 (by simp)) (by exact cell_new _ #[_, _] _ 1 (by simp))).mono ?_
  rintro e w3 ⟨rfl, rfl⟩
  rw [HFz.out]
  have gg : Gr w (w2.alloc (.cells #[.int .i64 0, .int .i64 0] 27)) := (g1.trans g2).alloc _
  generalize w2.alloc (.cells #[.int .i64 0, .int .i64 0] 27) = W0 at *
  clear g1 g2
  go_wp2_with fail
  go_loopw [9, 25] (fun v i wr => ∃ k : Nat, k ≤ n ∧ i = .int .i64 k ∧ wr.ownsRow W0.heap.size 42 3 v (rest ns (xs.take k)).length (rowCs (rest ns (xs.take k))) ∧ Gr W0 wr) (fun _ i _ => n - (intOf i).toNat)
  case atStart => exact ⟨0, Nat.zero_le _, rfl, World.ownsRow_nil _ _ _ _, Gr.refl _⟩
  case round =>
    obtain ⟨k, hk, rfl, hown, hnx⟩ := hrel
    have hsize := hnx.size
    by_cases hkN : k < n
    · obtain ⟨x, hx⟩ := HX.out k hkN
      obtain ⟨b, off, rfl, hc⟩ := HH.out (by omega)
      obtain ⟨c0, c1, c2, hv, _⟩ := (hc k x hx).gr (gg.trans hnx)
      obtain ⟨⟨p', cap', hu, _⟩⟩ := hv
      rw [hu] at c2
      have HQ := Lib.hid (rest_take (ns := ns) hx)
      have HL := Lib.hid (HFl.out k)
      have HRc := Lib.hid (rowCs_len (rest ns (xs.take k)))
      have hi2 : (k : Int) < n := by omega
      have gz := ((Gr.refl wr).alloc (.cells #[.string x.nm, .string x.st, .slice p' x.xs.length cap'] 42))
      have HCx := Lib.hid (HCon.out _ ((gg.trans hnx).trans gz) x.nm)
      have HOW := Lib.hid (fun W (g : Gr wr W) => own_gr hown g)
      have HGZ := Lib.hid gz
      cases hh : hasS ns x.nm
      · rw [hh] at HCx
        have HQ2 := Lib.hid (show rest ns (xs.take (k + 1)) = rest ns (xs.take k) ++ [x] from by
          have := HQ.out; rw [hh] at this; simpa using this)
        have HQ3 := Lib.hid (show rowCs (rest ns (xs.take k) ++ [x]) = rowCs (rest ns (xs.take k)) ++ [.string x.nm, .string x.st, .slice p' x.xs.length cap'] from by rw [rowCs_add]; unfold rowC; rw [hu])
        have HQ4 := Lib.hid (show (rest ns (xs.take k) ++ [x]).length = (rest ns (xs.take k)).length + 1 from by simp)
        have hl20 := HL.out
        clear hown hx hh hu hc gz
        generalize (rest ns (xs.take k)).length = z at *
        go_wp2_with (first
          | (refine HCx.out.mono ?_; rintro e w4 ⟨rfl, rfl⟩)
          | (at_builtin; refine wpList_append_own _ rfl _ _ 22 rfl W0.heap.size 42 i0 (.agg #[.string ⟨#[]⟩, .string ⟨#[]⟩, .slice none 0 0]) 3 56 Tryz.underlying22 hi hz0 hz1 hz2 rfl (by decide) _ _ _ rfl ((HOW.out _ HGZ.out).alloc _) ⟨wr.heap.size + 1, 0, none⟩ 1 1 [.string x.nm, .string x.st, .slice p' x.xs.length cap'] rfl rfl (cell_three_sz _ _ (by simp) _ _ _ _) (by intro u hu; simp at hu; rcases hu with rfl | rfl | rfl <;> rfl) (by unfold maxLen; omega) (by omega) (by simp; omega) ?_; intro v1 w1 hown1 hgrow1 hnil1))
        go_roundw
        case rel =>
          exact ⟨k + 1, by omega, by go_num, by rw [HQ2.out, HQ3.out, HQ4.out]; exact hown1, Below.grown ((hnx.trans HGZ.out).alloc _) hgrow1 (by simp; omega) (fun j hj => ((HOW.out _ HGZ.out).lt j hj).1)⟩
        case measure => simp [intOf]; omega
      · rw [hh] at HCx
        have HQ2 := Lib.hid (show rest ns (xs.take (k + 1)) = rest ns (xs.take k) from by
          have := HQ.out; rw [hh] at this; simpa using this)
        clear hown hx hh hu hc gz
        go_wp2_with (refine HCx.out.mono ?_; rintro e w4 ⟨rfl, rfl⟩)
        go_roundw
        case rel => exact ⟨k + 1, by omega, by go_num, by rw [HQ2.out]; exact HOW.out _ HGZ.out, hnx.trans HGZ.out⟩
        case measure => simp [intOf]; omega
    · obtain rfl : k = n := by omega
      rw [List.take_of_length_le (by have := HN.out; omega)] at hown
      have hlr : (rest ns xs).length < 20 := by have := HFl.out k; rwa [List.take_of_length_le (by have := HN.out; omega)] at this
      obtain ⟨p2, c2, rfl, hrows⟩ := rowsV_owns hown rfl (fun x hx => by
        have hmem : x ∈ xs := (List.mem_filter.1 hx).1
        obtain ⟨j, hj⟩ := List.mem_iff_getElem?.1 hmem
        have hjl := (List.getElem?_eq_some_iff.1 hj).1
        obtain ⟨b, off, _, hc⟩ := HH.out (by have := HN.out; omega)
        have := hc j x hj
        exact ⟨this.val.gr (gg.trans hnx), this.len⟩)
      have HT := Lib.hid (HFw.out _ _ _ _ _ hrows hlr)
      clear hown hrows hlr
      go_wp2_with fail
      refine HT.out.mono ?_
      rintro e w5 ⟨q5, l5, k5, rfl, hv5, g5⟩
      go_wp2_with fail
      exact bodyPost_ret (v := .tuple #[.slice q5 l5 k5, .int .i64 0]) (by simp [results, Tryz.results10, go_sem]) rfl ⟨q5, l5, k5, rfl, hv5, gg.trans (hnx.trans g5)⟩
end Go.Proofs.YtenhodepaoaiiaaGreatDoor
namespace Go.Proofs.YtenhodepaoaiiaaGreatDoor
open Go.RowKit Go.Lib
set_option linter.unusedSimpArgs false
set_option linter.unusedVariables false
/-- the three cells of a result at a place, and its values, however many -/
structure Row0 (w : World) (b off : Nat) (x : RowR) : Prop where
  nm : w.cell? ⟨b, off, none⟩ = some (.string x.nm)
  st : w.cell? ⟨b, off + 1, none⟩ = some (.string x.st)
  u : w.cell? ⟨b, off + 2, none⟩ = some x.u
  val : IntsV w x.u x.xs
theorem Row0.at {w : World} {b off : Nat} {x : RowR} (h : Row0 w b off x) (hl : x.xs.length ≤ 1000) : RowAt w b off x := ⟨h.nm, h.st, h.u, h.val, hl⟩
theorem Row0.gr {w w' : World} {b off : Nat} {x : RowR} (h : Row0 w b off x) (k : Gr w w') : Row0 w' b off x := ⟨k.cell h.nm, k.cell h.st, k.cell h.u, h.val.gr k⟩
end Go.Proofs.YtenhodepaoaiiaaGreatDoor
