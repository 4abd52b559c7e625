/- Places: the names of results; climbers with their ranks. -/
import Derived.Test.YtnbboheaheicnabGreatDoorThABC
import Derived.Test.YtnbboheaheicnabGreatDoorRkFGH
namespace Go.Proofs.YtnbboheaheicnabGreatDoor
open Go.RowKit Go.Lib
set_option linter.unusedSimpArgs false
set_option linter.unusedVariables false
theorem infoTh : (Tryz.prog.info? 9).map (fun i => (i.zero, i.size, i.bytes)) = some (some (.string ⟨#[]⟩), 1, 16) := by kernel_rfl
theorem infoP : (Tryz.prog.info? 67).map (fun i => (i.zero, i.size, i.bytes)) = some (some (.agg #[.string ⟨#[]⟩, .int .i64 0]), 2, 24) := by kernel_rfl
def nmsV (xs : List RowR) : List Value := xs.map fun x => .string x.nm
theorem nmsV_take {xs : List RowR} {k : Nat} {x : RowR} (h : xs[k]? = some x) : nmsV (xs.take (k + 1)) = nmsV (xs.take k) ++ [.string x.nm] := by
  rw [List.take_add_one, h]
  simp [nmsV]
theorem nmsV_len (xs : List RowR) : (nmsV xs).length = xs.length := by simp [nmsV]
theorem cell_one_two (w : World) (A : Obj) (a : Value) (T : TypeId) : ∀ (j : Nat) (u : Value), [a][j]? = some u → ((w.alloc A).alloc (.cells #[a] T)).cell? ((⟨w.heap.size + 1, 0, none⟩ : Addr).add j) = some u := by
  intro j u h
  have hs : (w.alloc A).heap.size = w.heap.size + 1 := World.size_alloc _ _
  have e : (⟨w.heap.size + 1, 0, none⟩ : Addr).add j = ⟨(w.alloc A).heap.size, j, none⟩ := by unfold Addr.add; split <;> simp_all
  rw [e]
  rcases j with _ | j
  · simp at h; subst h; exact cell_new (w.alloc A) #[a] T 0 (by simp)
  · simp at h
set_option maxHeartbeats 1000000 in
set_option maxRecDepth 100000 in
theorem climbers_pos (xs : List RowR) (n b off cap : Nat) (w : World) (hn : xs.length = n) (h1 : n ≤ 1000) (hc : ∀ i x, xs[i]? = some x → RowAt w b (off + i * 3) x) :
    Calls Tryz.prog 26 #[.slice (some ⟨b, off, none⟩) n cap] w fun e w' => ∃ v, e = .returned v ∧ w'.ownsRow w.heap.size 9 1 v n (nmsV xs) ∧ Gr w w' := by
  obtain ⟨i0, hi, hz0, hz1, hz2⟩ := info_parts infoTh
  have HC := Lib.hid hc
  have HN := Lib.hid hn
  clear hc hn
  go_enter Tryz.func26, Tryz.ntmps26
  go_wp2_with fail
  go_loopw [3, 8] (fun v i wr => ∃ k : Nat, k ≤ n ∧ i = .int .i64 k ∧ wr.ownsRow w.heap.size 9 1 v k (nmsV (xs.take k)) ∧ Below w.heap.size w wr) (fun _ i _ => n - (intOf i).toNat)
  case atStart => exact ⟨0, Nat.zero_le _, rfl, World.ownsRow_nil _ _ _ _, Below.refl _ _⟩
  case round =>
    obtain ⟨k, hk, rfl, hown, hnx⟩ := hrel
    have hsize := hnx.size
    by_cases hkN : k < n
    · obtain ⟨x, hx⟩ : ∃ x, xs[k]? = some x := ⟨xs[k]'(by have := HN.out; omega), List.getElem?_eq_getElem _⟩
      obtain ⟨c0, c1, c2, hv, _⟩ := (HC.out k x hx).gr hnx
      obtain ⟨⟨p', cap', hu, _⟩⟩ := hv
      rw [hu] at c2
      have HQ := Lib.hid (nmsV_take hx)
      have HLn := Lib.hid (nmsV_len (xs.take k))
      have HT := Lib.hid (show (xs.take k).length = k by rw [List.length_take]; have := HN.out; omega)
      have hi2 : (k : Int) < n := by omega
      clear hx
      go_wp2_with (first
        | (at_builtin; refine wpList_append_own _ rfl _ _ 23 rfl w.heap.size 9 i0 (.string ⟨#[]⟩) 1 16 Tryz.underlying23 hi hz0 hz1 hz2 rfl (by decide) _ _ _ rfl ((hown.alloc _).alloc _) ⟨wr.heap.size + 1, 0, none⟩ 1 1 [.string x.nm] rfl rfl (cell_one_two _ _ _ _) (by intro u hu; simp at hu; subst hu; rfl) (by unfold maxLen; omega) (by omega) (by simp; omega) ?_; intro v1 w1 hown1 hgrow1 hnil1))
      go_roundw
      case rel =>
        exact ⟨k + 1, by omega, by go_num, by rw [HQ.out]; exact hown1, ((hnx.alloc hsize _).alloc (by simp; omega) _).grown hgrow1 (by simp; omega) (fun j hj => (hown.lt j hj).1)⟩
      case measure => simp [intOf]; omega
    · have hkk : k = n := by omega
      subst hkk
      rw [List.take_of_length_le (by have := HN.out; omega)] at hown
      go_wp2_with fail
      go_ret
      exact ⟨_, rfl, hown, hnx⟩
end Go.Proofs.YtnbboheaheicnabGreatDoor
namespace Go.Proofs.YtnbboheaheicnabGreatDoor
open Go.RowKit Go.Lib
set_option linter.unusedSimpArgs false
set_option linter.unusedVariables false
structure PlAt (w : World) (b off : Nat) (x : PlR) : Prop where
  nm : w.cell? ⟨b, off, none⟩ = some (.string x.nm)
  rk : w.cell? ⟨b, off + 1, none⟩ = some (.int .i64 x.rk)
theorem PlAt.gr {w w' : World} {b off : Nat} {x : PlR} (h : PlAt w b off x) (k : Gr w w') : PlAt w' b off x := ⟨k.cell h.nm, k.cell h.rk⟩
/-- the slice v reads as the places ps -/
structure PlsV (w : World) (v : Value) (ps : List PlR) : Prop where
  mk' ::
  out : ∃ p cap, v = .slice p ps.length cap ∧ (0 < ps.length → ∃ b, p = some ⟨b, 0, none⟩ ∧ ∀ i x, ps[i]? = some x → PlAt w b (i * 2) x)
theorem plCs_take {xs : List PlR} {k : Nat} {x : PlR} (h : xs[k]? = some x) : plCs (xs.take (k + 1)) = plCs (xs.take k) ++ plC x := by
  rw [List.take_add_one, h]
  simp [plCs]
theorem cell_two_new (w : World) (a b : Value) (T : TypeId) : ∀ (j : Nat) (u : Value), [a, b][j]? = some u → (w.alloc (.cells #[a, b] T)).cell? ((⟨w.heap.size, 0, none⟩ : Addr).add j) = some u := by
  intro j u h
  have e : (⟨w.heap.size, 0, none⟩ : Addr).add j = ⟨w.heap.size, j, none⟩ := by unfold Addr.add; split <;> simp_all
  rw [e]
  rcases j with _ | _ | j
  · simp at h; subst h; exact cell_new w #[a, b] T 0 (by simp)
  · simp at h; subst h; exact cell_new w #[a, b] T 1 (by simp)
  · simp at h
def pls (ns : List ByteArray) (rs : List Int) : List PlR := List.zipWith PlR.mk ns rs
theorem pls_at {ns : List ByteArray} {rs : List Int} {i : Nat} {x : PlR} (h : (pls ns rs)[i]? = some x) : ns[i]? = some x.nm ∧ rs[i]? = some x.rk := by
  unfold pls at h
  rw [List.getElem?_zipWith] at h
  cases h1 : ns[i]? <;> cases h2 : rs[i]? <;> simp_all
  subst h
  exact ⟨rfl, rfl⟩
open Go.Sort Go.Shelf in
theorem holdsK_of_owns {w : World} {base : Nat} {v : Value} {ps : List PlR} {T : TypeId} (h : w.ownsRow base T 2 v ps.length (plCs ps)) (h0 : 0 < ps.length) :
    ∃ g cap, v = .slice (some ⟨g, 0, none⟩) ps.length cap ∧ base ≤ g ∧ g < w.heap.size ∧ HoldsK plC 2 w g 0 ps.toArray := by
  have hh := h
  rcases h.2 with ⟨rfl, h0'⟩ | ⟨g, cap, cur, rfl, hb, hcur, hle, hmx, _, _⟩
  · omega
  · have hlt := (Array.getElem?_eq_some_iff.1 hcur).1
    refine ⟨g, cap, rfl, hb, hlt, fun t ht => ⟨?_, by simp [World.frozen?, hcur]⟩⟩
    rw [size_flatK] at ht
    have ht' : t < (plCs ps).length := by rw [plCs_len]; simpa using ht
    rw [flat_pl _ t ht]
    have e : (⟨g, 0, none⟩ : Addr).add t = ⟨g, t, none⟩ := by unfold Addr.add; split <;> simp_all
    have c := hh.cells (g := g) rfl t _ (List.getElem?_eq_getElem ht')
    rw [e] at c
    rw [Nat.zero_add, c]
    simp [List.getElem?_eq_getElem ht']
open Go.Sort Go.Shelf in
/-- places as the stable sort leaves them -/
def srtP (ps : List PlR) : List PlR := (Sort.insertionSort (ltOf cmpP) ps.toArray 0 ps.length).toList
open Go.Sort Go.Shelf in
theorem srtP_spec (ps : List PlR) : (srtP ps).Perm ps ∧ (srtP ps).length = ps.length ∧ ∀ (i j : Nat) (x y : PlR), i < j → (srtP ps)[i]? = some x → (srtP ps)[j]? = some y → x.rk ≤ y.rk := by
  obtain ⟨hp, hso⟩ := insertionSort_holds swo_pl ps.toArray 0 ps.length (Nat.zero_le _) (by simp)
  have hsz : (Sort.insertionSort (ltOf cmpP) ps.toArray 0 ps.length).size = ps.length := by rw [hp.1]; simp
  refine ⟨?_, by unfold srtP; rw [Array.length_toList, hsz], ?_⟩
  · have h3 := hp.2.2
    rw [show (Sort.insertionSort (ltOf cmpP) ps.toArray 0 ps.length).extract 0 ps.length = Sort.insertionSort (ltOf cmpP) ps.toArray 0 ps.length by
      have := hsz; generalize Sort.insertionSort (ltOf cmpP) ps.toArray 0 ps.length = q at *; rw [← this]; simp, show ps.toArray.extract 0 ps.length = ps.toArray by simp] at h3
    simpa [srtP] using h3
  · intro i j x y hij hi hj
    unfold srtP at hi hj
    rw [Array.getElem?_toList] at hi hj
    obtain ⟨hi2, ex⟩ := Array.getElem?_eq_some_iff.1 hi
    obtain ⟨hj2, ey⟩ := Array.getElem?_eq_some_iff.1 hj
    have := hso i j (Nat.zero_le _) hij (by omega)
    rw [getElem!_pos _ i hi2, getElem!_pos _ j hj2, ex, ey, lt_pl, decide_eq_false_iff_not] at this
    omega
theorem gdOfGr {w w' : World} (h : Gd w w') : Gr w w' := h.gr
open Go.Sort Go.Shelf in
theorem sortP_c (I : InsOK) (ps : List PlR) (g cap F : Nat) {w0 w : World} (h0 : 0 < ps.length) (h1 : ps.length < 20) (hg : Gr w0 w) (hb : w0.heap.size ≤ g) (hlt : g < w.heap.size) (hH : HoldsK plC 2 w g 0 ps.toArray)
    (hF : w.cell? ⟨F, 0, none⟩ = some (.func (.func 51) #[] #[])) (hgF : F ≠ g) :
    Calls Tryz.prog 49 #[.slice (some ⟨g, 0, none⟩) ps.length cap, .func (.func 82) #[] #[.pointer (some ⟨F, 0, none⟩)]] w fun e w' =>
      e = .returned (.tuple #[]) ∧ PlsV w' (.slice (some ⟨g, 0, none⟩) ps.length cap) (srtP ps) ∧ Gr w0 w' := by
  have hsw : ∀ (m : Nat) (os : Array Obj) (dk : Array PlR), w.grownBy (sortWorldK plC 2 w g 0 m dk os) (some g) := fun m os dk => grownBy_sortedK plC 2 dk
  have hcmp : CmpLays Tryz.prog 82 #[.pointer (some ⟨F, 0, none⟩)] plC 2 cmpP g 0 ps.toArray.size w := by
    intro m os dk _ x y
    have hF2 : (sortWorldK plC 2 w g 0 m dk os).cell? ⟨F, 0, none⟩ = some (.func (.func 51) #[] #[]) := by
      obtain ⟨_, _, _, _, hold⟩ := hsw m os dk
      have hFl : F < w.heap.size := by
        rcases Nat.lt_or_ge F w.heap.size with h | h
        · exact h
        · simp [World.cell?, Array.getElem?_eq_none h] at hF
      have := hold F hFl (by intro e; cases e; exact hgF rfl)
      simp only [World.cell?] at hF ⊢
      rw [this]
      exact hF
    refine (plCmp_c x y F _ hF2).mono ?_
    rintro e w' ⟨rfl, gd⟩
    exact ⟨rfl, gd.grow⟩
  have hcall := sortS_c I #[.pointer (some ⟨F, 0, none⟩)] g 0 cap ps.toArray w hcmp hH hlt (by simpa using h1)
  rw [show ps.toArray.size = ps.length by simp] at hcall
  refine hcall.mono ?_
  rintro e w' ⟨rfl, m, os, rfl⟩
  have hsp := srtP_spec ps
  have hHs := holdsK_sortWorldK_c plC 2 w g 0 ps.toArray (Sort.insertionSort (ltOf cmpP) ps.toArray 0 ps.length) m os hH hlt (by have := hsp.2.1; unfold srtP at this; simpa using this)
  refine ⟨rfl, ⟨some ⟨g, 0, none⟩, cap, by rw [hsp.2.1], fun _ => ⟨g, rfl, fun i x hx => ?_⟩⟩, Below.grown hg (hsw m os _) hg.size (fun k hk => by cases hk; exact hb)⟩
  unfold srtP at hx
  rw [Array.getElem?_toList] at hx
  obtain ⟨hi, ex⟩ := Array.getElem?_eq_some_iff.1 hx
  have c0 := (hHs.cell hi (show 0 < 2 by omega)).1
  have c1 := (hHs.cell hi (show 1 < 2 by omega)).1
  rw [getElem!_pos _ i hi, ex] at c0 c1
  rw [Nat.zero_add] at c0 c1
  exact ⟨c0, c1⟩
end Go.Proofs.YtnbboheaheicnabGreatDoor
namespace Go.Proofs.YtnbboheaheicnabGreatDoor
open Go.RowKit Go.Lib
set_option linter.unusedSimpArgs false
set_option linter.unusedVariables false
theorem pls_len (ns : List ByteArray) (rs : List Int) (n : Nat) (h1 : ns.length = n) (h2 : rs.length = n) : (pls ns rs).length = n := by
  unfold pls; rw [List.length_zipWith, h1, h2]; omega
theorem pls_get {ns : List ByteArray} {rs : List Int} {i : Nat} {s : ByteArray} {r : Int} (h1 : ns[i]? = some s) (h2 : rs[i]? = some r) : (pls ns rs)[i]? = some ⟨s, r⟩ := by
  unfold pls; rw [List.getElem?_zipWith, h1, h2]
set_option maxHeartbeats 1000000 in
set_option maxRecDepth 100000 in
theorem placed_pos (I : InsOK) (ns : List ByteArray) (rs : List Int) (n g cap b cap2 : Nat) (w : World) (hn : ns.length = n) (hr : rs.length = n) (h0 : 0 < n) (h1 : n < 20)
    (hns : ∀ i s, ns[i]? = some s → w.cell? ⟨g, i, none⟩ = some (.string s)) (hrs : ∀ i r, rs[i]? = some r → w.cell? ⟨b, i, none⟩ = some (.int .i64 r)) :
    Calls Tryz.prog 25 #[.slice (some ⟨g, 0, none⟩) n cap, .slice (some ⟨b, 0, none⟩) n cap2] w fun e w' => ∃ v, e = .returned v ∧ PlsV w' v (srtP (pls ns rs)) ∧ Gr w w' := by
  obtain ⟨i0, hi, hz0, hz1, hz2⟩ := info_parts infoP
  have HNS := Lib.hid hns
  have HRS := Lib.hid hrs
  have hpl : (pls ns rs).length = n := pls_len ns rs n hn hr
  have HPL := Lib.hid hpl
  have HG := Lib.hid (fun i (h : i < n) => (show ∃ x : PlR, (pls ns rs)[i]? = some x ∧ ns[i]? = some x.nm ∧ rs[i]? = some x.rk from ⟨⟨ns[i]'(by omega), rs[i]'(by omega)⟩, pls_get (List.getElem?_eq_getElem (by omega)) (List.getElem?_eq_getElem (by omega)), List.getElem?_eq_getElem _, List.getElem?_eq_getElem _⟩))
  clear hns hrs hn hr
  generalize pls ns rs = ps at *
  clear hpl
  have HS := Lib.hid (fun (F : Nat) (gg cc : Nat) (W : World) h0 h1 hg hb hlt hH hF hne => sortP_c I ps gg cc F (w0 := w) (w := W) h0 h1 hg hb hlt hH hF hne)
  have HO := Lib.hid (fun (W : World) (v : Value) (h : W.ownsRow w.heap.size 67 2 v ps.length (plCs ps)) => holdsK_of_owns h (by rw [HPL.out]; exact h0))
  clear I
  go_enter Tryz.func25, Tryz.ntmps25
  go_wp2_with fail
  go_loopw [5, 10] (fun v i wr => ∃ k : Nat, k ≤ n ∧ i = .int .i64 k ∧ wr.ownsRow w.heap.size 67 2 v k (plCs (ps.take k)) ∧ Below w.heap.size w wr) (fun _ i _ => n - (intOf i).toNat)
  case atStart => exact ⟨0, Nat.zero_le _, rfl, World.ownsRow_nil _ _ _ _, Below.refl _ _⟩
  case round =>
    obtain ⟨k, hk, rfl, hown, hnx⟩ := hrel
    have hsize := hnx.size
    by_cases hkN : k < n
    · obtain ⟨x, hx, hxn, hxr⟩ := HG.out k hkN
      have c0 := Gr.cell hnx (HNS.out k _ hxn)
      have c1 := Gr.cell hnx (HRS.out k _ hxr)
      have HQ := Lib.hid (plCs_take hx)
      have HT := Lib.hid (plCs_len (ps.take k))
      have HT2 := Lib.hid (show (ps.take k).length = k by rw [List.length_take]; have := HPL.out; omega)
      have hi2 : (k : Int) < n := by omega
      clear hx hxn hxr
      go_wp2_with (first
        | (at_builtin; refine wpList_append_own _ rfl _ _ 61 rfl w.heap.size 67 i0 (.agg #[.string ⟨#[]⟩, .int .i64 0]) 2 24 Tryz.underlying61 hi hz0 hz1 hz2 rfl (by decide) _ _ _ rfl (hown.alloc _) ⟨wr.heap.size, 0, none⟩ 1 1 [.string x.nm, .int .i64 x.rk] rfl rfl (cell_two_new _ _ _ _) (by intro u hu; simp at hu; rcases hu with rfl | rfl <;> rfl) (by unfold maxLen; omega) (by omega) (by simp; omega) ?_; intro v1 w1 hown1 hgrow1 hnil1))
      go_roundw
      case rel =>
        exact ⟨k + 1, by omega, by go_num, by rw [HQ.out]; exact hown1, (hnx.alloc hsize _).grown hgrow1 (by simp; omega) (fun j hj => (hown.lt j hj).1)⟩
      case measure => simp [intOf]; omega
    · have hkk : k = n := by omega
      subst hkk
      rw [List.take_of_length_le (by have := HPL.out; omega)] at hown
      have HB := Lib.hid (by_c (.func 51) wr)
      obtain ⟨gg, cc, rfl, hgb, hglt, hH⟩ := HO.out (wr.alloc (.cells #[.func (.func 51) #[] #[]] 93)) _ (by rw [HPL.out]; exact hown.alloc _)
      have hwg : gg < wr.heap.size := (hown.lt gg rfl).2
      have HC := Lib.hid (HS.out wr.heap.size gg cc _ (by rw [HPL.out]; exact h0) (by rw [HPL.out]; exact h1) (hnx.alloc hsize _) hgb hglt hH (cell_new wr #[_] _ 0 (by simp)) (by omega))
      rw [HPL.out] at HC
      rw [HPL.out]
      clear hH hown HS HO HG HNS HRS
      go_wp2_with (first
        | (refine HB.out.mono ?_; rintro e wq ⟨rfl, rfl⟩)
        | (refine HC.out.mono ?_; rintro e wz ⟨rfl, hps, hgr⟩))
      go_ret
      exact ⟨_, rfl, hps, hgr⟩
end Go.Proofs.YtnbboheaheicnabGreatDoor
