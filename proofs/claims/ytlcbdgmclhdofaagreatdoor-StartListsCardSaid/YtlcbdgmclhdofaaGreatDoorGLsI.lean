/- Starters: Seeded. -/
import Derived.Test.YtlcbdgmclhdofaaGreatDoorGLsH
import Derived.Test.YtlcbdgmclhdofaaGreatDoorGInB
namespace Go.Proofs.YtlcbdgmclhdofaaGreatDoor
open Go.RowKit Go.Lib
set_option linter.unusedSimpArgs false
set_option linter.unusedVariables false
/-- an order by seeds, or an error -/
structure OrdR (E : Int) (xs : List EntR) (key : Int) (w : World) (u : Value) : Prop where
  good : E = 0 → ∃ (kn : Nat) (p : Option Addr) (r : List Nat), key = kn ∧ u = .slice p xs.length xs.length ∧ OrdL xs kn r ∧ (0 < xs.length → ∃ g, p = some ⟨g, 0, none⟩ ∧ OrdAt w g r)
  bad : E ≠ 0 → u = .slice none 0 0
theorem OrdR.gr {E : Int} {xs : List EntR} {key : Int} {w w' : World} {u : Value} (h : OrdR E xs key w u) (k : Gr w w') : OrdR E xs key w' u := by
  refine ⟨fun e => ?_, h.bad⟩
  obtain ⟨kn, p, r, h1, h2, h3, h4⟩ := h.good e
  refine ⟨kn, p, r, h1, h2, h3, fun h0 => ?_⟩
  obtain ⟨g, h5, h6⟩ := h4 h0
  exact ⟨g, h5, h6.gr k⟩
theorem ord_nil (kn : Nat) : OrdL [] kn [] := ⟨rfl, by simp [Asc], fun k => by
  have := (drawN_perm kn 0).length_eq
  have h0 : (drawN kn 0).toList = [] := List.eq_nil_of_length_eq_zero (by simpa using this)
  show [] = _
  rw [show ([] : List EntR).length = 0 from rfl, h0]
  rfl⟩
set_option maxHeartbeats 1000000 in
set_option maxRecDepth 100000 in
theorem seeded_zero (p : Option Addr) (cap n : Nat) (key : Int) (u : Value) (E : Int) (w : World) (hd : ∀ W, Gr w W → Calls Tryz.prog 91 #[.int .i64 key, .int .i64 (n : Int)] W fun e w' => ∃ q, u = .slice q 0 0 ∧ e = .returned (.tuple #[u, .int .i64 E]) ∧ Gr W w') :
    Calls Tryz.prog 53 #[.slice p n cap, .int .i64 key] w fun e w' => e = .returned (.tuple #[u, .int .i64 E]) ∧ Gr w w' := by
  obtain ⟨W, hW, g, l0⟩ := box1 w (.slice p n cap) 22
  have HD := Lib.hid (hd W g)
  have HW := Lib.hid hW
  have HS := Lib.hid (fun q f W => sortII_0 q 0 f W)
  clear hW l0 hd
  go_enter Tryz.func53, Tryz.ntmps53
  go_wp2_with fail
  rw [HW.out]
  refine HD.out.mono ?_
  rintro e W1 ⟨q, rfl, rfl, hg⟩
  go_wp2_with fail
  refine (HS.out _ _ _).mono ?_
  rintro e w' ⟨rfl, rfl⟩
  go_wp2_with fail
  exact bodyPost_ret (v := .tuple #[.slice q 0 0, .int .i64 E]) (by simp [results, Tryz.results53, go_sem]) rfl ⟨rfl, g.trans hg⟩
set_option maxHeartbeats 1000000 in
set_option maxRecDepth 100000 in
theorem seeded_c (I : InsNOK) (xs : List EntR) (v : Value) (key : Int) (w : World) (hv : EntAts w v xs) (h1 : xs.length ≤ 160) :
    Calls Tryz.prog 53 #[v, .int .i64 key] w fun e w' => ∃ u, e = .returned (.tuple #[u, .int .i64 (drawE key xs.length)]) ∧ OrdR (drawE key xs.length) xs key w' u ∧ Gr w w' := by
  obtain ⟨⟨p, cap, rfl, hcap, hh⟩⟩ := hv
  by_cases hE : drawE key xs.length = 0
  · obtain ⟨k1, k2, _, _⟩ := drawE_zero hE
    obtain ⟨kn, rfl⟩ : ∃ k : Nat, key = k := ⟨key.toNat, by omega⟩
    rcases Nat.eq_zero_or_pos xs.length with h0 | h0
    · have hx : xs = [] := List.eq_nil_of_length_eq_zero h0
      subst hx
      obtain ⟨W, hW, g, l0⟩ := box1 w (.slice p 0 cap) 22
      have HD := Lib.hid (draw_good kn 0 W (by omega) (by omega) (by omega))
      have HW := Lib.hid hW
      have HG := Lib.hid g
      have HE := Lib.hid hE
      have HS := Lib.hid (fun q f W => sortII_0 q 0 f W)
      clear hW l0 g hh hE
      show Calls Tryz.prog 53 #[.slice p 0 cap, .int .i64 (kn : Int)] w _
      go_enter Tryz.func53, Tryz.ntmps53
      go_wp2_with fail
      rw [HW.out]
      refine HD.out.mono ?_
      rintro e W1 ⟨rfl, _, _, hg⟩
      have HG2 := Lib.hid (HG.out.trans hg)
      clear hg
      go_wp2_with fail
      refine (HS.out _ _ _).mono ?_
      rintro e w' ⟨rfl, rfl⟩
      go_wp2_with fail
      exact bodyPost_ret (v := .tuple #[.slice (some ⟨W.heap.size, 0, none⟩) 0 0, .int .i64 0]) (by simp [results, Tryz.results53, go_sem]) rfl ⟨.slice (some ⟨W.heap.size, 0, none⟩) 0 0, by rw [show drawE (kn : Int) ((0 : Nat) : Int) = 0 from HE.out], ⟨fun _ => ⟨kn, _, [], rfl, rfl, ord_nil kn, fun h => absurd h (by simp)⟩, fun e => absurd HE.out e⟩, HG2.out⟩
    · obtain ⟨b, off, rfl, hc⟩ := hh h0
      obtain ⟨x0, hx0⟩ : ∃ x, xs[0]? = some x := ⟨xs[0], List.getElem?_eq_getElem _⟩
      have hbw : b < w.heap.size := by
        have h2 := (hc 0 x0 hx0).nm
        rcases Nat.lt_or_ge b w.heap.size with h3 | h3
        · exact h3
        · simp [World.cell?, Array.getElem?_eq_none h3] at h2
      refine (seeded_pos I xs kn _ b off cap w rfl h0 h1 (by omega) (by omega) hbw hc).mono ?_
      rintro e w' ⟨g, r, rfl, ho, hat, _, hg⟩
      exact ⟨_, by rw [hE], ⟨fun _ => ⟨kn, _, r, rfl, rfl, ho, fun _ => ⟨g, rfl, hat⟩⟩, fun e => absurd hE e⟩, hg⟩
  · refine (seeded_zero p cap xs.length key (.slice none 0 0) (drawE key xs.length) w fun W g => (draw_bad key xs.length W hE).mono ?_).mono ?_
    · rintro e w' ⟨rfl, rfl⟩
      exact ⟨none, rfl, rfl, Gr.refl _⟩
    · rintro e w' ⟨rfl, hg⟩
      exact ⟨_, rfl, ⟨fun e => absurd e hE, fun _ => rfl⟩, hg⟩
set_option maxHeartbeats 1000000 in
set_option maxRecDepth 100000 in
theorem seededBad_c (xs : List EntR) (v : Value) (key : Int) (w : World) (hv : EntAts w v xs) (h0 : listE 160 (entE xs) xs ≠ 0) :
    Calls Tryz.prog 11 #[v, .int .i64 key] w fun e w' => e = .returned (.tuple #[.slice none 0 0, .int .i64 (listE 160 (entE xs) xs)]) ∧ Gr w w' := by
  have HC := Lib.hid (checkEnts_c xs v w hv)
  generalize listE 160 (entE xs) xs = z at *
  have q1 : (z == 0) = false := by simpa using h0
  have q2 : (z != 0) = true := by simpa [bne] using q1
  obtain ⟨⟨p, cap, rfl, hcap, hh⟩⟩ := hv
  clear hh h0
  go_enter Tryz.func11, Tryz.ntmps11
  go_wp2_with fail
  refine HC.out.mono ?_
  rintro e W1 ⟨rfl, hg⟩
  go_wp2_with fail
  exact bodyPost_ret (v := .tuple #[.slice none 0 0, .int .i64 z]) (by simp [results, Tryz.results11, go_sem]) rfl ⟨rfl, hg⟩
set_option maxHeartbeats 1000000 in
set_option maxRecDepth 100000 in
theorem seededGood_c (I : InsNOK) (xs : List EntR) (v : Value) (key : Int) (w : World) (hv : EntAts w v xs) (h0 : listE 160 (entE xs) xs = 0) (h1 : xs.length ≤ 160) :
    Calls Tryz.prog 11 #[v, .int .i64 key] w fun e w' => ∃ u, e = .returned (.tuple #[u, .int .i64 (drawE key xs.length)]) ∧ OrdR (drawE key xs.length) xs key w' u ∧ Gr w w' := by
  have HC := checkEnts_c xs v w hv
  rw [h0] at HC
  replace HC := Lib.hid HC
  have HS := Lib.hid (fun W (g : Gr w W) => seeded_c I xs v key W (hv.gr g) h1)
  generalize drawE key xs.length = E at *
  obtain ⟨⟨p, cap, rfl, hcap, hh⟩⟩ := hv
  clear hh h0 I h1
  go_enter Tryz.func11, Tryz.ntmps11
  go_wp2_with fail
  refine HC.out.mono ?_
  rintro e W1 ⟨rfl, hg⟩
  go_wp2_with fail
  refine (HS.out _ hg).mono ?_
  rintro e W2 ⟨u, rfl, hr, hg2⟩
  go_wp2_with fail
  exact bodyPost_ret (v := .tuple #[u, .int .i64 E]) (by simp [results, Tryz.results11, go_sem]) rfl ⟨u, rfl, hr, hg.trans hg2⟩
end Go.Proofs.YtlcbdgmclhdofaaGreatDoor
namespace Go.Proofs.YtlcbdgmclhdofaaGreatDoor
open Go.RowKit Go.Lib
set_option linter.unusedSimpArgs false
set_option linter.unusedVariables false
/-- the group of a place -/
def grpN (m p : Nat) : Nat := if p / m % 2 = 1 then m - 1 - p % m else p % m
theorem grpN_lt {m p : Nat} (h : 0 < m) : grpN m p < m := by
  unfold grpN
  have := Nat.mod_lt p h
  split <;> omega
/-- the groups of the first places -/
def grpL (m : Nat) (r : List Nat) : Nat → List (List Nat)
  | 0 => List.replicate m []
  | k + 1 => (grpL m r k).set (grpN m k) ((grpL m r k).getD (grpN m k) [] ++ [r.getD k 0])
theorem grpL_len (m : Nat) (r : List Nat) : ∀ k, (grpL m r k).length = m
  | 0 => by simp [grpL]
  | k + 1 => by rw [grpL, List.length_set]; exact grpL_len m r k
theorem grpL_le (m : Nat) (r : List Nat) : ∀ k, ∀ l ∈ grpL m r k, l.length ≤ k
  | 0, l, h => by
    unfold grpL at h
    rw [(List.mem_replicate.1 h).2]
    exact Nat.le_refl _
  | k + 1, l, h => by
    unfold grpL at h
    rcases List.mem_or_eq_of_mem_set h with h | rfl
    · have := grpL_le m r k l h
      omega
    · rw [List.length_append]
      have h2 : ((grpL m r k).getD (grpN m k) []).length ≤ k := by
        by_cases e : grpN m k < (grpL m r k).length
        · have := grpL_le m r k _ (List.getElem_mem e)
          simpa [List.getD_eq_getElem?_getD, List.getElem?_eq_getElem e] using this
        · simp [List.getD_eq_getElem?_getD, List.getElem?_eq_none (Nat.le_of_not_lt e)]
      simp
      exact h2
theorem infoS : (Tryz.prog.info? 30).map (fun i => (i.zero, i.size, i.bytes)) = some (some (.slice none 0 0), 1, 24) := by kernel_rfl
theorem make_rows (m : Nat) (hm : m ≤ 256) (w : World) : (Instr.makeSlice 33 (.int .i64 (m : Int)) (.int .i64 (m : Int))).run Tryz.prog w = .ok (.slice (some ⟨w.heap.size, 0, none⟩) m m) (w.alloc (.cells (Array.replicate m (.slice none 0 0)) 30)) := by
  obtain ⟨i0, hi, hz0, hz1, hz2⟩ := info_parts infoS
  have := run_make (P := Tryz.prog) w 33 30 i0 (.slice none 0 0) Tryz.underlying33 hi hz0 .i64 .i64 (m : Int) (m : Int) (by omega) (by omega) (by rw [hz2]; omega) (by omega)
  rw [hz1] at this
  have e : madeCells (#[.slice none 0 0] : Array Value) m = Array.replicate m (.slice none 0 0) := Array.ext' (by rw [toList_madeCells_one]; simp)
  simpa [Value.cells, e] using this
theorem own_at {w : World} {base n : Nat} {T : TypeId} {v : Value} {l : List Value} (h : w.ownsRow base T 1 v n l) (h0 : 0 < n) : ∃ g c, v = .slice (some ⟨g, 0, none⟩) n c ∧ base ≤ g ∧ g < w.heap.size ∧ (n ≤ c ∧ c ≤ maxLen) ∧ ∀ i u, l[i]? = some u → w.cell? ⟨g, i, none⟩ = some u := by
  have hh := h
  rcases h.2 with ⟨rfl, h0'⟩ | ⟨g, cap, cur, rfl, hb, hcur, hle, hmx, _, _⟩
  · omega
  · refine ⟨g, cap, rfl, hb, (Array.getElem?_eq_some_iff.1 hcur).1, ⟨hle, hmx⟩, fun i u hu => ?_⟩
    have c := hh.cells (g := g) rfl i u hu
    rwa [show (⟨g, 0, none⟩ : Addr).add i = ⟨g, i, none⟩ by unfold Addr.add; split <;> simp_all] at c
theorem own_low {w : World} {b b' size n : Nat} {T : TypeId} {v : Value} {xs : List Value} (h : w.ownsRow b T size v n xs) (hb : b' ≤ b) : w.ownsRow b' T size v n xs := by
  refine ⟨h.1, ?_⟩
  rcases h.2 with hn | ⟨g, cap, cur, rfl, hg, rest⟩
  · exact .inl hn
  · exact .inr ⟨g, cap, cur, rfl, by omega, rest⟩
theorem own_kept {w w' : World} {b s n : Nat} {T : TypeId} {v : Value} {l : List Value} (h : w.ownsRow b T s v n l) (k : Gr w w') : w'.ownsRow b T s v n l := by
  refine ⟨h.1, ?_⟩
  rcases h.2 with hn | ⟨g, cap, cur, rfl, hb, hgg, rest⟩
  · exact .inl hn
  · exact .inr ⟨g, cap, cur, rfl, hb, k.block hgg, rest⟩
theorem own_same {w w' : World} {b s n : Nat} {T : TypeId} {v : Value} {l : List Value} (h : w.ownsRow b T s v n l) (k : ∀ g, v.ownBlock = some g → w'.heap[g]? = w.heap[g]?) : w'.ownsRow b T s v n l := by
  refine ⟨h.1, ?_⟩
  rcases h.2 with hn | ⟨g, cap, cur, rfl, hb, hgg, rest⟩
  · exact .inl hn
  · exact .inr ⟨g, cap, cur, rfl, hb, by rw [k g rfl]; exact hgg, rest⟩
theorem own_in {w : World} {b s n : Nat} {T : TypeId} {v : Value} {l : List Value} (h : w.ownsRow b T s v n l) {g : Nat} (hg : v.ownBlock = some g) : g < w.heap.size ∧ b ≤ g := by
  rcases h.2 with ⟨rfl, _⟩ | ⟨g', cap, cur, rfl, hb, hgg, rest⟩
  · cases hg
  · cases hg
    exact ⟨(Array.getElem?_eq_some_iff.1 hgg).1, hb⟩
/-- the block G holds slices, each of which is a row of the call's own -/
structure GRow (w : World) (base G : Nat) (vs : List Value) (L : List (List Nat)) : Prop where
  blk : w.heap[G]? = some (.cells vs.toArray 30 (0, 0))
  len : vs.length = L.length
  own : ∀ (i : Nat) (v : Value) (l : List Nat), vs[i]? = some v → L[i]? = some l → w.ownsRow base 3 1 v l.length (nats l)
  apart : ∀ (i j : Nat) (v v' : Value) (g : Nat), vs[i]? = some v → vs[j]? = some v' → v.ownBlock = some g → v'.ownBlock = some g → i = j
  ng : ∀ (i : Nat) (v : Value), vs[i]? = some v → v.ownBlock ≠ some G
theorem GRow.gr {w w' : World} {base G : Nat} {vs : List Value} {L : List (List Nat)} (h : GRow w base G vs L) (k : Gr w w') : GRow w' base G vs L := by
  refine ⟨k.block h.blk, h.len, fun i v l hv hl => own_same (h.own i v l hv hl) fun g hg => ?_, h.apart, h.ng⟩
  exact Below.block k g (own_in (h.own i v l hv hl) hg).1
theorem GRow.zero {w : World} {base G m : Nat} (h : w.heap[G]? = some (.cells (Array.replicate m (Value.slice none 0 0)) 30 (0, 0))) : GRow w base G (List.replicate m (Value.slice none 0 0)) (List.replicate m []) := by
  have hz : ∀ (i : Nat) (v : Value), (List.replicate m (Value.slice none 0 0))[i]? = some v → v = Value.slice none 0 0 := fun i v hv => (List.mem_replicate.1 (List.mem_of_getElem? hv)).2
  refine ⟨by rw [h]; simp, by simp, fun i v l hv hl => ?_, fun i j v v' g hv _ hg _ => ?_, fun i v hv e => ?_⟩
  · obtain rfl := hz i v hv
    obtain rfl : l = [] := (List.mem_replicate.1 (List.mem_of_getElem? hl)).2
    exact World.ownsRow_nil _ _ _ _
  · obtain rfl := hz i v hv
    cases hg
  · obtain rfl := hz i v hv
    cases e
theorem GRow.put {w w' : World} {base G : Nat} {vs : List Value} {L : List (List Nat)} (h : GRow w base G vs L) {i : Nat} {v v' : Value} {l : List Nat} (hv : vs[i]? = some v) (hl : L[i]? = some l) (hg : w.grownBy w' v.ownBlock) (l' : List Nat)
    (hown : w'.ownsRow base 3 1 v' l'.length (nats l')) (hat : v'.ownBlock = v.ownBlock ∨ v'.ownBlock = some w.heap.size) : GRow (w'.setCell ⟨G, i, none⟩ v') base G (vs.set i v') (L.set i l') := by
  have hG := (Array.getElem?_eq_some_iff.1 h.blk).1
  have hb : w'.heap[G]? = some (.cells vs.toArray 30 (0, 0)) := by rw [hg.block G hG (fun e => h.ng i v hv e.symm)]; exact h.blk
  have hnG : v'.ownBlock ≠ some G := by
    rcases hat with e | e
    · rw [e]; exact h.ng i v hv
    · rw [e]; intro q; cases q; omega
  have hnew : ∀ j u g, j ≠ i → vs[j]? = some u → u.ownBlock = some g → v'.ownBlock ≠ some g := fun j u g hj hu hug => by
    rcases hat with e | e
    · rw [e]; intro q; exact hj (h.apart j i u v g hu hv hug q)
    · rw [e]; intro q; cases q
      obtain ⟨l2, hl2⟩ : ∃ l2, L[j]? = some l2 := ⟨L[j]'(by rw [← h.len]; exact (List.getElem?_eq_some_iff.1 hu).1), List.getElem?_eq_getElem _⟩
      have := (own_in (h.own j u l2 hu hl2) hug).1
      omega
  refine ⟨?_, by simp [h.len], fun j u l2 hu hl2 => ?_, fun j k u u' g hu hu' hug hug' => ?_, fun j u hu => ?_⟩
  · have := heap_setCell_same w' G i vs.toArray 30 v' hb
    simpa using this
  · by_cases e : j = i
    · subst e
      rw [List.getElem?_set_self (List.getElem?_eq_some_iff.1 hv).1] at hu
      rw [List.getElem?_set_self (List.getElem?_eq_some_iff.1 hl).1] at hl2
      cases hu
      cases hl2
      exact own_same hown fun g q => heap_setCell_other _ _ _ _ (fun r => hnG (by rw [q]; exact congrArg some r))
    · rw [List.getElem?_set_ne (Ne.symm e)] at hu hl2
      have ho := h.own j u l2 hu hl2
      refine own_same ho fun g q => ?_
      rw [heap_setCell_other _ _ _ _ (show g ≠ G from fun r => h.ng j u hu (by rw [q, r]))]
      exact hg.block g (own_in ho q).1 (fun r => e (h.apart j i u v g hu hv q r.symm))
  · by_cases e : j = i
    · by_cases e' : k = i
      · rw [e, e']
      · subst e
        rw [List.getElem?_set_self (List.getElem?_eq_some_iff.1 hv).1] at hu
        rw [List.getElem?_set_ne (Ne.symm e')] at hu'
        cases hu
        exact absurd hug (hnew k u' g e' hu' hug')
    · rw [List.getElem?_set_ne (Ne.symm e)] at hu
      by_cases e' : k = i
      · subst e'
        rw [List.getElem?_set_self (List.getElem?_eq_some_iff.1 hv).1] at hu'
        cases hu'
        exact absurd hug' (hnew j u g e hu hug)
      · rw [List.getElem?_set_ne (Ne.symm e')] at hu'
        exact h.apart j k u u' g hu hu' hug hug'
  · by_cases e : j = i
    · subst e
      rw [List.getElem?_set_self (List.getElem?_eq_some_iff.1 hv).1] at hu
      cases hu
      exact hnG
    · rw [List.getElem?_set_ne (Ne.symm e)] at hu
      exact h.ng j u hu
theorem GRow.cell {w : World} {base G : Nat} {vs : List Value} {L : List (List Nat)} (h : GRow w base G vs L) {i : Nat} {v : Value} (hv : vs[i]? = some v) : w.cell? ⟨G, i, none⟩ = some v := by
  rw [cell_of_row w G i _ _ (0, 0) h.blk]
  simpa using hv
theorem GRow.frozen {w : World} {base G : Nat} {vs : List Value} {L : List (List Nat)} (h : GRow w base G vs L) (i : Nat) : w.frozen? ⟨G, i, none⟩ = false := frozen_of_row w G i _ _ h.blk
theorem row_shape {w : World} {b n : Nat} {v : Value} {l : List Value} (h : w.ownsRow b 3 1 v n l) : ∃ p c, v = .slice p n c ∧ n ≤ c ∧ c ≤ maxLen := by
  rcases h.2 with ⟨rfl, rfl⟩ | ⟨g, cap, cur, rfl, _, _, h1, h2, _⟩
  · exact ⟨none, 0, rfl, Nat.le_refl _, by unfold maxLen; omega⟩
  · exact ⟨_, cap, rfl, h1, h2⟩
end Go.Proofs.YtlcbdgmclhdofaaGreatDoor
namespace Go.Proofs.YtlcbdgmclhdofaaGreatDoor
open Go.RowKit Go.Lib
set_option linter.unusedSimpArgs false
set_option linter.unusedVariables false
theorem grpN_cases (m p : Nat) : ∃ x y z, x = p % m ∧ y = p / m ∧ z = y % 2 ∧ (z = 0 ∨ z = 1) ∧ Int.tmod (p : Int) (m : Int) = (x : Int) ∧ Int.tdiv (p : Int) (m : Int) = (y : Int) ∧ Int.tmod (y : Int) 2 = (z : Int) ∧ grpN m p = if z = 1 then m - 1 - x else x := by
  refine ⟨p % m, p / m, p / m % 2, rfl, rfl, rfl, Nat.mod_two_eq_zero_or_one _, ?_, ?_, ?_, rfl⟩
  · rw [Int.tmod_eq_emod_of_nonneg (Int.natCast_nonneg _)]; rfl
  · rw [Int.tdiv_eq_ediv_of_nonneg (Int.natCast_nonneg _)]; rfl
  · rw [Int.tmod_eq_emod_of_nonneg (Int.natCast_nonneg _)]; rfl
theorem grpL_put {m : Nat} {r : List Nat} {k a : Nat} {l : List Nat} (hr : r[k]? = some a) (hl : (grpL m r k)[grpN m k]? = some l) : grpL m r (k + 1) = (grpL m r k).set (grpN m k) (l ++ [a]) := by
  show (grpL m r k).set (grpN m k) ((grpL m r k).getD (grpN m k) [] ++ [r.getD k 0]) = _
  simp [List.getD_eq_getElem?_getD, hr, hl]
set_option maxHeartbeats 4000000 in
set_option maxRecDepth 100000 in
theorem groups_good (v : Value) (n mn kn : Nat) (P : List Nat → Prop) (w : World) (hm0 : 1 ≤ mn) (hm : mn ≤ 16) (hr : ∀ r, P r → r.length = n) (h1 : n ≤ 160)
    (HCk : ∀ W, Gr w W → Calls Tryz.prog 10 #[v] W fun e w' => e = .returned (.int .i64 0) ∧ Gr W w')
    (HSd : ∀ W, Gr w W → Calls Tryz.prog 53 #[v, .int .i64 (kn : Int)] W fun e w' => ∃ p r, e = .returned (.tuple #[.slice p n n, .int .i64 0]) ∧ P r ∧ (0 < n → ∃ g, p = some ⟨g, 0, none⟩ ∧ OrdAt w' g r) ∧ Gr W w') :
    Calls Tryz.prog 12 #[v, .int .i64 (mn : Int), .int .i64 (kn : Int)] w fun e w' => ∃ G vs r, e = .returned (.tuple #[.slice (some ⟨G, 0, none⟩) mn mn, .int .i64 0]) ∧ P r ∧ GRow w' G G vs (grpL mn r n) ∧ Gr w w' := by
  obtain ⟨e2, h2', H2⟩ := range_e (mn : Int) 1 16
  have he2 : e2 = 0 := by
    rw [h2']
    unfold outE outB
    rw [decide_eq_false (by omega), decide_eq_false (by omega)]
    rfl
  subst he2
  replace HCk := Lib.hid HCk
  replace HSd := Lib.hid HSd
  replace H2 := Lib.hid H2
  have HR0 := Lib.hid hr
  have HF := Lib.hid (fun b c W (s0 : W.cell? ⟨b, 0, none⟩ = some (.int .i64 0)) s1 => first_pair 0 0 b c W s0 s1)
  have HMK := Lib.hid (make_rows mn (by omega))
  obtain ⟨i0, hi, hz0, hz1, hz2⟩ := info_parts info3
  clear h2' hr
  go_enter Tryz.func12, Tryz.ntmps12
  go_wp2_with fail
  refine (HCk.out _ (Gr.refl w)).mono ?_
  rintro e W1 ⟨rfl, g1⟩
  go_wp2_with fail
  refine (H2.out _).mono ?_
  rintro e w' ⟨rfl, rfl⟩
  obtain ⟨W2, hW2, g2, s0, s1⟩ := box2 W1 (.int .i64 0) (.int .i64 0) 28
  go_wp2_with fail
  refine (HF.out _ _ _ s0 s1).mono ?_
  rintro e w' ⟨rfl, rfl⟩
  clear s0 s1 hW2
  go_wp2_with fail
  refine (HSd.out _ (g1.trans g2)).mono ?_
  rintro e W3 ⟨p, r, rfl, hP, hp, g3⟩
  have HR := Lib.hid (HR0.out r hP)
  have HPr := Lib.hid hP
  clear hP
  have HP := Lib.hid hp
  have HG3 := Lib.hid ((g1.trans g2).trans g3)
  have hmk := HMK.out W3
  have HZ := Lib.hid (GRow.zero (base := W3.heap.size) (m := mn) (heap_alloc_new W3 (.cells (Array.replicate mn (Value.slice none 0 0)) 30)))
  have HPG := Lib.hid ((Gr.refl W3).alloc (.cells (Array.replicate mn (Value.slice none 0 0)) 30))
  clear hp g1 g2 g3
  go_wp2_with fail
  generalize W3.alloc (.cells (Array.replicate mn (Value.slice none 0 0)) 30) = W4 at *
  clear hmk
  go_loopg [12, 13, 14, 37] n (fun gk s12 s13 s14 s37 wr => ∃ (k : Nat) (vs : List Value), s37 = .int .i64 k ∧ gk + k = n ∧ GRow wr W3.heap.size W3.heap.size vs (grpL mn r k) ∧ Gr W3 wr)
  case atStart => exact ⟨0, _, rfl, by omega, HZ.out, HPG.out⟩
  case round =>
    obtain ⟨k, vs, rfl, hgk, hrow, hg⟩ := hrel
    by_cases hlt : k < n
    · obtain ⟨a, ha⟩ : ∃ a, r[k]? = some a := ⟨_, List.getElem?_eq_getElem (by have := HR.out; omega)⟩
      obtain ⟨g, rfl, hat⟩ := HP.out (by omega)
      have f0 := hg.cell (hat.at_ k a ha)
      obtain ⟨x, y, z, hx, hy, hz, hz01, t1, t2, t3, hGN⟩ := grpN_cases mn k
      have hyw : IntKind.i64.wrap (y : Int) = y := by rw [IntKind.wrap_i64] <;> (have := Nat.div_le_self k mn; omega)
      have hxl : x < mn := by rw [hx]; exact Nat.mod_lt _ (by omega)
      have hil := grpN_lt (m := mn) (p := k) (by omega)
      have hLl := grpL_len mn r k
      obtain ⟨l, hl⟩ : ∃ l, (grpL mn r k)[grpN mn k]? = some l := ⟨_, List.getElem?_eq_getElem (by rw [hLl]; exact hil)⟩
      obtain ⟨vi, hvi⟩ : ∃ v, vs[grpN mn k]? = some v := ⟨_, List.getElem?_eq_getElem (by rw [hrow.len, hLl]; exact hil)⟩
      have hll := grpL_le mn r k l (List.mem_of_getElem? hl)
      have HPUT := Lib.hid (grpL_put ha hl)
      have hki : (k : Int) < n := by omega
      have hown := hrow.own _ vi l hvi hl
      have fG := hrow.cell hvi
      generalize grpL mn r k = Lk at *
      generalize grpN mn k = i at *
      have HRW := Lib.hid hrow
      have HV := Lib.hid hvi
      have HL := Lib.hid hl
      have HGG := Lib.hid hg
      have HBS : Hid (W3.heap.size ≤ wr.heap.size) := hg.size
      have HLL := Lib.hid hll
      clear hrow hvi hl hg hat ha hx hy hz hll hLl
      have step : ∀ w1 v1, w1.ownsRow W3.heap.size 3 1 v1 (l.length + 1) (nats l ++ [.int .i64 (a : Int)]) → (wr.alloc (.cells #[.int .i64 (a : Int)] 3)).grownBy w1 vi.ownBlock → (v1.ownBlock = vi.ownBlock ∨ v1.ownBlock = some (wr.alloc (.cells #[.int .i64 (a : Int)] 3)).heap.size) →
          w1.cell? ⟨W3.heap.size, i, none⟩ = some vi ∧ w1.frozen? ⟨W3.heap.size, i, none⟩ = false ∧ GRow (w1.setCell ⟨W3.heap.size, i, none⟩ v1) W3.heap.size W3.heap.size (vs.set i v1) (grpL mn r (k + 1)) ∧ Gr W3 (w1.setCell ⟨W3.heap.size, i, none⟩ v1) := fun w1 v1 ho hgr hat => by
        have hA := HRW.out.gr ((Gr.refl wr).alloc (.cells #[.int .i64 (a : Int)] 3))
        have hB : w1.heap[W3.heap.size]? = (wr.alloc (.cells #[.int .i64 (a : Int)] 3)).heap[W3.heap.size]? := hgr.block _ (Array.getElem?_eq_some_iff.1 hA.blk).1 (fun e => hA.ng i vi HV.out e.symm)
        refine ⟨?_, ?_, ?_, ?_⟩
        · rw [World.cell?_of_block (a := ⟨W3.heap.size, i, none⟩) hB]; exact hA.cell HV.out
        · rw [World.frozen?_of_block (a := ⟨W3.heap.size, i, none⟩) hB]; exact hA.frozen i
        · rw [HPUT.out]
          refine hA.put HV.out HL.out hgr (l ++ [a]) ?_ hat
          rw [nats_add, List.length_append]
          exact ho
        · refine Below.setCell (Below.grown (HGG.out.alloc _) hgr ?_ (fun j hj => ?_)) (p := ⟨W3.heap.size, i, none⟩) (Nat.le_refl _) v1
          · simp; have := HBS.out; omega
          · exact (own_in (hA.own i vi l HV.out HL.out) hj).2
      have STEP := Lib.hid step
      clear step
      rcases hz01 with rfl | rfl
      · obtain rfl : i = x := hGN
        have q1 : ((0 : Nat) : Int) = 0 := rfl
        go_wp2_with (first
          | (at_builtin; refine wpList_append_own_at _ rfl _ _ 30 rfl W3.heap.size 3 i0 (.int .i64 0) 1 8 Tryz.underlying30 hi hz0 hz1 hz2 rfl (by decide) _ _ _ rfl ((own_kept hown ((Gr.refl wr).alloc _))) ⟨wr.heap.size, 0, none⟩ 1 1 [.int .i64 (a : Int)] rfl rfl (cell_one_new _ _ _) (by intro u hu; simp at hu; subst hu; rfl) (by unfold maxLen; have := HLL.out; omega) (by have := HLL.out; omega) (by simp; have := HBS.out; omega) ?_; intro v1 w1 hown1 hgrow1 hnil1 hat1; obtain ⟨p1, cc1, rfl, hs1, hs2⟩ := row_shape hown1; obtain ⟨c1, c2, c3, c4⟩ := STEP.out w1 _ hown1 hgrow1 hat1; have C3 := Lib.hid c3; have C4 := Lib.hid c4; clear c3 c4 hown1 hgrow1 hnil1 hat1 hs1 hs2))
        go_roundg (gk - 1)
        case measure => omega
        case rel => exact ⟨k + 1, _, by go_num, by omega, C3.out, C4.out⟩
      · have hii : ((mn : Int) - 1 - (x : Int)) = (i : Int) := by rw [if_pos rfl] at hGN; omega
        have hiw : IntKind.i64.wrap (i : Int) = i := by rw [IntKind.wrap_i64]; omega
        clear hGN
        have q1 : ((1 : Nat) : Int) = 1 := rfl
        go_wp2_with (first
          | (at_builtin; refine wpList_append_own_at _ rfl _ _ 30 rfl W3.heap.size 3 i0 (.int .i64 0) 1 8 Tryz.underlying30 hi hz0 hz1 hz2 rfl (by decide) _ _ _ rfl ((own_kept hown ((Gr.refl wr).alloc _))) ⟨wr.heap.size, 0, none⟩ 1 1 [.int .i64 (a : Int)] rfl rfl (cell_one_new _ _ _) (by intro u hu; simp at hu; subst hu; rfl) (by unfold maxLen; have := HLL.out; omega) (by have := HLL.out; omega) (by simp; have := HBS.out; omega) ?_; intro v1 w1 hown1 hgrow1 hnil1 hat1; obtain ⟨p1, cc1, rfl, hs1, hs2⟩ := row_shape hown1; obtain ⟨c1, c2, c3, c4⟩ := STEP.out w1 _ hown1 hgrow1 hat1; have C3 := Lib.hid c3; have C4 := Lib.hid c4; clear c3 c4 hown1 hgrow1 hnil1 hat1 hs1 hs2))
        go_roundg (gk - 1)
        case measure => omega
        case rel => exact ⟨k + 1, _, by go_num, by omega, C3.out, C4.out⟩
    · obtain rfl : k = n := by omega
      have HRW := Lib.hid hrow
      have HGG := Lib.hid (HG3.out.trans hg)
      clear hrow hg
      go_wp2_with fail
      exact bodyPost_ret (v := .tuple #[.slice (some ⟨W3.heap.size, 0, none⟩) mn mn, .int .i64 0]) (by simp [results, Tryz.results12, go_sem]) rfl ⟨_, _, r, rfl, HPr.out, HRW.out, HGG.out⟩
end Go.Proofs.YtlcbdgmclhdofaaGreatDoor
