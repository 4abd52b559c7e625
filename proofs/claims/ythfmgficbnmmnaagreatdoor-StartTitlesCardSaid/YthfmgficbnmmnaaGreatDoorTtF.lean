/- Titles: the law's copy of races whatever their capacity; Races for few names; bytes; races copied. -/
import Derived.Test.YthfmgficbnmmnaaGreatDoorGTtA
namespace Go.Proofs.YthfmgficbnmmnaaGreatDoor
open Go.RowKit Go.Lib
set_option linter.unusedSimpArgs false
set_option linter.unusedVariables false
set_option maxHeartbeats 4000000 in
set_option maxRecDepth 100000 in
theorem races6s_c {p : Option Addr} {cap n : Nat} {l : List RaR} {w : World} (hr : RaS w p l) (hn : n = l.length) (hb : n * 40 ≤ 140737488355328) :
    Calls Tryz.prog 7 #[.slice p n cap] w fun e w' => ∃ u, e = .returned u ∧ RaV w' u l ∧ Gr w w' := by
  obtain ⟨i0, hi, hz0, hz1, hz2⟩ := info_parts infoRaR
  have HN := Lib.hid hn
  have HR := Lib.hid hr.out
  have hnm : n ≤ 3518437208883 := by omega
  clear hr hn
  go_enter Tryz.func7, Tryz.ntmps7
  go_wp2_with fail
  go_loopg [3, 4] n (fun gk s3 s4 wr => ∃ i : Nat, s4 = .int .i64 (i : Int) ∧ gk + i = n ∧ wr.ownsRow w.heap.size 91 3 s3 i (raCs (l.take i)) ∧ Hid (Gr w wr))
  case atStart => exact ⟨0, rfl, by omega, World.ownsRow_nil _ _ _ _, Gr.refl _⟩
  case round =>
    obtain ⟨i, rfl, hgk, hown, HG⟩ := hrel
    have hsz := HG.out.size
    by_cases hlt : i < n
    · obtain ⟨x, hx⟩ : ∃ x, l[i]? = some x := ⟨l[i]'(by have := HN.out; omega), List.getElem?_eq_getElem _⟩
      obtain ⟨b, off, rfl, hc⟩ := HR.out (by have := HN.out; omega)
      obtain ⟨a0, a1, a2⟩ := hc i x hx
      replace a0 := Gr.cell HG.out a0
      replace a1 := Gr.cell HG.out a1
      replace a2 := Gr.cell HG.out a2
      have hlt2 : (i : Int) < (n : Int) := by omega
      have HT : Hid (raCs (l.take (i + 1)) = raCs (l.take i) ++ raC x) := by rw [Hid, List.take_add_one, hx]; exact raCs_add _ _
      obtain ⟨xa, xb, xw⟩ := x
      simp only at a0 a1 a2
      clear hx hc
      go_wp2_with (at_builtin; refine wpList_append_own _ rfl _ _ 28 rfl w.heap.size 91 i0 (.agg #[.string ⟨#[]⟩, .string ⟨#[]⟩, .int .i64 0]) 3 40 Tryz.underlying28 hi hz0 hz1 hz2 rfl (by decide) _ _ _ rfl (hown.alloc _) ⟨wr.heap.size, 0, none⟩ 1 1 [.string xa, .string xb, .int .i64 xw] rfl rfl (cell_three6 _ _ _ _ _) (by intro u hu; simp at hu; rcases hu with rfl | rfl | rfl <;> rfl) (by unfold maxLen; omega) (by omega) (by simp; omega) ?_; intro v1 w1 hown1 hgrow1 _)
      have HGR : Hid (Gr w w1) := Below.grown (HG.out.alloc _) hgrow1 (by simp; omega) (fun q hq => (own_in hown hq).2)
      have HO1 := Lib.hid hown1
      clear hown1 hgrow1 hown
      go_roundg (gk - 1)
      case measure => omega
      case rel => exact ⟨i + 1, by go_num, by omega, by have := HO1.out; rw [HT.out]; exact this, HGR⟩
    · obtain rfl : n = i := by omega
      have hlt2 : ¬ (n : Int) < (n : Int) := by omega
      have HV : Hid (RaV wr u3 l) := RaV.of_own HN.out.symm (by have := hown; rwa [List.take_of_length_le (by have := HN.out; omega)] at this)
      clear hown
      go_wp2_with fail
      go_ret
      exact ⟨_, rfl, HV.out, HG.out⟩
/-- what Races returns -/
structure RetRa (e : Ending) (w w' : World) (ns : List ByteArray) : Prop where
  mk' ::
  out : ∃ J q c N, e = .returned (.tuple #[.slice q N c, .int .i64 0]) ∧ N = 2 ^ J ∧ J ≤ 4 ∧ 2 ^ J ≤ ns.length ∧ ns.length ≤ 2 ^ (J + 1) ∧ RaS w' q (seedR ns J) ∧ Gr w w'
theorem racesT_c (ns : List ByteArray) (v : Value) (w : World) (hv : StrAts w v ns) (h : namesE ns = 0) (h32 : ns.length ≤ 32) :
    Calls Tryz.prog 19 #[v] w fun e w' => RetRa e w w' ns := by
  have hl := namesE_zero h
  by_cases h1 : ns.length = 1
  · refine (races_one ns v w hv h h1).mono ?_
    rintro e w' ⟨q, c, rfl, hr, hg⟩
    rw [firstR_seed0 h1] at hr
    exact ⟨0, q, c, 1, rfl, rfl, by omega, by rw [h1]; decide, by rw [h1]; decide, hr, hg⟩
  · refine (races_good ns v w hv h (by omega)).mono ?_
    rintro e w' ⟨q, k, N, c, rfl, h3, h4, h5, _, hr, hg⟩
    have hk : 1 ≤ k := by
      rcases k with _ | k
      · simp at h3; omega
      · omega
    obtain ⟨J, rfl⟩ : ∃ J, k = J + 1 := ⟨k - 1, by omega⟩
    rw [firstR_seed hk, Nat.add_sub_cancel] at hr h5
    rw [seedR_len] at h5
    have hJ : J ≤ 4 := by
      rcases Nat.lt_or_ge 4 J with h6 | h6
      · have : 2 ^ 5 ≤ 2 ^ J := Nat.pow_le_pow_right (by omega) h6
        rw [Nat.pow_succ] at h4
        omega
      · exact h6
    refine ⟨J, q, c, N, rfl, h5.symm, hJ, ?_, by omega, hr, hg⟩
    rw [Nat.pow_succ] at h4
    omega
/-- the slice holds these bytes -/
structure U8S (w : World) (v : Value) (ds : List Nat) : Prop where
  mk' ::
  out : ∃ p cap, v = .slice p ds.length cap ∧ (∀ d ∈ ds, d < 256) ∧ (0 < ds.length → ∃ b off, p = some ⟨b, off, none⟩ ∧ ∀ (i d : Nat), ds[i]? = some d → w.cell? ⟨b, off + i, none⟩ = some (.int .u8 (d : Int)))
theorem U8S.gr {w w' : World} {v : Value} {ds : List Nat} (h : U8S w v ds) (k : Gr w w') : U8S w' v ds := by
  obtain ⟨⟨p, cap, rfl, h8, hh⟩⟩ := h
  refine ⟨p, cap, rfl, h8, fun h0 => ?_⟩
  obtain ⟨b, off, e, hc⟩ := hh h0
  exact ⟨b, off, e, fun i d hd => k.cell (hc i d hd)⟩
theorem own_emptyR {w : World} {g base : Nat} {T : TypeId} (h : w.heap[g]? = some (.cells #[] T (0, 0))) (hb : base ≤ g) : w.ownsRow base T 3 (.slice (some ⟨g, 0, none⟩) 0 0) 0 [] :=
  ⟨rfl, .inr ⟨g, 0, #[], rfl, hb, h, Nat.le_refl _, by unfold maxLen; omega, rfl, rfl⟩⟩
theorem raCs_one (l : List RaR) : ∀ u ∈ raCs l, u.oneCell' = true := fun u hu => by
  unfold raCs at hu
  obtain ⟨r, _, hr⟩ := List.mem_flatMap.1 hu
  unfold raC at hr
  simp at hr
  rcases hr with rfl | rfl | rfl <;> rfl
theorem raS_cells {w : World} {b off : Nat} {l : List RaR} (hc : ∀ (i : Nat) (r : RaR), l[i]? = some r → w.cell? ⟨b, off + i * 3, none⟩ = some (.string r.a) ∧ w.cell? ⟨b, off + i * 3 + 1, none⟩ = some (.string r.b) ∧ w.cell? ⟨b, off + i * 3 + 2, none⟩ = some (.int .i64 r.w)) :
    ∀ (j : Nat) (u : Value), (raCs l)[j]? = some u → w.cell? ((⟨b, off, none⟩ : Addr).add j) = some u := by
  intro j u hu
  have e : (⟨b, off, none⟩ : Addr).add j = ⟨b, off + j, none⟩ := by unfold Addr.add; split <;> simp_all
  have hj := (List.getElem?_eq_some_iff.1 hu).1
  rw [raCs_len] at hj
  have hi : j / 3 < l.length := by omega
  obtain ⟨r, hr⟩ : ∃ r, l[j / 3]? = some r := ⟨_, List.getElem?_eq_getElem hi⟩
  obtain ⟨x0, x1, x2⟩ := raCs_at3 l _ r hr
  obtain ⟨c0, c1, c2⟩ := hc _ r hr
  have hm : j % 3 = 0 ∨ j % 3 = 1 ∨ j % 3 = 2 := by omega
  rw [e]
  rcases hm with h | h | h
  · rw [show j = j / 3 * 3 by omega, x0] at hu; cases hu
    rw [show off + j = off + j / 3 * 3 by omega]; exact c0
  · rw [show j = j / 3 * 3 + 1 by omega, x1] at hu; cases hu
    rw [show off + j = off + j / 3 * 3 + 1 by omega]; exact c1
  · rw [show j = j / 3 * 3 + 2 by omega, x2] at hu; cases hu
    rw [show off + j = off + j / 3 * 3 + 2 by omega]; exact c2
/-- one cell of a row of one's own is written -/
theorem own_setR {w : World} {base n s g cap i : Nat} {T : TypeId} {L : List Value} (u : Value) (h : w.ownsRow base T s (.slice (some ⟨g, 0, none⟩) n cap) n L) (hi : i < L.length) :
    (w.setCell ⟨g, i, none⟩ u).ownsRow base T s (.slice (some ⟨g, 0, none⟩) n cap) n (L.set i u) ∧ base ≤ g ∧ w.frozen? ⟨g, i, none⟩ = false ∧ w.cell? ⟨g, i, none⟩ = L[i]? := by
  rcases h.2 with ⟨e, _⟩ | ⟨g', cap', cur, e, hbg, hcur, hle, hmx, hsz, htk⟩
  · cases e
  simp only [Value.slice.injEq, Option.some.injEq, Addr.mk.injEq, and_true, true_and] at e
  obtain ⟨rfl, rfl⟩ := e
  refine ⟨⟨by rw [List.length_set]; exact h.1, .inr ⟨g, cap, _, rfl, hbg, heap_setCell_same w g i cur T u hcur, hle, hmx, by simpa using hsz, ?_⟩⟩, hbg, frozen_of_row w g i cur T hcur, ?_⟩
  · rw [← htk, Array.toList_setIfInBounds, List.take_set]
  · rw [cell_of_row w g i cur T (0, 0) hcur, ← htk, List.getElem?_take, if_pos (by have := h.1; rw [← htk] at hi; simp at hi; omega), Array.getElem?_toList]
end Go.Proofs.YthfmgficbnmmnaaGreatDoor
