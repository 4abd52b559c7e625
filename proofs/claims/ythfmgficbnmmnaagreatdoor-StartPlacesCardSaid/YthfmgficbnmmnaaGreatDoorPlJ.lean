/- Places: the error; the law's copy; places compared. -/
import Derived.Test.YthfmgficbnmmnaaGreatDoorPlH
namespace Go.Proofs.YthfmgficbnmmnaaGreatDoor
open Go.RowKit Go.Lib
set_option linter.unusedSimpArgs false
set_option linter.unusedVariables false
set_option maxHeartbeats 4000000 in
set_option maxRecDepth 100000 in
theorem places_err (xs : List Rd) (v : Value) (w : World) (hv : RdAts w v xs) (hs : ∀ x ∈ xs, x.l.length ≤ 34) (h0 : roundsE (xs.map Rd.l) ≠ 0) :
    Calls Tryz.prog 13 #[v] w fun e w' => e = .returned (.tuple #[.slice none 0 0, .int .i64 (roundsE (xs.map Rd.l))]) ∧ Gr w w' := by
  have HC := Lib.hid (checkRounds_c xs v w hv hs)
  obtain ⟨⟨p, cap, rfl, _, _⟩⟩ := hv
  have q1 : (roundsE (xs.map Rd.l) != 0) = true := bne_iff_ne.2 h0
  generalize roundsE (xs.map Rd.l) = z at *
  generalize xs.length = n at *
  clear h0
  go_enter Tryz.func13, Tryz.ntmps13
  go_wp2_with fail
  refine HC.out.mono ?_
  rintro e W1 ⟨rfl, g1⟩
  go_wp2_with fail
  exact bodyPost_ret (v := .tuple #[.slice none 0 0, .int .i64 z]) (by simp [results, Tryz.results13, go_sem]) rfl ⟨rfl, g1⟩
/-- returned places -/
structure RetPl (e : Ending) (w w' : World) (l : List PlR) : Prop where
  mk' ::
  out : ∃ q c, e = .returned (.slice q l.length c) ∧ PlS w' q l ∧ Gr w w'
theorem infoPlR : (Tryz.prog.info? 106).map (fun i => (i.zero, i.size, i.bytes)) = some (some (.agg #[.string ⟨#[]⟩, .int .i64 0]), 2, 24) := by kernel_rfl
set_option maxHeartbeats 4000000 in
set_option maxRecDepth 100000 in
theorem placesCopy_c (l : List PlR) (q : Option Addr) (n c : Nat) (w : World) (h : PlS w q l) (hn : l.length = n) (h1 : n ≤ 1000) :
    Calls Tryz.prog 16 #[.slice q n c] w fun e w' => RetPl e w w' l := by
  obtain ⟨i0, hi, hz0, hz1, hz2⟩ := info_parts infoPlR
  have HR := Lib.hid h.out
  have HN := Lib.hid hn
  clear h hn
  go_enter Tryz.func16, Tryz.ntmps16
  go_wp2_with fail
  go_loopg [3, 4] n (fun gk s3 s4 wr => ∃ i : Nat, s4 = .int .i64 (i : Int) ∧ gk + i = n ∧ wr.ownsRow w.heap.size 106 2 s3 i (plCs (l.take i)) ∧ Hid (Gr w wr))
  case atStart => exact ⟨0, rfl, by omega, World.ownsRow_nil _ _ _ _, Gr.refl _⟩
  case round =>
    obtain ⟨i, rfl, hgk, hown, HG⟩ := hrel
    have hsz := HG.out.size
    by_cases hlt : i < n
    · obtain ⟨x, hx⟩ : ∃ x, l[i]? = some x := ⟨l[i]'(by have := HN.out; omega), List.getElem?_eq_getElem _⟩
      obtain ⟨b, off, rfl, hc⟩ := HR.out (by have := HN.out; omega)
      obtain ⟨a0, a1⟩ := hc i x hx
      replace a0 := Gr.cell HG.out a0
      replace a1 := Gr.cell HG.out a1
      have hlt2 : (i : Int) < (n : Int) := by omega
      have HT : Hid (plCs (l.take (i + 1)) = plCs (l.take i) ++ plC x) := by rw [Hid, List.take_add_one, hx]; exact plCs_add _ _
      obtain ⟨xa, xk⟩ := x
      simp only at a0 a1
      clear hx hc
      go_wp2_with (at_builtin; refine wpList_append_own _ rfl _ _ 44 rfl w.heap.size 106 i0 (.agg #[.string ⟨#[]⟩, .int .i64 0]) 2 24 Tryz.underlying44 hi hz0 hz1 hz2 rfl (by decide) _ _ _ rfl (hown.alloc _) ⟨wr.heap.size, 0, none⟩ 1 1 [.string xa, .int .i64 xk] rfl rfl (cell_two6 _ _ _ _) (by intro u hu; simp at hu; rcases hu with rfl | rfl <;> rfl) (by unfold maxLen; omega) (by omega) (by simp; omega) ?_; intro v1 w1 hown1 hgrow1 _)
      have HGR : Hid (Gr w w1) := Below.grown (HG.out.alloc _) hgrow1 (by simp; omega) (fun q hq => (own_in hown hq).2)
      have HO1 := Lib.hid hown1
      clear hown1 hgrow1 hown
      go_roundg (gk - 1)
      case measure => omega
      case rel => exact ⟨i + 1, by go_num, by omega, by have := HO1.out; rw [HT.out]; exact this, HGR⟩
    · obtain rfl : n = i := by omega
      have hlt2 : ¬ (n : Int) < (n : Int) := by omega
      rw [List.take_of_length_le (by have := HN.out; omega)] at hown
      obtain ⟨p9, c9, rfl, _, _⟩ := own_shape hown
      have HV : Hid (PlS wr p9 l) := PlS.of_own hown HN.out
      clear hown
      go_wp2_with fail
      go_ret
      exact ⟨_, _, by rw [HN.out]; rfl, HV.out, HG.out⟩
set_option maxHeartbeats 4000000 in
set_option maxRecDepth 100000 in
theorem samePl_c (l : List PlR) (q1 q2 : Option Addr) (n c1 c2 : Nat) (w : World) (h1 : PlS w q1 l) (h2 : PlS w q2 l) (hn : l.length = n) (hs : n ≤ 1000) :
    Calls Tryz.prog 15 #[.slice q1 n c1, .slice q2 n c2] w fun e w' => e = .returned (.bool true) ∧ Gr w w' := by
  have HA := Lib.hid h1.out
  have HB := Lib.hid h2.out
  have HN := Lib.hid hn
  have t0 : ((n : Int) != (n : Int)) = false := bne_self_eq_false _
  clear h1 h2 hn
  go_enter Tryz.func15, Tryz.ntmps15
  go_wp2_with fail
  go_loopg [5] n (fun gk s5 wr => ∃ k : Nat, s5 = .int .i64 (k : Int) ∧ gk + k = n ∧ Gr w wr)
  case atStart => exact ⟨0, rfl, by omega, Gr.refl _⟩
  case round =>
    obtain ⟨k, rfl, hk, hg⟩ := hrel
    by_cases hlt : k < n
    · obtain ⟨x, hx⟩ : ∃ x, l[k]? = some x := ⟨l[k]'(by have := HN.out; omega), List.getElem?_eq_getElem _⟩
      obtain ⟨b1, o1, rfl, ha⟩ := HA.out (by have := HN.out; omega)
      obtain ⟨b2, o2, rfl, hb⟩ := HB.out (by have := HN.out; omega)
      obtain ⟨a0, a1⟩ := ha k x hx
      obtain ⟨d0, d1⟩ := hb k x hx
      replace a0 := hg.cell a0
      replace a1 := hg.cell a1
      replace d0 := hg.cell d0
      replace d1 := hg.cell d1
      have hi : (k : Int) < (n : Int) := by omega
      obtain ⟨xa, xk⟩ := x
      simp only at a0 a1 d0 d1
      clear hx ha hb
      go_wp2_with fail
      go_big_quiet (fail)
      go_wp2_with fail
      go_roundg (gk - 1)
      case measure => omega
      case rel => exact ⟨k + 1, by go_num, by omega, hg.drewN _⟩
    · obtain rfl : k = n := by omega
      have hi : (k : Int) ≤ k := by omega
      go_wp2_with fail
      go_ret
      exact ⟨rfl, hg⟩
end Go.Proofs.YthfmgficbnmmnaaGreatDoor
