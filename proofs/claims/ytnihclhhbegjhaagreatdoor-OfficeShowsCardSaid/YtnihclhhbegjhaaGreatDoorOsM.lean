/- Archives (chapter 10): Rounds of both. -/
import Derived.Test.YtnihclhhbegjhaaGreatDoorOsL
namespace Go.Proofs.YtnihclhhbegjhaaGreatDoor
open Go.RowKit Go.Lib
set_option linter.unusedSimpArgs false
set_option linter.unusedVariables false
theorem infoW : (Tryz.prog.info? 9).map (fun i => (i.zero, i.size, i.bytes)) = some (some (.string ⟨#[]⟩), 1, 16) := by kernel_rfl
/-- names that are returned, with an error -/
structure RetWU (e : Ending) (w' : World) (L : List ByteArray) (A : Int) : Prop where
  mk' ::
  out : ∃ v, e = .returned (.tuple #[v, .int .i64 A]) ∧ StrAts w' v L
theorem str_nil (w : World) : StrAts w (.slice none 0 0) [] := ⟨none, 0, rfl, ⟨Nat.le_refl _, by unfold maxLen; omega⟩, fun h => absurd h (by simp)⟩
set_option maxHeartbeats 8000000 in
set_option maxRecDepth 100000 in
theorem rounds_err {w : World} {q : Option Addr} {l : List EnR} {n cap : Nat} (hn : n = l.length) (h1 : n ≤ 1000) (hr : EnS w q l) (hf : Few l) (he : archE l ≠ 0) :
    Calls Tryz.prog 22 #[.agg #[.slice q n cap]] w fun e w' => RetWU e w' [] (archE l) ∧ Gr w w' := by
  have HCA := Lib.hid (fun V (g : Gr w V) => checkArch_c (cap := cap) hn h1 (hr.gr g) hf)
  have hz : (archE l != 0) = true := bne_iff_ne.2 he
  generalize archE l = z at *
  obtain ⟨W1, hW1, g1, a0⟩ := box1 w (.slice q n cap) 24
  have HW := Lib.hid hW1
  clear hW1 hr hf hn he
  go_enter Tryz.func22, Tryz.ntmps22
  go_wp2_with fail
  rw [HW.out]
  clear HW
  go_wp2_with fail
  refine (HCA.out _ g1).mono ?_
  rintro e W2 ⟨rfl, hg2⟩
  go_wp2_with fail
  exact bodyPost_ret (v := .tuple #[.slice none 0 0, .int .i64 z]) (by simp [results, Tryz.results22, go_sem]) rfl ⟨⟨_, rfl, str_nil _⟩, g1.trans hg2⟩
set_option maxHeartbeats 8000000 in
set_option maxRecDepth 100000 in
theorem rounds_ok {w : World} {q : Option Addr} {l : List EnR} {n cap : Nat} (hn : n = l.length) (h1 : n ≤ 1000) (hr : EnS w q l) (hf : Few l) (he : archE l = 0) :
    Calls Tryz.prog 22 #[.agg #[.slice q n cap]] w fun e w' => RetWU e w' (rdR l) 0 ∧ Gr w w' := by
  have HCA := Lib.hid (fun V (g : Gr w V) => checkArch_c (cap := cap) hn h1 (hr.gr g) hf)
  rw [he] at HCA
  obtain ⟨i0, hi, hz0, hz1, hz2⟩ := info_parts infoW
  have HI0 := Lib.hid (And.intro hi (And.intro hz0 (And.intro hz1 hz2)))
  have HN := Lib.hid hn
  have HR := Lib.hid hr.out
  obtain ⟨W1, hW1, g1, a0⟩ := box1 w (.slice q n cap) 24
  have HW := Lib.hid hW1
  clear hW1 hr hf hn he hi hz0 hz1 hz2
  go_enter Tryz.func22, Tryz.ntmps22
  go_wp2_with fail
  rw [HW.out]
  clear HW
  go_wp2_with fail
  refine (HCA.out _ g1).mono ?_
  rintro e W2 ⟨rfl, hg2⟩
  replace a0 := hg2.cell a0
  have HG2 := Lib.hid (g1.trans hg2)
  clear g1 hg2 HCA
  go_wp2_with fail
  clear a0
  go_loopg [5, 16] n (fun gk s5 s16 wr => ∃ i : Nat, s16 = .int .i64 (i : Int) ∧ gk + i = n ∧ Hid (wr.ownsRow w.heap.size 9 1 s5 i (rdC (l.take i))) ∧ Hid (Gr w wr))
  case atStart => exact ⟨0, rfl, by omega, World.ownsRow_nil _ _ _ _, HG2.out⟩
  case round =>
    obtain ⟨i, rfl, hgk, HOWN, HG⟩ := hrel
    have hszw := HG.out.size
    by_cases hlt : i < n
    · obtain ⟨x, hx⟩ : ∃ x, l[i]? = some x := ⟨l[i]'(by have := HN.out; omega), List.getElem?_eq_getElem _⟩
      obtain ⟨b, off, rfl, hc⟩ := HR.out (by have := HN.out; omega)
      obtain ⟨a0, a1, a2, a3, a4, a5, a6, _⟩ := (hc i x hx).gr HG.out
      have hlt2 : (i : Int) < (n : Int) := by omega
      have HT : Hid (rdC (l.take (i + 1)) = rdC (l.take i) ++ [.string x.ro]) := by rw [Hid, List.take_add_one, hx]; exact rdC_add _ _
      have gB := (Gr.refl wr).alloc (.cells #[.string x.de, .int .i64 x.nu, .int .i64 x.ck, .string x.ro, .int .i64 x.va, .string x.st, .slice x.p x.n x.cap] 77)
      have HGB := Lib.hid (HG.out.trans gB)
      have HOB := Lib.hid (own_kept HOWN.out gB)
      obtain ⟨hi, hz0, hz1, hz2⟩ := HI0.out
      have gC := (Gr.refl (wr.alloc (.cells #[.string x.de, .int .i64 x.nu, .int .i64 x.ck, .string x.ro, .int .i64 x.va, .string x.st, .slice x.p x.n x.cap] 77))).alloc (.cells #[.string x.ro] 9)
      have hownC := own_kept HOB.out gC
      have HGC := Lib.hid (HGB.out.trans gC)
      have hszC := HGC.out.size
      have HC1 := cell_one_new (wr.alloc (.cells #[.string x.de, .int .i64 x.nu, .int .i64 x.ck, .string x.ro, .int .i64 x.va, .string x.st, .slice x.p x.n x.cap] 77)) (.string x.ro) 9
      rw [World.size_alloc] at HC1
      clear hx hc gB gC
      go_wp2_with (at_builtin; refine wpList_append_own _ rfl _ _ 52 rfl w.heap.size 9 i0 (.string ⟨#[]⟩) 1 16 Tryz.underlying52 hi hz0 hz1 hz2 rfl (by decide) _ _ _ rfl hownC ⟨wr.heap.size + 1, 0, none⟩ 1 1 [.string x.ro] rfl rfl HC1 (fun u hu => by simp at hu; subst hu; rfl) (by unfold maxLen; omega) (by omega) hszC ?_; intro v1 w1 hown1 hgrow1 hnil)
      have HGR : Hid (Gr w w1) := Below.grown HGC.out hgrow1 hszC (fun q hq => (own_in hownC hq).2)
      have HO1 := Lib.hid hown1
      clear hown1 hgrow1 hownC hnil
      go_wp2_with fail
      go_roundg (gk - 1)
      case measure => omega
      case rel => exact ⟨i + 1, by go_num, by omega, by rw [HT.out]; exact HO1.out, HGR⟩
    · obtain rfl : n = i := by omega
      have hlt2 : ¬ (n : Int) < (n : Int) := by omega
      obtain ⟨q2, c2, rfl, hc21, hc22⟩ := own_shape HOWN.out
      have hown := HOWN.out
      rw [List.take_of_length_le (by have := HN.out; omega)] at hown
      have HST := Lib.hid (sortW_c (c := c2) HN.out h1 HG.out hown)
      have HCM := Lib.hid (fun W9 (g9 : Gr w W9) h9 => compW_c (w := W9) (q := q2) (c := c2) HN.out h1 hc21 hc22 g9 h9)
      clear hown HOWN
      go_wp2_with fail
      refine HST.out.mono ?_
      rintro e W9 ⟨rfl, hg9, hs9⟩
      have HC9 := Lib.hid (HCM.out W9 hg9 hs9)
      clear hg9 hs9 HST HCM
      go_wp2_with fail
      refine HC9.out.mono ?_
      rintro e W10 ⟨⟨m, rfl, hst⟩, hg10⟩
      have HS := Lib.hid hst
      have HG10 := Lib.hid hg10
      clear hst hg10 HC9
      go_wp2_with fail
      exact bodyPost_ret (v := .tuple #[.slice q2 m c2, .int .i64 0]) (by simp [results, Tryz.results22, go_sem]) rfl ⟨⟨_, rfl, HS.out⟩, HG10.out⟩
end Go.Proofs.YtnihclhhbegjhaaGreatDoor
