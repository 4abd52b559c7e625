/- StartForwards: the law's walk. -/
import Derived.Test.YtenhodepaoaiiaaGreatDoorGFwE
import Derived.Test.YtenhodepaoaiiaaGreatDoorStX
import Derived.Test.YtenhodepaoaiiaaGreatDoorGLaid
namespace Go.Proofs.YtenhodepaoaiiaaGreatDoor
open Go.RowKit Go.Lib
set_option linter.unusedSimpArgs false
set_option linter.unusedVariables false
set_option maxHeartbeats 4000000
set_option maxRecDepth 100000
theorem shortRs_huge (p : Option Addr) (n c m : Nat) (w : World) (hm : m ≤ 160) (h2 : 162 < n) :
    Calls Tryz.prog 6 #[.slice p n c, .int .i64 m] w fun e w' => e = .returned (.bool false) ∧ w = w' := by
  have h3 : decide ((m : Int) < (n : Int)) = true := decide_eq_true (by omega)
  have h4 : decide ((n : Int) ≤ 160) = false := decide_eq_false (by omega)
  have h5 : decide ((162 : Int) < n) = true := decide_eq_true (by omega)
  go_enter Tryz.func6, Tryz.ntmps6
  go_wp2_with fail
  go_ret
  exact ⟨rfl, rfl⟩
/-- the law where the results are not short -/
theorem fw_not {p : Option Addr} {n c : Nat} {q : Option Addr} {l k0 : Nat} {m : Int} {w : World} (hS : ∀ W, Calls Tryz.prog 6 #[.slice p n c, .int .i64 16] W fun e w' => e = .returned (.bool false) ∧ W = w') (hA : AwakeOK w) :
    Calls Tryz.prog 3 #[.slice p n c, .int .i64 m, .slice q l k0] w fun e w' => e = .returned (.bool true) ∧ Gr w w' := by
  have HA : Hid (AwakeOK w) := hA
  have HS := Lib.hid hS
  clear hA hS
  go_enter Tryz.func3, Tryz.ntmps3
  go_wp2_with fail
  refine (HA.out _ (Gr.refl _)).mono ?_
  rintro e w1 ⟨rfl, g1⟩
  go_wp2_with fail
  refine (HS.out _).mono ?_
  rintro e w2 ⟨rfl, rfl⟩
  go_wp2_with (refine (HA.out _ g1).mono ?_; rintro e w2 ⟨rfl, g2⟩)
  go_ret
  exact ⟨rfl, g1.trans g2⟩
theorem firstE_two (a b : Int) : firstE [a, b] = if a = 0 then b else a := by
  by_cases h : a = 0
  · rw [if_pos h]; unfold firstE; by_cases h2 : b = 0 <;> simp [firstE, h, h2]
  · rw [if_neg h]; unfold firstE; simp [h]
theorem fw_c {xs : List RowR} {ns : List ByteArray} {p : Option Addr} {n c : Nat} {q : Option Addr} {l k0 : Nat} {w : World} (m : Int) (h : Rows0V w (.slice p n c) xs) (ho : WordsV w (.slice q l k0) ns) (hn : n ≤ 16 ∨ (160 < n ∧ n ≤ 162)) (hA : AwakeOK w) :
    Calls Tryz.prog 3 #[.slice p n c, .int .i64 m, .slice q l k0] w fun e w' => e = .returned (.bool true) ∧ Gr w w' := by
  have hlen : xs.length = n := by obtain ⟨⟨p', c', e, hcap, hh⟩⟩ := h; cases e; rfl
  have hln := ho.at.1
  have HA : Hid (AwakeOK w) := hA
  have HS := Lib.hid (fun W (g : Gr w W) => shortRs_lim 16 (h.gr g))
  have HC := Lib.hid (show ∀ (hs : ∀ x ∈ xs, x.xs.length ≤ 10) W, Gr w W → Calls Tryz.prog 7 #[.slice p n c] W fun e w' => e = .returned (.int .i64 (listG xs)) ∧ Gr W w' from fun hs W g => by
    unfold listG
    rcases hn with h1 | h1
    · rw [if_neg (by omega), hlen]; exact refRes6_c ((h.rows hs).gr g) (by omega)
    · rw [if_pos (by omega)]; exact refRes6_many p n c W h1.1)
  have HD := Lib.hid (fun (hs : ∀ x ∈ xs, x.xs.length ≤ 10) W (g : Gr w W) => checkRes_c ((h.rows hs).gr g))
  have HFb := Lib.hid (fun (hs : ∀ x ∈ xs, x.xs.length ≤ 10) (E : Int) (hE : firstE [listG xs, outE m 0 160] = E) (hE0 : E ≠ 0) W (g : Gr w W) => forwardS_bad m ((h.rows hs).gr g) hE hE0)
  have HRb := Lib.hid (fun (hs : ∀ x ∈ xs, x.xs.length ≤ 10) (E : Int) (hE : firstE [firstE [listG xs, outE m 0 160], outG xs ns] = E) (hE0 : E ≠ 0) W (g : Gr w W) => replace_bad m ((h.rows hs).gr g) (by omega) (ho.gr g) hE hE0)
  have HRows := Lib.hid (fun (hs : ∀ x ∈ xs, x.xs.length ≤ 10) W (g : Gr w W) => (h.rows hs).gr g)
  have HOw := Lib.hid (fun W (g : Gr w W) => ho.gr g)
  have HOut := Lib.hid (fun W => outside6_c m 0 160 W)
  have HF1 := Lib.hid (fun x y b cap W h1 h2 => first6_c x y b cap W h1 h2)
  have HVal := Lib.hid (show listG xs = 0 → ValidB (xs.map bare) ∧ n ≤ 16 from fun hz => by
    have := listG_valid hz
    exact ⟨this.1, by omega⟩)
  have HLn := Lib.hid hlen
  have HLo := Lib.hid hln
  have h12 := firstE_two (listG xs) (outE m 0 160)
  have h13 := firstE_two (firstE [listG xs, outE m 0 160]) (outG xs ns)
  clear h ho hA hlen hln
  generalize hG : listG xs = G at *
  go_enter Tryz.func3, Tryz.ntmps3
  go_wp2_with fail
  refine (HA.out _ (Gr.refl _)).mono ?_
  rintro e w1 ⟨rfl, g1⟩
  go_wp2_with fail
  refine (HS.out _ g1).mono ?_
  rintro e w2 ⟨⟨r, rfl, hr⟩, rfl⟩
  cases r
  · clear hr
    go_wp2_with (refine (HA.out _ g1).mono ?_; rintro e w2 ⟨rfl, g2⟩)
    go_ret
    exact ⟨rfl, g1.trans g2⟩
  have hs := hr rfl
  have HSh := Lib.hid hs
  clear hr HS
  by_cases hl : 20 < l
  · have hl2 : decide ((20 : Int) < l) = true := decide_eq_true (by omega)
    clear hs
    go_wp2_with (refine (HA.out _ g1).mono ?_; rintro e w2 ⟨rfl, g2⟩)
    go_ret
    exact ⟨rfl, g1.trans g2⟩
  have hl2 : decide ((20 : Int) < l) = false := decide_eq_false (by omega)
  clear HA hs
  have HOg : Hid (outG xs ns = namesG xs ns l 0) := by unfold Hid outG; rw [if_neg (by have := HLo.out; omega), HLo.out]
  go_wp2_with fail
  refine (HC.out HSh.out _ g1).mono ?_
  rintro e w2 ⟨rfl, g2⟩
  replace g2 := g1.trans g2
  go_wp2_with fail
  refine (HD.out HSh.out _ g2).mono ?_
  rintro e w3 ⟨rfl, g3⟩
  replace g3 := g2.trans g3
  clear HC HD
  have hGG : (G != G) = false := by simp
  by_cases hE : firstE [G, outE m 0 160] = 0
  case neg =>
    have HF := Lib.hid (HFb.out HSh.out _ rfl hE)
    have HR := Lib.hid (HRb.out HSh.out (firstE [G, outE m 0 160]) (by rw [h13, if_neg hE]) hE)
    have hE2 : (firstE [G, outE m 0 160] != 0) = true := bne_iff_ne.2 hE
    have HWd := Lib.hid (fun v W => words_bad hE v W)
    have HF2 := Lib.hid (fun b cap W => HF1.out G (outE m 0 160) b cap W)
    clear h12 h13 HFb HRb HF1 HVal hG
    generalize firstE [G, outE m 0 160] = E at *
    generalize outE m 0 160 = o at *
    go_wp2_with fail
    refine (HF.out _ g3).mono ?_
    rintro e w4 ⟨rfl, g4⟩
    replace g4 := g3.trans g4
    go_wp2_with fail
    refine (HR.out _ g4).mono ?_
    rintro e w5 ⟨rfl, g5⟩
    replace g5 := g4.trans g5
    go_wp2_with fail
    refine (HOut.out _).mono ?_
    rintro e w6 ⟨rfl, rfl⟩
    go_wp2_with fail
    refine (HF2.out _ _ _ (by exact cell_new _ #[_, _] _ 0 (by simp)) (by exact cell_new _ #[_, _] _ 1 (by simp))).mono ?_
    rintro e w7 ⟨rfl, rfl⟩
    go_wp2_with (refine (HWd.out _ _).mono ?_; rintro e w8 ⟨rfl, rfl⟩)
    go_ret
    exact ⟨rfl, g5.alloc _⟩
  have hG0 : G = 0 := by
    apply Classical.byContradiction
    intro h0
    rw [h12, if_neg h0] at hE
    exact h0 hE
  have hO0 : outE m 0 160 = 0 := by rw [h12, if_pos hG0] at hE; exact hE
  obtain ⟨hV, hn16⟩ := HVal.out hG0
  obtain ⟨hm0, hm1⟩ := outE_zero.1 hO0
  obtain ⟨mm, rfl⟩ := Int.eq_ofNat_of_zero_le hm0
  have HVv := Lib.hid hV
  have HFo := Lib.hid (fun W (g : Gr w W) => forwardS_ok mm (HRows.out HSh.out W g) (by omega) hV hO0)
  have HRf := Lib.hid (fun (ys : List RowR) (p : Option Addr) (n c : Nat) (W : World) (hr : RowsV W (.slice p n c) ys) (h1 : n < 20) (hv : ValidB (ys.map bare)) => refForward_c mm hr h1 hv)
  have HCo := Lib.hid (fun W (g : Gr w W) => refOut6_c (HRows.out HSh.out W g) (HOw.out W g) (by omega) (by omega))
  have HWo := Lib.hid (fun W (g : Gr w W) => refWithout_c (HRows.out HSh.out W g) (by omega) (HOw.out W g) (by omega))
  have HF2 := Lib.hid (fun b cap W => HF1.out 0 0 b cap W)
  have hfz : firstE [(0 : Int), 0] = 0 := rfl
  rw [hG0] at h13
  have HOO := Lib.hid hO0
  by_cases hz : outG xs ns = 0
  case neg =>
    have HR := Lib.hid (HRb.out HSh.out (outG xs ns) (by rw [hG0] at hE ⊢; rw [h13, if_pos hE]) hz)
    have hz2 : (outG xs ns != 0) = true := bne_iff_ne.2 hz
    have HWd := Lib.hid (fun v W => words_bad hz v W)
    subst hG0
    clear h12 h13 HFb HRb HF1 HVal hG hV hE hz
    generalize hog : outG xs ns = og at *
    go_wp2_with fail
    refine (HFo.out _ g3).mono ?_
    rintro e w4 ⟨qf, lf, kf, rfl, hvf, g4⟩
    have HN : Hid (namesF xs (orderF xs xs.length) mm (orderF xs xs.length).length = thruB (xs.map bare) mm) := names_thru xs mm
    replace g4 := g3.trans g4
    go_wp2_with fail
    refine (HR.out _ g4).mono ?_
    rintro e w5 ⟨rfl, g5⟩
    replace hvf := hvf.gr g5
    replace g5 := g4.trans g5
    go_wp2_with fail
    refine (HOut.out _).mono ?_
    rintro e w6 ⟨rfl, rfl⟩
    rw [HOO.out]
    go_wp2_with fail
    refine (HF2.out _ _ _ (by exact cell_new _ #[_, _] _ 0 (by simp)) (by exact cell_new _ #[_, _] _ 1 (by simp))).mono ?_
    rintro e w7 ⟨rfl, rfl⟩
    rw [hfz]
    replace hvf := hvf.gr ((Gr.refl _).alloc (.cells #[.int .i64 0, .int .i64 0] 3))
    have g6 := g5.alloc (.cells #[.int .i64 0, .int .i64 0] 3)
    go_wp2_with fail
    refine (HRf.out xs p n c _ (HRows.out HSh.out _ g6) (by omega) HVv.out).mono ?_
    rintro e w8 ⟨q8, l8, k8, rfl, hv8, g8⟩
    rw [← HLn.out, names_thru] at hv8
    replace hvf := hvf.gr g8
    replace g8 := g6.trans g8
    have hLf : (thruB (xs.map bare) mm).length ≤ 1000 := by
      have := thruB_len (xs.map bare) (mm : Int)
      rw [List.length_map] at this
      have := HLn.out
      omega
    have HWg := Lib.hid (words_good hvf hv8 hLf)
    go_wp2_with fail
    refine HWg.out.mono ?_
    rintro e w9 ⟨rfl, g9⟩
    replace g9 := g8.trans g9
    clear HWg hv8 hvf
    go_wp2_with fail
    refine (HCo.out _ g9).mono ?_
    rintro e w10 ⟨rfl, g10⟩
    replace g10 := g9.trans g10
    rw [← HOg.out]
    go_wp2_with (refine (HWd.out _ _).mono ?_; rintro e w11 ⟨rfl, rfl⟩)
    go_ret
    exact ⟨rfl, g10⟩
  · have hOK := (outG_ok hz).1
    have HR := Lib.hid (fun W (g : Gr w W) => replace_ok mm hOK (HRows.out HSh.out W g) (by omega) hV (HOw.out W g) (by omega) hO0)
    subst hG0
    clear h12 h13 HFb HRb HF1 HVal hG hV hE hOK
    rw [HOg.out] at hz
    have HOz := Lib.hid hz
    clear hz
    go_wp2_with fail
    refine (HFo.out _ g3).mono ?_
    rintro e w4 ⟨qf, lf, kf, rfl, hvf, g4⟩
    replace g4 := g3.trans g4
    go_wp2_with fail
    refine (HR.out _ g4).mono ?_
    rintro e w5 ⟨qr, lr, kr, rfl, hvr, g5⟩
    rw [rest_bare] at hvr
    replace hvf := hvf.gr g5
    replace g5 := g4.trans g5
    go_wp2_with fail
    refine (HOut.out _).mono ?_
    rintro e w6 ⟨rfl, rfl⟩
    rw [HOO.out]
    go_wp2_with fail
    refine (HF2.out _ _ _ (by exact cell_new _ #[_, _] _ 0 (by simp)) (by exact cell_new _ #[_, _] _ 1 (by simp))).mono ?_
    rintro e w7 ⟨rfl, rfl⟩
    rw [hfz]
    replace hvf := hvf.gr ((Gr.refl _).alloc (.cells #[.int .i64 0, .int .i64 0] 3))
    replace hvr := hvr.gr ((Gr.refl _).alloc (.cells #[.int .i64 0, .int .i64 0] 3))
    have g6 := g5.alloc (.cells #[.int .i64 0, .int .i64 0] 3)
    go_wp2_with fail
    refine (HRf.out xs p n c _ (HRows.out HSh.out _ g6) (by omega) HVv.out).mono ?_
    rintro e w8 ⟨q8, l8, k8, rfl, hv8, g8⟩
    rw [← HLn.out, names_thru] at hv8
    replace hvf := hvf.gr g8
    replace hvr := hvr.gr g8
    replace g8 := g6.trans g8
    have hLf : (thruB (xs.map bare) mm).length ≤ 1000 := by
      have := thruB_len (xs.map bare) (mm : Int)
      rw [List.length_map] at this
      have := HLn.out
      omega
    have HWg := Lib.hid (words_good hvf hv8 hLf)
    go_wp2_with fail
    refine HWg.out.mono ?_
    rintro e w9 ⟨rfl, g9⟩
    replace hvr := hvr.gr g9
    replace g9 := g8.trans g9
    clear HWg hv8 hvf
    go_wp2_with fail
    refine (HCo.out _ g9).mono ?_
    rintro e w10 ⟨rfl, g10⟩
    replace hvr := hvr.gr g10
    replace g10 := g9.trans g10
    rw [HOz.out]
    go_wp2_with fail
    refine (HWo.out _ g10).mono ?_
    rintro e w11 ⟨q11, l11, k11, rfl, hr11, g11⟩
    replace hvr := hvr.gr g11
    replace g11 := g10.trans g11
    have hl11 := hr11.at.1
    have hrl := rest_le ns xs
    have hxn := HLn.out
    have hvalid : ValidB ((rest ns xs).map bare) := by rw [rest_bare]; exact HVv.out.sub (restB_sub _ _)
    have HRr := Lib.hid (HRf.out (rest ns xs) q11 l11 k11 _ hr11 (by omega) hvalid)
    have HN := Lib.hid (show namesF (rest ns xs) (orderF (rest ns xs) l11) mm (orderF (rest ns xs) l11).length = thruB (restB ns (xs.map bare)) mm from by rw [← hl11, names_thru, rest_bare])
    have hLr : (thruB (restB ns (xs.map bare)) mm).length ≤ 1000 := by
      have := thruB_len (restB ns (xs.map bare)) (mm : Int)
      have h3 := (restB_sub ns (xs.map bare)).length_le
      rw [List.length_map] at h3
      omega
    clear hl11 hrl hxn
    go_wp2_with fail
    refine HRr.out.mono ?_
    rintro e w12 ⟨q12, l12, k12, rfl, hv12, g12⟩
    rw [HN.out] at hv12
    replace hvr := hvr.gr g12
    have HWg := Lib.hid (words_good hvr hv12 hLr)
    go_wp2_with (refine HWg.out.mono ?_; rintro e w13 ⟨rfl, g13⟩)
    go_ret
    exact ⟨rfl, (g11.trans g12).trans g13⟩
theorem lawFw_c {xs : List RowR} {ns : List ByteArray} {v u : Value} {w : World} (m : Int) (h : Rows0V w v xs) (ho : WordsV w u ns) (hA : AwakeOK w) :
    Calls Tryz.prog 3 #[v, .int .i64 m, u] w fun e w' => e = .returned (.bool true) ∧ Gr w w' := by
  obtain ⟨p, c, rfl, _, _⟩ := h.out
  obtain ⟨q, k, rfl, _, _⟩ := ho.out
  rcases Nat.lt_or_ge 162 xs.length with h1 | h1
  · exact fw_not (fun W => shortRs_huge p _ c 16 W (by omega) h1) hA
  rcases Nat.lt_or_ge 160 xs.length with h2 | h2
  · exact fw_c m h ho (.inr ⟨h2, h1⟩) hA
  rcases Nat.lt_or_ge 16 xs.length with h3 | h3
  · exact fw_not (fun W => shortRs_mid p _ c 16 W h3 h2) hA
  exact fw_c m h ho (.inl h3) hA
end Go.Proofs.YtenhodepaoaiiaaGreatDoor
namespace Go.Proofs.YtenhodepaoaiiaaGreatDoor
open Go.ChangeShapes Go.WideShapes Go.ChangeAt Go.WideMaps Go.WideElems Go.RowKit
set_option maxRecDepth 100000 in
theorem liftedForwards (os : Os) (started : os.Started) (H : Type) (enc : TypeId × Value → H) :
    ReturnsInHanded {} Tryz.checked os 3 .any (fun w args => (Rows.startForwardsSpec.pre enc Tryz.prog Tryz.f3 [] false w args ∧ laidMetH Tryz.prog laidB w) ∧ sizedMet enc Tryz.prog Tryz.f3 (OpenSpec.ofChange Rows.startForwardsSpec) false w args)
      (Rows.startForwardsSpec.post enc Tryz.prog Tryz.f3 false true false false) := by
  refine returnsInHanded_of_calls (C := Tryz.checked) own started (by kernel_rfl)
    (ChangeSpec.witness_shaped (enc := enc) (C := Tryz.checked) (os := os) (X := fun w _ => laidMetH Tryz.prog laidB w) false (World.doorLaid Tryz.prog 400 os) #[.slice none 0 0, .int .i64 0, .slice none 0 0] 8 rfl (World.shaped_of_RefB (by kernel_rfl) (by kernel_rfl)) (by kernel_rfl) (by kernel_rfl) (by kernel_rfl) (door_met os _)) ?_
  intro w tape i _ hsh _ hok hpre _
  obtain ⟨_, _, _, fn', hfn', _, _, _, _, hval0⟩ := hok
  have e : fn' = Tryz.f3 := Option.some.inj (hfn'.symm.trans Tryz.func3)
  subst e
  obtain ⟨⟨⟨ds, gs, before, hw, hc⟩, hx⟩, hz⟩ := hpre
  have hW0 := DataW.Whole.of_heap (w' := w.forCall tape i) (by rfl) hw
  have hL : laidMetH Tryz.prog laidB (w.forCall tape i) := hx.of_heap (by rfl)
  clear hw hx hc hz
  have hsh' : (w.forCall tape i).ShapedOpen Tryz.prog := hsh
  generalize w.forCall tape i = W at *
  generalize i.args = args at *
  have hval : ∀ (j : Nat) t v, Tryz.f3.params[j]? = some t → args[j]? = some v → Value.okWide Tryz.prog W .any w.heap.size t v := hval0
  have hW' := hW0
  have hlt := hW0.lt
  obtain ⟨p, q, hA0, hV, rfl, hfz, hnd⟩ := hW0
  have hA : DataW.TrodAll enc Tryz.prog W 0 (fun _ => true) true Tryz.f3.params.toList args.toList ds p := hA0
  rw [Tryz.params3] at hA hval
  obtain ⟨v0, v1, v2, d0, d1, d2, p0, p1, p2, rfl, rfl, rfl, h0, h1, h2⟩ := trodAll_three hA
  obtain ⟨rfl, rfl⟩ := trodVars_none hV
  obtain ⟨xs, i0⟩ := open_rows (hval 0 22 v0 rfl rfl) h0
  obtain ⟨m, rfl, rfl, rfl, wm⟩ := open_int Tryz.underlying3 (hval 1 3 v1 rfl rfl) h1
  obtain ⟨ns, i2⟩ := open_words (hval 2 23 v2 rfl rfl) h2
  clear hA0 hval0 hval hA hV
  refine (lawFw_c m i0 i2 (fun W1 hg => awake_c hsh' hL W1 hg)).mono fun x W' ⟨he, hg⟩ => ?_
  subst he
  refine ChangeSpec.post_blind (s := Rows.startForwardsSpec) ?_
  refine ⟨[d0, .lit (.int .i64 m), d2], [], ((p0 ++ []) ++ p2) ++ [], [], p0 ++ ([] ++ p2), [], hW', ?_, ?_, rfl, Below.frame hg _, fun h => by cases h⟩
  · exact trodAll_mk1 (shut_bool Tryz.underlying4 _)
  · rw [Tryz.params3]
    have k0 := Below.trod laidOutRs recRs rowRs h0 hg (fun x hx => hlt x (by simp [hx]))
    have k2 := Below.trod laidOutRs recSs rowSs h2 hg (fun x hx => hlt x (by simp [hx]))
    exact trodAll_mk3 k0 ⟨1, trod_int_mk 0 Tryz.underlying3 wm⟩ k2
theorem startForwards_holds : Rows.StartForwardsSaid :=
  OpenClaim.holds_of_wide 3 Tryz.f3 rfl rfl rfl rfl rfl rfl rfl ⟨rfl, rfl, rfl, rfl, rfl⟩ rfl rfl rfl rfl rfl (by kernel_rfl) Tryz.func3 (by kernel_rfl)
    (of_decide_eq_true (by kernel_rfl)) (by unfold Func.isWrapper; first | (rw [if_pos (by decide +kernel)]; kernel_rfl) | (rw [if_neg (by decide +kernel)]; exact ⟨rfl, rfl⟩))
    (fun os started H enc _ => liftedForwards os started H enc)
#print axioms startForwards_holds
end Go.Proofs.YtenhodepaoaiiaaGreatDoor
