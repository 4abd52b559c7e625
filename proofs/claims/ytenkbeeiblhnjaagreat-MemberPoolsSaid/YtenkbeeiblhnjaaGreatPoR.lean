/- Pools: the reference's Pool. -/
import Derived.Test.YtenkbeeiblhnjaaGreatPoQ
namespace Go.Proofs.YtenkbeeiblhnjaaGreat
open Go.RowKit Go.Lib
set_option linter.unusedSimpArgs false
set_option linter.unusedVariables false
/-- what has been put in so far -/
structure Ref (key : ByteArray → Int) (out src : List ByteArray) : Prop where
  asc : Asc (ltK key) out
  flt : ∀ k, out.filter (fun x => key x == k) = src.filter (fun x => key x == k)
theorem dayM_ref {cs : List ByteArray} {xs : List TstR} {d : Int} {s : ByteArray} (hs : s ∈ cs) : dayM (lastM cs xs d) s = lastC xs d s := by
  unfold dayM
  rw [look_last hs]
  rfl
theorem ref_unique {cs : List ByteArray} {xs : List TstR} {d : Int} {F out : List ByteArray} (hF : ∀ s ∈ F, s ∈ cs) (hr : Ref (lastC xs d) out F) : out = srtM (lastM cs xs d) F := by
  have hin : ∀ s ∈ out, s ∈ F := fun s hs => by
    have : s ∈ out.filter (fun x => lastC xs d x == lastC xs d s) := List.mem_filter.2 ⟨hs, by simp⟩
    rw [hr.flt] at this
    exact (List.mem_filter.1 this).1
  have hs := ins_step (lastM cs xs d) F (a := 0) (b := F.length) (Nat.zero_le _) (Nat.le_refl _)
  refine asc_unique (dayM (lastM cs xs d)) out _ ?_ ?_ fun k => ?_
  · refine List.Pairwise.imp_of_mem (fun {a b} ha hb h => ?_) hr.asc
    have h1 := of_decide_eq_false h
    refine decide_eq_false ?_
    rw [dayM_ref (hF a (hin a ha)), dayM_ref (hF b (hin b hb))]
    exact h1
  · have := hs.asc
    unfold seg at this
    rw [List.drop_zero, List.take_of_length_le (by rw [hs.flt.len]; exact Nat.le_refl _)] at this
    exact this
  · have e1 : out.filter (fun x => dayM (lastM cs xs d) x == k) = out.filter (fun x => lastC xs d x == k) := List.filter_congr fun s hs => by rw [dayM_ref (hF s (hin s hs))]
    have e2 : F.filter (fun x => dayM (lastM cs xs d) x == k) = F.filter (fun x => lastC xs d x == k) := List.filter_congr fun s hs => by rw [dayM_ref (hF s hs)]
    rw [e1, hr.flt k, ← e2]
    exact (hs.flt.flt k).symm
theorem ref_skip {key : ByteArray → Int} {out src : List ByteArray} (h : Ref key out src) : Ref key out (src ++ []) := by rw [List.append_nil]; exact h
theorem ref_put {key : ByteArray → Int} {out src : List ByteArray} (h : Ref key out src) (s : ByteArray) (at_ : Nat) (h1 : ∀ j t, j < at_ → out[j]? = some t → key t ≤ key s) (h2 : ∀ j t, at_ ≤ j → out[j]? = some t → key s < key t) : Ref key (out.take at_ ++ s :: out.drop at_) (src ++ [s]) := by
  obtain ⟨a, f⟩ := ins_asc h.asc s at_ h1 h2
  exact ⟨a, fun k => by rw [f k, h.flt k, List.filter_append]⟩
theorem asc_low {key : ByteArray → Int} {out : List ByteArray} (h : Asc (ltK key) out) {m : Nat} {t : ByteArray} (hm : out[m]? = some t) {y : Int} (hy : key t ≤ y) : ∀ j u, j < m + 1 → out[j]? = some u → key u ≤ y := fun j u hj hu => by
  have := asc_at h (i := j) (j := m) (by omega) hu hm
  omega
set_option maxHeartbeats 8000000 in
set_option maxRecDepth 100000 in
theorem refPool_c {vc v : Value} {cs : List ByteArray} {xs : List TstR} {w : World} (c sp : Int) (kn : Nat) (d : Int) (hcs : StrAts w vc cs) (h : TstAts w v xs) (h0 : poolE cs xs c sp (kn : Int) d = 0) :
    Calls Tryz.prog 18 #[vc, v, .agg #[.int .i64 c, .int .i64 sp, .int .i64 (kn : Int)], .int .i64 d] w fun e w' => ∃ u, e = .returned u ∧ StrAts w' u (poolL cs xs c sp kn d) ∧ Gr w w' := by
  obtain ⟨iS, hiS, hzS0, hzS1, hzS2⟩ := info_parts infoStrN
  obtain ⟨iI, hiI, hzI0, hzI1, hzI2⟩ := info_parts infoI
  obtain ⟨z1, z2, z3, q3, q4⟩ := poolE_zero h0
  obtain ⟨⟨c1, c2⟩, ⟨p1, p2⟩, k1, k2⟩ := pickE_zero z3
  have hcl := str_len z1
  obtain ⟨htl, htr⟩ := tst_range z2
  have HLS := Lib.hid (fun s a W (g : Gr w W) => refLast_c s a d (h.gr g) (by omega))
  have HDR := Lib.hid (fun W => refDraw_c kn cs.length W (by omega) (by omega) (by omega))
  have HZ := Lib.hid (fun s => lastT_zero (fun x hx => (htr x hx).1) s d)
  have HFR := Lib.hid (fun s => late_iff (fun x hx => (htr x hx).1) s sp d)
  have HAT := Lib.hid (fun i (hi : i < cs.length) (hs : (drawN kn cs.length).size = cs.length) => drawnS_at (key := kn) hi hs)
  have HPT := Lib.hid (fun i s (hs : (drawnS kn cs)[i]? = some s) => poolU_take (xs := xs) (sp := sp) (d := d) hs)
  have HFIN : Hid (∀ out, Ref (lastC xs d) out (poolU xs sp d (drawnS kn cs)) → out.take (min c (out.length : Int)).toNat = poolL cs xs c sp kn d) := fun out hr => by
    have he := ref_unique (F := poolU xs sp d (drawnS kn cs)) (fun s hs => (drawnS_perm kn cs).mem_iff.1 (List.mem_filter.1 (show s ∈ (drawnS kn cs).filter (freeS xs sp d) from hs)).1) hr
    have hl := (srtM_spec (lastM cs xs d) (poolU xs sp d (drawnS kn cs))).2.1
    unfold poolL
    rw [← he] at hl ⊢
    rw [hl]
  have HTS := Lib.hid h
  have HCS := Lib.hid hcs
  have hDL := drawnS_len kn cs
  obtain ⟨N, hN⟩ : ∃ n, n = cs.length := ⟨_, rfl⟩
  obtain ⟨p, cap, rfl, hcc⟩ : ∃ p cap, vc = .slice p N cap ∧ (0 < N → ∃ b off, p = some ⟨b, off, none⟩ ∧ ∀ i x, cs[i]? = some x → StrAt w b (off + i) x) := by
    obtain ⟨⟨p, cap, rfl, _, hh⟩⟩ := hcs
    exact ⟨p, cap, by rw [hN], fun h0 => hh (by omega)⟩
  obtain ⟨pt, nt, capt, rfl⟩ : ∃ p n cap, v = .slice p n cap := by
    obtain ⟨⟨p, cap, rfl, _⟩⟩ := h
    exact ⟨p, _, cap, rfl⟩
  rw [← hN] at HDR HAT hcl hDL
  have HCC := Lib.hid hcc
  have HDL := Lib.hid hDL
  have hwr : IntKind.i64.wrap (d - sp) = d - sp := by rw [IntKind.wrap_i64]; omega
  obtain ⟨W0, hW0, g, b0, b1, b2⟩ := box3 w (.int .i64 c) (.int .i64 sp) (.int .i64 (kn : Int)) 41
  have HW0 := Lib.hid hW0
  clear h0 hcs h hW0 z1 z2 z3 htl htr hN hcc k1 k2 hDL
  go_enter Tryz.func18, Tryz.ntmps18
  go_wp2_with fail
  rw [HW0.out]
  clear HW0
  generalize w.heap.size = Bx at *
  refine (HDR.out _).mono ?_
  rintro e W1 ⟨pd, capd, rfl, hrow, _, _, hsz, hg⟩
  replace b0 := hg.cell b0
  replace b1 := hg.cell b1
  replace g := g.trans hg
  have HROW := Lib.hid hrow
  have HSZ := Lib.hid hsz
  have HGT := Lib.hid g
  clear hrow hsz hg b2 HDR
  go_wp2_with fail
  go_loopw [9, 10, 12, 13, 14, 15, 16, 17] (fun ov dv iv u13 u14 u15 u16 u17 wr => ∃ (i : Nat) (out : List ByteArray), i ≤ N ∧ iv = .int .i64 i ∧ wr.ownsRow W1.heap.size 9 1 ov out.length (strC out) ∧ wr.ownsRow W1.heap.size 3 1 dv out.length (intC (out.map (lastC xs d))) ∧ (out.length = 0 → ov = .slice none 0 0 ∧ dv = .slice none 0 0) ∧ Gr W1 wr ∧ out.length ≤ i ∧ Hid (Ref (lastC xs d) out (poolU xs sp d ((drawnS kn cs).take i)))) (fun _ _ iv _ _ _ _ _ _ => N - (intOf iv).toNat)
  case atStart => exact ⟨0, [], Nat.zero_le _, rfl, World.ownsRow_nil _ _ _ _, World.ownsRow_nil _ _ _ _, fun _ => ⟨rfl, rfl⟩, Gr.refl _, Nat.le_refl _, ⟨List.Pairwise.nil, fun k => rfl⟩⟩
  case round =>
    obtain ⟨i, out, hi', rfl, hos, hod, hnil, hg, hol, HRF⟩ := hrel
    have hgs := hg.size
    by_cases hlt : i < N
    · obtain ⟨s, hds, hcx, hjl⟩ := HAT.out i hlt HSZ.out
      obtain ⟨gdr, rfl, hrw⟩ := HROW.out (by omega)
      have hrc := hg.cell (hrw.cell (i := i) (by rw [HSZ.out]; exact hlt))
      obtain ⟨b, off, rfl, hc⟩ := HCC.out (by omega)
      obtain ⟨c0⟩ := (hc _ s hcx).gr (HGT.out.trans hg)
      have hi2 : (i : Int) < N := by omega
      have hb1 := hg.cell b1
      have hpt := HPT.out i s hds
      have HL1 := Lib.hid (HLS.out s (d - sp) wr (HGT.out.trans hg))
      have HL2 := Lib.hid (fun W (h : Gr wr W) => HLS.out s 0 W ((HGT.out.trans hg).trans h))
      rw [HZ.out s] at HL2
      have hfr := HFR.out s
      generalize (drawN kn N).getD i 0 = j at *
      rw [show freeS xs sp d s = (decide (lastZ (lastD d s) xs (-1) < 0) || decide (lastZ (lastD d s) xs (-1) < d - sp)) from rfl, ← hfr] at hpt
      obtain ⟨z1, hz1⟩ : ∃ z, z = lastT xs s (d - sp) d := ⟨_, rfl⟩
      rw [← hz1] at HL1 hpt
      have HPT2 := Lib.hid hpt
      have HHD := Lib.hid hds
      clear hcx hc hpt hfr hz1 hds hrw
      go_wp2_with fail
      refine HL1.out.mono ?_
      rintro e W2 ⟨rfl, rfl⟩
      cases hzz : decide (0 ≤ z1)
      case true =>
        have hzn : decide (z1 < 0) = false := decide_eq_false (by have := of_decide_eq_true hzz; omega)
        have HRN : Hid (Ref (lastC xs d) out (poolU xs sp d ((drawnS kn cs).take (i + 1)))) := by
          rw [Hid, HPT2.out, hzn]
          exact ref_skip HRF.out
        clear hzn
        go_wp2_with fail
        go_roundw
        case rel => exact ⟨i + 1, out, by omega, by go_num, hos, hod, hnil, hg, by omega, HRN⟩
        case measure => simp [intOf]; omega
      case false =>
        have hzn : decide (z1 < 0) = true := decide_eq_true (by have := of_decide_eq_false hzz; omega)
        have HPN : Hid (poolU xs sp d ((drawnS kn cs).take (i + 1)) = poolU xs sp d ((drawnS kn cs).take i) ++ [s]) := by rw [Hid, HPT2.out, hzn]; rfl
        clear hzn
        have HL3 := Lib.hid (HL2.out wr (Gr.refl wr))
        clear HL2 HL1 HPT2
        obtain ⟨zs, hzs⟩ : ∃ z, z = lastC xs d s := ⟨_, rfl⟩
        rw [← hzs] at HL3
        have HZS := Lib.hid hzs
        clear hzs
        obtain ⟨WI, rfl⟩ : ∃ X : World, X = wr := ⟨wr, rfl⟩
        by_cases hn0 : out.length = 0
        · obtain ⟨rfl, rfl⟩ := hnil hn0
          have ho : out = [] := List.eq_nil_of_length_eq_zero hn0
          subst ho
          clear hnil hos hod hol
          go_wp2_with fail
          refine HL3.out.mono ?_
          rintro e W3 ⟨rfl, rfl⟩
          go_wp2_with fail
          refine wp_loop_rounds 2 ?_
          rw [rounds_succ]
          have hEs : (WI.alloc (.cells #[] 9)).ownsRow WI.heap.size 9 1 (.slice (some ⟨WI.heap.size, 0, none⟩) 0 0) 0 [] := own_none (heap_alloc_new _ _) (Nat.le_refl _)
          have gEs : Gr WI (WI.alloc (.cells #[] 9)) := (Gr.refl _).alloc _
          go_wp2_with (first
            | (at_builtin; refine list_str0 rfl _ _ rfl WI.heap.size (.slice (some ⟨WI.heap.size, 0, none⟩) 0 0) 0 [] rfl hEs 0 rfl ?_))
          obtain ⟨v1s, hv1⟩ : ∃ v, v = Value.slice (some ⟨WI.heap.size, 0, none⟩) 0 0 := ⟨_, rfl⟩
          obtain ⟨W1s, hW1⟩ : ∃ W, W = WI.alloc (.cells #[] 9) := ⟨_, rfl⟩
          have own1s : W1s.ownsRow WI.heap.size 9 1 v1s 0 (strC []) := by rw [hW1, hv1]; exact hEs
          have gr1s : Gr WI W1s := by rw [hW1]; exact gEs
          rw [← hW1, ← hv1]
          clear hW1 hv1 hEs gEs
          refine wp_region_held_drew (S := fun _ => True) (by kernel_rfl) trivial (fun hHeld => ?_)
          have gV := (Gr.refl W1s).drew
          have ho := own1s.drew
          have hGV := gr1s.trans gV
          clear gV own1s gr1s
          generalize W1s.drew = V at *
          refine wpAnyH_take (i := 0) (v := v1s) (op_at rfl) (by kernel_rfl) (by kernel_rfl) (by kernel_rfl) (fun _ _ _ h => h) (Or.inl ⟨rfl, fun w hSw => ?_⟩) (by assumption) ?_
          · (try dsimp only at hSw); go_simp; try with_reducible rfl
          (try simp only [Act.put, List.setIfInBounds_toArray, List.set_cons_zero, List.set_cons_succ])
          refine wpAnyH_take (i := 1) (v := (.string s)) (op_at rfl) (by kernel_rfl) (by kernel_rfl) (by kernel_rfl) (fun _ _ _ h => h) (Or.inl ⟨rfl, fun w hSw => ?_⟩) (by assumption) ?_
          · (try dsimp only at hSw); go_simp; try with_reducible rfl
          (try simp only [Act.put, List.setIfInBounds_toArray, List.set_cons_zero, List.set_cons_succ])
          refine wpAnyH_take (i := 4) (v := (.slice none 0 0)) (op_at rfl) (by kernel_rfl) (by kernel_rfl) (by kernel_rfl) (fun _ _ _ h => h) (Or.inl ⟨rfl, fun w hSw => ?_⟩) (by assumption) ?_
          · (try dsimp only at hSw); go_simp; try with_reducible rfl
          (try simp only [Act.put, List.setIfInBounds_toArray, List.set_cons_zero, List.set_cons_succ])
          refine wpAnyH_take (i := 5) (v := (.int .i64 0)) (op_at rfl) (by kernel_rfl) (by kernel_rfl) (by kernel_rfl) (fun _ _ _ h => h) (Or.inl ⟨rfl, fun w hSw => ?_⟩) (by assumption) ?_
          · (try dsimp only at hSw); go_simp; try with_reducible rfl
          (try simp only [Act.put, List.setIfInBounds_toArray, List.set_cons_zero, List.set_cons_succ])
          refine wpAnyH_take (i := 6) (v := (.slice none 0 0)) (op_at rfl) (by kernel_rfl) (by kernel_rfl) (by kernel_rfl) (fun _ _ _ h => h) (Or.inl ⟨rfl, fun w hSw => ?_⟩) (by assumption) ?_
          · (try dsimp only at hSw); go_simp; try with_reducible rfl
          (try simp only [Act.put, List.setIfInBounds_toArray, List.set_cons_zero, List.set_cons_succ])
          refine wpAnyH_ready (rs := [2]) (by kernel_rfl) (by simp) (AllReadyH.cons (op_at rfl) (fun K hK => ?_) AllReadyH.nil)
          go_simp
          obtain ⟨Wb, hWb, gB, sX⟩ := box1 V (.string s) 9
          have hob := own_kept ho gB
          have hGB := hGV.trans gB
          rw [hWb]
          clear hWb
          refine hK.out _ _ trivial (fun hHeld => ?_)
          clear hK K
          (try simp only [Act.put, List.setIfInBounds_toArray, List.set_cons_zero, List.set_cons_succ])
          refine wpAnyH_ready (rs := [3]) (by kernel_rfl) (by simp) (AllReadyH.cons (op_at rfl) (fun K hK => ?_) AllReadyH.nil)
          rw [if_pos (show Region.wanted _ _ = true from rfl)]
          refine step_str _ _ rfl WI.heap.size v1s ([] : List _) [s] 0 1 rfl rfl rfl hob ⟨V.heap.size, 0, none⟩ 1 rfl (fun j u hu => by
            match j, hu with
            | 0, hu => simp [strC] at hu; subst hu; exact sX
            | j + 1, hu => simp [strC] at hu) (by omega) hGB.size (fun v2 W2 hown2 hgr2 _ => ?_)
          have hG2 : Gr WI W2 := Below.grown hGB hgr2 hGB.size (fun j hj => (hob.lt j hj).1)
          refine hK.out _ _ trivial (fun hHeld => ?_)
          clear hK K
          (try simp only [Act.put, List.setIfInBounds_toArray, List.set_cons_zero, List.set_cons_succ])
          refine wpAnyH_ready (rs := [7]) (by kernel_rfl) (by simp) (AllReadyH.cons (op_at rfl) (fun K hK => ?_) AllReadyH.nil)
          rw [if_pos (show Region.wanted _ _ = true from rfl)]
          refine step_str0 _ _ rfl WI.heap.size v2 _ _ rfl hown2 0 rfl ?_
          refine hK.out _ _ trivial (fun hHeld => ?_)
          clear hK K
          (try simp only [Act.put, List.setIfInBounds_toArray, List.set_cons_zero, List.set_cons_succ])
          refine wpAnyH_take (i := 8) (v := v2) (op_at rfl) (by kernel_rfl) (by kernel_rfl) (by kernel_rfl) (fun _ _ _ h => h) (Or.inl ⟨rfl, fun w hSw => ?_⟩) (by assumption) ?_
          · (try dsimp only at hSw); go_simp; try with_reducible rfl
          (try simp only [Act.put, List.setIfInBounds_toArray, List.set_cons_zero, List.set_cons_succ])
          refine wpAnyH_done (by kernel_rfl) ?_ _
          obtain ⟨VFs, rfl⟩ : ∃ X : Value, X = v2 := ⟨v2, rfl⟩
          obtain ⟨WFs, rfl⟩ : ∃ X : World, X = W2 := ⟨W2, rfl⟩
          have ownFs := hown2
          have grFs := hG2
          clear hGV hGB hob ho hgr2 hown2 hG2 sX gB
          obtain ⟨WP, hWP⟩ : ∃ X : World, X = WFs := ⟨WFs, rfl⟩
          rw [← hWP] at grFs ownFs ⊢
          clear hWP
          have hEi : (WP.alloc (.cells #[] 3)).ownsRow WP.heap.size 3 1 (.slice (some ⟨WP.heap.size, 0, none⟩) 0 0) 0 [] := own_none (heap_alloc_new _ _) (Nat.le_refl _)
          have gEi : Gr WP (WP.alloc (.cells #[] 3)) := (Gr.refl _).alloc _
          go_wp2_with (first
            | (at_builtin; refine list_int0 rfl _ _ rfl WP.heap.size (.slice (some ⟨WP.heap.size, 0, none⟩) 0 0) 0 [] rfl hEi 0 rfl ?_))
          obtain ⟨v1i, hv1⟩ : ∃ v, v = Value.slice (some ⟨WP.heap.size, 0, none⟩) 0 0 := ⟨_, rfl⟩
          obtain ⟨W1i, hW1⟩ : ∃ W, W = WP.alloc (.cells #[] 3) := ⟨_, rfl⟩
          have own1i : W1i.ownsRow WP.heap.size 3 1 v1i 0 (intC []) := by rw [hW1, hv1]; exact hEi
          have gr1i : Gr WP W1i := by rw [hW1]; exact gEi
          rw [← hW1, ← hv1]
          clear hW1 hv1 hEi gEi
          refine wp_region_held_drew (S := fun _ => True) (by kernel_rfl) trivial (fun hHeld => ?_)
          have gV := (Gr.refl W1i).drew
          have ho := own1i.drew
          have hGV := gr1i.trans gV
          clear gV own1i gr1i
          generalize W1i.drew = V at *
          refine wpAnyH_take (i := 0) (v := v1i) (op_at rfl) (by kernel_rfl) (by kernel_rfl) (by kernel_rfl) (fun _ _ _ h => h) (Or.inl ⟨rfl, fun w hSw => ?_⟩) (by assumption) ?_
          · (try dsimp only at hSw); go_simp; try with_reducible rfl
          (try simp only [Act.put, List.setIfInBounds_toArray, List.set_cons_zero, List.set_cons_succ])
          refine wpAnyH_take (i := 1) (v := (.int .i64 zs)) (op_at rfl) (by kernel_rfl) (by kernel_rfl) (by kernel_rfl) (fun _ _ _ h => h) (Or.inl ⟨rfl, fun w hSw => ?_⟩) (by assumption) ?_
          · (try dsimp only at hSw); go_simp; try with_reducible rfl
          (try simp only [Act.put, List.setIfInBounds_toArray, List.set_cons_zero, List.set_cons_succ])
          refine wpAnyH_take (i := 4) (v := (.slice none 0 0)) (op_at rfl) (by kernel_rfl) (by kernel_rfl) (by kernel_rfl) (fun _ _ _ h => h) (Or.inl ⟨rfl, fun w hSw => ?_⟩) (by assumption) ?_
          · (try dsimp only at hSw); go_simp; try with_reducible rfl
          (try simp only [Act.put, List.setIfInBounds_toArray, List.set_cons_zero, List.set_cons_succ])
          refine wpAnyH_take (i := 5) (v := (.int .i64 0)) (op_at rfl) (by kernel_rfl) (by kernel_rfl) (by kernel_rfl) (fun _ _ _ h => h) (Or.inl ⟨rfl, fun w hSw => ?_⟩) (by assumption) ?_
          · (try dsimp only at hSw); go_simp; try with_reducible rfl
          (try simp only [Act.put, List.setIfInBounds_toArray, List.set_cons_zero, List.set_cons_succ])
          refine wpAnyH_take (i := 6) (v := (.slice none 0 0)) (op_at rfl) (by kernel_rfl) (by kernel_rfl) (by kernel_rfl) (fun _ _ _ h => h) (Or.inl ⟨rfl, fun w hSw => ?_⟩) (by assumption) ?_
          · (try dsimp only at hSw); go_simp; try with_reducible rfl
          (try simp only [Act.put, List.setIfInBounds_toArray, List.set_cons_zero, List.set_cons_succ])
          refine wpAnyH_ready (rs := [2]) (by kernel_rfl) (by simp) (AllReadyH.cons (op_at rfl) (fun K hK => ?_) AllReadyH.nil)
          go_simp
          obtain ⟨Wb, hWb, gB, sX⟩ := box1 V (.int .i64 zs) 3
          have hob := own_kept ho gB
          have hGB := hGV.trans gB
          rw [hWb]
          clear hWb
          refine hK.out _ _ trivial (fun hHeld => ?_)
          clear hK K
          (try simp only [Act.put, List.setIfInBounds_toArray, List.set_cons_zero, List.set_cons_succ])
          refine wpAnyH_ready (rs := [3]) (by kernel_rfl) (by simp) (AllReadyH.cons (op_at rfl) (fun K hK => ?_) AllReadyH.nil)
          rw [if_pos (show Region.wanted _ _ = true from rfl)]
          refine step_int _ _ rfl WP.heap.size v1i ([] : List _) [zs] 0 1 rfl rfl rfl hob ⟨V.heap.size, 0, none⟩ 1 rfl (fun j u hu => by
            match j, hu with
            | 0, hu => simp [intC] at hu; subst hu; exact sX
            | j + 1, hu => simp [intC] at hu) (by omega) hGB.size (fun v2 W2 hown2 hgr2 _ => ?_)
          have hG2 : Gr WP W2 := Below.grown hGB hgr2 hGB.size (fun j hj => (hob.lt j hj).1)
          refine hK.out _ _ trivial (fun hHeld => ?_)
          clear hK K
          (try simp only [Act.put, List.setIfInBounds_toArray, List.set_cons_zero, List.set_cons_succ])
          refine wpAnyH_ready (rs := [7]) (by kernel_rfl) (by simp) (AllReadyH.cons (op_at rfl) (fun K hK => ?_) AllReadyH.nil)
          rw [if_pos (show Region.wanted _ _ = true from rfl)]
          refine step_int0 _ _ rfl WP.heap.size v2 _ _ rfl hown2 0 rfl ?_
          refine hK.out _ _ trivial (fun hHeld => ?_)
          clear hK K
          (try simp only [Act.put, List.setIfInBounds_toArray, List.set_cons_zero, List.set_cons_succ])
          refine wpAnyH_take (i := 8) (v := v2) (op_at rfl) (by kernel_rfl) (by kernel_rfl) (by kernel_rfl) (fun _ _ _ h => h) (Or.inl ⟨rfl, fun w hSw => ?_⟩) (by assumption) ?_
          · (try dsimp only at hSw); go_simp; try with_reducible rfl
          (try simp only [Act.put, List.setIfInBounds_toArray, List.set_cons_zero, List.set_cons_succ])
          refine wpAnyH_done (by kernel_rfl) ?_ _
          obtain ⟨VFi, rfl⟩ : ∃ X : Value, X = v2 := ⟨v2, rfl⟩
          obtain ⟨WFi, rfl⟩ : ∃ X : World, X = W2 := ⟨W2, rfl⟩
          have ownFi := hown2
          have grFi := hG2
          clear hGV hGB hob ho hgr2 hown2 hG2 sX gB
          have hfin : Gr WI WFi := grFs.trans grFi
          have ownS := own_low (own_kept ownFs grFi) hgs
          have ownI := own_low ownFi (Nat.le_trans hgs grFs.size)
          go_wp2_with fail
          go_roundw
          case rel => exact ⟨i + 1, [s], by omega, by go_num, by simpa using ownS, by simpa [HZS.out] using ownI, fun h => absurd h (by simp), hg.trans hfin, by simp, by
            rw [Hid, HPN.out]
            exact ref_put HRF.out s 0 (fun j t hj => absurd hj (by omega)) (fun j t _ ht => by simp at ht)⟩
          case measure => simp [intOf]; omega
        · obtain ⟨n, hn⟩ : ∃ n, n = out.length := ⟨_, rfl⟩
          obtain ⟨go, co, rfl, hgo1, hgo2, ⟨hco, hcom⟩, hgoc⟩ := own_at hos (by omega)
          obtain ⟨gd, cd, rfl, hgd1, hgd2, ⟨hcd, hcdm⟩, hgdc⟩ := own_at hod (by omega)
          have hdl : (out.map (lastC xs d)).length = n := by rw [List.length_map]; exact hn.symm
          have HDK0 : Hid (∀ j t, out[j]? = some t → (out.map (lastC xs d))[j]? = some (lastC xs d t)) := fun j t ht => by rw [List.getElem?_map, ht]; rfl
          have HDK1 : Hid (∀ j y, (out.map (lastC xs d))[j]? = some y → ∃ t, out[j]? = some t ∧ y = lastC xs d t) := fun j y hy => by
            rw [List.getElem?_map, Option.map_eq_some_iff] at hy
            obtain ⟨t, ht, rfl⟩ := hy
            exact ⟨t, ht, rfl⟩
          rw [← hn] at hol hco hcd ⊢
          have HDM : Hid (∀ at_, (out.take at_ ++ s :: out.drop at_).map (lastC xs d) = (out.map (lastC xs d)).take at_ ++ zs :: (out.map (lastC xs d)).drop at_) := fun at_ => by rw [HZS.out, List.map_append, List.map_cons, List.map_take, List.map_drop]
          generalize hdle : out.map (lastC xs d) = dl at *
          have HDLE := Lib.hid hdle
          have HNN := Lib.hid hn
          have HLD := Lib.hid hdl
          have HGO := Lib.hid hgoc
          have HGD := Lib.hid hgdc
          have hn1 : n ≤ 160 := by omega
          clear hnil hos hod hdl hgoc hgdc hn0 hdle hn
          go_wp2_with fail
          refine HL3.out.mono ?_
          rintro e W3 ⟨rfl, rfl⟩
          go_wp2_with fail
          go_loopw [15] (fun av wq => ∃ at_ : Nat, av = .int .i64 at_ ∧ at_ ≤ n ∧ WI = wq ∧ Hid (∀ j y, at_ ≤ j → dl[j]? = some y → zs < y)) (fun av _ => (intOf av).toNat)
          case atStart => exact ⟨n, rfl, Nat.le_refl _, (by trivial), fun j y hj hy => absurd (List.getElem?_eq_some_iff.1 hy).1 (by have := HLD.out; omega)⟩
          case round =>
            obtain ⟨at_, rfl, han, rfl, HGT2⟩ := hrel
            by_cases ha0 : 0 < at_
            · obtain ⟨a1, ha1⟩ : ∃ a1, a1 + 1 = at_ := ⟨at_ - 1, by omega⟩
              obtain ⟨y, hy⟩ : ∃ y, dl[a1]? = some y := ⟨dl[a1]'(by have := HLD.out; omega), List.getElem?_eq_getElem _⟩
              have cy := HGD.out a1 (.int .i64 y) (by unfold intC; rw [List.getElem?_map, hy]; rfl)
              have za : (at_ : Int) - 1 = (a1 : Int) := by omega
              have va : IntKind.i64.wrap (a1 : Int) = (a1 : Int) := by rw [IntKind.wrap_i64]; omega
              have ha2 : (0 : Int) < at_ := by omega
              have ha3 : (a1 : Int) < n := by omega
              have HY := Lib.hid hy
              have HA1 := Lib.hid ha1
              have hza : a1 ≤ n := by omega
              have hzm : a1 < at_ := by omega
              clear hy ha1
              cases hyz : decide (zs < y)
              case true =>
                have HG3 : Hid (∀ j y, a1 ≤ j → dl[j]? = some y → zs < y) := fun j y' hj hy' => by
                  rcases Nat.eq_or_lt_of_le hj with e | h
                  · subst e
                    rw [HY.out] at hy'
                    cases hy'
                    exact of_decide_eq_true hyz
                  · exact HGT2.out j y' (by have := HA1.out; omega) hy'
                go_wp2_with fail
                go_roundw
                case rel => exact ⟨a1, by first | rfl | go_num, hza, (by trivial), HG3⟩
                case measure => simp [intOf]; omega
              case false =>
                have HLE : Hid (∀ j t, j < at_ → out[j]? = some t → lastC xs d t ≤ lastC xs d s) := fun j t hj ht => by
                  obtain ⟨t0, ht0, he0⟩ := HDK1.out a1 y HY.out
                  have := of_decide_eq_false hyz
                  exact asc_low HRF.out.asc ht0 (by rw [← he0, ← HZS.out]; omega) j t (by have := HA1.out; omega) ht
                have HTKs := Lib.hid (show (out.take at_).length = at_ by rw [List.length_take]; have := HNN.out; omega)
                have HTLs := Lib.hid (show (strC (out.take at_)).length = at_ * 1 by rw [strC_len, HTKs.out, Nat.mul_one])
                have HDKs := Lib.hid (show (out.drop at_).length = n - at_ by rw [List.length_drop, ← HNN.out])
                have HTKi := Lib.hid (show (dl.take at_).length = at_ by rw [List.length_take]; have := HLD.out; omega)
                have HTLi := Lib.hid (show (intC (dl.take at_)).length = at_ * 1 by rw [intC_len, HTKi.out, Nat.mul_one])
                have HDKi := Lib.hid (show (dl.drop at_).length = n - at_ by rw [List.length_drop, HLD.out])
                obtain ⟨qs, hqs⟩ : ∃ q, q = (if co = at_ then (⟨go, 0, none⟩ : Addr) else ⟨go, at_, none⟩) := ⟨_, rfl⟩
                obtain ⟨qd, hqd⟩ : ∃ q, q = (if cd = at_ then (⟨gd, 0, none⟩ : Addr) else ⟨gd, at_, none⟩) := ⟨_, rfl⟩
                have hq1 : (if co = at_ then some (⟨go, 0, none⟩ : Addr) else some ⟨go, at_, none⟩) = some qs := by rw [hqs]; split <;> rfl
                have hq2 : (if cd = at_ then some (⟨gd, 0, none⟩ : Addr) else some ⟨gd, at_, none⟩) = some qd := by rw [hqd]; split <;> rfl
                have HCAs : Hid (∀ W, Gr WI W → ∀ j u, (strC (out.take at_))[j]? = some u → W.cell? ((⟨go, 0, none⟩ : Addr).add j) = some u) := fun W h j u hu => part_low HGO.out h at_ j u (by unfold strC at hu ⊢; rw [← List.map_take]; exact hu)
                have HCPs : Hid (∀ W, Gr WI W → ∀ j u, (strC (out.drop at_))[j]? = some u → W.cell? (qs.add j) = some u) := fun W h j u hu => part_high HGO.out (by rw [strC_len]; exact HNN.out.symm) hco hqs h j u (by unfold strC at hu ⊢; rw [← List.map_drop]; exact hu)
                have HCAi0 : Hid (∀ W, Gr WI W → ∀ j u, (intC (dl.take at_))[j]? = some u → W.cell? ((⟨gd, 0, none⟩ : Addr).add j) = some u) := fun W h j u hu => part_low HGD.out h at_ j u (by unfold intC at hu ⊢; rw [← List.map_take]; exact hu)
                have HCPi0 : Hid (∀ W, Gr WI W → ∀ j u, (intC (dl.drop at_))[j]? = some u → W.cell? (qd.add j) = some u) := fun W h j u hu => part_high HGD.out (by rw [intC_len]; exact HLD.out) hcd hqd h j u (by unfold intC at hu ⊢; rw [← List.map_drop]; exact hu)
                have hcs1 : ¬ co < at_ := by omega
                have hcs2 : ¬ cd < at_ := by omega
                have hcs3 : (at_ : Int) ≤ co := by omega
                have hcs4 : (at_ : Int) ≤ cd := by omega
                have hcs5 : (0 : Int) ≤ at_ := by omega
                have hcs6 : decide ((at_ : Int) < 0) = false := decide_eq_false (by omega)
                have hcs7 : (at_ : Int) ≤ n := by omega
                have HNL : Hid ((out.take at_ ++ s :: out.drop at_).length = at_ + 1 + (n - at_)) := by rw [Hid, List.length_append, List.length_cons, HTKs.out, HDKs.out]; omega
                have HRN : Hid (Ref (lastC xs d) (out.take at_ ++ s :: out.drop at_) (poolU xs sp d ((drawnS kn cs).take (i + 1)))) := by
                  rw [Hid, HPN.out]
                  exact ref_put HRF.out s at_ HLE.out (fun j t hj ht => by
                    have := HGT2.out j (lastC xs d t) hj (HDK0.out j t ht)
                    rw [HZS.out] at this
                    exact this)
                have HSS : Hid (strC (out.take at_ ++ [s] ++ out.drop at_) = strC (out.take at_ ++ s :: out.drop at_)) := by rw [Hid, List.append_assoc]; rfl
                have HII : Hid (intC (dl.take at_ ++ [zs] ++ dl.drop at_) = intC ((out.take at_ ++ s :: out.drop at_).map (lastC xs d))) := by rw [Hid, HDM.out at_, List.append_assoc]; rfl
                have han2 : at_ + 1 + (n - at_) ≤ i + 1 := by omega
                have han3 : at_ + 1 + (n - at_) ≠ 0 := by omega
                clear hqs hqd
                have hEs : (WI.alloc (.cells #[] 9)).ownsRow WI.heap.size 9 1 (.slice (some ⟨WI.heap.size, 0, none⟩) 0 0) 0 [] := own_none (heap_alloc_new _ _) (Nat.le_refl _)
                have gEs : Gr WI (WI.alloc (.cells #[] 9)) := (Gr.refl _).alloc _
                go_wp2_with (first
                  | (at_builtin; refine wpList_append_own_at _ rfl _ _ 22 rfl WI.heap.size 9 iS (.string ⟨#[]⟩) 1 16 Tryz.underlying22 hiS hzS0 hzS1 hzS2 rfl (by decide) _ _ _ rfl hEs ⟨go, 0, none⟩ at_ co (strC (out.take at_)) rfl HTLs.out (fun j u hu => HCAs.out _ gEs j u hu) (by intro u hu; unfold strC at hu; obtain ⟨q, _, rfl⟩ := List.mem_map.1 hu; rfl) (by unfold maxLen; omega) (by omega) gEs.size ?_; intro v1s W1s hown1 hgr1 hnil1 hat1))
                have own1s : W1s.ownsRow WI.heap.size 9 1 v1s at_ (strC (out.take at_)) := by simpa using hown1
                have gr1s : Gr WI W1s := Below.grown gEs hgr1 gEs.size (fun j hj => (hEs.lt j hj).1)
                clear hown1 hgr1 hnil1 hat1 hEs gEs
                refine wp_region_held_drew (S := fun _ => True) (by kernel_rfl) trivial (fun hHeld => ?_)
                have gV := (Gr.refl W1s).drew
                have ho := own1s.drew
                have hGV := gr1s.trans gV
                clear gV own1s gr1s
                generalize W1s.drew = V at *
                refine wpAnyH_take (i := 0) (v := v1s) (op_at rfl) (by kernel_rfl) (by kernel_rfl) (by kernel_rfl) (fun _ _ _ h => h) (Or.inl ⟨rfl, fun w hSw => ?_⟩) (by assumption) ?_
                · (try dsimp only at hSw); go_simp; try with_reducible rfl
                (try simp only [Act.put, List.setIfInBounds_toArray, List.set_cons_zero, List.set_cons_succ])
                refine wpAnyH_take (i := 1) (v := (.string s)) (op_at rfl) (by kernel_rfl) (by kernel_rfl) (by kernel_rfl) (fun _ _ _ h => h) (Or.inl ⟨rfl, fun w hSw => ?_⟩) (by assumption) ?_
                · (try dsimp only at hSw); go_simp; try with_reducible rfl
                (try simp only [Act.put, List.setIfInBounds_toArray, List.set_cons_zero, List.set_cons_succ])
                refine wpAnyH_take (i := 4) (v := (.slice (some ⟨go, 0, none⟩) n co)) (op_at rfl) (by kernel_rfl) (by kernel_rfl) (by kernel_rfl) (fun _ _ _ h => h) (Or.inl ⟨rfl, fun w hSw => ?_⟩) (by assumption) ?_
                · (try dsimp only at hSw); go_simp; try with_reducible rfl
                (try simp only [Act.put, List.setIfInBounds_toArray, List.set_cons_zero, List.set_cons_succ])
                refine wpAnyH_take (i := 5) (v := (.int .i64 at_)) (op_at rfl) (by kernel_rfl) (by kernel_rfl) (by kernel_rfl) (fun _ _ _ h => h) (Or.inl ⟨rfl, fun w hSw => ?_⟩) (by assumption) ?_
                · (try dsimp only at hSw); go_simp; try with_reducible rfl
                (try simp only [Act.put, List.setIfInBounds_toArray, List.set_cons_zero, List.set_cons_succ])
                refine wpAnyH_take (i := 6) (v := (.slice (some qs) (n - at_) (co - at_))) (op_at rfl) (by kernel_rfl) (by kernel_rfl) (by kernel_rfl) (fun _ _ _ h => h) (Or.inl ⟨rfl, fun w hSw => ?_⟩) (by assumption) ?_
                · (try dsimp only at hSw); go_simp; try with_reducible rfl
                (try simp only [Act.put, List.setIfInBounds_toArray, List.set_cons_zero, List.set_cons_succ])
                refine wpAnyH_ready (rs := [2]) (by kernel_rfl) (by simp) (AllReadyH.cons (op_at rfl) (fun K hK => ?_) AllReadyH.nil)
                go_simp
                obtain ⟨Wb, hWb, gB, sX⟩ := box1 V (.string s) 9
                have hob := own_kept ho gB
                have hGB := hGV.trans gB
                rw [hWb]
                clear hWb
                refine hK.out _ _ trivial (fun hHeld => ?_)
                clear hK K
                (try simp only [Act.put, List.setIfInBounds_toArray, List.set_cons_zero, List.set_cons_succ])
                refine wpAnyH_ready (rs := [3]) (by kernel_rfl) (by simp) (AllReadyH.cons (op_at rfl) (fun K hK => ?_) AllReadyH.nil)
                rw [if_pos (show Region.wanted _ _ = true from rfl)]
                refine step_str _ _ rfl WI.heap.size v1s (out.take at_) [s] at_ 1 HTKs.out rfl rfl hob ⟨V.heap.size, 0, none⟩ 1 rfl (fun j u hu => by
                  match j, hu with
                  | 0, hu => simp [strC] at hu; subst hu; exact sX
                  | j + 1, hu => simp [strC] at hu) (by omega) hGB.size (fun v2 W2 hown2 hgr2 _ => ?_)
                have hG2 : Gr WI W2 := Below.grown hGB hgr2 hGB.size (fun j hj => (hob.lt j hj).1)
                refine hK.out _ _ trivial (fun hHeld => ?_)
                clear hK K
                (try simp only [Act.put, List.setIfInBounds_toArray, List.set_cons_zero, List.set_cons_succ])
                refine wpAnyH_ready (rs := [7]) (by kernel_rfl) (by simp) (AllReadyH.cons (op_at rfl) (fun K hK => ?_) AllReadyH.nil)
                rw [if_pos (show Region.wanted _ _ = true from rfl)]
                refine step_str _ _ rfl WI.heap.size v2 _ (out.drop at_) _ (n - at_) (by rw [List.length_append, HTKs.out]; rfl) HDKs.out rfl hown2 qs _ rfl (fun j u hu => HCPs.out W2 hG2 j u hu) (by omega) hG2.size (fun v3 W3 hown3 hgr3 _ => ?_)
                have hG3 : Gr WI W3 := Below.grown hG2 hgr3 hG2.size (fun j hj => (hown2.lt j hj).1)
                refine hK.out _ _ trivial (fun hHeld => ?_)
                clear hK K
                (try simp only [Act.put, List.setIfInBounds_toArray, List.set_cons_zero, List.set_cons_succ])
                refine wpAnyH_take (i := 8) (v := v3) (op_at rfl) (by kernel_rfl) (by kernel_rfl) (by kernel_rfl) (fun _ _ _ h => h) (Or.inl ⟨rfl, fun w hSw => ?_⟩) (by assumption) ?_
                · (try dsimp only at hSw); go_simp; try with_reducible rfl
                (try simp only [Act.put, List.setIfInBounds_toArray, List.set_cons_zero, List.set_cons_succ])
                refine wpAnyH_done (by kernel_rfl) ?_ _
                obtain ⟨VFs, rfl⟩ : ∃ X : Value, X = v3 := ⟨v3, rfl⟩
                obtain ⟨WFs, rfl⟩ : ∃ X : World, X = W3 := ⟨W3, rfl⟩
                have ownFs := hown3
                have grFs := hG3
                clear hGV hGB hob ho hgr2 hown2 hG2 hgr3 hown3 hG3 sX gB
                obtain ⟨WP, hWP⟩ : ∃ X : World, X = WFs := ⟨WFs, rfl⟩
                rw [← hWP] at grFs ownFs ⊢
                clear hWP
                have HCAi := Lib.hid (fun W (h : Gr WP W) => HCAi0.out W (grFs.trans h))
                have HCPi := Lib.hid (fun W (h : Gr WP W) => HCPi0.out W (grFs.trans h))
                have hEi : (WP.alloc (.cells #[] 3)).ownsRow WP.heap.size 3 1 (.slice (some ⟨WP.heap.size, 0, none⟩) 0 0) 0 [] := own_none (heap_alloc_new _ _) (Nat.le_refl _)
                have gEi : Gr WP (WP.alloc (.cells #[] 3)) := (Gr.refl _).alloc _
                go_wp2_with (first
                  | (at_builtin; refine wpList_append_own_at _ rfl _ _ 51 rfl WP.heap.size 3 iI (.int .i64 0) 1 8 Tryz.underlying51 hiI hzI0 hzI1 hzI2 rfl (by decide) _ _ _ rfl hEi ⟨gd, 0, none⟩ at_ cd (intC (dl.take at_)) rfl HTLi.out (fun j u hu => HCAi.out _ gEi j u hu) (by intro u hu; unfold intC at hu; obtain ⟨q, _, rfl⟩ := List.mem_map.1 hu; rfl) (by unfold maxLen; omega) (by omega) gEi.size ?_; intro v1i W1i hown1 hgr1 hnil1 hat1))
                have own1i : W1i.ownsRow WP.heap.size 3 1 v1i at_ (intC (dl.take at_)) := by simpa using hown1
                have gr1i : Gr WP W1i := Below.grown gEi hgr1 gEi.size (fun j hj => (hEi.lt j hj).1)
                clear hown1 hgr1 hnil1 hat1 hEi gEi
                refine wp_region_held_drew (S := fun _ => True) (by kernel_rfl) trivial (fun hHeld => ?_)
                have gV := (Gr.refl W1i).drew
                have ho := own1i.drew
                have hGV := gr1i.trans gV
                clear gV own1i gr1i
                generalize W1i.drew = V at *
                refine wpAnyH_take (i := 0) (v := v1i) (op_at rfl) (by kernel_rfl) (by kernel_rfl) (by kernel_rfl) (fun _ _ _ h => h) (Or.inl ⟨rfl, fun w hSw => ?_⟩) (by assumption) ?_
                · (try dsimp only at hSw); go_simp; try with_reducible rfl
                (try simp only [Act.put, List.setIfInBounds_toArray, List.set_cons_zero, List.set_cons_succ])
                refine wpAnyH_take (i := 1) (v := (.int .i64 zs)) (op_at rfl) (by kernel_rfl) (by kernel_rfl) (by kernel_rfl) (fun _ _ _ h => h) (Or.inl ⟨rfl, fun w hSw => ?_⟩) (by assumption) ?_
                · (try dsimp only at hSw); go_simp; try with_reducible rfl
                (try simp only [Act.put, List.setIfInBounds_toArray, List.set_cons_zero, List.set_cons_succ])
                refine wpAnyH_take (i := 4) (v := (.slice (some ⟨gd, 0, none⟩) n cd)) (op_at rfl) (by kernel_rfl) (by kernel_rfl) (by kernel_rfl) (fun _ _ _ h => h) (Or.inl ⟨rfl, fun w hSw => ?_⟩) (by assumption) ?_
                · (try dsimp only at hSw); go_simp; try with_reducible rfl
                (try simp only [Act.put, List.setIfInBounds_toArray, List.set_cons_zero, List.set_cons_succ])
                refine wpAnyH_take (i := 5) (v := (.int .i64 at_)) (op_at rfl) (by kernel_rfl) (by kernel_rfl) (by kernel_rfl) (fun _ _ _ h => h) (Or.inl ⟨rfl, fun w hSw => ?_⟩) (by assumption) ?_
                · (try dsimp only at hSw); go_simp; try with_reducible rfl
                (try simp only [Act.put, List.setIfInBounds_toArray, List.set_cons_zero, List.set_cons_succ])
                refine wpAnyH_take (i := 6) (v := (.slice (some qd) (n - at_) (cd - at_))) (op_at rfl) (by kernel_rfl) (by kernel_rfl) (by kernel_rfl) (fun _ _ _ h => h) (Or.inl ⟨rfl, fun w hSw => ?_⟩) (by assumption) ?_
                · (try dsimp only at hSw); go_simp; try with_reducible rfl
                (try simp only [Act.put, List.setIfInBounds_toArray, List.set_cons_zero, List.set_cons_succ])
                refine wpAnyH_ready (rs := [2]) (by kernel_rfl) (by simp) (AllReadyH.cons (op_at rfl) (fun K hK => ?_) AllReadyH.nil)
                go_simp
                obtain ⟨Wb, hWb, gB, sX⟩ := box1 V (.int .i64 zs) 3
                have hob := own_kept ho gB
                have hGB := hGV.trans gB
                rw [hWb]
                clear hWb
                refine hK.out _ _ trivial (fun hHeld => ?_)
                clear hK K
                (try simp only [Act.put, List.setIfInBounds_toArray, List.set_cons_zero, List.set_cons_succ])
                refine wpAnyH_ready (rs := [3]) (by kernel_rfl) (by simp) (AllReadyH.cons (op_at rfl) (fun K hK => ?_) AllReadyH.nil)
                rw [if_pos (show Region.wanted _ _ = true from rfl)]
                refine step_int _ _ rfl WP.heap.size v1i (dl.take at_) [zs] at_ 1 HTKi.out rfl rfl hob ⟨V.heap.size, 0, none⟩ 1 rfl (fun j u hu => by
                  match j, hu with
                  | 0, hu => simp [intC] at hu; subst hu; exact sX
                  | j + 1, hu => simp [intC] at hu) (by omega) hGB.size (fun v2 W2 hown2 hgr2 _ => ?_)
                have hG2 : Gr WP W2 := Below.grown hGB hgr2 hGB.size (fun j hj => (hob.lt j hj).1)
                refine hK.out _ _ trivial (fun hHeld => ?_)
                clear hK K
                (try simp only [Act.put, List.setIfInBounds_toArray, List.set_cons_zero, List.set_cons_succ])
                refine wpAnyH_ready (rs := [7]) (by kernel_rfl) (by simp) (AllReadyH.cons (op_at rfl) (fun K hK => ?_) AllReadyH.nil)
                rw [if_pos (show Region.wanted _ _ = true from rfl)]
                refine step_int _ _ rfl WP.heap.size v2 _ (dl.drop at_) _ (n - at_) (by rw [List.length_append, HTKi.out]; rfl) HDKi.out rfl hown2 qd _ rfl (fun j u hu => HCPi.out W2 hG2 j u hu) (by omega) hG2.size (fun v3 W3 hown3 hgr3 _ => ?_)
                have hG3 : Gr WP W3 := Below.grown hG2 hgr3 hG2.size (fun j hj => (hown2.lt j hj).1)
                refine hK.out _ _ trivial (fun hHeld => ?_)
                clear hK K
                (try simp only [Act.put, List.setIfInBounds_toArray, List.set_cons_zero, List.set_cons_succ])
                refine wpAnyH_take (i := 8) (v := v3) (op_at rfl) (by kernel_rfl) (by kernel_rfl) (by kernel_rfl) (fun _ _ _ h => h) (Or.inl ⟨rfl, fun w hSw => ?_⟩) (by assumption) ?_
                · (try dsimp only at hSw); go_simp; try with_reducible rfl
                (try simp only [Act.put, List.setIfInBounds_toArray, List.set_cons_zero, List.set_cons_succ])
                refine wpAnyH_done (by kernel_rfl) ?_ _
                obtain ⟨VFi, rfl⟩ : ∃ X : Value, X = v3 := ⟨v3, rfl⟩
                obtain ⟨WFi, rfl⟩ : ∃ X : World, X = W3 := ⟨W3, rfl⟩
                have ownFi := hown3
                have grFi := hG3
                clear hGV hGB hob ho hgr2 hown2 hG2 hgr3 hown3 hG3 sX gB
                have hfin : Gr WI WFi := grFs.trans grFi
                have ownS := own_low (own_kept ownFs grFi) hgs
                have ownI := own_low ownFi (Nat.le_trans hgs grFs.size)
                go_wp2_with fail
                go_roundw
                case rel =>
                  refine ⟨i + 1, out.take at_ ++ s :: out.drop at_, by omega, by go_num, ?_, ?_, ?_, hg.trans hfin, ?_, HRN⟩
                  · rw [HNL.out, ← HSS.out]; exact ownS
                  · rw [HNL.out, ← HII.out]; exact ownI
                  · rw [HNL.out]; exact fun h => absurd h han3
                  · rw [HNL.out]; exact han2
                case measure => simp [intOf]; omega
            · have ha2 : ¬ (0 : Int) < at_ := by omega
              have ha3 : decide ((0 : Int) < at_) = false := decide_eq_false ha2
              have HLE : Hid (∀ j t, j < at_ → out[j]? = some t → lastC xs d t ≤ lastC xs d s) := fun j t hj ht => absurd hj (by omega)
              have HTKs := Lib.hid (show (out.take at_).length = at_ by rw [List.length_take]; have := HNN.out; omega)
              have HTLs := Lib.hid (show (strC (out.take at_)).length = at_ * 1 by rw [strC_len, HTKs.out, Nat.mul_one])
              have HDKs := Lib.hid (show (out.drop at_).length = n - at_ by rw [List.length_drop, ← HNN.out])
              have HTKi := Lib.hid (show (dl.take at_).length = at_ by rw [List.length_take]; have := HLD.out; omega)
              have HTLi := Lib.hid (show (intC (dl.take at_)).length = at_ * 1 by rw [intC_len, HTKi.out, Nat.mul_one])
              have HDKi := Lib.hid (show (dl.drop at_).length = n - at_ by rw [List.length_drop, HLD.out])
              obtain ⟨qs, hqs⟩ : ∃ q, q = (if co = at_ then (⟨go, 0, none⟩ : Addr) else ⟨go, at_, none⟩) := ⟨_, rfl⟩
              obtain ⟨qd, hqd⟩ : ∃ q, q = (if cd = at_ then (⟨gd, 0, none⟩ : Addr) else ⟨gd, at_, none⟩) := ⟨_, rfl⟩
              have hq1 : (if co = at_ then some (⟨go, 0, none⟩ : Addr) else some ⟨go, at_, none⟩) = some qs := by rw [hqs]; split <;> rfl
              have hq2 : (if cd = at_ then some (⟨gd, 0, none⟩ : Addr) else some ⟨gd, at_, none⟩) = some qd := by rw [hqd]; split <;> rfl
              have HCAs : Hid (∀ W, Gr WI W → ∀ j u, (strC (out.take at_))[j]? = some u → W.cell? ((⟨go, 0, none⟩ : Addr).add j) = some u) := fun W h j u hu => part_low HGO.out h at_ j u (by unfold strC at hu ⊢; rw [← List.map_take]; exact hu)
              have HCPs : Hid (∀ W, Gr WI W → ∀ j u, (strC (out.drop at_))[j]? = some u → W.cell? (qs.add j) = some u) := fun W h j u hu => part_high HGO.out (by rw [strC_len]; exact HNN.out.symm) hco hqs h j u (by unfold strC at hu ⊢; rw [← List.map_drop]; exact hu)
              have HCAi0 : Hid (∀ W, Gr WI W → ∀ j u, (intC (dl.take at_))[j]? = some u → W.cell? ((⟨gd, 0, none⟩ : Addr).add j) = some u) := fun W h j u hu => part_low HGD.out h at_ j u (by unfold intC at hu ⊢; rw [← List.map_take]; exact hu)
              have HCPi0 : Hid (∀ W, Gr WI W → ∀ j u, (intC (dl.drop at_))[j]? = some u → W.cell? (qd.add j) = some u) := fun W h j u hu => part_high HGD.out (by rw [intC_len]; exact HLD.out) hcd hqd h j u (by unfold intC at hu ⊢; rw [← List.map_drop]; exact hu)
              have hcs1 : ¬ co < at_ := by omega
              have hcs2 : ¬ cd < at_ := by omega
              have hcs3 : (at_ : Int) ≤ co := by omega
              have hcs4 : (at_ : Int) ≤ cd := by omega
              have hcs5 : (0 : Int) ≤ at_ := by omega
              have hcs6 : decide ((at_ : Int) < 0) = false := decide_eq_false (by omega)
              have hcs7 : (at_ : Int) ≤ n := by omega
              have HNL : Hid ((out.take at_ ++ s :: out.drop at_).length = at_ + 1 + (n - at_)) := by rw [Hid, List.length_append, List.length_cons, HTKs.out, HDKs.out]; omega
              have HRN : Hid (Ref (lastC xs d) (out.take at_ ++ s :: out.drop at_) (poolU xs sp d ((drawnS kn cs).take (i + 1)))) := by
                rw [Hid, HPN.out]
                exact ref_put HRF.out s at_ HLE.out (fun j t hj ht => by
                  have := HGT2.out j (lastC xs d t) hj (HDK0.out j t ht)
                  rw [HZS.out] at this
                  exact this)
              have HSS : Hid (strC (out.take at_ ++ [s] ++ out.drop at_) = strC (out.take at_ ++ s :: out.drop at_)) := by rw [Hid, List.append_assoc]; rfl
              have HII : Hid (intC (dl.take at_ ++ [zs] ++ dl.drop at_) = intC ((out.take at_ ++ s :: out.drop at_).map (lastC xs d))) := by rw [Hid, HDM.out at_, List.append_assoc]; rfl
              have han2 : at_ + 1 + (n - at_) ≤ i + 1 := by omega
              have han3 : at_ + 1 + (n - at_) ≠ 0 := by omega
              clear hqs hqd
              have hEs : (WI.alloc (.cells #[] 9)).ownsRow WI.heap.size 9 1 (.slice (some ⟨WI.heap.size, 0, none⟩) 0 0) 0 [] := own_none (heap_alloc_new _ _) (Nat.le_refl _)
              have gEs : Gr WI (WI.alloc (.cells #[] 9)) := (Gr.refl _).alloc _
              go_wp2_with (first
                | (at_builtin; refine wpList_append_own_at _ rfl _ _ 22 rfl WI.heap.size 9 iS (.string ⟨#[]⟩) 1 16 Tryz.underlying22 hiS hzS0 hzS1 hzS2 rfl (by decide) _ _ _ rfl hEs ⟨go, 0, none⟩ at_ co (strC (out.take at_)) rfl HTLs.out (fun j u hu => HCAs.out _ gEs j u hu) (by intro u hu; unfold strC at hu; obtain ⟨q, _, rfl⟩ := List.mem_map.1 hu; rfl) (by unfold maxLen; omega) (by omega) gEs.size ?_; intro v1s W1s hown1 hgr1 hnil1 hat1))
              have own1s : W1s.ownsRow WI.heap.size 9 1 v1s at_ (strC (out.take at_)) := by simpa using hown1
              have gr1s : Gr WI W1s := Below.grown gEs hgr1 gEs.size (fun j hj => (hEs.lt j hj).1)
              clear hown1 hgr1 hnil1 hat1 hEs gEs
              refine wp_region_held_drew (S := fun _ => True) (by kernel_rfl) trivial (fun hHeld => ?_)
              have gV := (Gr.refl W1s).drew
              have ho := own1s.drew
              have hGV := gr1s.trans gV
              clear gV own1s gr1s
              generalize W1s.drew = V at *
              refine wpAnyH_take (i := 0) (v := v1s) (op_at rfl) (by kernel_rfl) (by kernel_rfl) (by kernel_rfl) (fun _ _ _ h => h) (Or.inl ⟨rfl, fun w hSw => ?_⟩) (by assumption) ?_
              · (try dsimp only at hSw); go_simp; try with_reducible rfl
              (try simp only [Act.put, List.setIfInBounds_toArray, List.set_cons_zero, List.set_cons_succ])
              refine wpAnyH_take (i := 1) (v := (.string s)) (op_at rfl) (by kernel_rfl) (by kernel_rfl) (by kernel_rfl) (fun _ _ _ h => h) (Or.inl ⟨rfl, fun w hSw => ?_⟩) (by assumption) ?_
              · (try dsimp only at hSw); go_simp; try with_reducible rfl
              (try simp only [Act.put, List.setIfInBounds_toArray, List.set_cons_zero, List.set_cons_succ])
              refine wpAnyH_take (i := 4) (v := (.slice (some ⟨go, 0, none⟩) n co)) (op_at rfl) (by kernel_rfl) (by kernel_rfl) (by kernel_rfl) (fun _ _ _ h => h) (Or.inl ⟨rfl, fun w hSw => ?_⟩) (by assumption) ?_
              · (try dsimp only at hSw); go_simp; try with_reducible rfl
              (try simp only [Act.put, List.setIfInBounds_toArray, List.set_cons_zero, List.set_cons_succ])
              refine wpAnyH_take (i := 5) (v := (.int .i64 at_)) (op_at rfl) (by kernel_rfl) (by kernel_rfl) (by kernel_rfl) (fun _ _ _ h => h) (Or.inl ⟨rfl, fun w hSw => ?_⟩) (by assumption) ?_
              · (try dsimp only at hSw); go_simp; try with_reducible rfl
              (try simp only [Act.put, List.setIfInBounds_toArray, List.set_cons_zero, List.set_cons_succ])
              refine wpAnyH_take (i := 6) (v := (.slice (some qs) (n - at_) (co - at_))) (op_at rfl) (by kernel_rfl) (by kernel_rfl) (by kernel_rfl) (fun _ _ _ h => h) (Or.inl ⟨rfl, fun w hSw => ?_⟩) (by assumption) ?_
              · (try dsimp only at hSw); go_simp; try with_reducible rfl
              (try simp only [Act.put, List.setIfInBounds_toArray, List.set_cons_zero, List.set_cons_succ])
              refine wpAnyH_ready (rs := [2]) (by kernel_rfl) (by simp) (AllReadyH.cons (op_at rfl) (fun K hK => ?_) AllReadyH.nil)
              go_simp
              obtain ⟨Wb, hWb, gB, sX⟩ := box1 V (.string s) 9
              have hob := own_kept ho gB
              have hGB := hGV.trans gB
              rw [hWb]
              clear hWb
              refine hK.out _ _ trivial (fun hHeld => ?_)
              clear hK K
              (try simp only [Act.put, List.setIfInBounds_toArray, List.set_cons_zero, List.set_cons_succ])
              refine wpAnyH_ready (rs := [3]) (by kernel_rfl) (by simp) (AllReadyH.cons (op_at rfl) (fun K hK => ?_) AllReadyH.nil)
              rw [if_pos (show Region.wanted _ _ = true from rfl)]
              refine step_str _ _ rfl WI.heap.size v1s (out.take at_) [s] at_ 1 HTKs.out rfl rfl hob ⟨V.heap.size, 0, none⟩ 1 rfl (fun j u hu => by
                match j, hu with
                | 0, hu => simp [strC] at hu; subst hu; exact sX
                | j + 1, hu => simp [strC] at hu) (by omega) hGB.size (fun v2 W2 hown2 hgr2 _ => ?_)
              have hG2 : Gr WI W2 := Below.grown hGB hgr2 hGB.size (fun j hj => (hob.lt j hj).1)
              refine hK.out _ _ trivial (fun hHeld => ?_)
              clear hK K
              (try simp only [Act.put, List.setIfInBounds_toArray, List.set_cons_zero, List.set_cons_succ])
              refine wpAnyH_ready (rs := [7]) (by kernel_rfl) (by simp) (AllReadyH.cons (op_at rfl) (fun K hK => ?_) AllReadyH.nil)
              rw [if_pos (show Region.wanted _ _ = true from rfl)]
              refine step_str _ _ rfl WI.heap.size v2 _ (out.drop at_) _ (n - at_) (by rw [List.length_append, HTKs.out]; rfl) HDKs.out rfl hown2 qs _ rfl (fun j u hu => HCPs.out W2 hG2 j u hu) (by omega) hG2.size (fun v3 W3 hown3 hgr3 _ => ?_)
              have hG3 : Gr WI W3 := Below.grown hG2 hgr3 hG2.size (fun j hj => (hown2.lt j hj).1)
              refine hK.out _ _ trivial (fun hHeld => ?_)
              clear hK K
              (try simp only [Act.put, List.setIfInBounds_toArray, List.set_cons_zero, List.set_cons_succ])
              refine wpAnyH_take (i := 8) (v := v3) (op_at rfl) (by kernel_rfl) (by kernel_rfl) (by kernel_rfl) (fun _ _ _ h => h) (Or.inl ⟨rfl, fun w hSw => ?_⟩) (by assumption) ?_
              · (try dsimp only at hSw); go_simp; try with_reducible rfl
              (try simp only [Act.put, List.setIfInBounds_toArray, List.set_cons_zero, List.set_cons_succ])
              refine wpAnyH_done (by kernel_rfl) ?_ _
              obtain ⟨VFs, rfl⟩ : ∃ X : Value, X = v3 := ⟨v3, rfl⟩
              obtain ⟨WFs, rfl⟩ : ∃ X : World, X = W3 := ⟨W3, rfl⟩
              have ownFs := hown3
              have grFs := hG3
              clear hGV hGB hob ho hgr2 hown2 hG2 hgr3 hown3 hG3 sX gB
              obtain ⟨WP, hWP⟩ : ∃ X : World, X = WFs := ⟨WFs, rfl⟩
              rw [← hWP] at grFs ownFs ⊢
              clear hWP
              have HCAi := Lib.hid (fun W (h : Gr WP W) => HCAi0.out W (grFs.trans h))
              have HCPi := Lib.hid (fun W (h : Gr WP W) => HCPi0.out W (grFs.trans h))
              have hEi : (WP.alloc (.cells #[] 3)).ownsRow WP.heap.size 3 1 (.slice (some ⟨WP.heap.size, 0, none⟩) 0 0) 0 [] := own_none (heap_alloc_new _ _) (Nat.le_refl _)
              have gEi : Gr WP (WP.alloc (.cells #[] 3)) := (Gr.refl _).alloc _
              go_wp2_with (first
                | (at_builtin; refine wpList_append_own_at _ rfl _ _ 51 rfl WP.heap.size 3 iI (.int .i64 0) 1 8 Tryz.underlying51 hiI hzI0 hzI1 hzI2 rfl (by decide) _ _ _ rfl hEi ⟨gd, 0, none⟩ at_ cd (intC (dl.take at_)) rfl HTLi.out (fun j u hu => HCAi.out _ gEi j u hu) (by intro u hu; unfold intC at hu; obtain ⟨q, _, rfl⟩ := List.mem_map.1 hu; rfl) (by unfold maxLen; omega) (by omega) gEi.size ?_; intro v1i W1i hown1 hgr1 hnil1 hat1))
              have own1i : W1i.ownsRow WP.heap.size 3 1 v1i at_ (intC (dl.take at_)) := by simpa using hown1
              have gr1i : Gr WP W1i := Below.grown gEi hgr1 gEi.size (fun j hj => (hEi.lt j hj).1)
              clear hown1 hgr1 hnil1 hat1 hEi gEi
              refine wp_region_held_drew (S := fun _ => True) (by kernel_rfl) trivial (fun hHeld => ?_)
              have gV := (Gr.refl W1i).drew
              have ho := own1i.drew
              have hGV := gr1i.trans gV
              clear gV own1i gr1i
              generalize W1i.drew = V at *
              refine wpAnyH_take (i := 0) (v := v1i) (op_at rfl) (by kernel_rfl) (by kernel_rfl) (by kernel_rfl) (fun _ _ _ h => h) (Or.inl ⟨rfl, fun w hSw => ?_⟩) (by assumption) ?_
              · (try dsimp only at hSw); go_simp; try with_reducible rfl
              (try simp only [Act.put, List.setIfInBounds_toArray, List.set_cons_zero, List.set_cons_succ])
              refine wpAnyH_take (i := 1) (v := (.int .i64 zs)) (op_at rfl) (by kernel_rfl) (by kernel_rfl) (by kernel_rfl) (fun _ _ _ h => h) (Or.inl ⟨rfl, fun w hSw => ?_⟩) (by assumption) ?_
              · (try dsimp only at hSw); go_simp; try with_reducible rfl
              (try simp only [Act.put, List.setIfInBounds_toArray, List.set_cons_zero, List.set_cons_succ])
              refine wpAnyH_take (i := 4) (v := (.slice (some ⟨gd, 0, none⟩) n cd)) (op_at rfl) (by kernel_rfl) (by kernel_rfl) (by kernel_rfl) (fun _ _ _ h => h) (Or.inl ⟨rfl, fun w hSw => ?_⟩) (by assumption) ?_
              · (try dsimp only at hSw); go_simp; try with_reducible rfl
              (try simp only [Act.put, List.setIfInBounds_toArray, List.set_cons_zero, List.set_cons_succ])
              refine wpAnyH_take (i := 5) (v := (.int .i64 at_)) (op_at rfl) (by kernel_rfl) (by kernel_rfl) (by kernel_rfl) (fun _ _ _ h => h) (Or.inl ⟨rfl, fun w hSw => ?_⟩) (by assumption) ?_
              · (try dsimp only at hSw); go_simp; try with_reducible rfl
              (try simp only [Act.put, List.setIfInBounds_toArray, List.set_cons_zero, List.set_cons_succ])
              refine wpAnyH_take (i := 6) (v := (.slice (some qd) (n - at_) (cd - at_))) (op_at rfl) (by kernel_rfl) (by kernel_rfl) (by kernel_rfl) (fun _ _ _ h => h) (Or.inl ⟨rfl, fun w hSw => ?_⟩) (by assumption) ?_
              · (try dsimp only at hSw); go_simp; try with_reducible rfl
              (try simp only [Act.put, List.setIfInBounds_toArray, List.set_cons_zero, List.set_cons_succ])
              refine wpAnyH_ready (rs := [2]) (by kernel_rfl) (by simp) (AllReadyH.cons (op_at rfl) (fun K hK => ?_) AllReadyH.nil)
              go_simp
              obtain ⟨Wb, hWb, gB, sX⟩ := box1 V (.int .i64 zs) 3
              have hob := own_kept ho gB
              have hGB := hGV.trans gB
              rw [hWb]
              clear hWb
              refine hK.out _ _ trivial (fun hHeld => ?_)
              clear hK K
              (try simp only [Act.put, List.setIfInBounds_toArray, List.set_cons_zero, List.set_cons_succ])
              refine wpAnyH_ready (rs := [3]) (by kernel_rfl) (by simp) (AllReadyH.cons (op_at rfl) (fun K hK => ?_) AllReadyH.nil)
              rw [if_pos (show Region.wanted _ _ = true from rfl)]
              refine step_int _ _ rfl WP.heap.size v1i (dl.take at_) [zs] at_ 1 HTKi.out rfl rfl hob ⟨V.heap.size, 0, none⟩ 1 rfl (fun j u hu => by
                match j, hu with
                | 0, hu => simp [intC] at hu; subst hu; exact sX
                | j + 1, hu => simp [intC] at hu) (by omega) hGB.size (fun v2 W2 hown2 hgr2 _ => ?_)
              have hG2 : Gr WP W2 := Below.grown hGB hgr2 hGB.size (fun j hj => (hob.lt j hj).1)
              refine hK.out _ _ trivial (fun hHeld => ?_)
              clear hK K
              (try simp only [Act.put, List.setIfInBounds_toArray, List.set_cons_zero, List.set_cons_succ])
              refine wpAnyH_ready (rs := [7]) (by kernel_rfl) (by simp) (AllReadyH.cons (op_at rfl) (fun K hK => ?_) AllReadyH.nil)
              rw [if_pos (show Region.wanted _ _ = true from rfl)]
              refine step_int _ _ rfl WP.heap.size v2 _ (dl.drop at_) _ (n - at_) (by rw [List.length_append, HTKi.out]; rfl) HDKi.out rfl hown2 qd _ rfl (fun j u hu => HCPi.out W2 hG2 j u hu) (by omega) hG2.size (fun v3 W3 hown3 hgr3 _ => ?_)
              have hG3 : Gr WP W3 := Below.grown hG2 hgr3 hG2.size (fun j hj => (hown2.lt j hj).1)
              refine hK.out _ _ trivial (fun hHeld => ?_)
              clear hK K
              (try simp only [Act.put, List.setIfInBounds_toArray, List.set_cons_zero, List.set_cons_succ])
              refine wpAnyH_take (i := 8) (v := v3) (op_at rfl) (by kernel_rfl) (by kernel_rfl) (by kernel_rfl) (fun _ _ _ h => h) (Or.inl ⟨rfl, fun w hSw => ?_⟩) (by assumption) ?_
              · (try dsimp only at hSw); go_simp; try with_reducible rfl
              (try simp only [Act.put, List.setIfInBounds_toArray, List.set_cons_zero, List.set_cons_succ])
              refine wpAnyH_done (by kernel_rfl) ?_ _
              obtain ⟨VFi, rfl⟩ : ∃ X : Value, X = v3 := ⟨v3, rfl⟩
              obtain ⟨WFi, rfl⟩ : ∃ X : World, X = W3 := ⟨W3, rfl⟩
              have ownFi := hown3
              have grFi := hG3
              clear hGV hGB hob ho hgr2 hown2 hG2 hgr3 hown3 hG3 sX gB
              have hfin : Gr WI WFi := grFs.trans grFi
              have ownS := own_low (own_kept ownFs grFi) hgs
              have ownI := own_low ownFi (Nat.le_trans hgs grFs.size)
              go_wp2_with fail
              go_roundw
              case rel =>
                refine ⟨i + 1, out.take at_ ++ s :: out.drop at_, by omega, by go_num, ?_, ?_, ?_, hg.trans hfin, ?_, HRN⟩
                · rw [HNL.out, ← HSS.out]; exact ownS
                · rw [HNL.out, ← HII.out]; exact ownI
                · rw [HNL.out]; exact fun h => absurd h han3
                · rw [HNL.out]; exact han2
              case measure => simp [intOf]; omega
    · have hiN : i = N := by omega
      have hnl : ¬ (i : Int) < N := by omega
      have hF := HRF.out
      rw [hiN, List.take_of_length_le (by have := HDL.out; omega)] at hF
      have HF2 := Lib.hid (HFIN.out out hF)
      have hb0 := hg.cell b0
      have hgw := HGT.out.trans hg
      have hon : out.length ≤ N := by omega
      have HSA := Lib.hid (strAts_of_owns rfl hos)
      obtain ⟨ps, cps, hov⟩ : ∃ p c, u9 = .slice p out.length c := by
        obtain ⟨⟨p, c, e, _⟩⟩ := HSA.out
        exact ⟨p, c, e⟩
      subst hov
      obtain ⟨n, hn⟩ : ∃ n, n = out.length := ⟨_, rfl⟩
      rw [← hn] at hon ⊢
      have HNN := Lib.hid hn
      have hcp : n ≤ cps := by
        obtain ⟨⟨p, c, e, ⟨h1, _⟩, _⟩⟩ := HSA.out
        simp only [Value.slice.injEq] at e
        omega
      obtain ⟨q, hq⟩ : ∃ q, q = (min c (n : Int)).toNat := ⟨_, rfl⟩
      clear hF HRF hos hod hnil hiN hlt hol hn
      go_wp2_with fail
      go_ret
      refine ⟨.slice ps (min c (n : Int)).toNat cps, rfl, ?_, hgw⟩
      rw [← HF2.out, ← HNN.out]
      obtain ⟨⟨p', c', e, ⟨h1, h2⟩, hh⟩⟩ := HSA.out
      simp only [Value.slice.injEq] at e
      obtain ⟨rfl, -, rfl⟩ := e
      have hlen : (out.take (min c (n : Int)).toNat).length = (min c (n : Int)).toNat := by rw [List.length_take, ← HNN.out]; omega
      refine ⟨ps, cps, by rw [hlen], ⟨by rw [hlen]; omega, h2⟩, fun h0 => ?_⟩
      rw [hlen] at h0
      obtain ⟨b, off, e, hc⟩ := hh (by rw [← HNN.out]; omega)
      refine ⟨b, off, e, fun k x hk => ?_⟩
      rw [List.getElem?_take] at hk
      split at hk
      · exact hc k x hk
      · cases hk
end Go.Proofs.YtenkbeeiblhnjaaGreat
