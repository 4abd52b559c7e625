/- Places: the reference's. -/
import Derived.Test.YthfmgficbnmmnaaGreatDoorPlJ
namespace Go.Proofs.YthfmgficbnmmnaaGreatDoor
open Go.RowKit Go.Lib
set_option linter.unusedSimpArgs false
set_option linter.unusedVariables false
/-- the places of a race -/
def rcP (m : Int) (r : RaR) : List PlR := (laneL r).flatMap (plOf m)
theorem rndP_eq (l : List RaR) : rndP l = l.flatMap (rcP ((l.length : Int) + 1)) := by
  unfold rndP clL rcP
  rw [List.flatMap_assoc]
theorem rcP_len (m : Int) (r : RaR) : (rcP m r).length ≤ 2 := by
  have h1 := flat_len (plOf m) 1 (laneL r) (plOf_len _)
  have h2 := laneL_len r
  unfold rcP
  omega
theorem flat_mem_len {α β : Type} (f : α → List β) (c : Nat) (l : List α) (h : ∀ x ∈ l, (f x).length ≤ c) : (l.flatMap f).length ≤ l.length * c := by
  induction l with
  | nil => simp
  | cons x xs ih =>
    have h1 := h x (List.mem_cons_self ..)
    have h2 := ih (fun y hy => h y (List.mem_cons_of_mem _ hy))
    simp only [List.flatMap_cons, List.length_append, List.length_cons]
    have e : (xs.length + 1) * c = xs.length * c + c := Nat.succ_mul _ _
    omega
theorem own_far {w w' : World} {b s n k : Nat} {T T2 : TypeId} {v : Value} {l : List Value} {cur : Array Value} {z : Nat × Nat} (h : w.ownsRow b T s v n l) (hg : w.grownBy w' v.ownBlock) (hk : w.heap[k]? = some (.cells cur T2 z)) (hT : T2 ≠ T) : w'.heap[k]? = some (.cells cur T2 z) :=
  (hg.block k (Array.getElem?_eq_some_iff.1 hk).1 (fun e => by
    rcases h.2 with ⟨rfl, _⟩ | ⟨g, cap, cur', rfl, _, hgg, _⟩
    · cases e
    · cases e
      rw [hgg] at hk
      cases hk
      exact hT rfl)).trans hk
set_option maxRecDepth 100000 in
theorem step_plR {w : World} {o : Oper} {a : Act} {K : Act → World → Prop} {Q : Exit → Act → World → Prop} (TS T : TypeId) (hu : Tryz.prog.underlying TS = some (.slice T)) (hT : (Tryz.prog.info? T).map (fun i => (i.zero, i.size, i.bytes)) = some (some (.agg #[.string ⟨#[]⟩, .int .i64 0]), 2, 24))
    (s x : Operand) (ho : o.op = .call { callee := .builtin .append, args := #[s, x], argTypes := #[TS, TS] })
    (base : Nat) (v : Value) (n : Nat) (xs : List Value) (hs : a.eval s = v) (hown : w.ownsRow base T 2 v n xs) (r : PlR) (g c : Nat) (hx : a.eval x = .slice (some ⟨g, 0, none⟩) 1 c)
    (h0 : w.cell? ⟨g, 0, none⟩ = some (.string r.nm)) (h1 : w.cell? ⟨g, 1, none⟩ = some (.int .i64 r.k)) (hn : n ≤ 1000) (hbase : base ≤ w.heap.size)
    (h : ∀ v' w', w'.ownsRow base T 2 v' (n + 1) (xs ++ plC r) → w.grownBy w' v.ownBlock → K (a.put o.dst v') w') : Oper.wp Tryz.prog o a w K Q := step_pl TS T hu hT s x ho base v n xs hs hown r g c hx h0 h1 hn hbase h
set_option maxHeartbeats 4000000 in
set_option maxRecDepth 100000 in
theorem refPlaces_c (xs : List Rd) (v : Value) (w : World) (hv : RdAts w v xs) (hs : ∀ x ∈ xs, x.l.length ≤ 34) (h0 : roundsE (xs.map Rd.l) = 0) :
    Calls Tryz.prog 17 #[v] w fun e w' => RetPl e w w' (placesL (xs.map Rd.l)) := by
  obtain ⟨m, hm, hm6, hml⟩ := roundsE_zero h0
  rw [List.length_map] at hm
  obtain ⟨i0, hi, hz0, hz1, hz2⟩ := info_parts infoPlR
  obtain ⟨⟨p, cap, rfl, ⟨hcap, hmx⟩, hh⟩⟩ := hv
  obtain ⟨b, off, rfl, hc⟩ := hh (by omega)
  obtain ⟨xl, hxl⟩ : ∃ x, xs[m]? = some x := ⟨xs[m]'(by omega), List.getElem?_eq_getElem _⟩
  have hxm : (xs.map Rd.l)[m]? = some xl.l := by rw [List.getElem?_map, hxl]; rfl
  have hx1 := hml m xl.l hxm
  have hxa := hc m xl hxl
  obtain ⟨r, hr⟩ : ∃ r, xl.l[0]? = some r := ⟨xl.l[0]'(by omega), List.getElem?_eq_getElem _⟩
  obtain ⟨bx, ox, hbx, hcx⟩ := hxa.ok.ra.out (by omega)
  obtain ⟨c0, c1, c2⟩ := hcx 0 r hr
  rw [Nat.zero_mul, Nat.add_zero] at c0 c1 c2
  have hxln := hxa.ok.len
  have cxx := hxa.nm
  rw [hbx] at cxx
  have htop : topP (xs.map Rd.l) = if (winR r).toList = [] then [] else [⟨winR r, 1⟩] := by
    unfold topP
    rw [last_of hm hxl, List.getD_eq_getElem?_getD, hr]; rfl
  have hpl : placesL (xs.map Rd.l) = topP (xs.map Rd.l) ++ (xs.drop 0).reverse.flatMap (fun x => rndP x.l) := by
    unfold placesL; rw [← List.map_reverse, List.flatMap_map, List.drop_zero]
  obtain ⟨n, hn⟩ : ∃ n, n = xs.length := ⟨_, rfl⟩
  rw [← hn] at hcap ⊢
  have HN := Lib.hid hn
  have HNM : Hid (n = m + 1) := by rw [Hid]; omega
  have HTP := Lib.hid htop
  have HPL := Lib.hid hpl
  have HCC := Lib.hid hc
  have HSS := Lib.hid hs
  have hnn : (n : Int) - 1 = (m : Int) := by omega
  have hmm : (m : Int) < (n : Int) := by omega
  have hxn : (0 : Int) < (xl.n : Int) := by omega
  have hWI := fun V => winner_c r.a r.b r.w V
  obtain ⟨xa, xb, xw⟩ := r
  have HWI := Lib.hid hWI
  simp only at c0 c1 c2 HWI
  clear hc hs hml hm hxm hx1 hxa hr hcx htop h0 hh hWI hxl hpl hn hbx
  generalize winR ⟨xa, xb, xw⟩ = nm at *
  go_enter Tryz.func17, Tryz.ntmps17
  go_wp2_with fail
  obtain ⟨W1, hW1, g1, z0, z1, z2⟩ := box3 w (.string xa) (.string xb) (.int .i64 xw) 91
  rw [hW1]
  have HBX : Hid (W1.heap[w.heap.size]? = some (.cells #[.string xa, .string xb, .int .i64 xw] 91 (0, 0))) := by rw [Hid, ← hW1]; exact heap_alloc_new w _
  clear hW1
  refine (HWI.out W1).mono ?_
  rintro e W2 ⟨rfl, g2⟩
  have G2 := Lib.hid (g1.trans g2)
  have HBX2 := Lib.hid (Gr.block g2 HBX.out)
  clear g1 g2 HBX z0 z1 z2 c0 c1 c2 cxx
  obtain ⟨z0, z1, z2⟩ := cells3_of HBX2.out
  have HA : (nm.toList = [] ∧ nm.toList.isEmpty = true) ∨ (¬ nm.toList = [] ∧ nm.toList.isEmpty = false) := by cases nm.toList <;> simp
  rcases HA with ⟨ha, ha2⟩ | ⟨ha, ha2⟩
  · rw [if_pos ha] at HTP
    have HO0 : Hid (W2.ownsRow w.heap.size 106 2 (.slice none 0 0) (topP (xs.map Rd.l)).length (plCs (topP (xs.map Rd.l)))) := by rw [Hid, HTP.out]; exact World.ownsRow_nil _ _ _ _
    have HT1 : Hid ((topP (xs.map Rd.l)).length ≤ 1) := by rw [Hid, HTP.out]; simp
    clear ha HBX2 z0 z1 z2 HTP
    go_wp2_with fail
    go_loopg [3, 5] n (fun gk s3 s5 wr => ∃ k : Nat, s5 = .int .i64 ((k : Int) - 1) ∧ gk = k ∧ k ≤ n ∧ wr.ownsRow w.heap.size 106 2 s3 (topP (xs.map Rd.l) ++ (xs.drop k).reverse.flatMap (fun x => rndP x.l)).length (plCs (topP (xs.map Rd.l) ++ (xs.drop k).reverse.flatMap (fun x => rndP x.l))) ∧ Hid (Gr w wr))
    case atStart => exact ⟨n, by rw [hnn], rfl, Nat.le_refl _, by rw [List.drop_of_length_le (by have := HN.out; omega)]; simpa using HO0.out, G2.out⟩
    case round =>
      obtain ⟨k, rfl, hgk, hkn, hown, HG⟩ := hrel
      rcases Nat.eq_zero_or_pos k with hk0 | hk0
      · subst hk0
        rw [← HPL.out] at hown
        obtain ⟨p9, c9, rfl, _, _⟩ := own_shape hown
        have HV : Hid (RetPl (.returned (.slice p9 (placesL (xs.map Rd.l)).length c9)) w wr (placesL (xs.map Rd.l))) := ⟨p9, c9, rfl, PlS.of_own hown rfl, HG.out⟩
        clear hown
        go_wp2_with fail
        go_ret
        exact HV.out
      · obtain ⟨i, rfl⟩ : ∃ i, k = i + 1 := ⟨k - 1, by omega⟩
        have e1 : ((i + 1 : Nat) : Int) - 1 = (i : Int) := by omega
        rw [e1]
        obtain ⟨x, hx⟩ : ∃ x, xs[i]? = some x := ⟨xs[i]'(by have := HN.out; omega), List.getElem?_eq_getElem _⟩
        have hxa := HCC.out i x hx
        have hx34 := HSS.out x (List.mem_of_getElem? hx)
        have hxl := hxa.ok.len
        have CX := Lib.hid hxa.nm
        have HRX := Lib.hid hxa.ok.ra.out
        have HLL : Hid (topP (xs.map Rd.l) ++ (xs.drop i).reverse.flatMap (fun x => rndP x.l) = (topP (xs.map Rd.l) ++ (xs.drop (i + 1)).reverse.flatMap (fun x => rndP x.l)) ++ rndP x.l) := by
          have e : xs.drop i = x :: xs.drop (i + 1) := by
            obtain ⟨hi, rfl⟩ := List.getElem?_eq_some_iff.1 hx
            exact List.drop_eq_getElem_cons hi
          rw [Hid, e, List.reverse_cons, List.flatMap_append, ← List.append_assoc]; simp
        have hlen : (topP (xs.map Rd.l) ++ (xs.drop (i + 1)).reverse.flatMap (fun x => rndP x.l)).length ≤ 500 := by
          have h1 := flat_mem_len (fun (x : Rd) => rndP x.l) 68 (xs.drop (i + 1)).reverse (fun y hy => by
            have h2 := rndP_len y.l
            have h3 := HSS.out y (List.mem_of_mem_drop (List.mem_reverse.1 hy))
            omega)
          have h4 := HT1.out
          have h5 := HN.out
          have h6 := HNM.out
          rw [List.length_reverse, List.length_drop] at h1
          have h7 : (xs.length - (i + 1)) * 68 ≤ 6 * 68 := Nat.mul_le_mul_right _ (by omega)
          rw [List.length_append]
          omega
        obtain ⟨Lq, hLq⟩ : ∃ Lq, Lq = topP (xs.map Rd.l) ++ (xs.drop (i + 1)).reverse.flatMap (fun x => rndP x.l) := ⟨_, rfl⟩
        rw [← hLq] at hown HLL hlen
        have hin : (i : Int) < (n : Int) := by omega
        have hi0 : (0 : Int) ≤ (i : Int) := by omega
        have hx34n : x.n ≤ 34 := by omega
        have wn : IntKind.i64.wrap ((x.n : Int) + 1) = (x.n : Int) + 1 := by rw [IntKind.wrap_i64]; omega
        have HMK : Hid ((x.l.length : Int) + 1 = (x.n : Int) + 1) := by rw [Hid, hxl]
        have HXL := Lib.hid hxl
        have HLE0 := Lib.hid hlen
        have HOQ := Lib.hid hown
        have cx := Gr.cell HG.out CX.out
        clear hx hxa hx34 hxl hLq hlen hown e1
        go_wp2_with fail
        go_loopg [3, 6] x.n (fun gq s3 s6 wr2 => ∃ k2 : Nat, s6 = .int .i64 (k2 : Int) ∧ gq + k2 = x.n ∧ wr2.ownsRow w.heap.size 106 2 s3 (Lq ++ (x.l.take k2).flatMap (rcP ((x.l.length : Int) + 1))).length (plCs (Lq ++ (x.l.take k2).flatMap (rcP ((x.l.length : Int) + 1)))) ∧ Gr w wr2)
        case atStart => exact ⟨0, rfl, by omega, by simpa using HOQ.out, HG.out⟩
        case round =>
          clear cx HOQ
          obtain ⟨k2, rfl, hgq, hown, gg⟩ := hrel
          have cx := Gr.cell gg CX.out
          by_cases hlt : k2 < x.n
          · obtain ⟨r, hr⟩ : ∃ r, x.l[k2]? = some r := ⟨x.l[k2]'(by have := HXL.out; omega), List.getElem?_eq_getElem _⟩
            obtain ⟨b3, o3, hp3, hc3⟩ := HRX.out (by have := HXL.out; omega)
            obtain ⟨q0, q1, q2⟩ := hc3 k2 r hr
            rw [hp3] at cx
            have hlt2 : (k2 : Int) < (x.n : Int) := by omega
            have HTK0 : (x.l.take (k2 + 1)).flatMap (rcP ((x.l.length : Int) + 1)) = (x.l.take k2).flatMap (rcP ((x.l.length : Int) + 1)) ++ rcP ((x.l.length : Int) + 1) r := by rw [List.take_add_one, hr]; simp
            have hle3 : (Lq ++ (x.l.take k2).flatMap (rcP ((x.l.length : Int) + 1))).length ≤ 600 := by
              have h1 := flat_len (rcP ((x.l.length : Int) + 1)) 2 (x.l.take k2) (rcP_len _)
              have h2 := HLE0.out
              rw [List.length_take] at h1
              rw [List.length_append]; omega
            obtain ⟨xa, xb, xw⟩ := r
            simp only at q0 q1 q2
            replace q0 := Gr.cell gg q0
            replace q1 := Gr.cell gg q1
            replace q2 := Gr.cell gg q2
            have HTK := Lib.hid HTK0
            obtain ⟨L3, hL3⟩ : ∃ L3, L3 = Lq ++ (x.l.take k2).flatMap (rcP ((x.l.length : Int) + 1)) := ⟨_, rfl⟩
            rw [← hL3] at hown hle3
            have HLY := Lib.hid hL3
            have HLE := Lib.hid hle3
            have HA : (xa.toList = [] ∧ xa.toList.isEmpty = true) ∨ (¬ xa.toList = [] ∧ xa.toList.isEmpty = false ∧ (1 : Int) = xw ∧ (xw != 1) = false) ∨ (¬ xa.toList = [] ∧ xa.toList.isEmpty = false ∧ ¬ (1 : Int) = xw ∧ (xw != 1) = true) := by
              by_cases h : (1 : Int) = xw
              · have h2 : (xw != 1) = false := by rw [← h]; rfl
                cases hh : xa.toList <;> simp [h, h2]
              · have h2 : (xw != 1) = true := bne_iff_ne.2 (fun e => h e.symm)
                cases hh : xa.toList <;> simp [h, h2]
            have HB : (xb.toList = [] ∧ xb.toList.isEmpty = true) ∨ (¬ xb.toList = [] ∧ xb.toList.isEmpty = false ∧ (2 : Int) = xw ∧ (xw != 2) = false) ∨ (¬ xb.toList = [] ∧ xb.toList.isEmpty = false ∧ ¬ (2 : Int) = xw ∧ (xw != 2) = true) := by
              by_cases h : (2 : Int) = xw
              · have h2 : (xw != 2) = false := by rw [← h]; rfl
                cases hh : xb.toList <;> simp [h, h2]
              · have h2 : (xw != 2) = true := bne_iff_ne.2 (fun e => h e.symm)
                cases hh : xb.toList <;> simp [h, h2]
            obtain ⟨p3, c3, rfl, _, _⟩ := own_shape hown
            obtain ⟨V1, hV1, g1, y0, y1, y2⟩ := box3 wr (.string xa) (.string xb) (.int .i64 xw) 91
            have BB1 : Hid (V1.heap[wr.heap.size]? = some (.cells #[.string xa, .string xb, .int .i64 xw] 91 (0, 0))) := by rw [Hid, ← hV1]; exact heap_alloc_new wr _
            have GG1 := Lib.hid (Gr.trans gg g1)
            have HOW1 := Lib.hid (own_kept hown g1)
            have HV1 := Lib.hid hV1
            have CX0 := CX.out
            rw [hp3] at CX0
            have CXS := CX
            clear CX
            have CX := Lib.hid CX0
            clear hr hp3 hc3 HTK0 hL3 hle3 hown hV1 g1 y0 y1 y2 gg CX0
            rcases HA with ⟨ha, ha2⟩ | ⟨ha, ha2, hwa, ta⟩ | ⟨ha, ha2, hwa, ta⟩ <;> rcases HB with ⟨hb, hb2⟩ | ⟨hb, hb2, hwb, tb⟩ | ⟨hb, hb2, hwb, tb⟩
            · go_wp2_with fail
              rw [HV1.out]
              have bb := BB1.out
              have gg := GG1.out
              generalize wr.heap.size = Bk at *
              have HRP : Hid (rcP ((x.l.length : Int) + 1) ⟨xa, xb, xw⟩ = []) := by
                rw [Hid, HMK.out]
                unfold rcP laneL
                rw [if_pos ha, if_pos hb]
                simp only [List.nil_append, List.append_nil, List.cons_append, List.flatMap_nil, List.flatMap_cons, plOf]
                skip
                skip
                try (first | done | rfl | simp [inR])
              have HLX : Hid (Lq ++ (x.l.take (k2 + 1)).flatMap (rcP ((x.l.length : Int) + 1)) = L3) := by
                rw [Hid, HTK.out, HRP.out, ← List.append_assoc, ← HLY.out]
                try (first | rfl | simp)
              go_roundg (gk - 1)
              case measure => omega
              case rel => exact ⟨k2 + 1, by go_num, by omega, by rw [HLX.out]; exact HOW1.out, gg⟩
            · have HWB := Lib.hid hwb
              clear hwb
              go_wp2_with fail
              rw [HV1.out]
              have bb := BB1.out
              have gg := GG1.out
              generalize wr.heap.size = Bk at *
              have HRP : Hid (rcP ((x.l.length : Int) + 1) ⟨xa, xb, xw⟩ = []) := by
                rw [Hid, HMK.out]
                unfold rcP laneL
                rw [if_pos ha, if_neg hb]
                simp only [List.nil_append, List.append_nil, List.cons_append, List.flatMap_nil, List.flatMap_cons, plOf]
                skip
                rw [if_pos HWB.out]
                try (first | done | rfl | simp [inR])
              have HLX : Hid (Lq ++ (x.l.take (k2 + 1)).flatMap (rcP ((x.l.length : Int) + 1)) = L3) := by
                rw [Hid, HTK.out, HRP.out, ← List.append_assoc, ← HLY.out]
                try (first | rfl | simp)
              go_roundg (gk - 1)
              case measure => omega
              case rel => exact ⟨k2 + 1, by go_num, by omega, by rw [HLX.out]; exact HOW1.out, gg⟩
            · go_wp2_with fail
              rw [HV1.out]
              have bb := BB1.out
              have gg := GG1.out
              generalize wr.heap.size = Bk at *
              have gd := (Gr.refl V1).drew
              have od := own_kept HOW1.out gd
              have bd := Gr.block gd bb
              have ggd : Gr w V1.drew := gg.drew
              obtain ⟨d0, d1, d2⟩ := cells3_of bd
              have d3 := Gr.cell ggd CX.out
              refine wp_region_held_drew (S := (fun w' => w'.cell? ⟨Bk, 0, none⟩ = some (.string xa) ∧ w'.cell? ⟨Bk, 1, none⟩ = some (.string xb) ∧ w'.cell? ⟨Bk, 2, none⟩ = some (.int .i64 xw) ∧ w'.cell? ⟨b, off + i, none⟩ = some (.slice (some ⟨b3, o3, none⟩) x.n x.c))) (by kernel_rfl) ⟨d0, d1, d2, d3⟩ (fun hHeld => ?_)
              have BD := Lib.hid bd
              have OD := Lib.hid od
              have GD := Lib.hid ggd
              clear gd od bd ggd bb gg
              generalize V1.drew = V0 at *
              refine wpAnyH_take (i := 0) (v := (.slice p3 L3.length c3)) (op_at rfl) (by kernel_rfl) (by kernel_rfl) (by kernel_rfl) (fun _ _ _ h => h) (Or.inl ⟨rfl, fun w hSw => ?_⟩) (by assumption) ?_
              · (try dsimp only at hSw); go_simp; try with_reducible rfl
              (try simp only [Act.put, List.setIfInBounds_toArray, List.set_cons_zero, List.set_cons_succ])
              refine wpAnyH_take (i := 1) (v := (.pointer (some ⟨Bk, 1, none⟩))) (op_at rfl) (by kernel_rfl) (by kernel_rfl) (by kernel_rfl) (fun _ _ _ h => h) (Or.inl ⟨rfl, fun w hSw => ?_⟩) (by assumption) ?_
              · (try dsimp only at hSw); go_simp; try with_reducible rfl
              (try simp only [Act.put, List.setIfInBounds_toArray, List.set_cons_zero, List.set_cons_succ])
              refine wpAnyH_take (i := 2) (v := (.string xb)) (op_at rfl) (by kernel_rfl) (by kernel_rfl) (by kernel_rfl) (fun _ _ _ h => h) (Or.inl ⟨rfl, fun w hSw => ?_⟩) (by assumption) ?_
              · (try dsimp only at hSw); go_simp; try with_reducible rfl
              (try simp only [Act.put, List.setIfInBounds_toArray, List.set_cons_zero, List.set_cons_succ])
              refine wpAnyH_take (i := 3) (v := (.slice (some ⟨b, off, none⟩) n cap)) (op_at rfl) (by kernel_rfl) (by kernel_rfl) (by kernel_rfl) (fun _ _ _ h => h) (Or.inl ⟨rfl, fun w hSw => ?_⟩) (by assumption) ?_
              · (try dsimp only at hSw); go_simp; try with_reducible rfl
              (try simp only [Act.put, List.setIfInBounds_toArray, List.set_cons_zero, List.set_cons_succ])
              refine wpAnyH_take (i := 4) (v := (.int .i64 (i : Int))) (op_at rfl) (by kernel_rfl) (by kernel_rfl) (by kernel_rfl) (fun _ _ _ h => h) (Or.inl ⟨rfl, fun w hSw => ?_⟩) (by assumption) ?_
              · (try dsimp only at hSw); go_simp; try with_reducible rfl
              (try simp only [Act.put, List.setIfInBounds_toArray, List.set_cons_zero, List.set_cons_succ])
              refine wpAnyH_take (i := 5) (v := (.pointer (some ⟨b, off + i, none⟩))) (op_at rfl) (by kernel_rfl) (by kernel_rfl) (by kernel_rfl) (fun _ _ _ h => h) (Or.inl ⟨rfl, fun w hSw => ?_⟩) (by assumption) ?_
              · (try dsimp only at hSw); go_simp; try with_reducible rfl
              (try simp only [Act.put, List.setIfInBounds_toArray, List.set_cons_zero, List.set_cons_succ])
              refine wpAnyH_take (i := 6) (v := (.slice (some ⟨b3, o3, none⟩) x.n x.c)) (op_at rfl) (by kernel_rfl) (by kernel_rfl) (by kernel_rfl) (fun _ _ _ h => h) (Or.inl ⟨rfl, fun w hSw => ?_⟩) (by assumption) ?_
              · (try dsimp only at hSw); go_simp; try with_reducible rfl
              (try simp only [Act.put, List.setIfInBounds_toArray, List.set_cons_zero, List.set_cons_succ])
              refine wpAnyH_take (i := 7) (v := (.int .i64 x.n)) (op_at rfl) (by kernel_rfl) (by kernel_rfl) (by kernel_rfl) (fun _ _ _ h => h) (Or.inl ⟨rfl, fun w hSw => ?_⟩) (by assumption) ?_
              · (try dsimp only at hSw); go_simp; try with_reducible rfl
              (try simp only [Act.put, List.setIfInBounds_toArray, List.set_cons_zero, List.set_cons_succ])
              refine wpAnyH_take (i := 8) (v := (.int .i64 ((x.n : Int) + 1))) (op_at rfl) (by kernel_rfl) (by kernel_rfl) (by kernel_rfl) (fun _ _ _ h => h) (Or.inl ⟨rfl, fun w hSw => ?_⟩) (by assumption) ?_
              · (try dsimp only at hSw); go_simp; try with_reducible rfl
              (try simp only [Act.put, List.setIfInBounds_toArray, List.set_cons_zero, List.set_cons_succ])
              refine wpAnyH_take (i := 9) (v := (.agg #[.string xb, .int .i64 ((x.n : Int) + 1)])) (op_at rfl) (by kernel_rfl) (by kernel_rfl) (by kernel_rfl) (fun _ _ _ h => h) (Or.inl ⟨rfl, fun w hSw => ?_⟩) (by assumption) ?_
              · (try dsimp only at hSw); go_simp; try with_reducible rfl
              (try simp only [Act.put, List.setIfInBounds_toArray, List.set_cons_zero, List.set_cons_succ])
              refine wpAnyH_ready (rs := [10]) (by kernel_rfl) (by simp) (AllReadyH.cons (op_at rfl) (fun K hK => ?_) AllReadyH.nil)
              go_simp
              have ga := (Gr.refl V0).alloc (.cells #[.string xb, .int .i64 ((x.n : Int) + 1)] 106)
              have oa := own_kept OD.out ga
              have ba := Gr.block ga BD.out
              have gga : Gr w (V0.alloc (.cells #[.string xb, .int .i64 ((x.n : Int) + 1)] 106)) := GD.out.trans ga
              replace d0 := Gr.cell ga d0
              replace d1 := Gr.cell ga d1
              replace d2 := Gr.cell ga d2
              replace d3 := Gr.cell ga d3
              refine hK.out _ _ ⟨d0, d1, d2, d3⟩ (fun hHeld => ?_)
              clear hK K
              (try simp only [Act.put, List.setIfInBounds_toArray, List.set_cons_zero, List.set_cons_succ])
              refine wpAnyH_ready (rs := [11]) (by kernel_rfl) (by simp) (AllReadyH.cons (op_at rfl) (fun K hK => ?_) AllReadyH.nil)
              rw [if_pos (show Region.wanted _ _ = true from rfl)]
              refine step_plR 44 106 Tryz.underlying44 infoPlR _ _ rfl w.heap.size (.slice p3 L3.length c3) _ _ rfl oa ⟨xb, (x.n : Int) + 1⟩ V0.heap.size 1 rfl (cell_new V0 #[.string xb, .int .i64 ((x.n : Int) + 1)] 106 0 (by simp)) (cell_new V0 #[.string xb, .int .i64 ((x.n : Int) + 1)] 106 1 (by simp)) (by have := HLE.out; (try simp only [List.length_append, List.length_cons, List.length_nil] at *); omega) (show w.heap.size ≤ _ from Below.size gga) ?_
              intro u1 V5 hown1 hgrow1
              have bb : V5.heap[Bk]? = _ := own_far oa hgrow1 ba (by decide)
              have gg : Gr w V5 := Below.grown gga hgrow1 (show w.heap.size ≤ _ from Below.size gga) (fun q hq => (own_in oa hq).2)
              rw [← plCs_add] at hown1
              obtain ⟨p9, c9, hu1, _, _⟩ := own_shape hown1
              obtain ⟨m9, hm9⟩ : ∃ m9, (L3).length + 1 = m9 := ⟨_, rfl⟩
              have HOWB : Hid (V5.ownsRow w.heap.size 106 2 u1 (L3 ++ [(⟨xb, (x.n : Int) + 1⟩ : PlR)]).length (plCs (L3 ++ [(⟨xb, (x.n : Int) + 1⟩ : PlR)]))) := by rw [Hid, List.length_append]; exact hown1
              rw [hm9] at hu1
              subst hu1
              obtain ⟨d0, d1, d2⟩ := cells3_of bb
              have d3 := Gr.cell gg CX.out
              clear hown1 hgrow1 oa ba gga ga
              refine hK.out _ _ ⟨d0, d1, d2, d3⟩ (fun hHeld => ?_)
              clear hK K
              (try simp only [Act.put, List.setIfInBounds_toArray, List.set_cons_zero, List.set_cons_succ])
              refine wpAnyH_take (i := 12) (v := (.slice p9 m9 c9)) (op_at rfl) (by kernel_rfl) (by kernel_rfl) (by kernel_rfl) (fun _ _ _ h => h) (Or.inl ⟨rfl, fun w hSw => ?_⟩) (by assumption) ?_
              · (try dsimp only at hSw); go_simp; try with_reducible rfl
              (try simp only [Act.put, List.setIfInBounds_toArray, List.set_cons_zero, List.set_cons_succ])
              refine wpAnyH_done (by kernel_rfl) ?_ _
              clear hHeld
              go_wp2_with fail
              have HRP : Hid (rcP ((x.l.length : Int) + 1) ⟨xa, xb, xw⟩ = [⟨xb, (x.n : Int) + 1⟩]) := by
                rw [Hid, HMK.out]
                unfold rcP laneL
                rw [if_pos ha, if_neg hb]
                simp only [List.nil_append, List.append_nil, List.cons_append, List.flatMap_nil, List.flatMap_cons, plOf]
                skip
                rw [if_neg hwb]
                try (first | done | rfl | simp [inR])
              have HLX : Hid (Lq ++ (x.l.take (k2 + 1)).flatMap (rcP ((x.l.length : Int) + 1)) = (L3 ++ [(⟨xb, (x.n : Int) + 1⟩ : PlR)])) := by
                rw [Hid, HTK.out, HRP.out, ← List.append_assoc, ← HLY.out]
                try (first | rfl | simp)
              go_roundg (gk - 1)
              case measure => omega
              case rel => exact ⟨k2 + 1, by go_num, by omega, by rw [HLX.out]; exact HOWB.out, gg⟩
            · have HWA := Lib.hid hwa
              clear hwa
              go_wp2_with fail
              rw [HV1.out]
              have bb := BB1.out
              have gg := GG1.out
              generalize wr.heap.size = Bk at *
              have HRP : Hid (rcP ((x.l.length : Int) + 1) ⟨xa, xb, xw⟩ = []) := by
                rw [Hid, HMK.out]
                unfold rcP laneL
                rw [if_neg ha, if_pos hb]
                simp only [List.nil_append, List.append_nil, List.cons_append, List.flatMap_nil, List.flatMap_cons, plOf]
                rw [if_pos HWA.out]
                skip
                try (first | done | rfl | simp [inR])
              have HLX : Hid (Lq ++ (x.l.take (k2 + 1)).flatMap (rcP ((x.l.length : Int) + 1)) = L3) := by
                rw [Hid, HTK.out, HRP.out, ← List.append_assoc, ← HLY.out]
                try (first | rfl | simp)
              go_roundg (gk - 1)
              case measure => omega
              case rel => exact ⟨k2 + 1, by go_num, by omega, by rw [HLX.out]; exact HOW1.out, gg⟩
            · have HWA := Lib.hid hwa
              clear hwa
              have HWB := Lib.hid hwb
              clear hwb
              go_wp2_with fail
              rw [HV1.out]
              have bb := BB1.out
              have gg := GG1.out
              generalize wr.heap.size = Bk at *
              have HRP : Hid (rcP ((x.l.length : Int) + 1) ⟨xa, xb, xw⟩ = []) := by
                rw [Hid, HMK.out]
                unfold rcP laneL
                rw [if_neg ha, if_neg hb]
                simp only [List.nil_append, List.append_nil, List.cons_append, List.flatMap_nil, List.flatMap_cons, plOf]
                rw [if_pos HWA.out]
                rw [if_pos HWB.out]
                try (first | done | rfl | simp [inR])
              have HLX : Hid (Lq ++ (x.l.take (k2 + 1)).flatMap (rcP ((x.l.length : Int) + 1)) = L3) := by
                rw [Hid, HTK.out, HRP.out, ← List.append_assoc, ← HLY.out]
                try (first | rfl | simp)
              go_roundg (gk - 1)
              case measure => omega
              case rel => exact ⟨k2 + 1, by go_num, by omega, by rw [HLX.out]; exact HOW1.out, gg⟩
            · have HWA := Lib.hid hwa
              clear hwa
              go_wp2_with fail
              rw [HV1.out]
              have bb := BB1.out
              have gg := GG1.out
              generalize wr.heap.size = Bk at *
              have gd := (Gr.refl V1).drew
              have od := own_kept HOW1.out gd
              have bd := Gr.block gd bb
              have ggd : Gr w V1.drew := gg.drew
              obtain ⟨d0, d1, d2⟩ := cells3_of bd
              have d3 := Gr.cell ggd CX.out
              refine wp_region_held_drew (S := (fun w' => w'.cell? ⟨Bk, 0, none⟩ = some (.string xa) ∧ w'.cell? ⟨Bk, 1, none⟩ = some (.string xb) ∧ w'.cell? ⟨Bk, 2, none⟩ = some (.int .i64 xw) ∧ w'.cell? ⟨b, off + i, none⟩ = some (.slice (some ⟨b3, o3, none⟩) x.n x.c))) (by kernel_rfl) ⟨d0, d1, d2, d3⟩ (fun hHeld => ?_)
              have BD := Lib.hid bd
              have OD := Lib.hid od
              have GD := Lib.hid ggd
              clear gd od bd ggd bb gg
              generalize V1.drew = V0 at *
              refine wpAnyH_take (i := 0) (v := (.slice p3 L3.length c3)) (op_at rfl) (by kernel_rfl) (by kernel_rfl) (by kernel_rfl) (fun _ _ _ h => h) (Or.inl ⟨rfl, fun w hSw => ?_⟩) (by assumption) ?_
              · (try dsimp only at hSw); go_simp; try with_reducible rfl
              (try simp only [Act.put, List.setIfInBounds_toArray, List.set_cons_zero, List.set_cons_succ])
              refine wpAnyH_take (i := 1) (v := (.pointer (some ⟨Bk, 1, none⟩))) (op_at rfl) (by kernel_rfl) (by kernel_rfl) (by kernel_rfl) (fun _ _ _ h => h) (Or.inl ⟨rfl, fun w hSw => ?_⟩) (by assumption) ?_
              · (try dsimp only at hSw); go_simp; try with_reducible rfl
              (try simp only [Act.put, List.setIfInBounds_toArray, List.set_cons_zero, List.set_cons_succ])
              refine wpAnyH_take (i := 2) (v := (.string xb)) (op_at rfl) (by kernel_rfl) (by kernel_rfl) (by kernel_rfl) (fun _ _ _ h => h) (Or.inl ⟨rfl, fun w hSw => ?_⟩) (by assumption) ?_
              · (try dsimp only at hSw); go_simp; try with_reducible rfl
              (try simp only [Act.put, List.setIfInBounds_toArray, List.set_cons_zero, List.set_cons_succ])
              refine wpAnyH_take (i := 3) (v := (.slice (some ⟨b, off, none⟩) n cap)) (op_at rfl) (by kernel_rfl) (by kernel_rfl) (by kernel_rfl) (fun _ _ _ h => h) (Or.inl ⟨rfl, fun w hSw => ?_⟩) (by assumption) ?_
              · (try dsimp only at hSw); go_simp; try with_reducible rfl
              (try simp only [Act.put, List.setIfInBounds_toArray, List.set_cons_zero, List.set_cons_succ])
              refine wpAnyH_take (i := 4) (v := (.int .i64 (i : Int))) (op_at rfl) (by kernel_rfl) (by kernel_rfl) (by kernel_rfl) (fun _ _ _ h => h) (Or.inl ⟨rfl, fun w hSw => ?_⟩) (by assumption) ?_
              · (try dsimp only at hSw); go_simp; try with_reducible rfl
              (try simp only [Act.put, List.setIfInBounds_toArray, List.set_cons_zero, List.set_cons_succ])
              refine wpAnyH_take (i := 5) (v := (.pointer (some ⟨b, off + i, none⟩))) (op_at rfl) (by kernel_rfl) (by kernel_rfl) (by kernel_rfl) (fun _ _ _ h => h) (Or.inl ⟨rfl, fun w hSw => ?_⟩) (by assumption) ?_
              · (try dsimp only at hSw); go_simp; try with_reducible rfl
              (try simp only [Act.put, List.setIfInBounds_toArray, List.set_cons_zero, List.set_cons_succ])
              refine wpAnyH_take (i := 6) (v := (.slice (some ⟨b3, o3, none⟩) x.n x.c)) (op_at rfl) (by kernel_rfl) (by kernel_rfl) (by kernel_rfl) (fun _ _ _ h => h) (Or.inl ⟨rfl, fun w hSw => ?_⟩) (by assumption) ?_
              · (try dsimp only at hSw); go_simp; try with_reducible rfl
              (try simp only [Act.put, List.setIfInBounds_toArray, List.set_cons_zero, List.set_cons_succ])
              refine wpAnyH_take (i := 7) (v := (.int .i64 x.n)) (op_at rfl) (by kernel_rfl) (by kernel_rfl) (by kernel_rfl) (fun _ _ _ h => h) (Or.inl ⟨rfl, fun w hSw => ?_⟩) (by assumption) ?_
              · (try dsimp only at hSw); go_simp; try with_reducible rfl
              (try simp only [Act.put, List.setIfInBounds_toArray, List.set_cons_zero, List.set_cons_succ])
              refine wpAnyH_take (i := 8) (v := (.int .i64 ((x.n : Int) + 1))) (op_at rfl) (by kernel_rfl) (by kernel_rfl) (by kernel_rfl) (fun _ _ _ h => h) (Or.inl ⟨rfl, fun w hSw => ?_⟩) (by assumption) ?_
              · (try dsimp only at hSw); go_simp; try with_reducible rfl
              (try simp only [Act.put, List.setIfInBounds_toArray, List.set_cons_zero, List.set_cons_succ])
              refine wpAnyH_take (i := 9) (v := (.agg #[.string xb, .int .i64 ((x.n : Int) + 1)])) (op_at rfl) (by kernel_rfl) (by kernel_rfl) (by kernel_rfl) (fun _ _ _ h => h) (Or.inl ⟨rfl, fun w hSw => ?_⟩) (by assumption) ?_
              · (try dsimp only at hSw); go_simp; try with_reducible rfl
              (try simp only [Act.put, List.setIfInBounds_toArray, List.set_cons_zero, List.set_cons_succ])
              refine wpAnyH_ready (rs := [10]) (by kernel_rfl) (by simp) (AllReadyH.cons (op_at rfl) (fun K hK => ?_) AllReadyH.nil)
              go_simp
              have ga := (Gr.refl V0).alloc (.cells #[.string xb, .int .i64 ((x.n : Int) + 1)] 106)
              have oa := own_kept OD.out ga
              have ba := Gr.block ga BD.out
              have gga : Gr w (V0.alloc (.cells #[.string xb, .int .i64 ((x.n : Int) + 1)] 106)) := GD.out.trans ga
              replace d0 := Gr.cell ga d0
              replace d1 := Gr.cell ga d1
              replace d2 := Gr.cell ga d2
              replace d3 := Gr.cell ga d3
              refine hK.out _ _ ⟨d0, d1, d2, d3⟩ (fun hHeld => ?_)
              clear hK K
              (try simp only [Act.put, List.setIfInBounds_toArray, List.set_cons_zero, List.set_cons_succ])
              refine wpAnyH_ready (rs := [11]) (by kernel_rfl) (by simp) (AllReadyH.cons (op_at rfl) (fun K hK => ?_) AllReadyH.nil)
              rw [if_pos (show Region.wanted _ _ = true from rfl)]
              refine step_plR 44 106 Tryz.underlying44 infoPlR _ _ rfl w.heap.size (.slice p3 L3.length c3) _ _ rfl oa ⟨xb, (x.n : Int) + 1⟩ V0.heap.size 1 rfl (cell_new V0 #[.string xb, .int .i64 ((x.n : Int) + 1)] 106 0 (by simp)) (cell_new V0 #[.string xb, .int .i64 ((x.n : Int) + 1)] 106 1 (by simp)) (by have := HLE.out; (try simp only [List.length_append, List.length_cons, List.length_nil] at *); omega) (show w.heap.size ≤ _ from Below.size gga) ?_
              intro u1 V5 hown1 hgrow1
              have bb : V5.heap[Bk]? = _ := own_far oa hgrow1 ba (by decide)
              have gg : Gr w V5 := Below.grown gga hgrow1 (show w.heap.size ≤ _ from Below.size gga) (fun q hq => (own_in oa hq).2)
              rw [← plCs_add] at hown1
              obtain ⟨p9, c9, hu1, _, _⟩ := own_shape hown1
              obtain ⟨m9, hm9⟩ : ∃ m9, (L3).length + 1 = m9 := ⟨_, rfl⟩
              have HOWB : Hid (V5.ownsRow w.heap.size 106 2 u1 (L3 ++ [(⟨xb, (x.n : Int) + 1⟩ : PlR)]).length (plCs (L3 ++ [(⟨xb, (x.n : Int) + 1⟩ : PlR)]))) := by rw [Hid, List.length_append]; exact hown1
              rw [hm9] at hu1
              subst hu1
              obtain ⟨d0, d1, d2⟩ := cells3_of bb
              have d3 := Gr.cell gg CX.out
              clear hown1 hgrow1 oa ba gga ga
              refine hK.out _ _ ⟨d0, d1, d2, d3⟩ (fun hHeld => ?_)
              clear hK K
              (try simp only [Act.put, List.setIfInBounds_toArray, List.set_cons_zero, List.set_cons_succ])
              refine wpAnyH_take (i := 12) (v := (.slice p9 m9 c9)) (op_at rfl) (by kernel_rfl) (by kernel_rfl) (by kernel_rfl) (fun _ _ _ h => h) (Or.inl ⟨rfl, fun w hSw => ?_⟩) (by assumption) ?_
              · (try dsimp only at hSw); go_simp; try with_reducible rfl
              (try simp only [Act.put, List.setIfInBounds_toArray, List.set_cons_zero, List.set_cons_succ])
              refine wpAnyH_done (by kernel_rfl) ?_ _
              clear hHeld
              go_wp2_with fail
              have HRP : Hid (rcP ((x.l.length : Int) + 1) ⟨xa, xb, xw⟩ = [⟨xb, (x.n : Int) + 1⟩]) := by
                rw [Hid, HMK.out]
                unfold rcP laneL
                rw [if_neg ha, if_neg hb]
                simp only [List.nil_append, List.append_nil, List.cons_append, List.flatMap_nil, List.flatMap_cons, plOf]
                rw [if_pos HWA.out]
                rw [if_neg hwb]
                try (first | done | rfl | simp [inR])
              have HLX : Hid (Lq ++ (x.l.take (k2 + 1)).flatMap (rcP ((x.l.length : Int) + 1)) = (L3 ++ [(⟨xb, (x.n : Int) + 1⟩ : PlR)])) := by
                rw [Hid, HTK.out, HRP.out, ← List.append_assoc, ← HLY.out]
                try (first | rfl | simp)
              go_roundg (gk - 1)
              case measure => omega
              case rel => exact ⟨k2 + 1, by go_num, by omega, by rw [HLX.out]; exact HOWB.out, gg⟩
            · go_wp2_with fail
              rw [HV1.out]
              have bb := BB1.out
              have gg := GG1.out
              generalize wr.heap.size = Bk at *
              have gd := (Gr.refl V1).drew
              have od := own_kept HOW1.out gd
              have bd := Gr.block gd bb
              have ggd : Gr w V1.drew := gg.drew
              obtain ⟨d0, d1, d2⟩ := cells3_of bd
              have d3 := Gr.cell ggd CX.out
              refine wp_region_held_drew (S := (fun w' => w'.cell? ⟨Bk, 0, none⟩ = some (.string xa) ∧ w'.cell? ⟨Bk, 1, none⟩ = some (.string xb) ∧ w'.cell? ⟨Bk, 2, none⟩ = some (.int .i64 xw) ∧ w'.cell? ⟨b, off + i, none⟩ = some (.slice (some ⟨b3, o3, none⟩) x.n x.c))) (by kernel_rfl) ⟨d0, d1, d2, d3⟩ (fun hHeld => ?_)
              have BD := Lib.hid bd
              have OD := Lib.hid od
              have GD := Lib.hid ggd
              clear gd od bd ggd bb gg
              generalize V1.drew = V0 at *
              refine wpAnyH_take (i := 0) (v := (.slice p3 L3.length c3)) (op_at rfl) (by kernel_rfl) (by kernel_rfl) (by kernel_rfl) (fun _ _ _ h => h) (Or.inl ⟨rfl, fun w hSw => ?_⟩) (by assumption) ?_
              · (try dsimp only at hSw); go_simp; try with_reducible rfl
              (try simp only [Act.put, List.setIfInBounds_toArray, List.set_cons_zero, List.set_cons_succ])
              refine wpAnyH_take (i := 1) (v := (.pointer (some ⟨Bk, 0, none⟩))) (op_at rfl) (by kernel_rfl) (by kernel_rfl) (by kernel_rfl) (fun _ _ _ h => h) (Or.inl ⟨rfl, fun w hSw => ?_⟩) (by assumption) ?_
              · (try dsimp only at hSw); go_simp; try with_reducible rfl
              (try simp only [Act.put, List.setIfInBounds_toArray, List.set_cons_zero, List.set_cons_succ])
              refine wpAnyH_take (i := 2) (v := (.string xa)) (op_at rfl) (by kernel_rfl) (by kernel_rfl) (by kernel_rfl) (fun _ _ _ h => h) (Or.inl ⟨rfl, fun w hSw => ?_⟩) (by assumption) ?_
              · (try dsimp only at hSw); go_simp; try with_reducible rfl
              (try simp only [Act.put, List.setIfInBounds_toArray, List.set_cons_zero, List.set_cons_succ])
              refine wpAnyH_take (i := 3) (v := (.slice (some ⟨b, off, none⟩) n cap)) (op_at rfl) (by kernel_rfl) (by kernel_rfl) (by kernel_rfl) (fun _ _ _ h => h) (Or.inl ⟨rfl, fun w hSw => ?_⟩) (by assumption) ?_
              · (try dsimp only at hSw); go_simp; try with_reducible rfl
              (try simp only [Act.put, List.setIfInBounds_toArray, List.set_cons_zero, List.set_cons_succ])
              refine wpAnyH_take (i := 4) (v := (.int .i64 (i : Int))) (op_at rfl) (by kernel_rfl) (by kernel_rfl) (by kernel_rfl) (fun _ _ _ h => h) (Or.inl ⟨rfl, fun w hSw => ?_⟩) (by assumption) ?_
              · (try dsimp only at hSw); go_simp; try with_reducible rfl
              (try simp only [Act.put, List.setIfInBounds_toArray, List.set_cons_zero, List.set_cons_succ])
              refine wpAnyH_take (i := 5) (v := (.pointer (some ⟨b, off + i, none⟩))) (op_at rfl) (by kernel_rfl) (by kernel_rfl) (by kernel_rfl) (fun _ _ _ h => h) (Or.inl ⟨rfl, fun w hSw => ?_⟩) (by assumption) ?_
              · (try dsimp only at hSw); go_simp; try with_reducible rfl
              (try simp only [Act.put, List.setIfInBounds_toArray, List.set_cons_zero, List.set_cons_succ])
              refine wpAnyH_take (i := 6) (v := (.slice (some ⟨b3, o3, none⟩) x.n x.c)) (op_at rfl) (by kernel_rfl) (by kernel_rfl) (by kernel_rfl) (fun _ _ _ h => h) (Or.inl ⟨rfl, fun w hSw => ?_⟩) (by assumption) ?_
              · (try dsimp only at hSw); go_simp; try with_reducible rfl
              (try simp only [Act.put, List.setIfInBounds_toArray, List.set_cons_zero, List.set_cons_succ])
              refine wpAnyH_take (i := 7) (v := (.int .i64 x.n)) (op_at rfl) (by kernel_rfl) (by kernel_rfl) (by kernel_rfl) (fun _ _ _ h => h) (Or.inl ⟨rfl, fun w hSw => ?_⟩) (by assumption) ?_
              · (try dsimp only at hSw); go_simp; try with_reducible rfl
              (try simp only [Act.put, List.setIfInBounds_toArray, List.set_cons_zero, List.set_cons_succ])
              refine wpAnyH_take (i := 8) (v := (.int .i64 ((x.n : Int) + 1))) (op_at rfl) (by kernel_rfl) (by kernel_rfl) (by kernel_rfl) (fun _ _ _ h => h) (Or.inl ⟨rfl, fun w hSw => ?_⟩) (by assumption) ?_
              · (try dsimp only at hSw); go_simp; try with_reducible rfl
              (try simp only [Act.put, List.setIfInBounds_toArray, List.set_cons_zero, List.set_cons_succ])
              refine wpAnyH_take (i := 9) (v := (.agg #[.string xa, .int .i64 ((x.n : Int) + 1)])) (op_at rfl) (by kernel_rfl) (by kernel_rfl) (by kernel_rfl) (fun _ _ _ h => h) (Or.inl ⟨rfl, fun w hSw => ?_⟩) (by assumption) ?_
              · (try dsimp only at hSw); go_simp; try with_reducible rfl
              (try simp only [Act.put, List.setIfInBounds_toArray, List.set_cons_zero, List.set_cons_succ])
              refine wpAnyH_ready (rs := [10]) (by kernel_rfl) (by simp) (AllReadyH.cons (op_at rfl) (fun K hK => ?_) AllReadyH.nil)
              go_simp
              have ga := (Gr.refl V0).alloc (.cells #[.string xa, .int .i64 ((x.n : Int) + 1)] 106)
              have oa := own_kept OD.out ga
              have ba := Gr.block ga BD.out
              have gga : Gr w (V0.alloc (.cells #[.string xa, .int .i64 ((x.n : Int) + 1)] 106)) := GD.out.trans ga
              replace d0 := Gr.cell ga d0
              replace d1 := Gr.cell ga d1
              replace d2 := Gr.cell ga d2
              replace d3 := Gr.cell ga d3
              refine hK.out _ _ ⟨d0, d1, d2, d3⟩ (fun hHeld => ?_)
              clear hK K
              (try simp only [Act.put, List.setIfInBounds_toArray, List.set_cons_zero, List.set_cons_succ])
              refine wpAnyH_ready (rs := [11]) (by kernel_rfl) (by simp) (AllReadyH.cons (op_at rfl) (fun K hK => ?_) AllReadyH.nil)
              rw [if_pos (show Region.wanted _ _ = true from rfl)]
              refine step_plR 44 106 Tryz.underlying44 infoPlR _ _ rfl w.heap.size (.slice p3 L3.length c3) _ _ rfl oa ⟨xa, (x.n : Int) + 1⟩ V0.heap.size 1 rfl (cell_new V0 #[.string xa, .int .i64 ((x.n : Int) + 1)] 106 0 (by simp)) (cell_new V0 #[.string xa, .int .i64 ((x.n : Int) + 1)] 106 1 (by simp)) (by have := HLE.out; (try simp only [List.length_append, List.length_cons, List.length_nil] at *); omega) (show w.heap.size ≤ _ from Below.size gga) ?_
              intro u1 V3 hown1 hgrow1
              have bb : V3.heap[Bk]? = _ := own_far oa hgrow1 ba (by decide)
              have gg : Gr w V3 := Below.grown gga hgrow1 (show w.heap.size ≤ _ from Below.size gga) (fun q hq => (own_in oa hq).2)
              rw [← plCs_add] at hown1
              obtain ⟨p9, c9, hu1, _, _⟩ := own_shape hown1
              obtain ⟨m9, hm9⟩ : ∃ m9, (L3).length + 1 = m9 := ⟨_, rfl⟩
              have HOWA : Hid (V3.ownsRow w.heap.size 106 2 u1 (L3 ++ [(⟨xa, (x.n : Int) + 1⟩ : PlR)]).length (plCs (L3 ++ [(⟨xa, (x.n : Int) + 1⟩ : PlR)]))) := by rw [Hid, List.length_append]; exact hown1
              rw [hm9] at hu1
              subst hu1
              obtain ⟨d0, d1, d2⟩ := cells3_of bb
              have d3 := Gr.cell gg CX.out
              clear hown1 hgrow1 oa ba gga ga
              refine hK.out _ _ ⟨d0, d1, d2, d3⟩ (fun hHeld => ?_)
              clear hK K
              (try simp only [Act.put, List.setIfInBounds_toArray, List.set_cons_zero, List.set_cons_succ])
              refine wpAnyH_take (i := 12) (v := (.slice p9 m9 c9)) (op_at rfl) (by kernel_rfl) (by kernel_rfl) (by kernel_rfl) (fun _ _ _ h => h) (Or.inl ⟨rfl, fun w hSw => ?_⟩) (by assumption) ?_
              · (try dsimp only at hSw); go_simp; try with_reducible rfl
              (try simp only [Act.put, List.setIfInBounds_toArray, List.set_cons_zero, List.set_cons_succ])
              refine wpAnyH_done (by kernel_rfl) ?_ _
              clear hHeld
              go_wp2_with fail
              have HRP : Hid (rcP ((x.l.length : Int) + 1) ⟨xa, xb, xw⟩ = [⟨xa, (x.n : Int) + 1⟩]) := by
                rw [Hid, HMK.out]
                unfold rcP laneL
                rw [if_neg ha, if_pos hb]
                simp only [List.nil_append, List.append_nil, List.cons_append, List.flatMap_nil, List.flatMap_cons, plOf]
                rw [if_neg hwa]
                skip
                try (first | done | rfl | simp [inR])
              have HLX : Hid (Lq ++ (x.l.take (k2 + 1)).flatMap (rcP ((x.l.length : Int) + 1)) = (L3 ++ [(⟨xa, (x.n : Int) + 1⟩ : PlR)])) := by
                rw [Hid, HTK.out, HRP.out, ← List.append_assoc, ← HLY.out]
                try (first | rfl | simp)
              go_roundg (gk - 1)
              case measure => omega
              case rel => exact ⟨k2 + 1, by go_num, by omega, by rw [HLX.out]; exact HOWA.out, gg⟩
            · have HWB := Lib.hid hwb
              clear hwb
              go_wp2_with fail
              rw [HV1.out]
              have bb := BB1.out
              have gg := GG1.out
              generalize wr.heap.size = Bk at *
              have gd := (Gr.refl V1).drew
              have od := own_kept HOW1.out gd
              have bd := Gr.block gd bb
              have ggd : Gr w V1.drew := gg.drew
              obtain ⟨d0, d1, d2⟩ := cells3_of bd
              have d3 := Gr.cell ggd CX.out
              refine wp_region_held_drew (S := (fun w' => w'.cell? ⟨Bk, 0, none⟩ = some (.string xa) ∧ w'.cell? ⟨Bk, 1, none⟩ = some (.string xb) ∧ w'.cell? ⟨Bk, 2, none⟩ = some (.int .i64 xw) ∧ w'.cell? ⟨b, off + i, none⟩ = some (.slice (some ⟨b3, o3, none⟩) x.n x.c))) (by kernel_rfl) ⟨d0, d1, d2, d3⟩ (fun hHeld => ?_)
              have BD := Lib.hid bd
              have OD := Lib.hid od
              have GD := Lib.hid ggd
              clear gd od bd ggd bb gg
              generalize V1.drew = V0 at *
              refine wpAnyH_take (i := 0) (v := (.slice p3 L3.length c3)) (op_at rfl) (by kernel_rfl) (by kernel_rfl) (by kernel_rfl) (fun _ _ _ h => h) (Or.inl ⟨rfl, fun w hSw => ?_⟩) (by assumption) ?_
              · (try dsimp only at hSw); go_simp; try with_reducible rfl
              (try simp only [Act.put, List.setIfInBounds_toArray, List.set_cons_zero, List.set_cons_succ])
              refine wpAnyH_take (i := 1) (v := (.pointer (some ⟨Bk, 0, none⟩))) (op_at rfl) (by kernel_rfl) (by kernel_rfl) (by kernel_rfl) (fun _ _ _ h => h) (Or.inl ⟨rfl, fun w hSw => ?_⟩) (by assumption) ?_
              · (try dsimp only at hSw); go_simp; try with_reducible rfl
              (try simp only [Act.put, List.setIfInBounds_toArray, List.set_cons_zero, List.set_cons_succ])
              refine wpAnyH_take (i := 2) (v := (.string xa)) (op_at rfl) (by kernel_rfl) (by kernel_rfl) (by kernel_rfl) (fun _ _ _ h => h) (Or.inl ⟨rfl, fun w hSw => ?_⟩) (by assumption) ?_
              · (try dsimp only at hSw); go_simp; try with_reducible rfl
              (try simp only [Act.put, List.setIfInBounds_toArray, List.set_cons_zero, List.set_cons_succ])
              refine wpAnyH_take (i := 3) (v := (.slice (some ⟨b, off, none⟩) n cap)) (op_at rfl) (by kernel_rfl) (by kernel_rfl) (by kernel_rfl) (fun _ _ _ h => h) (Or.inl ⟨rfl, fun w hSw => ?_⟩) (by assumption) ?_
              · (try dsimp only at hSw); go_simp; try with_reducible rfl
              (try simp only [Act.put, List.setIfInBounds_toArray, List.set_cons_zero, List.set_cons_succ])
              refine wpAnyH_take (i := 4) (v := (.int .i64 (i : Int))) (op_at rfl) (by kernel_rfl) (by kernel_rfl) (by kernel_rfl) (fun _ _ _ h => h) (Or.inl ⟨rfl, fun w hSw => ?_⟩) (by assumption) ?_
              · (try dsimp only at hSw); go_simp; try with_reducible rfl
              (try simp only [Act.put, List.setIfInBounds_toArray, List.set_cons_zero, List.set_cons_succ])
              refine wpAnyH_take (i := 5) (v := (.pointer (some ⟨b, off + i, none⟩))) (op_at rfl) (by kernel_rfl) (by kernel_rfl) (by kernel_rfl) (fun _ _ _ h => h) (Or.inl ⟨rfl, fun w hSw => ?_⟩) (by assumption) ?_
              · (try dsimp only at hSw); go_simp; try with_reducible rfl
              (try simp only [Act.put, List.setIfInBounds_toArray, List.set_cons_zero, List.set_cons_succ])
              refine wpAnyH_take (i := 6) (v := (.slice (some ⟨b3, o3, none⟩) x.n x.c)) (op_at rfl) (by kernel_rfl) (by kernel_rfl) (by kernel_rfl) (fun _ _ _ h => h) (Or.inl ⟨rfl, fun w hSw => ?_⟩) (by assumption) ?_
              · (try dsimp only at hSw); go_simp; try with_reducible rfl
              (try simp only [Act.put, List.setIfInBounds_toArray, List.set_cons_zero, List.set_cons_succ])
              refine wpAnyH_take (i := 7) (v := (.int .i64 x.n)) (op_at rfl) (by kernel_rfl) (by kernel_rfl) (by kernel_rfl) (fun _ _ _ h => h) (Or.inl ⟨rfl, fun w hSw => ?_⟩) (by assumption) ?_
              · (try dsimp only at hSw); go_simp; try with_reducible rfl
              (try simp only [Act.put, List.setIfInBounds_toArray, List.set_cons_zero, List.set_cons_succ])
              refine wpAnyH_take (i := 8) (v := (.int .i64 ((x.n : Int) + 1))) (op_at rfl) (by kernel_rfl) (by kernel_rfl) (by kernel_rfl) (fun _ _ _ h => h) (Or.inl ⟨rfl, fun w hSw => ?_⟩) (by assumption) ?_
              · (try dsimp only at hSw); go_simp; try with_reducible rfl
              (try simp only [Act.put, List.setIfInBounds_toArray, List.set_cons_zero, List.set_cons_succ])
              refine wpAnyH_take (i := 9) (v := (.agg #[.string xa, .int .i64 ((x.n : Int) + 1)])) (op_at rfl) (by kernel_rfl) (by kernel_rfl) (by kernel_rfl) (fun _ _ _ h => h) (Or.inl ⟨rfl, fun w hSw => ?_⟩) (by assumption) ?_
              · (try dsimp only at hSw); go_simp; try with_reducible rfl
              (try simp only [Act.put, List.setIfInBounds_toArray, List.set_cons_zero, List.set_cons_succ])
              refine wpAnyH_ready (rs := [10]) (by kernel_rfl) (by simp) (AllReadyH.cons (op_at rfl) (fun K hK => ?_) AllReadyH.nil)
              go_simp
              have ga := (Gr.refl V0).alloc (.cells #[.string xa, .int .i64 ((x.n : Int) + 1)] 106)
              have oa := own_kept OD.out ga
              have ba := Gr.block ga BD.out
              have gga : Gr w (V0.alloc (.cells #[.string xa, .int .i64 ((x.n : Int) + 1)] 106)) := GD.out.trans ga
              replace d0 := Gr.cell ga d0
              replace d1 := Gr.cell ga d1
              replace d2 := Gr.cell ga d2
              replace d3 := Gr.cell ga d3
              refine hK.out _ _ ⟨d0, d1, d2, d3⟩ (fun hHeld => ?_)
              clear hK K
              (try simp only [Act.put, List.setIfInBounds_toArray, List.set_cons_zero, List.set_cons_succ])
              refine wpAnyH_ready (rs := [11]) (by kernel_rfl) (by simp) (AllReadyH.cons (op_at rfl) (fun K hK => ?_) AllReadyH.nil)
              rw [if_pos (show Region.wanted _ _ = true from rfl)]
              refine step_plR 44 106 Tryz.underlying44 infoPlR _ _ rfl w.heap.size (.slice p3 L3.length c3) _ _ rfl oa ⟨xa, (x.n : Int) + 1⟩ V0.heap.size 1 rfl (cell_new V0 #[.string xa, .int .i64 ((x.n : Int) + 1)] 106 0 (by simp)) (cell_new V0 #[.string xa, .int .i64 ((x.n : Int) + 1)] 106 1 (by simp)) (by have := HLE.out; (try simp only [List.length_append, List.length_cons, List.length_nil] at *); omega) (show w.heap.size ≤ _ from Below.size gga) ?_
              intro u1 V3 hown1 hgrow1
              have bb : V3.heap[Bk]? = _ := own_far oa hgrow1 ba (by decide)
              have gg : Gr w V3 := Below.grown gga hgrow1 (show w.heap.size ≤ _ from Below.size gga) (fun q hq => (own_in oa hq).2)
              rw [← plCs_add] at hown1
              obtain ⟨p9, c9, hu1, _, _⟩ := own_shape hown1
              obtain ⟨m9, hm9⟩ : ∃ m9, (L3).length + 1 = m9 := ⟨_, rfl⟩
              have HOWA : Hid (V3.ownsRow w.heap.size 106 2 u1 (L3 ++ [(⟨xa, (x.n : Int) + 1⟩ : PlR)]).length (plCs (L3 ++ [(⟨xa, (x.n : Int) + 1⟩ : PlR)]))) := by rw [Hid, List.length_append]; exact hown1
              rw [hm9] at hu1
              subst hu1
              obtain ⟨d0, d1, d2⟩ := cells3_of bb
              have d3 := Gr.cell gg CX.out
              clear hown1 hgrow1 oa ba gga ga
              refine hK.out _ _ ⟨d0, d1, d2, d3⟩ (fun hHeld => ?_)
              clear hK K
              (try simp only [Act.put, List.setIfInBounds_toArray, List.set_cons_zero, List.set_cons_succ])
              refine wpAnyH_take (i := 12) (v := (.slice p9 m9 c9)) (op_at rfl) (by kernel_rfl) (by kernel_rfl) (by kernel_rfl) (fun _ _ _ h => h) (Or.inl ⟨rfl, fun w hSw => ?_⟩) (by assumption) ?_
              · (try dsimp only at hSw); go_simp; try with_reducible rfl
              (try simp only [Act.put, List.setIfInBounds_toArray, List.set_cons_zero, List.set_cons_succ])
              refine wpAnyH_done (by kernel_rfl) ?_ _
              clear hHeld
              go_wp2_with fail
              have HRP : Hid (rcP ((x.l.length : Int) + 1) ⟨xa, xb, xw⟩ = [⟨xa, (x.n : Int) + 1⟩]) := by
                rw [Hid, HMK.out]
                unfold rcP laneL
                rw [if_neg ha, if_neg hb]
                simp only [List.nil_append, List.append_nil, List.cons_append, List.flatMap_nil, List.flatMap_cons, plOf]
                rw [if_neg hwa]
                rw [if_pos HWB.out]
                try (first | done | rfl | simp [inR])
              have HLX : Hid (Lq ++ (x.l.take (k2 + 1)).flatMap (rcP ((x.l.length : Int) + 1)) = (L3 ++ [(⟨xa, (x.n : Int) + 1⟩ : PlR)])) := by
                rw [Hid, HTK.out, HRP.out, ← List.append_assoc, ← HLY.out]
                try (first | rfl | simp)
              go_roundg (gk - 1)
              case measure => omega
              case rel => exact ⟨k2 + 1, by go_num, by omega, by rw [HLX.out]; exact HOWA.out, gg⟩
            · go_wp2_with fail
              rw [HV1.out]
              have bb := BB1.out
              have gg := GG1.out
              generalize wr.heap.size = Bk at *
              have gd := (Gr.refl V1).drew
              have od := own_kept HOW1.out gd
              have bd := Gr.block gd bb
              have ggd : Gr w V1.drew := gg.drew
              obtain ⟨d0, d1, d2⟩ := cells3_of bd
              have d3 := Gr.cell ggd CX.out
              refine wp_region_held_drew (S := (fun w' => w'.cell? ⟨Bk, 0, none⟩ = some (.string xa) ∧ w'.cell? ⟨Bk, 1, none⟩ = some (.string xb) ∧ w'.cell? ⟨Bk, 2, none⟩ = some (.int .i64 xw) ∧ w'.cell? ⟨b, off + i, none⟩ = some (.slice (some ⟨b3, o3, none⟩) x.n x.c))) (by kernel_rfl) ⟨d0, d1, d2, d3⟩ (fun hHeld => ?_)
              have BD := Lib.hid bd
              have OD := Lib.hid od
              have GD := Lib.hid ggd
              clear gd od bd ggd bb gg
              generalize V1.drew = V0 at *
              refine wpAnyH_take (i := 0) (v := (.slice p3 L3.length c3)) (op_at rfl) (by kernel_rfl) (by kernel_rfl) (by kernel_rfl) (fun _ _ _ h => h) (Or.inl ⟨rfl, fun w hSw => ?_⟩) (by assumption) ?_
              · (try dsimp only at hSw); go_simp; try with_reducible rfl
              (try simp only [Act.put, List.setIfInBounds_toArray, List.set_cons_zero, List.set_cons_succ])
              refine wpAnyH_take (i := 1) (v := (.pointer (some ⟨Bk, 0, none⟩))) (op_at rfl) (by kernel_rfl) (by kernel_rfl) (by kernel_rfl) (fun _ _ _ h => h) (Or.inl ⟨rfl, fun w hSw => ?_⟩) (by assumption) ?_
              · (try dsimp only at hSw); go_simp; try with_reducible rfl
              (try simp only [Act.put, List.setIfInBounds_toArray, List.set_cons_zero, List.set_cons_succ])
              refine wpAnyH_take (i := 2) (v := (.string xa)) (op_at rfl) (by kernel_rfl) (by kernel_rfl) (by kernel_rfl) (fun _ _ _ h => h) (Or.inl ⟨rfl, fun w hSw => ?_⟩) (by assumption) ?_
              · (try dsimp only at hSw); go_simp; try with_reducible rfl
              (try simp only [Act.put, List.setIfInBounds_toArray, List.set_cons_zero, List.set_cons_succ])
              refine wpAnyH_take (i := 3) (v := (.slice (some ⟨b, off, none⟩) n cap)) (op_at rfl) (by kernel_rfl) (by kernel_rfl) (by kernel_rfl) (fun _ _ _ h => h) (Or.inl ⟨rfl, fun w hSw => ?_⟩) (by assumption) ?_
              · (try dsimp only at hSw); go_simp; try with_reducible rfl
              (try simp only [Act.put, List.setIfInBounds_toArray, List.set_cons_zero, List.set_cons_succ])
              refine wpAnyH_take (i := 4) (v := (.int .i64 (i : Int))) (op_at rfl) (by kernel_rfl) (by kernel_rfl) (by kernel_rfl) (fun _ _ _ h => h) (Or.inl ⟨rfl, fun w hSw => ?_⟩) (by assumption) ?_
              · (try dsimp only at hSw); go_simp; try with_reducible rfl
              (try simp only [Act.put, List.setIfInBounds_toArray, List.set_cons_zero, List.set_cons_succ])
              refine wpAnyH_take (i := 5) (v := (.pointer (some ⟨b, off + i, none⟩))) (op_at rfl) (by kernel_rfl) (by kernel_rfl) (by kernel_rfl) (fun _ _ _ h => h) (Or.inl ⟨rfl, fun w hSw => ?_⟩) (by assumption) ?_
              · (try dsimp only at hSw); go_simp; try with_reducible rfl
              (try simp only [Act.put, List.setIfInBounds_toArray, List.set_cons_zero, List.set_cons_succ])
              refine wpAnyH_take (i := 6) (v := (.slice (some ⟨b3, o3, none⟩) x.n x.c)) (op_at rfl) (by kernel_rfl) (by kernel_rfl) (by kernel_rfl) (fun _ _ _ h => h) (Or.inl ⟨rfl, fun w hSw => ?_⟩) (by assumption) ?_
              · (try dsimp only at hSw); go_simp; try with_reducible rfl
              (try simp only [Act.put, List.setIfInBounds_toArray, List.set_cons_zero, List.set_cons_succ])
              refine wpAnyH_take (i := 7) (v := (.int .i64 x.n)) (op_at rfl) (by kernel_rfl) (by kernel_rfl) (by kernel_rfl) (fun _ _ _ h => h) (Or.inl ⟨rfl, fun w hSw => ?_⟩) (by assumption) ?_
              · (try dsimp only at hSw); go_simp; try with_reducible rfl
              (try simp only [Act.put, List.setIfInBounds_toArray, List.set_cons_zero, List.set_cons_succ])
              refine wpAnyH_take (i := 8) (v := (.int .i64 ((x.n : Int) + 1))) (op_at rfl) (by kernel_rfl) (by kernel_rfl) (by kernel_rfl) (fun _ _ _ h => h) (Or.inl ⟨rfl, fun w hSw => ?_⟩) (by assumption) ?_
              · (try dsimp only at hSw); go_simp; try with_reducible rfl
              (try simp only [Act.put, List.setIfInBounds_toArray, List.set_cons_zero, List.set_cons_succ])
              refine wpAnyH_take (i := 9) (v := (.agg #[.string xa, .int .i64 ((x.n : Int) + 1)])) (op_at rfl) (by kernel_rfl) (by kernel_rfl) (by kernel_rfl) (fun _ _ _ h => h) (Or.inl ⟨rfl, fun w hSw => ?_⟩) (by assumption) ?_
              · (try dsimp only at hSw); go_simp; try with_reducible rfl
              (try simp only [Act.put, List.setIfInBounds_toArray, List.set_cons_zero, List.set_cons_succ])
              refine wpAnyH_ready (rs := [10]) (by kernel_rfl) (by simp) (AllReadyH.cons (op_at rfl) (fun K hK => ?_) AllReadyH.nil)
              go_simp
              have ga := (Gr.refl V0).alloc (.cells #[.string xa, .int .i64 ((x.n : Int) + 1)] 106)
              have oa := own_kept OD.out ga
              have ba := Gr.block ga BD.out
              have gga : Gr w (V0.alloc (.cells #[.string xa, .int .i64 ((x.n : Int) + 1)] 106)) := GD.out.trans ga
              replace d0 := Gr.cell ga d0
              replace d1 := Gr.cell ga d1
              replace d2 := Gr.cell ga d2
              replace d3 := Gr.cell ga d3
              refine hK.out _ _ ⟨d0, d1, d2, d3⟩ (fun hHeld => ?_)
              clear hK K
              (try simp only [Act.put, List.setIfInBounds_toArray, List.set_cons_zero, List.set_cons_succ])
              refine wpAnyH_ready (rs := [11]) (by kernel_rfl) (by simp) (AllReadyH.cons (op_at rfl) (fun K hK => ?_) AllReadyH.nil)
              rw [if_pos (show Region.wanted _ _ = true from rfl)]
              refine step_plR 44 106 Tryz.underlying44 infoPlR _ _ rfl w.heap.size (.slice p3 L3.length c3) _ _ rfl oa ⟨xa, (x.n : Int) + 1⟩ V0.heap.size 1 rfl (cell_new V0 #[.string xa, .int .i64 ((x.n : Int) + 1)] 106 0 (by simp)) (cell_new V0 #[.string xa, .int .i64 ((x.n : Int) + 1)] 106 1 (by simp)) (by have := HLE.out; (try simp only [List.length_append, List.length_cons, List.length_nil] at *); omega) (show w.heap.size ≤ _ from Below.size gga) ?_
              intro u1 V3 hown1 hgrow1
              have bb : V3.heap[Bk]? = _ := own_far oa hgrow1 ba (by decide)
              have gg : Gr w V3 := Below.grown gga hgrow1 (show w.heap.size ≤ _ from Below.size gga) (fun q hq => (own_in oa hq).2)
              rw [← plCs_add] at hown1
              obtain ⟨p9, c9, hu1, _, _⟩ := own_shape hown1
              obtain ⟨m9, hm9⟩ : ∃ m9, (L3).length + 1 = m9 := ⟨_, rfl⟩
              have HOWA : Hid (V3.ownsRow w.heap.size 106 2 u1 (L3 ++ [(⟨xa, (x.n : Int) + 1⟩ : PlR)]).length (plCs (L3 ++ [(⟨xa, (x.n : Int) + 1⟩ : PlR)]))) := by rw [Hid, List.length_append]; exact hown1
              rw [hm9] at hu1
              subst hu1
              obtain ⟨d0, d1, d2⟩ := cells3_of bb
              have d3 := Gr.cell gg CX.out
              clear hown1 hgrow1 oa ba gga ga
              refine hK.out _ _ ⟨d0, d1, d2, d3⟩ (fun hHeld => ?_)
              clear hK K
              (try simp only [Act.put, List.setIfInBounds_toArray, List.set_cons_zero, List.set_cons_succ])
              refine wpAnyH_take (i := 12) (v := (.slice p9 m9 c9)) (op_at rfl) (by kernel_rfl) (by kernel_rfl) (by kernel_rfl) (fun _ _ _ h => h) (Or.inl ⟨rfl, fun w hSw => ?_⟩) (by assumption) ?_
              · (try dsimp only at hSw); go_simp; try with_reducible rfl
              (try simp only [Act.put, List.setIfInBounds_toArray, List.set_cons_zero, List.set_cons_succ])
              refine wpAnyH_done (by kernel_rfl) ?_ _
              clear hHeld
              go_wp2_with fail
              have gd := (Gr.refl V3).drew
              have od := own_kept HOWA.out gd
              have bd := Gr.block gd bb
              have ggd : Gr w V3.drew := gg.drew
              obtain ⟨d0, d1, d2⟩ := cells3_of bd
              have d3 := Gr.cell ggd CX.out
              refine wp_region_held_drew (S := (fun w' => w'.cell? ⟨Bk, 0, none⟩ = some (.string xa) ∧ w'.cell? ⟨Bk, 1, none⟩ = some (.string xb) ∧ w'.cell? ⟨Bk, 2, none⟩ = some (.int .i64 xw) ∧ w'.cell? ⟨b, off + i, none⟩ = some (.slice (some ⟨b3, o3, none⟩) x.n x.c))) (by kernel_rfl) ⟨d0, d1, d2, d3⟩ (fun hHeld => ?_)
              have BD := Lib.hid bd
              have OD := Lib.hid od
              have GD := Lib.hid ggd
              clear gd od bd ggd bb gg
              generalize V3.drew = V0 at *
              refine wpAnyH_take (i := 0) (v := (.slice p9 m9 c9)) (op_at rfl) (by kernel_rfl) (by kernel_rfl) (by kernel_rfl) (fun _ _ _ h => h) (Or.inl ⟨rfl, fun w hSw => ?_⟩) (by assumption) ?_
              · (try dsimp only at hSw); go_simp; try with_reducible rfl
              (try simp only [Act.put, List.setIfInBounds_toArray, List.set_cons_zero, List.set_cons_succ])
              refine wpAnyH_take (i := 1) (v := (.pointer (some ⟨Bk, 1, none⟩))) (op_at rfl) (by kernel_rfl) (by kernel_rfl) (by kernel_rfl) (fun _ _ _ h => h) (Or.inl ⟨rfl, fun w hSw => ?_⟩) (by assumption) ?_
              · (try dsimp only at hSw); go_simp; try with_reducible rfl
              (try simp only [Act.put, List.setIfInBounds_toArray, List.set_cons_zero, List.set_cons_succ])
              refine wpAnyH_take (i := 2) (v := (.string xb)) (op_at rfl) (by kernel_rfl) (by kernel_rfl) (by kernel_rfl) (fun _ _ _ h => h) (Or.inl ⟨rfl, fun w hSw => ?_⟩) (by assumption) ?_
              · (try dsimp only at hSw); go_simp; try with_reducible rfl
              (try simp only [Act.put, List.setIfInBounds_toArray, List.set_cons_zero, List.set_cons_succ])
              refine wpAnyH_take (i := 3) (v := (.slice (some ⟨b, off, none⟩) n cap)) (op_at rfl) (by kernel_rfl) (by kernel_rfl) (by kernel_rfl) (fun _ _ _ h => h) (Or.inl ⟨rfl, fun w hSw => ?_⟩) (by assumption) ?_
              · (try dsimp only at hSw); go_simp; try with_reducible rfl
              (try simp only [Act.put, List.setIfInBounds_toArray, List.set_cons_zero, List.set_cons_succ])
              refine wpAnyH_take (i := 4) (v := (.int .i64 (i : Int))) (op_at rfl) (by kernel_rfl) (by kernel_rfl) (by kernel_rfl) (fun _ _ _ h => h) (Or.inl ⟨rfl, fun w hSw => ?_⟩) (by assumption) ?_
              · (try dsimp only at hSw); go_simp; try with_reducible rfl
              (try simp only [Act.put, List.setIfInBounds_toArray, List.set_cons_zero, List.set_cons_succ])
              refine wpAnyH_take (i := 5) (v := (.pointer (some ⟨b, off + i, none⟩))) (op_at rfl) (by kernel_rfl) (by kernel_rfl) (by kernel_rfl) (fun _ _ _ h => h) (Or.inl ⟨rfl, fun w hSw => ?_⟩) (by assumption) ?_
              · (try dsimp only at hSw); go_simp; try with_reducible rfl
              (try simp only [Act.put, List.setIfInBounds_toArray, List.set_cons_zero, List.set_cons_succ])
              refine wpAnyH_take (i := 6) (v := (.slice (some ⟨b3, o3, none⟩) x.n x.c)) (op_at rfl) (by kernel_rfl) (by kernel_rfl) (by kernel_rfl) (fun _ _ _ h => h) (Or.inl ⟨rfl, fun w hSw => ?_⟩) (by assumption) ?_
              · (try dsimp only at hSw); go_simp; try with_reducible rfl
              (try simp only [Act.put, List.setIfInBounds_toArray, List.set_cons_zero, List.set_cons_succ])
              refine wpAnyH_take (i := 7) (v := (.int .i64 x.n)) (op_at rfl) (by kernel_rfl) (by kernel_rfl) (by kernel_rfl) (fun _ _ _ h => h) (Or.inl ⟨rfl, fun w hSw => ?_⟩) (by assumption) ?_
              · (try dsimp only at hSw); go_simp; try with_reducible rfl
              (try simp only [Act.put, List.setIfInBounds_toArray, List.set_cons_zero, List.set_cons_succ])
              refine wpAnyH_take (i := 8) (v := (.int .i64 ((x.n : Int) + 1))) (op_at rfl) (by kernel_rfl) (by kernel_rfl) (by kernel_rfl) (fun _ _ _ h => h) (Or.inl ⟨rfl, fun w hSw => ?_⟩) (by assumption) ?_
              · (try dsimp only at hSw); go_simp; try with_reducible rfl
              (try simp only [Act.put, List.setIfInBounds_toArray, List.set_cons_zero, List.set_cons_succ])
              refine wpAnyH_take (i := 9) (v := (.agg #[.string xb, .int .i64 ((x.n : Int) + 1)])) (op_at rfl) (by kernel_rfl) (by kernel_rfl) (by kernel_rfl) (fun _ _ _ h => h) (Or.inl ⟨rfl, fun w hSw => ?_⟩) (by assumption) ?_
              · (try dsimp only at hSw); go_simp; try with_reducible rfl
              (try simp only [Act.put, List.setIfInBounds_toArray, List.set_cons_zero, List.set_cons_succ])
              refine wpAnyH_ready (rs := [10]) (by kernel_rfl) (by simp) (AllReadyH.cons (op_at rfl) (fun K hK => ?_) AllReadyH.nil)
              go_simp
              have ga := (Gr.refl V0).alloc (.cells #[.string xb, .int .i64 ((x.n : Int) + 1)] 106)
              have oa := own_kept OD.out ga
              have ba := Gr.block ga BD.out
              have gga : Gr w (V0.alloc (.cells #[.string xb, .int .i64 ((x.n : Int) + 1)] 106)) := GD.out.trans ga
              replace d0 := Gr.cell ga d0
              replace d1 := Gr.cell ga d1
              replace d2 := Gr.cell ga d2
              replace d3 := Gr.cell ga d3
              refine hK.out _ _ ⟨d0, d1, d2, d3⟩ (fun hHeld => ?_)
              clear hK K
              (try simp only [Act.put, List.setIfInBounds_toArray, List.set_cons_zero, List.set_cons_succ])
              refine wpAnyH_ready (rs := [11]) (by kernel_rfl) (by simp) (AllReadyH.cons (op_at rfl) (fun K hK => ?_) AllReadyH.nil)
              rw [if_pos (show Region.wanted _ _ = true from rfl)]
              refine step_plR 44 106 Tryz.underlying44 infoPlR _ _ rfl w.heap.size (.slice p9 m9 c9) _ _ rfl oa ⟨xb, (x.n : Int) + 1⟩ V0.heap.size 1 rfl (cell_new V0 #[.string xb, .int .i64 ((x.n : Int) + 1)] 106 0 (by simp)) (cell_new V0 #[.string xb, .int .i64 ((x.n : Int) + 1)] 106 1 (by simp)) (by have := HLE.out; (try simp only [List.length_append, List.length_cons, List.length_nil] at *); omega) (show w.heap.size ≤ _ from Below.size gga) ?_
              intro u1 V5 hown1 hgrow1
              have bb : V5.heap[Bk]? = _ := own_far oa hgrow1 ba (by decide)
              have gg : Gr w V5 := Below.grown gga hgrow1 (show w.heap.size ≤ _ from Below.size gga) (fun q hq => (own_in oa hq).2)
              rw [← plCs_add] at hown1
              obtain ⟨p9, c9, hu1, _, _⟩ := own_shape hown1
              obtain ⟨m9, hm9⟩ : ∃ m9, ((L3 ++ [(⟨xa, (x.n : Int) + 1⟩ : PlR)])).length + 1 = m9 := ⟨_, rfl⟩
              have HOWB : Hid (V5.ownsRow w.heap.size 106 2 u1 ((L3 ++ [(⟨xa, (x.n : Int) + 1⟩ : PlR)]) ++ [(⟨xb, (x.n : Int) + 1⟩ : PlR)]).length (plCs ((L3 ++ [(⟨xa, (x.n : Int) + 1⟩ : PlR)]) ++ [(⟨xb, (x.n : Int) + 1⟩ : PlR)]))) := by rw [Hid, List.length_append]; exact hown1
              rw [hm9] at hu1
              subst hu1
              obtain ⟨d0, d1, d2⟩ := cells3_of bb
              have d3 := Gr.cell gg CX.out
              clear hown1 hgrow1 oa ba gga ga
              refine hK.out _ _ ⟨d0, d1, d2, d3⟩ (fun hHeld => ?_)
              clear hK K
              (try simp only [Act.put, List.setIfInBounds_toArray, List.set_cons_zero, List.set_cons_succ])
              refine wpAnyH_take (i := 12) (v := (.slice p9 m9 c9)) (op_at rfl) (by kernel_rfl) (by kernel_rfl) (by kernel_rfl) (fun _ _ _ h => h) (Or.inl ⟨rfl, fun w hSw => ?_⟩) (by assumption) ?_
              · (try dsimp only at hSw); go_simp; try with_reducible rfl
              (try simp only [Act.put, List.setIfInBounds_toArray, List.set_cons_zero, List.set_cons_succ])
              refine wpAnyH_done (by kernel_rfl) ?_ _
              clear hHeld
              go_wp2_with fail
              have HRP : Hid (rcP ((x.l.length : Int) + 1) ⟨xa, xb, xw⟩ = [⟨xa, (x.n : Int) + 1⟩, ⟨xb, (x.n : Int) + 1⟩]) := by
                rw [Hid, HMK.out]
                unfold rcP laneL
                rw [if_neg ha, if_neg hb]
                simp only [List.nil_append, List.append_nil, List.cons_append, List.flatMap_nil, List.flatMap_cons, plOf]
                rw [if_neg hwa]
                rw [if_neg hwb]
                try (first | done | rfl | simp [inR])
              have HLX : Hid (Lq ++ (x.l.take (k2 + 1)).flatMap (rcP ((x.l.length : Int) + 1)) = ((L3 ++ [(⟨xa, (x.n : Int) + 1⟩ : PlR)]) ++ [(⟨xb, (x.n : Int) + 1⟩ : PlR)])) := by
                rw [Hid, HTK.out, HRP.out, ← List.append_assoc, ← HLY.out]
                try (first | rfl | simp)
              go_roundg (gk - 1)
              case measure => omega
              case rel => exact ⟨k2 + 1, by go_num, by omega, by rw [HLX.out]; exact HOWB.out, gg⟩
          · obtain rfl : x.n = k2 := by omega
            have hlt2 : ¬ (x.n : Int) < (x.n : Int) := by omega
            rw [List.take_of_length_le (by have := HXL.out; omega), ← rndP_eq, ← HLL.out] at hown
            have HOW := Lib.hid hown
            clear hown
            go_wp2_with fail
            go_roundg i
            case measure => omega
            case rel => exact ⟨i, by go_num, rfl, by omega, HOW.out, gg⟩
  · rw [if_neg ha] at HTP
    go_wp2_with fail
    refine (HWI.out W2).mono ?_
    rintro e W3 ⟨rfl, g3⟩
    have G3 := Lib.hid (G2.out.trans g3)
    clear g3 HBX2 z0 z1 z2
    have hown0 := (World.ownsRow_nil W3 w.heap.size 106 2).alloc (.cells #[.string nm, .int .i64 1] 106)
    go_wp2_with (at_builtin; refine wpList_append_own _ rfl _ _ 44 rfl w.heap.size 106 i0 (.agg #[.string ⟨#[]⟩, .int .i64 0]) 2 24 Tryz.underlying44 hi hz0 hz1 hz2 rfl (by decide) _ _ _ rfl hown0 ⟨W3.heap.size, 0, none⟩ 1 1 [.string nm, .int .i64 1] rfl rfl (cell_two6 _ _ _ _) (by intro u hu; simp at hu; rcases hu with rfl | rfl <;> rfl) (by unfold maxLen; omega) (by omega) (by have := G3.out.size; simp; omega) ?_; intro v1 W4 hown4 hgrow4 _)
    have G4 : Hid (Gr w W4) := Below.grown (G3.out.alloc _) hgrow4 (by have := G3.out.size; simp; omega) (fun q hq => (own_in hown0 hq).2)
    have HO0 : Hid (W4.ownsRow w.heap.size 106 2 v1 (topP (xs.map Rd.l)).length (plCs (topP (xs.map Rd.l)))) := by rw [Hid, HTP.out]; exact hown4
    have HT1 : Hid ((topP (xs.map Rd.l)).length ≤ 1) := by rw [Hid, HTP.out]; simp
    clear ha hown0 hown4 hgrow4 HTP
    go_loopg [3, 5] n (fun gk s3 s5 wr => ∃ k : Nat, s5 = .int .i64 ((k : Int) - 1) ∧ gk = k ∧ k ≤ n ∧ wr.ownsRow w.heap.size 106 2 s3 (topP (xs.map Rd.l) ++ (xs.drop k).reverse.flatMap (fun x => rndP x.l)).length (plCs (topP (xs.map Rd.l) ++ (xs.drop k).reverse.flatMap (fun x => rndP x.l))) ∧ Hid (Gr w wr))
    case atStart => exact ⟨n, by rw [hnn], rfl, Nat.le_refl _, by rw [List.drop_of_length_le (by have := HN.out; omega)]; simpa using HO0.out, G4.out⟩
    case round =>
      obtain ⟨k, rfl, hgk, hkn, hown, HG⟩ := hrel
      rcases Nat.eq_zero_or_pos k with hk0 | hk0
      · subst hk0
        rw [← HPL.out] at hown
        obtain ⟨p9, c9, rfl, _, _⟩ := own_shape hown
        have HV : Hid (RetPl (.returned (.slice p9 (placesL (xs.map Rd.l)).length c9)) w wr (placesL (xs.map Rd.l))) := ⟨p9, c9, rfl, PlS.of_own hown rfl, HG.out⟩
        clear hown
        go_wp2_with fail
        go_ret
        exact HV.out
      · obtain ⟨i, rfl⟩ : ∃ i, k = i + 1 := ⟨k - 1, by omega⟩
        have e1 : ((i + 1 : Nat) : Int) - 1 = (i : Int) := by omega
        rw [e1]
        obtain ⟨x, hx⟩ : ∃ x, xs[i]? = some x := ⟨xs[i]'(by have := HN.out; omega), List.getElem?_eq_getElem _⟩
        have hxa := HCC.out i x hx
        have hx34 := HSS.out x (List.mem_of_getElem? hx)
        have hxl := hxa.ok.len
        have CX := Lib.hid hxa.nm
        have HRX := Lib.hid hxa.ok.ra.out
        have HLL : Hid (topP (xs.map Rd.l) ++ (xs.drop i).reverse.flatMap (fun x => rndP x.l) = (topP (xs.map Rd.l) ++ (xs.drop (i + 1)).reverse.flatMap (fun x => rndP x.l)) ++ rndP x.l) := by
          have e : xs.drop i = x :: xs.drop (i + 1) := by
            obtain ⟨hi, rfl⟩ := List.getElem?_eq_some_iff.1 hx
            exact List.drop_eq_getElem_cons hi
          rw [Hid, e, List.reverse_cons, List.flatMap_append, ← List.append_assoc]; simp
        have hlen : (topP (xs.map Rd.l) ++ (xs.drop (i + 1)).reverse.flatMap (fun x => rndP x.l)).length ≤ 500 := by
          have h1 := flat_mem_len (fun (x : Rd) => rndP x.l) 68 (xs.drop (i + 1)).reverse (fun y hy => by
            have h2 := rndP_len y.l
            have h3 := HSS.out y (List.mem_of_mem_drop (List.mem_reverse.1 hy))
            omega)
          have h4 := HT1.out
          have h5 := HN.out
          have h6 := HNM.out
          rw [List.length_reverse, List.length_drop] at h1
          have h7 : (xs.length - (i + 1)) * 68 ≤ 6 * 68 := Nat.mul_le_mul_right _ (by omega)
          rw [List.length_append]
          omega
        obtain ⟨Lq, hLq⟩ : ∃ Lq, Lq = topP (xs.map Rd.l) ++ (xs.drop (i + 1)).reverse.flatMap (fun x => rndP x.l) := ⟨_, rfl⟩
        rw [← hLq] at hown HLL hlen
        have hin : (i : Int) < (n : Int) := by omega
        have hi0 : (0 : Int) ≤ (i : Int) := by omega
        have hx34n : x.n ≤ 34 := by omega
        have wn : IntKind.i64.wrap ((x.n : Int) + 1) = (x.n : Int) + 1 := by rw [IntKind.wrap_i64]; omega
        have HMK : Hid ((x.l.length : Int) + 1 = (x.n : Int) + 1) := by rw [Hid, hxl]
        have HXL := Lib.hid hxl
        have HLE0 := Lib.hid hlen
        have HOQ := Lib.hid hown
        have cx := Gr.cell HG.out CX.out
        clear hx hxa hx34 hxl hLq hlen hown e1
        go_wp2_with fail
        go_loopg [3, 6] x.n (fun gq s3 s6 wr2 => ∃ k2 : Nat, s6 = .int .i64 (k2 : Int) ∧ gq + k2 = x.n ∧ wr2.ownsRow w.heap.size 106 2 s3 (Lq ++ (x.l.take k2).flatMap (rcP ((x.l.length : Int) + 1))).length (plCs (Lq ++ (x.l.take k2).flatMap (rcP ((x.l.length : Int) + 1)))) ∧ Gr w wr2)
        case atStart => exact ⟨0, rfl, by omega, by simpa using HOQ.out, HG.out⟩
        case round =>
          clear cx HOQ
          obtain ⟨k2, rfl, hgq, hown, gg⟩ := hrel
          have cx := Gr.cell gg CX.out
          by_cases hlt : k2 < x.n
          · obtain ⟨r, hr⟩ : ∃ r, x.l[k2]? = some r := ⟨x.l[k2]'(by have := HXL.out; omega), List.getElem?_eq_getElem _⟩
            obtain ⟨b3, o3, hp3, hc3⟩ := HRX.out (by have := HXL.out; omega)
            obtain ⟨q0, q1, q2⟩ := hc3 k2 r hr
            rw [hp3] at cx
            have hlt2 : (k2 : Int) < (x.n : Int) := by omega
            have HTK0 : (x.l.take (k2 + 1)).flatMap (rcP ((x.l.length : Int) + 1)) = (x.l.take k2).flatMap (rcP ((x.l.length : Int) + 1)) ++ rcP ((x.l.length : Int) + 1) r := by rw [List.take_add_one, hr]; simp
            have hle3 : (Lq ++ (x.l.take k2).flatMap (rcP ((x.l.length : Int) + 1))).length ≤ 600 := by
              have h1 := flat_len (rcP ((x.l.length : Int) + 1)) 2 (x.l.take k2) (rcP_len _)
              have h2 := HLE0.out
              rw [List.length_take] at h1
              rw [List.length_append]; omega
            obtain ⟨xa, xb, xw⟩ := r
            simp only at q0 q1 q2
            replace q0 := Gr.cell gg q0
            replace q1 := Gr.cell gg q1
            replace q2 := Gr.cell gg q2
            have HTK := Lib.hid HTK0
            obtain ⟨L3, hL3⟩ : ∃ L3, L3 = Lq ++ (x.l.take k2).flatMap (rcP ((x.l.length : Int) + 1)) := ⟨_, rfl⟩
            rw [← hL3] at hown hle3
            have HLY := Lib.hid hL3
            have HLE := Lib.hid hle3
            have HA : (xa.toList = [] ∧ xa.toList.isEmpty = true) ∨ (¬ xa.toList = [] ∧ xa.toList.isEmpty = false ∧ (1 : Int) = xw ∧ (xw != 1) = false) ∨ (¬ xa.toList = [] ∧ xa.toList.isEmpty = false ∧ ¬ (1 : Int) = xw ∧ (xw != 1) = true) := by
              by_cases h : (1 : Int) = xw
              · have h2 : (xw != 1) = false := by rw [← h]; rfl
                cases hh : xa.toList <;> simp [h, h2]
              · have h2 : (xw != 1) = true := bne_iff_ne.2 (fun e => h e.symm)
                cases hh : xa.toList <;> simp [h, h2]
            have HB : (xb.toList = [] ∧ xb.toList.isEmpty = true) ∨ (¬ xb.toList = [] ∧ xb.toList.isEmpty = false ∧ (2 : Int) = xw ∧ (xw != 2) = false) ∨ (¬ xb.toList = [] ∧ xb.toList.isEmpty = false ∧ ¬ (2 : Int) = xw ∧ (xw != 2) = true) := by
              by_cases h : (2 : Int) = xw
              · have h2 : (xw != 2) = false := by rw [← h]; rfl
                cases hh : xb.toList <;> simp [h, h2]
              · have h2 : (xw != 2) = true := bne_iff_ne.2 (fun e => h e.symm)
                cases hh : xb.toList <;> simp [h, h2]
            obtain ⟨p3, c3, rfl, _, _⟩ := own_shape hown
            obtain ⟨V1, hV1, g1, y0, y1, y2⟩ := box3 wr (.string xa) (.string xb) (.int .i64 xw) 91
            have BB1 : Hid (V1.heap[wr.heap.size]? = some (.cells #[.string xa, .string xb, .int .i64 xw] 91 (0, 0))) := by rw [Hid, ← hV1]; exact heap_alloc_new wr _
            have GG1 := Lib.hid (Gr.trans gg g1)
            have HOW1 := Lib.hid (own_kept hown g1)
            have HV1 := Lib.hid hV1
            have CX0 := CX.out
            rw [hp3] at CX0
            have CXS := CX
            clear CX
            have CX := Lib.hid CX0
            clear hr hp3 hc3 HTK0 hL3 hle3 hown hV1 g1 y0 y1 y2 gg CX0
            rcases HA with ⟨ha, ha2⟩ | ⟨ha, ha2, hwa, ta⟩ | ⟨ha, ha2, hwa, ta⟩ <;> rcases HB with ⟨hb, hb2⟩ | ⟨hb, hb2, hwb, tb⟩ | ⟨hb, hb2, hwb, tb⟩
            · go_wp2_with fail
              rw [HV1.out]
              have bb := BB1.out
              have gg := GG1.out
              generalize wr.heap.size = Bk at *
              have HRP : Hid (rcP ((x.l.length : Int) + 1) ⟨xa, xb, xw⟩ = []) := by
                rw [Hid, HMK.out]
                unfold rcP laneL
                rw [if_pos ha, if_pos hb]
                simp only [List.nil_append, List.append_nil, List.cons_append, List.flatMap_nil, List.flatMap_cons, plOf]
                skip
                skip
                try (first | done | rfl | simp [inR])
              have HLX : Hid (Lq ++ (x.l.take (k2 + 1)).flatMap (rcP ((x.l.length : Int) + 1)) = L3) := by
                rw [Hid, HTK.out, HRP.out, ← List.append_assoc, ← HLY.out]
                try (first | rfl | simp)
              go_roundg (gk - 1)
              case measure => omega
              case rel => exact ⟨k2 + 1, by go_num, by omega, by rw [HLX.out]; exact HOW1.out, gg⟩
            · have HWB := Lib.hid hwb
              clear hwb
              go_wp2_with fail
              rw [HV1.out]
              have bb := BB1.out
              have gg := GG1.out
              generalize wr.heap.size = Bk at *
              have HRP : Hid (rcP ((x.l.length : Int) + 1) ⟨xa, xb, xw⟩ = []) := by
                rw [Hid, HMK.out]
                unfold rcP laneL
                rw [if_pos ha, if_neg hb]
                simp only [List.nil_append, List.append_nil, List.cons_append, List.flatMap_nil, List.flatMap_cons, plOf]
                skip
                rw [if_pos HWB.out]
                try (first | done | rfl | simp [inR])
              have HLX : Hid (Lq ++ (x.l.take (k2 + 1)).flatMap (rcP ((x.l.length : Int) + 1)) = L3) := by
                rw [Hid, HTK.out, HRP.out, ← List.append_assoc, ← HLY.out]
                try (first | rfl | simp)
              go_roundg (gk - 1)
              case measure => omega
              case rel => exact ⟨k2 + 1, by go_num, by omega, by rw [HLX.out]; exact HOW1.out, gg⟩
            · go_wp2_with fail
              rw [HV1.out]
              have bb := BB1.out
              have gg := GG1.out
              generalize wr.heap.size = Bk at *
              have gd := (Gr.refl V1).drew
              have od := own_kept HOW1.out gd
              have bd := Gr.block gd bb
              have ggd : Gr w V1.drew := gg.drew
              obtain ⟨d0, d1, d2⟩ := cells3_of bd
              have d3 := Gr.cell ggd CX.out
              refine wp_region_held_drew (S := (fun w' => w'.cell? ⟨Bk, 0, none⟩ = some (.string xa) ∧ w'.cell? ⟨Bk, 1, none⟩ = some (.string xb) ∧ w'.cell? ⟨Bk, 2, none⟩ = some (.int .i64 xw) ∧ w'.cell? ⟨b, off + i, none⟩ = some (.slice (some ⟨b3, o3, none⟩) x.n x.c))) (by kernel_rfl) ⟨d0, d1, d2, d3⟩ (fun hHeld => ?_)
              have BD := Lib.hid bd
              have OD := Lib.hid od
              have GD := Lib.hid ggd
              clear gd od bd ggd bb gg
              generalize V1.drew = V0 at *
              refine wpAnyH_take (i := 0) (v := (.slice p3 L3.length c3)) (op_at rfl) (by kernel_rfl) (by kernel_rfl) (by kernel_rfl) (fun _ _ _ h => h) (Or.inl ⟨rfl, fun w hSw => ?_⟩) (by assumption) ?_
              · (try dsimp only at hSw); go_simp; try with_reducible rfl
              (try simp only [Act.put, List.setIfInBounds_toArray, List.set_cons_zero, List.set_cons_succ])
              refine wpAnyH_take (i := 1) (v := (.pointer (some ⟨Bk, 1, none⟩))) (op_at rfl) (by kernel_rfl) (by kernel_rfl) (by kernel_rfl) (fun _ _ _ h => h) (Or.inl ⟨rfl, fun w hSw => ?_⟩) (by assumption) ?_
              · (try dsimp only at hSw); go_simp; try with_reducible rfl
              (try simp only [Act.put, List.setIfInBounds_toArray, List.set_cons_zero, List.set_cons_succ])
              refine wpAnyH_take (i := 2) (v := (.string xb)) (op_at rfl) (by kernel_rfl) (by kernel_rfl) (by kernel_rfl) (fun _ _ _ h => h) (Or.inl ⟨rfl, fun w hSw => ?_⟩) (by assumption) ?_
              · (try dsimp only at hSw); go_simp; try with_reducible rfl
              (try simp only [Act.put, List.setIfInBounds_toArray, List.set_cons_zero, List.set_cons_succ])
              refine wpAnyH_take (i := 3) (v := (.slice (some ⟨b, off, none⟩) n cap)) (op_at rfl) (by kernel_rfl) (by kernel_rfl) (by kernel_rfl) (fun _ _ _ h => h) (Or.inl ⟨rfl, fun w hSw => ?_⟩) (by assumption) ?_
              · (try dsimp only at hSw); go_simp; try with_reducible rfl
              (try simp only [Act.put, List.setIfInBounds_toArray, List.set_cons_zero, List.set_cons_succ])
              refine wpAnyH_take (i := 4) (v := (.int .i64 (i : Int))) (op_at rfl) (by kernel_rfl) (by kernel_rfl) (by kernel_rfl) (fun _ _ _ h => h) (Or.inl ⟨rfl, fun w hSw => ?_⟩) (by assumption) ?_
              · (try dsimp only at hSw); go_simp; try with_reducible rfl
              (try simp only [Act.put, List.setIfInBounds_toArray, List.set_cons_zero, List.set_cons_succ])
              refine wpAnyH_take (i := 5) (v := (.pointer (some ⟨b, off + i, none⟩))) (op_at rfl) (by kernel_rfl) (by kernel_rfl) (by kernel_rfl) (fun _ _ _ h => h) (Or.inl ⟨rfl, fun w hSw => ?_⟩) (by assumption) ?_
              · (try dsimp only at hSw); go_simp; try with_reducible rfl
              (try simp only [Act.put, List.setIfInBounds_toArray, List.set_cons_zero, List.set_cons_succ])
              refine wpAnyH_take (i := 6) (v := (.slice (some ⟨b3, o3, none⟩) x.n x.c)) (op_at rfl) (by kernel_rfl) (by kernel_rfl) (by kernel_rfl) (fun _ _ _ h => h) (Or.inl ⟨rfl, fun w hSw => ?_⟩) (by assumption) ?_
              · (try dsimp only at hSw); go_simp; try with_reducible rfl
              (try simp only [Act.put, List.setIfInBounds_toArray, List.set_cons_zero, List.set_cons_succ])
              refine wpAnyH_take (i := 7) (v := (.int .i64 x.n)) (op_at rfl) (by kernel_rfl) (by kernel_rfl) (by kernel_rfl) (fun _ _ _ h => h) (Or.inl ⟨rfl, fun w hSw => ?_⟩) (by assumption) ?_
              · (try dsimp only at hSw); go_simp; try with_reducible rfl
              (try simp only [Act.put, List.setIfInBounds_toArray, List.set_cons_zero, List.set_cons_succ])
              refine wpAnyH_take (i := 8) (v := (.int .i64 ((x.n : Int) + 1))) (op_at rfl) (by kernel_rfl) (by kernel_rfl) (by kernel_rfl) (fun _ _ _ h => h) (Or.inl ⟨rfl, fun w hSw => ?_⟩) (by assumption) ?_
              · (try dsimp only at hSw); go_simp; try with_reducible rfl
              (try simp only [Act.put, List.setIfInBounds_toArray, List.set_cons_zero, List.set_cons_succ])
              refine wpAnyH_take (i := 9) (v := (.agg #[.string xb, .int .i64 ((x.n : Int) + 1)])) (op_at rfl) (by kernel_rfl) (by kernel_rfl) (by kernel_rfl) (fun _ _ _ h => h) (Or.inl ⟨rfl, fun w hSw => ?_⟩) (by assumption) ?_
              · (try dsimp only at hSw); go_simp; try with_reducible rfl
              (try simp only [Act.put, List.setIfInBounds_toArray, List.set_cons_zero, List.set_cons_succ])
              refine wpAnyH_ready (rs := [10]) (by kernel_rfl) (by simp) (AllReadyH.cons (op_at rfl) (fun K hK => ?_) AllReadyH.nil)
              go_simp
              have ga := (Gr.refl V0).alloc (.cells #[.string xb, .int .i64 ((x.n : Int) + 1)] 106)
              have oa := own_kept OD.out ga
              have ba := Gr.block ga BD.out
              have gga : Gr w (V0.alloc (.cells #[.string xb, .int .i64 ((x.n : Int) + 1)] 106)) := GD.out.trans ga
              replace d0 := Gr.cell ga d0
              replace d1 := Gr.cell ga d1
              replace d2 := Gr.cell ga d2
              replace d3 := Gr.cell ga d3
              refine hK.out _ _ ⟨d0, d1, d2, d3⟩ (fun hHeld => ?_)
              clear hK K
              (try simp only [Act.put, List.setIfInBounds_toArray, List.set_cons_zero, List.set_cons_succ])
              refine wpAnyH_ready (rs := [11]) (by kernel_rfl) (by simp) (AllReadyH.cons (op_at rfl) (fun K hK => ?_) AllReadyH.nil)
              rw [if_pos (show Region.wanted _ _ = true from rfl)]
              refine step_plR 44 106 Tryz.underlying44 infoPlR _ _ rfl w.heap.size (.slice p3 L3.length c3) _ _ rfl oa ⟨xb, (x.n : Int) + 1⟩ V0.heap.size 1 rfl (cell_new V0 #[.string xb, .int .i64 ((x.n : Int) + 1)] 106 0 (by simp)) (cell_new V0 #[.string xb, .int .i64 ((x.n : Int) + 1)] 106 1 (by simp)) (by have := HLE.out; (try simp only [List.length_append, List.length_cons, List.length_nil] at *); omega) (show w.heap.size ≤ _ from Below.size gga) ?_
              intro u1 V5 hown1 hgrow1
              have bb : V5.heap[Bk]? = _ := own_far oa hgrow1 ba (by decide)
              have gg : Gr w V5 := Below.grown gga hgrow1 (show w.heap.size ≤ _ from Below.size gga) (fun q hq => (own_in oa hq).2)
              rw [← plCs_add] at hown1
              obtain ⟨p9, c9, hu1, _, _⟩ := own_shape hown1
              obtain ⟨m9, hm9⟩ : ∃ m9, (L3).length + 1 = m9 := ⟨_, rfl⟩
              have HOWB : Hid (V5.ownsRow w.heap.size 106 2 u1 (L3 ++ [(⟨xb, (x.n : Int) + 1⟩ : PlR)]).length (plCs (L3 ++ [(⟨xb, (x.n : Int) + 1⟩ : PlR)]))) := by rw [Hid, List.length_append]; exact hown1
              rw [hm9] at hu1
              subst hu1
              obtain ⟨d0, d1, d2⟩ := cells3_of bb
              have d3 := Gr.cell gg CX.out
              clear hown1 hgrow1 oa ba gga ga
              refine hK.out _ _ ⟨d0, d1, d2, d3⟩ (fun hHeld => ?_)
              clear hK K
              (try simp only [Act.put, List.setIfInBounds_toArray, List.set_cons_zero, List.set_cons_succ])
              refine wpAnyH_take (i := 12) (v := (.slice p9 m9 c9)) (op_at rfl) (by kernel_rfl) (by kernel_rfl) (by kernel_rfl) (fun _ _ _ h => h) (Or.inl ⟨rfl, fun w hSw => ?_⟩) (by assumption) ?_
              · (try dsimp only at hSw); go_simp; try with_reducible rfl
              (try simp only [Act.put, List.setIfInBounds_toArray, List.set_cons_zero, List.set_cons_succ])
              refine wpAnyH_done (by kernel_rfl) ?_ _
              clear hHeld
              go_wp2_with fail
              have HRP : Hid (rcP ((x.l.length : Int) + 1) ⟨xa, xb, xw⟩ = [⟨xb, (x.n : Int) + 1⟩]) := by
                rw [Hid, HMK.out]
                unfold rcP laneL
                rw [if_pos ha, if_neg hb]
                simp only [List.nil_append, List.append_nil, List.cons_append, List.flatMap_nil, List.flatMap_cons, plOf]
                skip
                rw [if_neg hwb]
                try (first | done | rfl | simp [inR])
              have HLX : Hid (Lq ++ (x.l.take (k2 + 1)).flatMap (rcP ((x.l.length : Int) + 1)) = (L3 ++ [(⟨xb, (x.n : Int) + 1⟩ : PlR)])) := by
                rw [Hid, HTK.out, HRP.out, ← List.append_assoc, ← HLY.out]
                try (first | rfl | simp)
              go_roundg (gk - 1)
              case measure => omega
              case rel => exact ⟨k2 + 1, by go_num, by omega, by rw [HLX.out]; exact HOWB.out, gg⟩
            · have HWA := Lib.hid hwa
              clear hwa
              go_wp2_with fail
              rw [HV1.out]
              have bb := BB1.out
              have gg := GG1.out
              generalize wr.heap.size = Bk at *
              have HRP : Hid (rcP ((x.l.length : Int) + 1) ⟨xa, xb, xw⟩ = []) := by
                rw [Hid, HMK.out]
                unfold rcP laneL
                rw [if_neg ha, if_pos hb]
                simp only [List.nil_append, List.append_nil, List.cons_append, List.flatMap_nil, List.flatMap_cons, plOf]
                rw [if_pos HWA.out]
                skip
                try (first | done | rfl | simp [inR])
              have HLX : Hid (Lq ++ (x.l.take (k2 + 1)).flatMap (rcP ((x.l.length : Int) + 1)) = L3) := by
                rw [Hid, HTK.out, HRP.out, ← List.append_assoc, ← HLY.out]
                try (first | rfl | simp)
              go_roundg (gk - 1)
              case measure => omega
              case rel => exact ⟨k2 + 1, by go_num, by omega, by rw [HLX.out]; exact HOW1.out, gg⟩
            · have HWA := Lib.hid hwa
              clear hwa
              have HWB := Lib.hid hwb
              clear hwb
              go_wp2_with fail
              rw [HV1.out]
              have bb := BB1.out
              have gg := GG1.out
              generalize wr.heap.size = Bk at *
              have HRP : Hid (rcP ((x.l.length : Int) + 1) ⟨xa, xb, xw⟩ = []) := by
                rw [Hid, HMK.out]
                unfold rcP laneL
                rw [if_neg ha, if_neg hb]
                simp only [List.nil_append, List.append_nil, List.cons_append, List.flatMap_nil, List.flatMap_cons, plOf]
                rw [if_pos HWA.out]
                rw [if_pos HWB.out]
                try (first | done | rfl | simp [inR])
              have HLX : Hid (Lq ++ (x.l.take (k2 + 1)).flatMap (rcP ((x.l.length : Int) + 1)) = L3) := by
                rw [Hid, HTK.out, HRP.out, ← List.append_assoc, ← HLY.out]
                try (first | rfl | simp)
              go_roundg (gk - 1)
              case measure => omega
              case rel => exact ⟨k2 + 1, by go_num, by omega, by rw [HLX.out]; exact HOW1.out, gg⟩
            · have HWA := Lib.hid hwa
              clear hwa
              go_wp2_with fail
              rw [HV1.out]
              have bb := BB1.out
              have gg := GG1.out
              generalize wr.heap.size = Bk at *
              have gd := (Gr.refl V1).drew
              have od := own_kept HOW1.out gd
              have bd := Gr.block gd bb
              have ggd : Gr w V1.drew := gg.drew
              obtain ⟨d0, d1, d2⟩ := cells3_of bd
              have d3 := Gr.cell ggd CX.out
              refine wp_region_held_drew (S := (fun w' => w'.cell? ⟨Bk, 0, none⟩ = some (.string xa) ∧ w'.cell? ⟨Bk, 1, none⟩ = some (.string xb) ∧ w'.cell? ⟨Bk, 2, none⟩ = some (.int .i64 xw) ∧ w'.cell? ⟨b, off + i, none⟩ = some (.slice (some ⟨b3, o3, none⟩) x.n x.c))) (by kernel_rfl) ⟨d0, d1, d2, d3⟩ (fun hHeld => ?_)
              have BD := Lib.hid bd
              have OD := Lib.hid od
              have GD := Lib.hid ggd
              clear gd od bd ggd bb gg
              generalize V1.drew = V0 at *
              refine wpAnyH_take (i := 0) (v := (.slice p3 L3.length c3)) (op_at rfl) (by kernel_rfl) (by kernel_rfl) (by kernel_rfl) (fun _ _ _ h => h) (Or.inl ⟨rfl, fun w hSw => ?_⟩) (by assumption) ?_
              · (try dsimp only at hSw); go_simp; try with_reducible rfl
              (try simp only [Act.put, List.setIfInBounds_toArray, List.set_cons_zero, List.set_cons_succ])
              refine wpAnyH_take (i := 1) (v := (.pointer (some ⟨Bk, 1, none⟩))) (op_at rfl) (by kernel_rfl) (by kernel_rfl) (by kernel_rfl) (fun _ _ _ h => h) (Or.inl ⟨rfl, fun w hSw => ?_⟩) (by assumption) ?_
              · (try dsimp only at hSw); go_simp; try with_reducible rfl
              (try simp only [Act.put, List.setIfInBounds_toArray, List.set_cons_zero, List.set_cons_succ])
              refine wpAnyH_take (i := 2) (v := (.string xb)) (op_at rfl) (by kernel_rfl) (by kernel_rfl) (by kernel_rfl) (fun _ _ _ h => h) (Or.inl ⟨rfl, fun w hSw => ?_⟩) (by assumption) ?_
              · (try dsimp only at hSw); go_simp; try with_reducible rfl
              (try simp only [Act.put, List.setIfInBounds_toArray, List.set_cons_zero, List.set_cons_succ])
              refine wpAnyH_take (i := 3) (v := (.slice (some ⟨b, off, none⟩) n cap)) (op_at rfl) (by kernel_rfl) (by kernel_rfl) (by kernel_rfl) (fun _ _ _ h => h) (Or.inl ⟨rfl, fun w hSw => ?_⟩) (by assumption) ?_
              · (try dsimp only at hSw); go_simp; try with_reducible rfl
              (try simp only [Act.put, List.setIfInBounds_toArray, List.set_cons_zero, List.set_cons_succ])
              refine wpAnyH_take (i := 4) (v := (.int .i64 (i : Int))) (op_at rfl) (by kernel_rfl) (by kernel_rfl) (by kernel_rfl) (fun _ _ _ h => h) (Or.inl ⟨rfl, fun w hSw => ?_⟩) (by assumption) ?_
              · (try dsimp only at hSw); go_simp; try with_reducible rfl
              (try simp only [Act.put, List.setIfInBounds_toArray, List.set_cons_zero, List.set_cons_succ])
              refine wpAnyH_take (i := 5) (v := (.pointer (some ⟨b, off + i, none⟩))) (op_at rfl) (by kernel_rfl) (by kernel_rfl) (by kernel_rfl) (fun _ _ _ h => h) (Or.inl ⟨rfl, fun w hSw => ?_⟩) (by assumption) ?_
              · (try dsimp only at hSw); go_simp; try with_reducible rfl
              (try simp only [Act.put, List.setIfInBounds_toArray, List.set_cons_zero, List.set_cons_succ])
              refine wpAnyH_take (i := 6) (v := (.slice (some ⟨b3, o3, none⟩) x.n x.c)) (op_at rfl) (by kernel_rfl) (by kernel_rfl) (by kernel_rfl) (fun _ _ _ h => h) (Or.inl ⟨rfl, fun w hSw => ?_⟩) (by assumption) ?_
              · (try dsimp only at hSw); go_simp; try with_reducible rfl
              (try simp only [Act.put, List.setIfInBounds_toArray, List.set_cons_zero, List.set_cons_succ])
              refine wpAnyH_take (i := 7) (v := (.int .i64 x.n)) (op_at rfl) (by kernel_rfl) (by kernel_rfl) (by kernel_rfl) (fun _ _ _ h => h) (Or.inl ⟨rfl, fun w hSw => ?_⟩) (by assumption) ?_
              · (try dsimp only at hSw); go_simp; try with_reducible rfl
              (try simp only [Act.put, List.setIfInBounds_toArray, List.set_cons_zero, List.set_cons_succ])
              refine wpAnyH_take (i := 8) (v := (.int .i64 ((x.n : Int) + 1))) (op_at rfl) (by kernel_rfl) (by kernel_rfl) (by kernel_rfl) (fun _ _ _ h => h) (Or.inl ⟨rfl, fun w hSw => ?_⟩) (by assumption) ?_
              · (try dsimp only at hSw); go_simp; try with_reducible rfl
              (try simp only [Act.put, List.setIfInBounds_toArray, List.set_cons_zero, List.set_cons_succ])
              refine wpAnyH_take (i := 9) (v := (.agg #[.string xb, .int .i64 ((x.n : Int) + 1)])) (op_at rfl) (by kernel_rfl) (by kernel_rfl) (by kernel_rfl) (fun _ _ _ h => h) (Or.inl ⟨rfl, fun w hSw => ?_⟩) (by assumption) ?_
              · (try dsimp only at hSw); go_simp; try with_reducible rfl
              (try simp only [Act.put, List.setIfInBounds_toArray, List.set_cons_zero, List.set_cons_succ])
              refine wpAnyH_ready (rs := [10]) (by kernel_rfl) (by simp) (AllReadyH.cons (op_at rfl) (fun K hK => ?_) AllReadyH.nil)
              go_simp
              have ga := (Gr.refl V0).alloc (.cells #[.string xb, .int .i64 ((x.n : Int) + 1)] 106)
              have oa := own_kept OD.out ga
              have ba := Gr.block ga BD.out
              have gga : Gr w (V0.alloc (.cells #[.string xb, .int .i64 ((x.n : Int) + 1)] 106)) := GD.out.trans ga
              replace d0 := Gr.cell ga d0
              replace d1 := Gr.cell ga d1
              replace d2 := Gr.cell ga d2
              replace d3 := Gr.cell ga d3
              refine hK.out _ _ ⟨d0, d1, d2, d3⟩ (fun hHeld => ?_)
              clear hK K
              (try simp only [Act.put, List.setIfInBounds_toArray, List.set_cons_zero, List.set_cons_succ])
              refine wpAnyH_ready (rs := [11]) (by kernel_rfl) (by simp) (AllReadyH.cons (op_at rfl) (fun K hK => ?_) AllReadyH.nil)
              rw [if_pos (show Region.wanted _ _ = true from rfl)]
              refine step_plR 44 106 Tryz.underlying44 infoPlR _ _ rfl w.heap.size (.slice p3 L3.length c3) _ _ rfl oa ⟨xb, (x.n : Int) + 1⟩ V0.heap.size 1 rfl (cell_new V0 #[.string xb, .int .i64 ((x.n : Int) + 1)] 106 0 (by simp)) (cell_new V0 #[.string xb, .int .i64 ((x.n : Int) + 1)] 106 1 (by simp)) (by have := HLE.out; (try simp only [List.length_append, List.length_cons, List.length_nil] at *); omega) (show w.heap.size ≤ _ from Below.size gga) ?_
              intro u1 V5 hown1 hgrow1
              have bb : V5.heap[Bk]? = _ := own_far oa hgrow1 ba (by decide)
              have gg : Gr w V5 := Below.grown gga hgrow1 (show w.heap.size ≤ _ from Below.size gga) (fun q hq => (own_in oa hq).2)
              rw [← plCs_add] at hown1
              obtain ⟨p9, c9, hu1, _, _⟩ := own_shape hown1
              obtain ⟨m9, hm9⟩ : ∃ m9, (L3).length + 1 = m9 := ⟨_, rfl⟩
              have HOWB : Hid (V5.ownsRow w.heap.size 106 2 u1 (L3 ++ [(⟨xb, (x.n : Int) + 1⟩ : PlR)]).length (plCs (L3 ++ [(⟨xb, (x.n : Int) + 1⟩ : PlR)]))) := by rw [Hid, List.length_append]; exact hown1
              rw [hm9] at hu1
              subst hu1
              obtain ⟨d0, d1, d2⟩ := cells3_of bb
              have d3 := Gr.cell gg CX.out
              clear hown1 hgrow1 oa ba gga ga
              refine hK.out _ _ ⟨d0, d1, d2, d3⟩ (fun hHeld => ?_)
              clear hK K
              (try simp only [Act.put, List.setIfInBounds_toArray, List.set_cons_zero, List.set_cons_succ])
              refine wpAnyH_take (i := 12) (v := (.slice p9 m9 c9)) (op_at rfl) (by kernel_rfl) (by kernel_rfl) (by kernel_rfl) (fun _ _ _ h => h) (Or.inl ⟨rfl, fun w hSw => ?_⟩) (by assumption) ?_
              · (try dsimp only at hSw); go_simp; try with_reducible rfl
              (try simp only [Act.put, List.setIfInBounds_toArray, List.set_cons_zero, List.set_cons_succ])
              refine wpAnyH_done (by kernel_rfl) ?_ _
              clear hHeld
              go_wp2_with fail
              have HRP : Hid (rcP ((x.l.length : Int) + 1) ⟨xa, xb, xw⟩ = [⟨xb, (x.n : Int) + 1⟩]) := by
                rw [Hid, HMK.out]
                unfold rcP laneL
                rw [if_neg ha, if_neg hb]
                simp only [List.nil_append, List.append_nil, List.cons_append, List.flatMap_nil, List.flatMap_cons, plOf]
                rw [if_pos HWA.out]
                rw [if_neg hwb]
                try (first | done | rfl | simp [inR])
              have HLX : Hid (Lq ++ (x.l.take (k2 + 1)).flatMap (rcP ((x.l.length : Int) + 1)) = (L3 ++ [(⟨xb, (x.n : Int) + 1⟩ : PlR)])) := by
                rw [Hid, HTK.out, HRP.out, ← List.append_assoc, ← HLY.out]
                try (first | rfl | simp)
              go_roundg (gk - 1)
              case measure => omega
              case rel => exact ⟨k2 + 1, by go_num, by omega, by rw [HLX.out]; exact HOWB.out, gg⟩
            · go_wp2_with fail
              rw [HV1.out]
              have bb := BB1.out
              have gg := GG1.out
              generalize wr.heap.size = Bk at *
              have gd := (Gr.refl V1).drew
              have od := own_kept HOW1.out gd
              have bd := Gr.block gd bb
              have ggd : Gr w V1.drew := gg.drew
              obtain ⟨d0, d1, d2⟩ := cells3_of bd
              have d3 := Gr.cell ggd CX.out
              refine wp_region_held_drew (S := (fun w' => w'.cell? ⟨Bk, 0, none⟩ = some (.string xa) ∧ w'.cell? ⟨Bk, 1, none⟩ = some (.string xb) ∧ w'.cell? ⟨Bk, 2, none⟩ = some (.int .i64 xw) ∧ w'.cell? ⟨b, off + i, none⟩ = some (.slice (some ⟨b3, o3, none⟩) x.n x.c))) (by kernel_rfl) ⟨d0, d1, d2, d3⟩ (fun hHeld => ?_)
              have BD := Lib.hid bd
              have OD := Lib.hid od
              have GD := Lib.hid ggd
              clear gd od bd ggd bb gg
              generalize V1.drew = V0 at *
              refine wpAnyH_take (i := 0) (v := (.slice p3 L3.length c3)) (op_at rfl) (by kernel_rfl) (by kernel_rfl) (by kernel_rfl) (fun _ _ _ h => h) (Or.inl ⟨rfl, fun w hSw => ?_⟩) (by assumption) ?_
              · (try dsimp only at hSw); go_simp; try with_reducible rfl
              (try simp only [Act.put, List.setIfInBounds_toArray, List.set_cons_zero, List.set_cons_succ])
              refine wpAnyH_take (i := 1) (v := (.pointer (some ⟨Bk, 0, none⟩))) (op_at rfl) (by kernel_rfl) (by kernel_rfl) (by kernel_rfl) (fun _ _ _ h => h) (Or.inl ⟨rfl, fun w hSw => ?_⟩) (by assumption) ?_
              · (try dsimp only at hSw); go_simp; try with_reducible rfl
              (try simp only [Act.put, List.setIfInBounds_toArray, List.set_cons_zero, List.set_cons_succ])
              refine wpAnyH_take (i := 2) (v := (.string xa)) (op_at rfl) (by kernel_rfl) (by kernel_rfl) (by kernel_rfl) (fun _ _ _ h => h) (Or.inl ⟨rfl, fun w hSw => ?_⟩) (by assumption) ?_
              · (try dsimp only at hSw); go_simp; try with_reducible rfl
              (try simp only [Act.put, List.setIfInBounds_toArray, List.set_cons_zero, List.set_cons_succ])
              refine wpAnyH_take (i := 3) (v := (.slice (some ⟨b, off, none⟩) n cap)) (op_at rfl) (by kernel_rfl) (by kernel_rfl) (by kernel_rfl) (fun _ _ _ h => h) (Or.inl ⟨rfl, fun w hSw => ?_⟩) (by assumption) ?_
              · (try dsimp only at hSw); go_simp; try with_reducible rfl
              (try simp only [Act.put, List.setIfInBounds_toArray, List.set_cons_zero, List.set_cons_succ])
              refine wpAnyH_take (i := 4) (v := (.int .i64 (i : Int))) (op_at rfl) (by kernel_rfl) (by kernel_rfl) (by kernel_rfl) (fun _ _ _ h => h) (Or.inl ⟨rfl, fun w hSw => ?_⟩) (by assumption) ?_
              · (try dsimp only at hSw); go_simp; try with_reducible rfl
              (try simp only [Act.put, List.setIfInBounds_toArray, List.set_cons_zero, List.set_cons_succ])
              refine wpAnyH_take (i := 5) (v := (.pointer (some ⟨b, off + i, none⟩))) (op_at rfl) (by kernel_rfl) (by kernel_rfl) (by kernel_rfl) (fun _ _ _ h => h) (Or.inl ⟨rfl, fun w hSw => ?_⟩) (by assumption) ?_
              · (try dsimp only at hSw); go_simp; try with_reducible rfl
              (try simp only [Act.put, List.setIfInBounds_toArray, List.set_cons_zero, List.set_cons_succ])
              refine wpAnyH_take (i := 6) (v := (.slice (some ⟨b3, o3, none⟩) x.n x.c)) (op_at rfl) (by kernel_rfl) (by kernel_rfl) (by kernel_rfl) (fun _ _ _ h => h) (Or.inl ⟨rfl, fun w hSw => ?_⟩) (by assumption) ?_
              · (try dsimp only at hSw); go_simp; try with_reducible rfl
              (try simp only [Act.put, List.setIfInBounds_toArray, List.set_cons_zero, List.set_cons_succ])
              refine wpAnyH_take (i := 7) (v := (.int .i64 x.n)) (op_at rfl) (by kernel_rfl) (by kernel_rfl) (by kernel_rfl) (fun _ _ _ h => h) (Or.inl ⟨rfl, fun w hSw => ?_⟩) (by assumption) ?_
              · (try dsimp only at hSw); go_simp; try with_reducible rfl
              (try simp only [Act.put, List.setIfInBounds_toArray, List.set_cons_zero, List.set_cons_succ])
              refine wpAnyH_take (i := 8) (v := (.int .i64 ((x.n : Int) + 1))) (op_at rfl) (by kernel_rfl) (by kernel_rfl) (by kernel_rfl) (fun _ _ _ h => h) (Or.inl ⟨rfl, fun w hSw => ?_⟩) (by assumption) ?_
              · (try dsimp only at hSw); go_simp; try with_reducible rfl
              (try simp only [Act.put, List.setIfInBounds_toArray, List.set_cons_zero, List.set_cons_succ])
              refine wpAnyH_take (i := 9) (v := (.agg #[.string xa, .int .i64 ((x.n : Int) + 1)])) (op_at rfl) (by kernel_rfl) (by kernel_rfl) (by kernel_rfl) (fun _ _ _ h => h) (Or.inl ⟨rfl, fun w hSw => ?_⟩) (by assumption) ?_
              · (try dsimp only at hSw); go_simp; try with_reducible rfl
              (try simp only [Act.put, List.setIfInBounds_toArray, List.set_cons_zero, List.set_cons_succ])
              refine wpAnyH_ready (rs := [10]) (by kernel_rfl) (by simp) (AllReadyH.cons (op_at rfl) (fun K hK => ?_) AllReadyH.nil)
              go_simp
              have ga := (Gr.refl V0).alloc (.cells #[.string xa, .int .i64 ((x.n : Int) + 1)] 106)
              have oa := own_kept OD.out ga
              have ba := Gr.block ga BD.out
              have gga : Gr w (V0.alloc (.cells #[.string xa, .int .i64 ((x.n : Int) + 1)] 106)) := GD.out.trans ga
              replace d0 := Gr.cell ga d0
              replace d1 := Gr.cell ga d1
              replace d2 := Gr.cell ga d2
              replace d3 := Gr.cell ga d3
              refine hK.out _ _ ⟨d0, d1, d2, d3⟩ (fun hHeld => ?_)
              clear hK K
              (try simp only [Act.put, List.setIfInBounds_toArray, List.set_cons_zero, List.set_cons_succ])
              refine wpAnyH_ready (rs := [11]) (by kernel_rfl) (by simp) (AllReadyH.cons (op_at rfl) (fun K hK => ?_) AllReadyH.nil)
              rw [if_pos (show Region.wanted _ _ = true from rfl)]
              refine step_plR 44 106 Tryz.underlying44 infoPlR _ _ rfl w.heap.size (.slice p3 L3.length c3) _ _ rfl oa ⟨xa, (x.n : Int) + 1⟩ V0.heap.size 1 rfl (cell_new V0 #[.string xa, .int .i64 ((x.n : Int) + 1)] 106 0 (by simp)) (cell_new V0 #[.string xa, .int .i64 ((x.n : Int) + 1)] 106 1 (by simp)) (by have := HLE.out; (try simp only [List.length_append, List.length_cons, List.length_nil] at *); omega) (show w.heap.size ≤ _ from Below.size gga) ?_
              intro u1 V3 hown1 hgrow1
              have bb : V3.heap[Bk]? = _ := own_far oa hgrow1 ba (by decide)
              have gg : Gr w V3 := Below.grown gga hgrow1 (show w.heap.size ≤ _ from Below.size gga) (fun q hq => (own_in oa hq).2)
              rw [← plCs_add] at hown1
              obtain ⟨p9, c9, hu1, _, _⟩ := own_shape hown1
              obtain ⟨m9, hm9⟩ : ∃ m9, (L3).length + 1 = m9 := ⟨_, rfl⟩
              have HOWA : Hid (V3.ownsRow w.heap.size 106 2 u1 (L3 ++ [(⟨xa, (x.n : Int) + 1⟩ : PlR)]).length (plCs (L3 ++ [(⟨xa, (x.n : Int) + 1⟩ : PlR)]))) := by rw [Hid, List.length_append]; exact hown1
              rw [hm9] at hu1
              subst hu1
              obtain ⟨d0, d1, d2⟩ := cells3_of bb
              have d3 := Gr.cell gg CX.out
              clear hown1 hgrow1 oa ba gga ga
              refine hK.out _ _ ⟨d0, d1, d2, d3⟩ (fun hHeld => ?_)
              clear hK K
              (try simp only [Act.put, List.setIfInBounds_toArray, List.set_cons_zero, List.set_cons_succ])
              refine wpAnyH_take (i := 12) (v := (.slice p9 m9 c9)) (op_at rfl) (by kernel_rfl) (by kernel_rfl) (by kernel_rfl) (fun _ _ _ h => h) (Or.inl ⟨rfl, fun w hSw => ?_⟩) (by assumption) ?_
              · (try dsimp only at hSw); go_simp; try with_reducible rfl
              (try simp only [Act.put, List.setIfInBounds_toArray, List.set_cons_zero, List.set_cons_succ])
              refine wpAnyH_done (by kernel_rfl) ?_ _
              clear hHeld
              go_wp2_with fail
              have HRP : Hid (rcP ((x.l.length : Int) + 1) ⟨xa, xb, xw⟩ = [⟨xa, (x.n : Int) + 1⟩]) := by
                rw [Hid, HMK.out]
                unfold rcP laneL
                rw [if_neg ha, if_pos hb]
                simp only [List.nil_append, List.append_nil, List.cons_append, List.flatMap_nil, List.flatMap_cons, plOf]
                rw [if_neg hwa]
                skip
                try (first | done | rfl | simp [inR])
              have HLX : Hid (Lq ++ (x.l.take (k2 + 1)).flatMap (rcP ((x.l.length : Int) + 1)) = (L3 ++ [(⟨xa, (x.n : Int) + 1⟩ : PlR)])) := by
                rw [Hid, HTK.out, HRP.out, ← List.append_assoc, ← HLY.out]
                try (first | rfl | simp)
              go_roundg (gk - 1)
              case measure => omega
              case rel => exact ⟨k2 + 1, by go_num, by omega, by rw [HLX.out]; exact HOWA.out, gg⟩
            · have HWB := Lib.hid hwb
              clear hwb
              go_wp2_with fail
              rw [HV1.out]
              have bb := BB1.out
              have gg := GG1.out
              generalize wr.heap.size = Bk at *
              have gd := (Gr.refl V1).drew
              have od := own_kept HOW1.out gd
              have bd := Gr.block gd bb
              have ggd : Gr w V1.drew := gg.drew
              obtain ⟨d0, d1, d2⟩ := cells3_of bd
              have d3 := Gr.cell ggd CX.out
              refine wp_region_held_drew (S := (fun w' => w'.cell? ⟨Bk, 0, none⟩ = some (.string xa) ∧ w'.cell? ⟨Bk, 1, none⟩ = some (.string xb) ∧ w'.cell? ⟨Bk, 2, none⟩ = some (.int .i64 xw) ∧ w'.cell? ⟨b, off + i, none⟩ = some (.slice (some ⟨b3, o3, none⟩) x.n x.c))) (by kernel_rfl) ⟨d0, d1, d2, d3⟩ (fun hHeld => ?_)
              have BD := Lib.hid bd
              have OD := Lib.hid od
              have GD := Lib.hid ggd
              clear gd od bd ggd bb gg
              generalize V1.drew = V0 at *
              refine wpAnyH_take (i := 0) (v := (.slice p3 L3.length c3)) (op_at rfl) (by kernel_rfl) (by kernel_rfl) (by kernel_rfl) (fun _ _ _ h => h) (Or.inl ⟨rfl, fun w hSw => ?_⟩) (by assumption) ?_
              · (try dsimp only at hSw); go_simp; try with_reducible rfl
              (try simp only [Act.put, List.setIfInBounds_toArray, List.set_cons_zero, List.set_cons_succ])
              refine wpAnyH_take (i := 1) (v := (.pointer (some ⟨Bk, 0, none⟩))) (op_at rfl) (by kernel_rfl) (by kernel_rfl) (by kernel_rfl) (fun _ _ _ h => h) (Or.inl ⟨rfl, fun w hSw => ?_⟩) (by assumption) ?_
              · (try dsimp only at hSw); go_simp; try with_reducible rfl
              (try simp only [Act.put, List.setIfInBounds_toArray, List.set_cons_zero, List.set_cons_succ])
              refine wpAnyH_take (i := 2) (v := (.string xa)) (op_at rfl) (by kernel_rfl) (by kernel_rfl) (by kernel_rfl) (fun _ _ _ h => h) (Or.inl ⟨rfl, fun w hSw => ?_⟩) (by assumption) ?_
              · (try dsimp only at hSw); go_simp; try with_reducible rfl
              (try simp only [Act.put, List.setIfInBounds_toArray, List.set_cons_zero, List.set_cons_succ])
              refine wpAnyH_take (i := 3) (v := (.slice (some ⟨b, off, none⟩) n cap)) (op_at rfl) (by kernel_rfl) (by kernel_rfl) (by kernel_rfl) (fun _ _ _ h => h) (Or.inl ⟨rfl, fun w hSw => ?_⟩) (by assumption) ?_
              · (try dsimp only at hSw); go_simp; try with_reducible rfl
              (try simp only [Act.put, List.setIfInBounds_toArray, List.set_cons_zero, List.set_cons_succ])
              refine wpAnyH_take (i := 4) (v := (.int .i64 (i : Int))) (op_at rfl) (by kernel_rfl) (by kernel_rfl) (by kernel_rfl) (fun _ _ _ h => h) (Or.inl ⟨rfl, fun w hSw => ?_⟩) (by assumption) ?_
              · (try dsimp only at hSw); go_simp; try with_reducible rfl
              (try simp only [Act.put, List.setIfInBounds_toArray, List.set_cons_zero, List.set_cons_succ])
              refine wpAnyH_take (i := 5) (v := (.pointer (some ⟨b, off + i, none⟩))) (op_at rfl) (by kernel_rfl) (by kernel_rfl) (by kernel_rfl) (fun _ _ _ h => h) (Or.inl ⟨rfl, fun w hSw => ?_⟩) (by assumption) ?_
              · (try dsimp only at hSw); go_simp; try with_reducible rfl
              (try simp only [Act.put, List.setIfInBounds_toArray, List.set_cons_zero, List.set_cons_succ])
              refine wpAnyH_take (i := 6) (v := (.slice (some ⟨b3, o3, none⟩) x.n x.c)) (op_at rfl) (by kernel_rfl) (by kernel_rfl) (by kernel_rfl) (fun _ _ _ h => h) (Or.inl ⟨rfl, fun w hSw => ?_⟩) (by assumption) ?_
              · (try dsimp only at hSw); go_simp; try with_reducible rfl
              (try simp only [Act.put, List.setIfInBounds_toArray, List.set_cons_zero, List.set_cons_succ])
              refine wpAnyH_take (i := 7) (v := (.int .i64 x.n)) (op_at rfl) (by kernel_rfl) (by kernel_rfl) (by kernel_rfl) (fun _ _ _ h => h) (Or.inl ⟨rfl, fun w hSw => ?_⟩) (by assumption) ?_
              · (try dsimp only at hSw); go_simp; try with_reducible rfl
              (try simp only [Act.put, List.setIfInBounds_toArray, List.set_cons_zero, List.set_cons_succ])
              refine wpAnyH_take (i := 8) (v := (.int .i64 ((x.n : Int) + 1))) (op_at rfl) (by kernel_rfl) (by kernel_rfl) (by kernel_rfl) (fun _ _ _ h => h) (Or.inl ⟨rfl, fun w hSw => ?_⟩) (by assumption) ?_
              · (try dsimp only at hSw); go_simp; try with_reducible rfl
              (try simp only [Act.put, List.setIfInBounds_toArray, List.set_cons_zero, List.set_cons_succ])
              refine wpAnyH_take (i := 9) (v := (.agg #[.string xa, .int .i64 ((x.n : Int) + 1)])) (op_at rfl) (by kernel_rfl) (by kernel_rfl) (by kernel_rfl) (fun _ _ _ h => h) (Or.inl ⟨rfl, fun w hSw => ?_⟩) (by assumption) ?_
              · (try dsimp only at hSw); go_simp; try with_reducible rfl
              (try simp only [Act.put, List.setIfInBounds_toArray, List.set_cons_zero, List.set_cons_succ])
              refine wpAnyH_ready (rs := [10]) (by kernel_rfl) (by simp) (AllReadyH.cons (op_at rfl) (fun K hK => ?_) AllReadyH.nil)
              go_simp
              have ga := (Gr.refl V0).alloc (.cells #[.string xa, .int .i64 ((x.n : Int) + 1)] 106)
              have oa := own_kept OD.out ga
              have ba := Gr.block ga BD.out
              have gga : Gr w (V0.alloc (.cells #[.string xa, .int .i64 ((x.n : Int) + 1)] 106)) := GD.out.trans ga
              replace d0 := Gr.cell ga d0
              replace d1 := Gr.cell ga d1
              replace d2 := Gr.cell ga d2
              replace d3 := Gr.cell ga d3
              refine hK.out _ _ ⟨d0, d1, d2, d3⟩ (fun hHeld => ?_)
              clear hK K
              (try simp only [Act.put, List.setIfInBounds_toArray, List.set_cons_zero, List.set_cons_succ])
              refine wpAnyH_ready (rs := [11]) (by kernel_rfl) (by simp) (AllReadyH.cons (op_at rfl) (fun K hK => ?_) AllReadyH.nil)
              rw [if_pos (show Region.wanted _ _ = true from rfl)]
              refine step_plR 44 106 Tryz.underlying44 infoPlR _ _ rfl w.heap.size (.slice p3 L3.length c3) _ _ rfl oa ⟨xa, (x.n : Int) + 1⟩ V0.heap.size 1 rfl (cell_new V0 #[.string xa, .int .i64 ((x.n : Int) + 1)] 106 0 (by simp)) (cell_new V0 #[.string xa, .int .i64 ((x.n : Int) + 1)] 106 1 (by simp)) (by have := HLE.out; (try simp only [List.length_append, List.length_cons, List.length_nil] at *); omega) (show w.heap.size ≤ _ from Below.size gga) ?_
              intro u1 V3 hown1 hgrow1
              have bb : V3.heap[Bk]? = _ := own_far oa hgrow1 ba (by decide)
              have gg : Gr w V3 := Below.grown gga hgrow1 (show w.heap.size ≤ _ from Below.size gga) (fun q hq => (own_in oa hq).2)
              rw [← plCs_add] at hown1
              obtain ⟨p9, c9, hu1, _, _⟩ := own_shape hown1
              obtain ⟨m9, hm9⟩ : ∃ m9, (L3).length + 1 = m9 := ⟨_, rfl⟩
              have HOWA : Hid (V3.ownsRow w.heap.size 106 2 u1 (L3 ++ [(⟨xa, (x.n : Int) + 1⟩ : PlR)]).length (plCs (L3 ++ [(⟨xa, (x.n : Int) + 1⟩ : PlR)]))) := by rw [Hid, List.length_append]; exact hown1
              rw [hm9] at hu1
              subst hu1
              obtain ⟨d0, d1, d2⟩ := cells3_of bb
              have d3 := Gr.cell gg CX.out
              clear hown1 hgrow1 oa ba gga ga
              refine hK.out _ _ ⟨d0, d1, d2, d3⟩ (fun hHeld => ?_)
              clear hK K
              (try simp only [Act.put, List.setIfInBounds_toArray, List.set_cons_zero, List.set_cons_succ])
              refine wpAnyH_take (i := 12) (v := (.slice p9 m9 c9)) (op_at rfl) (by kernel_rfl) (by kernel_rfl) (by kernel_rfl) (fun _ _ _ h => h) (Or.inl ⟨rfl, fun w hSw => ?_⟩) (by assumption) ?_
              · (try dsimp only at hSw); go_simp; try with_reducible rfl
              (try simp only [Act.put, List.setIfInBounds_toArray, List.set_cons_zero, List.set_cons_succ])
              refine wpAnyH_done (by kernel_rfl) ?_ _
              clear hHeld
              go_wp2_with fail
              have HRP : Hid (rcP ((x.l.length : Int) + 1) ⟨xa, xb, xw⟩ = [⟨xa, (x.n : Int) + 1⟩]) := by
                rw [Hid, HMK.out]
                unfold rcP laneL
                rw [if_neg ha, if_neg hb]
                simp only [List.nil_append, List.append_nil, List.cons_append, List.flatMap_nil, List.flatMap_cons, plOf]
                rw [if_neg hwa]
                rw [if_pos HWB.out]
                try (first | done | rfl | simp [inR])
              have HLX : Hid (Lq ++ (x.l.take (k2 + 1)).flatMap (rcP ((x.l.length : Int) + 1)) = (L3 ++ [(⟨xa, (x.n : Int) + 1⟩ : PlR)])) := by
                rw [Hid, HTK.out, HRP.out, ← List.append_assoc, ← HLY.out]
                try (first | rfl | simp)
              go_roundg (gk - 1)
              case measure => omega
              case rel => exact ⟨k2 + 1, by go_num, by omega, by rw [HLX.out]; exact HOWA.out, gg⟩
            · go_wp2_with fail
              rw [HV1.out]
              have bb := BB1.out
              have gg := GG1.out
              generalize wr.heap.size = Bk at *
              have gd := (Gr.refl V1).drew
              have od := own_kept HOW1.out gd
              have bd := Gr.block gd bb
              have ggd : Gr w V1.drew := gg.drew
              obtain ⟨d0, d1, d2⟩ := cells3_of bd
              have d3 := Gr.cell ggd CX.out
              refine wp_region_held_drew (S := (fun w' => w'.cell? ⟨Bk, 0, none⟩ = some (.string xa) ∧ w'.cell? ⟨Bk, 1, none⟩ = some (.string xb) ∧ w'.cell? ⟨Bk, 2, none⟩ = some (.int .i64 xw) ∧ w'.cell? ⟨b, off + i, none⟩ = some (.slice (some ⟨b3, o3, none⟩) x.n x.c))) (by kernel_rfl) ⟨d0, d1, d2, d3⟩ (fun hHeld => ?_)
              have BD := Lib.hid bd
              have OD := Lib.hid od
              have GD := Lib.hid ggd
              clear gd od bd ggd bb gg
              generalize V1.drew = V0 at *
              refine wpAnyH_take (i := 0) (v := (.slice p3 L3.length c3)) (op_at rfl) (by kernel_rfl) (by kernel_rfl) (by kernel_rfl) (fun _ _ _ h => h) (Or.inl ⟨rfl, fun w hSw => ?_⟩) (by assumption) ?_
              · (try dsimp only at hSw); go_simp; try with_reducible rfl
              (try simp only [Act.put, List.setIfInBounds_toArray, List.set_cons_zero, List.set_cons_succ])
              refine wpAnyH_take (i := 1) (v := (.pointer (some ⟨Bk, 0, none⟩))) (op_at rfl) (by kernel_rfl) (by kernel_rfl) (by kernel_rfl) (fun _ _ _ h => h) (Or.inl ⟨rfl, fun w hSw => ?_⟩) (by assumption) ?_
              · (try dsimp only at hSw); go_simp; try with_reducible rfl
              (try simp only [Act.put, List.setIfInBounds_toArray, List.set_cons_zero, List.set_cons_succ])
              refine wpAnyH_take (i := 2) (v := (.string xa)) (op_at rfl) (by kernel_rfl) (by kernel_rfl) (by kernel_rfl) (fun _ _ _ h => h) (Or.inl ⟨rfl, fun w hSw => ?_⟩) (by assumption) ?_
              · (try dsimp only at hSw); go_simp; try with_reducible rfl
              (try simp only [Act.put, List.setIfInBounds_toArray, List.set_cons_zero, List.set_cons_succ])
              refine wpAnyH_take (i := 3) (v := (.slice (some ⟨b, off, none⟩) n cap)) (op_at rfl) (by kernel_rfl) (by kernel_rfl) (by kernel_rfl) (fun _ _ _ h => h) (Or.inl ⟨rfl, fun w hSw => ?_⟩) (by assumption) ?_
              · (try dsimp only at hSw); go_simp; try with_reducible rfl
              (try simp only [Act.put, List.setIfInBounds_toArray, List.set_cons_zero, List.set_cons_succ])
              refine wpAnyH_take (i := 4) (v := (.int .i64 (i : Int))) (op_at rfl) (by kernel_rfl) (by kernel_rfl) (by kernel_rfl) (fun _ _ _ h => h) (Or.inl ⟨rfl, fun w hSw => ?_⟩) (by assumption) ?_
              · (try dsimp only at hSw); go_simp; try with_reducible rfl
              (try simp only [Act.put, List.setIfInBounds_toArray, List.set_cons_zero, List.set_cons_succ])
              refine wpAnyH_take (i := 5) (v := (.pointer (some ⟨b, off + i, none⟩))) (op_at rfl) (by kernel_rfl) (by kernel_rfl) (by kernel_rfl) (fun _ _ _ h => h) (Or.inl ⟨rfl, fun w hSw => ?_⟩) (by assumption) ?_
              · (try dsimp only at hSw); go_simp; try with_reducible rfl
              (try simp only [Act.put, List.setIfInBounds_toArray, List.set_cons_zero, List.set_cons_succ])
              refine wpAnyH_take (i := 6) (v := (.slice (some ⟨b3, o3, none⟩) x.n x.c)) (op_at rfl) (by kernel_rfl) (by kernel_rfl) (by kernel_rfl) (fun _ _ _ h => h) (Or.inl ⟨rfl, fun w hSw => ?_⟩) (by assumption) ?_
              · (try dsimp only at hSw); go_simp; try with_reducible rfl
              (try simp only [Act.put, List.setIfInBounds_toArray, List.set_cons_zero, List.set_cons_succ])
              refine wpAnyH_take (i := 7) (v := (.int .i64 x.n)) (op_at rfl) (by kernel_rfl) (by kernel_rfl) (by kernel_rfl) (fun _ _ _ h => h) (Or.inl ⟨rfl, fun w hSw => ?_⟩) (by assumption) ?_
              · (try dsimp only at hSw); go_simp; try with_reducible rfl
              (try simp only [Act.put, List.setIfInBounds_toArray, List.set_cons_zero, List.set_cons_succ])
              refine wpAnyH_take (i := 8) (v := (.int .i64 ((x.n : Int) + 1))) (op_at rfl) (by kernel_rfl) (by kernel_rfl) (by kernel_rfl) (fun _ _ _ h => h) (Or.inl ⟨rfl, fun w hSw => ?_⟩) (by assumption) ?_
              · (try dsimp only at hSw); go_simp; try with_reducible rfl
              (try simp only [Act.put, List.setIfInBounds_toArray, List.set_cons_zero, List.set_cons_succ])
              refine wpAnyH_take (i := 9) (v := (.agg #[.string xa, .int .i64 ((x.n : Int) + 1)])) (op_at rfl) (by kernel_rfl) (by kernel_rfl) (by kernel_rfl) (fun _ _ _ h => h) (Or.inl ⟨rfl, fun w hSw => ?_⟩) (by assumption) ?_
              · (try dsimp only at hSw); go_simp; try with_reducible rfl
              (try simp only [Act.put, List.setIfInBounds_toArray, List.set_cons_zero, List.set_cons_succ])
              refine wpAnyH_ready (rs := [10]) (by kernel_rfl) (by simp) (AllReadyH.cons (op_at rfl) (fun K hK => ?_) AllReadyH.nil)
              go_simp
              have ga := (Gr.refl V0).alloc (.cells #[.string xa, .int .i64 ((x.n : Int) + 1)] 106)
              have oa := own_kept OD.out ga
              have ba := Gr.block ga BD.out
              have gga : Gr w (V0.alloc (.cells #[.string xa, .int .i64 ((x.n : Int) + 1)] 106)) := GD.out.trans ga
              replace d0 := Gr.cell ga d0
              replace d1 := Gr.cell ga d1
              replace d2 := Gr.cell ga d2
              replace d3 := Gr.cell ga d3
              refine hK.out _ _ ⟨d0, d1, d2, d3⟩ (fun hHeld => ?_)
              clear hK K
              (try simp only [Act.put, List.setIfInBounds_toArray, List.set_cons_zero, List.set_cons_succ])
              refine wpAnyH_ready (rs := [11]) (by kernel_rfl) (by simp) (AllReadyH.cons (op_at rfl) (fun K hK => ?_) AllReadyH.nil)
              rw [if_pos (show Region.wanted _ _ = true from rfl)]
              refine step_plR 44 106 Tryz.underlying44 infoPlR _ _ rfl w.heap.size (.slice p3 L3.length c3) _ _ rfl oa ⟨xa, (x.n : Int) + 1⟩ V0.heap.size 1 rfl (cell_new V0 #[.string xa, .int .i64 ((x.n : Int) + 1)] 106 0 (by simp)) (cell_new V0 #[.string xa, .int .i64 ((x.n : Int) + 1)] 106 1 (by simp)) (by have := HLE.out; (try simp only [List.length_append, List.length_cons, List.length_nil] at *); omega) (show w.heap.size ≤ _ from Below.size gga) ?_
              intro u1 V3 hown1 hgrow1
              have bb : V3.heap[Bk]? = _ := own_far oa hgrow1 ba (by decide)
              have gg : Gr w V3 := Below.grown gga hgrow1 (show w.heap.size ≤ _ from Below.size gga) (fun q hq => (own_in oa hq).2)
              rw [← plCs_add] at hown1
              obtain ⟨p9, c9, hu1, _, _⟩ := own_shape hown1
              obtain ⟨m9, hm9⟩ : ∃ m9, (L3).length + 1 = m9 := ⟨_, rfl⟩
              have HOWA : Hid (V3.ownsRow w.heap.size 106 2 u1 (L3 ++ [(⟨xa, (x.n : Int) + 1⟩ : PlR)]).length (plCs (L3 ++ [(⟨xa, (x.n : Int) + 1⟩ : PlR)]))) := by rw [Hid, List.length_append]; exact hown1
              rw [hm9] at hu1
              subst hu1
              obtain ⟨d0, d1, d2⟩ := cells3_of bb
              have d3 := Gr.cell gg CX.out
              clear hown1 hgrow1 oa ba gga ga
              refine hK.out _ _ ⟨d0, d1, d2, d3⟩ (fun hHeld => ?_)
              clear hK K
              (try simp only [Act.put, List.setIfInBounds_toArray, List.set_cons_zero, List.set_cons_succ])
              refine wpAnyH_take (i := 12) (v := (.slice p9 m9 c9)) (op_at rfl) (by kernel_rfl) (by kernel_rfl) (by kernel_rfl) (fun _ _ _ h => h) (Or.inl ⟨rfl, fun w hSw => ?_⟩) (by assumption) ?_
              · (try dsimp only at hSw); go_simp; try with_reducible rfl
              (try simp only [Act.put, List.setIfInBounds_toArray, List.set_cons_zero, List.set_cons_succ])
              refine wpAnyH_done (by kernel_rfl) ?_ _
              clear hHeld
              go_wp2_with fail
              have gd := (Gr.refl V3).drew
              have od := own_kept HOWA.out gd
              have bd := Gr.block gd bb
              have ggd : Gr w V3.drew := gg.drew
              obtain ⟨d0, d1, d2⟩ := cells3_of bd
              have d3 := Gr.cell ggd CX.out
              refine wp_region_held_drew (S := (fun w' => w'.cell? ⟨Bk, 0, none⟩ = some (.string xa) ∧ w'.cell? ⟨Bk, 1, none⟩ = some (.string xb) ∧ w'.cell? ⟨Bk, 2, none⟩ = some (.int .i64 xw) ∧ w'.cell? ⟨b, off + i, none⟩ = some (.slice (some ⟨b3, o3, none⟩) x.n x.c))) (by kernel_rfl) ⟨d0, d1, d2, d3⟩ (fun hHeld => ?_)
              have BD := Lib.hid bd
              have OD := Lib.hid od
              have GD := Lib.hid ggd
              clear gd od bd ggd bb gg
              generalize V3.drew = V0 at *
              refine wpAnyH_take (i := 0) (v := (.slice p9 m9 c9)) (op_at rfl) (by kernel_rfl) (by kernel_rfl) (by kernel_rfl) (fun _ _ _ h => h) (Or.inl ⟨rfl, fun w hSw => ?_⟩) (by assumption) ?_
              · (try dsimp only at hSw); go_simp; try with_reducible rfl
              (try simp only [Act.put, List.setIfInBounds_toArray, List.set_cons_zero, List.set_cons_succ])
              refine wpAnyH_take (i := 1) (v := (.pointer (some ⟨Bk, 1, none⟩))) (op_at rfl) (by kernel_rfl) (by kernel_rfl) (by kernel_rfl) (fun _ _ _ h => h) (Or.inl ⟨rfl, fun w hSw => ?_⟩) (by assumption) ?_
              · (try dsimp only at hSw); go_simp; try with_reducible rfl
              (try simp only [Act.put, List.setIfInBounds_toArray, List.set_cons_zero, List.set_cons_succ])
              refine wpAnyH_take (i := 2) (v := (.string xb)) (op_at rfl) (by kernel_rfl) (by kernel_rfl) (by kernel_rfl) (fun _ _ _ h => h) (Or.inl ⟨rfl, fun w hSw => ?_⟩) (by assumption) ?_
              · (try dsimp only at hSw); go_simp; try with_reducible rfl
              (try simp only [Act.put, List.setIfInBounds_toArray, List.set_cons_zero, List.set_cons_succ])
              refine wpAnyH_take (i := 3) (v := (.slice (some ⟨b, off, none⟩) n cap)) (op_at rfl) (by kernel_rfl) (by kernel_rfl) (by kernel_rfl) (fun _ _ _ h => h) (Or.inl ⟨rfl, fun w hSw => ?_⟩) (by assumption) ?_
              · (try dsimp only at hSw); go_simp; try with_reducible rfl
              (try simp only [Act.put, List.setIfInBounds_toArray, List.set_cons_zero, List.set_cons_succ])
              refine wpAnyH_take (i := 4) (v := (.int .i64 (i : Int))) (op_at rfl) (by kernel_rfl) (by kernel_rfl) (by kernel_rfl) (fun _ _ _ h => h) (Or.inl ⟨rfl, fun w hSw => ?_⟩) (by assumption) ?_
              · (try dsimp only at hSw); go_simp; try with_reducible rfl
              (try simp only [Act.put, List.setIfInBounds_toArray, List.set_cons_zero, List.set_cons_succ])
              refine wpAnyH_take (i := 5) (v := (.pointer (some ⟨b, off + i, none⟩))) (op_at rfl) (by kernel_rfl) (by kernel_rfl) (by kernel_rfl) (fun _ _ _ h => h) (Or.inl ⟨rfl, fun w hSw => ?_⟩) (by assumption) ?_
              · (try dsimp only at hSw); go_simp; try with_reducible rfl
              (try simp only [Act.put, List.setIfInBounds_toArray, List.set_cons_zero, List.set_cons_succ])
              refine wpAnyH_take (i := 6) (v := (.slice (some ⟨b3, o3, none⟩) x.n x.c)) (op_at rfl) (by kernel_rfl) (by kernel_rfl) (by kernel_rfl) (fun _ _ _ h => h) (Or.inl ⟨rfl, fun w hSw => ?_⟩) (by assumption) ?_
              · (try dsimp only at hSw); go_simp; try with_reducible rfl
              (try simp only [Act.put, List.setIfInBounds_toArray, List.set_cons_zero, List.set_cons_succ])
              refine wpAnyH_take (i := 7) (v := (.int .i64 x.n)) (op_at rfl) (by kernel_rfl) (by kernel_rfl) (by kernel_rfl) (fun _ _ _ h => h) (Or.inl ⟨rfl, fun w hSw => ?_⟩) (by assumption) ?_
              · (try dsimp only at hSw); go_simp; try with_reducible rfl
              (try simp only [Act.put, List.setIfInBounds_toArray, List.set_cons_zero, List.set_cons_succ])
              refine wpAnyH_take (i := 8) (v := (.int .i64 ((x.n : Int) + 1))) (op_at rfl) (by kernel_rfl) (by kernel_rfl) (by kernel_rfl) (fun _ _ _ h => h) (Or.inl ⟨rfl, fun w hSw => ?_⟩) (by assumption) ?_
              · (try dsimp only at hSw); go_simp; try with_reducible rfl
              (try simp only [Act.put, List.setIfInBounds_toArray, List.set_cons_zero, List.set_cons_succ])
              refine wpAnyH_take (i := 9) (v := (.agg #[.string xb, .int .i64 ((x.n : Int) + 1)])) (op_at rfl) (by kernel_rfl) (by kernel_rfl) (by kernel_rfl) (fun _ _ _ h => h) (Or.inl ⟨rfl, fun w hSw => ?_⟩) (by assumption) ?_
              · (try dsimp only at hSw); go_simp; try with_reducible rfl
              (try simp only [Act.put, List.setIfInBounds_toArray, List.set_cons_zero, List.set_cons_succ])
              refine wpAnyH_ready (rs := [10]) (by kernel_rfl) (by simp) (AllReadyH.cons (op_at rfl) (fun K hK => ?_) AllReadyH.nil)
              go_simp
              have ga := (Gr.refl V0).alloc (.cells #[.string xb, .int .i64 ((x.n : Int) + 1)] 106)
              have oa := own_kept OD.out ga
              have ba := Gr.block ga BD.out
              have gga : Gr w (V0.alloc (.cells #[.string xb, .int .i64 ((x.n : Int) + 1)] 106)) := GD.out.trans ga
              replace d0 := Gr.cell ga d0
              replace d1 := Gr.cell ga d1
              replace d2 := Gr.cell ga d2
              replace d3 := Gr.cell ga d3
              refine hK.out _ _ ⟨d0, d1, d2, d3⟩ (fun hHeld => ?_)
              clear hK K
              (try simp only [Act.put, List.setIfInBounds_toArray, List.set_cons_zero, List.set_cons_succ])
              refine wpAnyH_ready (rs := [11]) (by kernel_rfl) (by simp) (AllReadyH.cons (op_at rfl) (fun K hK => ?_) AllReadyH.nil)
              rw [if_pos (show Region.wanted _ _ = true from rfl)]
              refine step_plR 44 106 Tryz.underlying44 infoPlR _ _ rfl w.heap.size (.slice p9 m9 c9) _ _ rfl oa ⟨xb, (x.n : Int) + 1⟩ V0.heap.size 1 rfl (cell_new V0 #[.string xb, .int .i64 ((x.n : Int) + 1)] 106 0 (by simp)) (cell_new V0 #[.string xb, .int .i64 ((x.n : Int) + 1)] 106 1 (by simp)) (by have := HLE.out; (try simp only [List.length_append, List.length_cons, List.length_nil] at *); omega) (show w.heap.size ≤ _ from Below.size gga) ?_
              intro u1 V5 hown1 hgrow1
              have bb : V5.heap[Bk]? = _ := own_far oa hgrow1 ba (by decide)
              have gg : Gr w V5 := Below.grown gga hgrow1 (show w.heap.size ≤ _ from Below.size gga) (fun q hq => (own_in oa hq).2)
              rw [← plCs_add] at hown1
              obtain ⟨p9, c9, hu1, _, _⟩ := own_shape hown1
              obtain ⟨m9, hm9⟩ : ∃ m9, ((L3 ++ [(⟨xa, (x.n : Int) + 1⟩ : PlR)])).length + 1 = m9 := ⟨_, rfl⟩
              have HOWB : Hid (V5.ownsRow w.heap.size 106 2 u1 ((L3 ++ [(⟨xa, (x.n : Int) + 1⟩ : PlR)]) ++ [(⟨xb, (x.n : Int) + 1⟩ : PlR)]).length (plCs ((L3 ++ [(⟨xa, (x.n : Int) + 1⟩ : PlR)]) ++ [(⟨xb, (x.n : Int) + 1⟩ : PlR)]))) := by rw [Hid, List.length_append]; exact hown1
              rw [hm9] at hu1
              subst hu1
              obtain ⟨d0, d1, d2⟩ := cells3_of bb
              have d3 := Gr.cell gg CX.out
              clear hown1 hgrow1 oa ba gga ga
              refine hK.out _ _ ⟨d0, d1, d2, d3⟩ (fun hHeld => ?_)
              clear hK K
              (try simp only [Act.put, List.setIfInBounds_toArray, List.set_cons_zero, List.set_cons_succ])
              refine wpAnyH_take (i := 12) (v := (.slice p9 m9 c9)) (op_at rfl) (by kernel_rfl) (by kernel_rfl) (by kernel_rfl) (fun _ _ _ h => h) (Or.inl ⟨rfl, fun w hSw => ?_⟩) (by assumption) ?_
              · (try dsimp only at hSw); go_simp; try with_reducible rfl
              (try simp only [Act.put, List.setIfInBounds_toArray, List.set_cons_zero, List.set_cons_succ])
              refine wpAnyH_done (by kernel_rfl) ?_ _
              clear hHeld
              go_wp2_with fail
              have HRP : Hid (rcP ((x.l.length : Int) + 1) ⟨xa, xb, xw⟩ = [⟨xa, (x.n : Int) + 1⟩, ⟨xb, (x.n : Int) + 1⟩]) := by
                rw [Hid, HMK.out]
                unfold rcP laneL
                rw [if_neg ha, if_neg hb]
                simp only [List.nil_append, List.append_nil, List.cons_append, List.flatMap_nil, List.flatMap_cons, plOf]
                rw [if_neg hwa]
                rw [if_neg hwb]
                try (first | done | rfl | simp [inR])
              have HLX : Hid (Lq ++ (x.l.take (k2 + 1)).flatMap (rcP ((x.l.length : Int) + 1)) = ((L3 ++ [(⟨xa, (x.n : Int) + 1⟩ : PlR)]) ++ [(⟨xb, (x.n : Int) + 1⟩ : PlR)])) := by
                rw [Hid, HTK.out, HRP.out, ← List.append_assoc, ← HLY.out]
                try (first | rfl | simp)
              go_roundg (gk - 1)
              case measure => omega
              case rel => exact ⟨k2 + 1, by go_num, by omega, by rw [HLX.out]; exact HOWB.out, gg⟩
          · obtain rfl : x.n = k2 := by omega
            have hlt2 : ¬ (x.n : Int) < (x.n : Int) := by omega
            rw [List.take_of_length_le (by have := HXL.out; omega), ← rndP_eq, ← HLL.out] at hown
            have HOW := Lib.hid hown
            clear hown
            go_wp2_with fail
            go_roundg i
            case measure => omega
            case rel => exact ⟨i, by go_num, rfl, by omega, HOW.out, gg⟩
end Go.Proofs.YthfmgficbnmmnaaGreatDoor
