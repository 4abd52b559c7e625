/- Archives (chapter 10): the program's Gaps. -/
import Derived.Scope
import Derived.WalkMore
import Derived.Test.YtbpgifihlppedaaGreatDoorOvY
namespace Go
section
variable {F : Fence} {P : Program} {n : Nat} {b : Frame} {a : Act} {k : List Item} {cs : List Frame} {w : World}
theorem stepR_scope1 {c : Code} : step P (lone (b.atR a (.code (.scope c) :: k)) cs w) = .next (lone (b.atR a (.code c :: .inScope c :: k)) cs w) :=
  step_lone_go (by simp [stepG, stepG.exec, Frame.atR])
theorem stepR_inScope1 {c : Code} : step P (lone (b.atR a (.inScope c :: k)) cs w) = .next (lone (b.atR a k) cs w) :=
  step_lone_go (by simp [stepG, stepG.exec, Frame.atR])
/-- a scope of labels that no goto is made to -/
theorem wpIn_scope_one {c : Code} {Q : Exit → Act → World → Prop} (h : c.wpIn F n P (Exit.noGoto Q) a w) : (Code.scope c).wpIn F n P Q a w := by
  intro b k cs hro hb hr
  have h0 : (lone (b.atR a (.code (.scope c) :: k)) cs w).fenced P F := fenced_calm hb hr rfl
  obtain ⟨e, a₁, w₁, hq, harr⟩ := h b (.inScope c :: k) cs hro hb hr
  cases e with
  | normal => exact ⟨.normal, a₁, w₁, hq, .head h0 stepR_scope1 (StepsIn.trans harr (.one (fenced_calm hb hr rfl) stepR_inScope1))⟩
  | exit id =>
    have hx : exitTo id (.inScope c :: k) = exitTo id k := by simp [exitTo]
    exact ⟨.exit id, a₁, w₁, hq, fun k' hk => .head h0 stepR_scope1 (harr.1 k' (by rw [hx]; exact hk)),
      fun hr' hk => let ⟨k₁, h1, h2⟩ := harr.2 hr' (by rw [hx]; exact hk); ⟨k₁, h1, .head h0 stepR_scope1 h2⟩⟩
  | goto l => exact hq.elim
  | ret => exact ⟨_, a₁, w₁, hq, .of_steps (.one h0 stepR_scope1) harr⟩
  | panic ch => exact ⟨_, a₁, w₁, hq, .of_steps (.one h0 stepR_scope1) harr⟩
  | outgrown => exact ⟨_, a₁, w₁, hq, .of_steps (.one h0 stepR_scope1) harr⟩
end
end Go
namespace Go.Proofs.YtbpgifihlppedaaGreatDoor
open Go.RowKit Go.Shelf
set_option linter.unusedSimpArgs false
set_option linter.unusedVariables false
attribute [local go_sem] Oper.semAt_some
theorem gapG_at {g : List EnR} {c : Nat} (h : cntN 0 g = c) (hl : c < g.length) : gapG g = [⟨deskOf g, (c : Int) + 1⟩] := by
  unfold gapG; rw [h, if_pos hl]
theorem gapG_no {g : List EnR} (h : cntN 0 g = g.length) : gapG g = [] := by
  unfold gapG; rw [h, if_neg (Nat.lt_irrefl _)]
theorem gapG_len (g : List EnR) : (gapG g).length ≤ 1 := by
  unfold gapG; split <;> simp
theorem gapF_len {α : Type} (f : α → List EnR) : ∀ pre : List α, (pre.flatMap fun y => gapG (f y)).length ≤ pre.length
  | [] => by simp
  | x :: t => by
    have h1 := gapF_len f t
    have h2 := gapG_len (f x)
    simp only [List.flatMap_cons, List.length_append, List.length_cons]
    omega
set_option maxHeartbeats 4000000 in
set_option maxRecDepth 100000 in
theorem gaps_err {w : World} {q : Option Addr} {l : List EnR} {n cap : Nat} (hn : n = l.length) (h1 : n ≤ 1000) (hr : EnS w q l) (hf : Few l) (he : archE l ≠ 0) :
    Calls Tryz.prog 33 #[.agg #[.slice q n cap]] w fun e w' => e = .returned (.tuple #[.slice none 0 0, .int .i64 (archE l)]) ∧ Gr w w' := by
  have HCA := Lib.hid (fun V (g : Gr w V) => checkArch_c (cap := cap) hn h1 (hr.gr g) hf)
  have hz : (archE l != 0) = true := bne_iff_ne.2 he
  generalize archE l = z at *
  obtain ⟨W1, hW1, g1, a0⟩ := box1 w (.slice q n cap) 24
  have HW := Lib.hid hW1
  clear hW1 hr hf hn he
  go_enter Tryz.func33, Tryz.ntmps33
  go_wp2_with fail
  rw [HW.out]
  clear HW
  go_step3
  go_wp2_with fail
  refine (HCA.out _ g1).mono ?_
  rintro e W2 ⟨rfl, hg2⟩
  go_wp2_with fail
  simp only [Exit.noGoto_ret, go_sem]
  exact bodyPost_ret (v := .tuple #[.slice none 0 0, .int .i64 z]) (by simp [results, Tryz.results33, go_sem]) rfl ⟨rfl, g1.trans hg2⟩
set_option maxHeartbeats 4000000 in
set_option maxRecDepth 100000 in
theorem gaps_ok {w : World} {q : Option Addr} {l : List EnR} {n cap : Nat} (hn : n = l.length) (h1 : n ≤ 1000) (hcap : n ≤ cap) (hmx : cap ≤ maxLen) (hr : EnS w q l) (hf : Few l) (he : archE l = 0) :
    Calls Tryz.prog 33 #[.agg #[.slice q n cap]] w fun e w' => RetMt e w' (gapsP l) ∧ Gr w w' := by
  have HCA0 := Lib.hid (fun V (g : Gr w V) => checkArch_c (cap := cap) hn h1 (hr.gr g) hf)
  rw [he] at HCA0
  have HCA := HCA0
  have HN := Lib.hid hn
  obtain ⟨b, off, hq, hbw, hrow⟩ : ∃ b off, (0 < n → q = some ⟨b, off, none⟩) ∧ (0 < n → b < w.heap.size) ∧ ∀ i e, l[i]? = some e → En7 w b (off + i * 7) e := by
    by_cases h0 : 0 < n
    · obtain ⟨b, off, e, hc⟩ := hr.out (by omega)
      obtain ⟨x, hx⟩ : ∃ x, l[0]? = some x := ⟨l[0]'(by omega), List.getElem?_eq_getElem _⟩
      exact ⟨b, off, fun _ => e, fun _ => World.block_lt_of_cell? w ⟨b, off + 0 * 7, none⟩ (hc 0 x hx).c0, fun i e he => en7_of (hc i e he)⟩
    · exact ⟨0, 0, fun h => absurd h h0, fun h => absurd h h0, fun i e he => by have := (List.getElem?_eq_some_iff.1 he).1; omega⟩
  have HROW := Lib.hid hrow
  have HQ := Lib.hid hq
  obtain ⟨W1, hW1, g1, a0⟩ := box1 w (.slice q n cap) 24
  have HW := Lib.hid hW1
  have hs1 : W1.heap.size = w.heap.size + 1 := by rw [← hW1]; simp
  clear hW1 hr hf hn he HCA0 hrow hq
  refine (callsIn_wide (n := 6)).1 ?_
  refine callsIn_of_wp_marks Tryz.func33 rfl trivial ?_ rfl
  simp only [Tryz.ntmps33, List.size_toArray, List.length_cons, List.length_nil, Nat.reduceAdd, Nat.reduceSub, Array.replicate_succ, Array.replicate_zero, List.push_toArray, List.append_toArray, List.nil_append, List.cons_append]
  gi_wp2_with fail
  rw [HW.out]
  clear HW
  refine wpIn_scope_one ?_
  gi_wp2_with fail
  refine ⟨trivial, ?_⟩
  gi_at_call 11
  refine (callsIn_wide.2 (HCA.out _ g1)).mono ?_
  rintro e W2 ⟨rfl, hg2⟩
  replace a0 := hg2.cell a0
  have G2 := Lib.hid (g1.trans hg2)
  have hsz2 := hg2.size
  clear hg2 HCA
  obtain ⟨W3, hW3, g3, x0⟩ := box1 W2 (.slice none 0 0) 55
  have xb : W3.heap[W2.heap.size]? = some (.cells #[.slice none 0 0] 55 (0, 0)) := by rw [← hW3]; exact heap_alloc_new W2 _
  have hs3 : W3.heap.size = W2.heap.size + 1 := by rw [← hW3]; simp
  have HW3 := Lib.hid hW3
  have a03 := g3.cell a0
  gi_wp2_with fail
  refine wpIn_label ?_
  gi_wp2_with fail
  refine ⟨trivial, ?_⟩
  gi_at_call 78
  refine (callsIn_wide.2 (desks_c q n cap W3)).mono ?_
  rintro e W6 ⟨rfl, hW6⟩
  obtain ⟨W7, hW7, g7, bk0⟩ := box1 W3 (.slice q n cap) 24
  obtain rfl : W7 = W6 := hW7.symm.trans hW6.symm
  have hBl : W7.heap[W3.heap.size]? = some (.cells #[.slice q n cap] 24 (0, 0)) := by rw [← hW7]; exact heap_alloc_new W3 _
  have G7 := Lib.hid (G2.out.trans (g3.trans g7))
  have HBK : Hid (DkF W3.heap.size q b off n cap l W7) := ⟨hBl, fun i e he => (HROW.out i e he).gr G7.out⟩
  obtain ⟨X, hX⟩ : ∃ X, W2.heap.size = X := ⟨_, rfl⟩
  obtain ⟨base, hbase⟩ : ∃ base, X + 1 = base := ⟨_, rfl⟩
  rw [hX] at xb hs3 hsz2 ⊢
  have HXB : Hid (X + 1 = base ∧ w.heap.size < X ∧ w.heap.size < base) := ⟨hbase, by omega, by omega⟩
  have HP7 : Hid (MkI base X [] W7) := ⟨_, Gr.block g7 xb, World.ownsRow_nil _ _ _ _⟩
  have HS7 : Hid (base ≤ W7.heap.size) := by have := Below.size g7; rw [Hid]; omega
  have HBl7 : Hid (base ≤ W3.heap.size) := by rw [Hid]; omega
  clear hW6 hW7 hBl g7 bk0 g3 xb x0 a0 a03 HW3 hW3 hs1 g1
  gi_wp2_with fail
  have hxx := HXB.out
  have hWB : W3.heap.size = base := by omega
  rw [hWB] at HBK
  refine wpIn_rangeFunc_ownH rfl (by decide) (gf := 123) (lb := #[.pointer (some ⟨base, 0, none⟩)]) rfl trivial (enters_of Tryz.func123 (by kernel_rfl) rfl)
    (desks_stops base n b off cap q HQ.out l HN.out.symm h1 hcap hmx (KpM base X) (fun A B hk hb => ⟨hk base _ _ _ hb.box (fun _ h => by cases h) (.inr (by decide)), fun i x hx => (hb.row i x hx).kpM hk (by have := hbw (by have := (List.getElem?_eq_some_iff.1 hx).1; have := HN.out; omega); omega) (by have := hbw (by have := (List.getElem?_eq_some_iff.1 hx).1; have := HN.out; omega); omega)⟩) W7 HBK.out)
    kpM_t (fun W l o o' _ h1 h2 _ => kpM_putObj W l o o' h1 h2) (Below.refl _ _) (fun _ => rfl)
    (fun pre W => MkI base X (pre.flatMap fun (y : Grp l) => gapG y.1.1) W ∧ Below w.heap.size w W ∧ base ≤ W.heap.size ∧ DkF base q b off n cap l W)
    (fun _ _ _ => False)
    (OwnFrom.and (Own.from (MkI.own _) _) (OwnFrom.and (ownFrom_below (Nat.le_refl _) (Below.size G7.out)) (OwnFrom.and (fun s A B row hs hg _ => Nat.le_trans hs hg.size) (Own.from DkF.own _))))
    (fun _ _ _ _ _ hs _ _ => hs)
    ⟨by simpa using HP7.out, G7.out, HS7.out, HBK.out⟩
    (fun (y : Grp l) a' W => ∃ (u0 u1 u2 u3 u4 u8 u9 u10 u11 u12 u13 u14 u15 u16 u17 u18 u19 u20 u21 u22 u23 u24 u25 u26 u27 u28 u29 u30 u31 u32 u33 u34 u35 u36 u37 u38 u39 : Value), a' = ({ tmps := #[u0, u1, u2, u3, u4, .pointer (some ⟨X, 0, none⟩), .string (deskOf y.1.1), .slice (some ⟨b, off + y.1.2 * 7, none⟩) y.1.1.length (cap - y.1.2), u8, u9, u10, u11, u12, u13, u14, u15, u16, u17, u18, u19, u20, u21, u22, u23, u24, u25, u26, u27, u28, u29, u30, u31, u32, u33, u34, u35, u36, u37, u38, u39], defers := [] } : Act))
    (fun y a' => fun _ A B row hs hg hr => hs)
    ?assign ?body ?done ?stop
  case assign =>
    rintro lp pre y W K ⟨hI, hB, hZ, hD⟩ hK
    have HKK := Lib.hid (fun a' hh => hK a' W (KeepsFrom.refl _ _) (kpM_gr (Gr.refl _)) ⟨hI, hB, hZ, hD⟩ hh)
    clear hK hI hB hD
    gi_wp2
    exact HKK.out _ ⟨_, _, _, _, _, _, _, _, _, _, _, _, _, _, _, _, _, _, _, _, _, _, _, _, _, _, _, _, _, _, _, _, _, _, _, _, _, rfl⟩
  case body =>
    rintro lp pre ⟨⟨g, s⟩, hgk⟩ a' W hlw ⟨r8, hlr⟩ ⟨hI, hB, hZ, hD⟩ ⟨u0, u1, u2, u3, u4, u8, u9, u10, u11, u12, u13, u14, u15, u16, u17, u18, u19, u20, u21, u22, u23, u24, u25, u26, u27, u28, u29, u30, u31, u32, u33, u34, u35, u36, u37, u38, u39, rfl⟩ hpre
    simp only
    obtain ⟨i0, hi, hz0, hz1, hz2⟩ := info_parts infoMkP
    have HI0 := Lib.hid (And.intro hi (And.intro hz0 (And.intro hz1 hz2)))
    obtain ⟨k, hk⟩ : ∃ k, k = g.length := ⟨_, rfl⟩
    have HK := Lib.hid hk
    obtain ⟨dk, hdk⟩ : ∃ d, d = deskOf g := ⟨_, rfl⟩
    have HDK := Lib.hid hdk
    rw [← hk, ← hdk]
    have hkn : s + k ≤ n := by have := hgk.le; have := HN.out; simp only at *; omega
    have HGE : Hid (∀ c, c < k → ∃ e, g[c]? = some e ∧ En7 W b (off + s * 7 + c * 7) e) := fun c hc => by
      obtain ⟨e, he⟩ : ∃ e, g[c]? = some e := ⟨g[c]'(by omega), List.getElem?_eq_getElem _⟩
      refine ⟨e, he, ?_⟩
      have := hD.row (s + c) e (hgk.at_ c e he)
      rw [show off + (s + c) * 7 = off + s * 7 + c * 7 by omega] at this
      exact this
    have HII := Lib.hid hI
    have HBB := Lib.hid hB
    have HDD := Lib.hid hD
    have HPL : Hid (pre.length < n) := hpre
    obtain ⟨cc, hcc⟩ : ∃ c, c = cap - s := ⟨_, rfl⟩
    rw [← hcc]
    clear hk hdk hI hB hD hcc hi hz0 hz1 hz2 hpre
    gi_wp2
    gi_loopw [21] (fun dv wr => ∃ c : Nat, dv = .int .i64 (c : Int) ∧ c ≤ k ∧ Hid (cntN 0 g = cntN c (g.drop c)) ∧ Hid (Gr W wr)) (fun dv _ => k + 1 - (intOf dv).toNat)
    case atStart => exact ⟨0, rfl, Nat.zero_le _, rfl, Gr.refl _⟩
    case round =>
      obtain ⟨c, rfl, hck, HC, HGW⟩ := hrel
      by_cases hlt : c < k
      · have hlt2 : (c : Int) < (k : Int) := by omega
        obtain ⟨e, he, ce⟩ := HGE.out c hlt
        replace ce := ce.gr HGW.out
        have hstep := cntN_step he
        have hw1 : IntKind.i64.wrap ((c : Int) + 1) = (c : Int) + 1 := by rw [IntKind.wrap_i64]; omega
        obtain ⟨e0, e1, e2, e3, e4, e5, e6⟩ := ce
        have gE := (Gr.refl wr).alloc (.cells #[.string e.de, .int .i64 e.nu, .int .i64 e.ck, .string e.ro, .int .i64 e.va, .string e.st, .slice e.p e.n e.cap] 82)
        have HGE2 := Lib.hid (HGW.out.trans gE)
        clear gE
        by_cases hq : e.nu = (c : Int) + 1
        · have hq2 : (e.nu != (c : Int) + 1) = false := bne_eq_false_iff_eq.2 hq
          rw [if_pos hq] at hstep
          have HC2 : Hid (cntN 0 g = cntN (c + 1) (g.drop (c + 1))) := by rw [Hid, HC.out, hstep]
          clear hstep he hq
          gi_wp2
          refine ⟨⟨c + 1, by go_num, by omega, HC2, HGE2⟩, ?_⟩
          simp [intOf]
          omega
        · have hq2 : (e.nu != (c : Int) + 1) = true := bne_iff_ne.2 hq
          rw [if_neg hq] at hstep
          have HCE : Hid (gapG g = [⟨dk, (c : Int) + 1⟩]) := by rw [Hid, HDK.out]; exact gapG_at (by rw [HC.out, hstep]) (by have := HK.out; omega)
          clear hstep he
          have hszE := Below.size HGE2.out
          obtain ⟨v2, xb2, hown2⟩ := (HII.out.gr HGE2.out).out
          have x2 := cell1_of xb2
          obtain ⟨L2, hL2⟩ : ∃ L2, L2 = pre.flatMap fun (y : Grp l) => gapG y.1.1 := ⟨_, rfl⟩
          have HL2 := Lib.hid hL2
          rw [← hL2] at hown2
          have hln : L2.length < n := by have := gapF_len (fun (y : Grp l) => y.1.1) pre; have := HPL.out; rw [hL2]; omega
          clear hL2
          obtain ⟨p2, c2, rfl, _, _⟩ := own_shape hown2
          have gA := (Gr.refl (wr.alloc (.cells #[.string e.de, .int .i64 e.nu, .int .i64 e.ck, .string e.ro, .int .i64 e.va, .string e.st, .slice e.p e.n e.cap] 82))).alloc (.cells #[.string dk, .int .i64 ((c : Int) + 1)] 96)
          have hownA := own_kept hown2 gA
          have hxA := Gr.block gA xb2
          have hszA : base ≤ ((wr.alloc (.cells #[.string e.de, .int .i64 e.nu, .int .i64 e.ck, .string e.ro, .int .i64 e.va, .string e.st, .slice e.p e.n e.cap] 82)).alloc (.cells #[.string dk, .int .i64 ((c : Int) + 1)] 96)).heap.size := Nat.le_trans (Nat.le_trans hZ hszE) (Below.size gA)
          have hbA : Below w.heap.size w ((wr.alloc (.cells #[.string e.de, .int .i64 e.nu, .int .i64 e.ck, .string e.ro, .int .i64 e.va, .string e.st, .slice e.p e.n e.cap] 82)).alloc (.cells #[.string dk, .int .i64 ((c : Int) + 1)] 96)) := HBB.out.trans (Below.mono (HGE2.out.trans gA) (show w.heap.size ≤ _ from Below.size HBB.out))
          obtain ⟨hi, hz0, hz1, hz2⟩ := HI0.out
          have HC2M := cell_twoM (wr.alloc (.cells #[.string e.de, .int .i64 e.nu, .int .i64 e.ck, .string e.ro, .int .i64 e.va, .string e.st, .slice e.p e.n e.cap] 82)) (.string dk) (.int .i64 ((c : Int) + 1)) 96
          rw [World.size_alloc] at HC2M
          gi_wp2_with (gi_at_builtin; refine wpListIn_append_own _ rfl _ _ 55 rfl base 96 i0 (.agg #[.string ⟨#[]⟩, .int .i64 0]) 2 24 Tryz.underlying55 hi hz0 hz1 hz2 rfl (by decide) _ _ _ rfl hownA ⟨wr.heap.size + 1, 0, none⟩ 1 1 [.string dk, .int .i64 ((c : Int) + 1)] rfl rfl HC2M (one_twoM _ _) (by unfold maxLen; omega) (by omega) hszA ?_; intro v1 w1 hown1 hgrow1 _; obtain ⟨⟨x5, xf5⟩, hpi5, hkp5, hko5⟩ := MkI.store (r := ⟨dk, (c : Int) + 1⟩) (L := L2) (by have := HXB.out; omega) hxA hownA hgrow1 hown1; have HGW9 : Hid (World.grownBy _ w1 _) := hgrow1; obtain ⟨p9, c9, rfl, _, _⟩ := own_shape hown1)
          have hbl5 := MkI.below (base := base) (X := X) (v1 := .slice p9 (L2.length + 1) c9) (n₀ := w.heap.size) (by omega) (by omega) hbA (show w.heap.size ≤ _ from Below.size hbA) hownA HGW9.out
          have hsz5 : base ≤ (w1.setCell ⟨X, 0, none⟩ (.slice p9 (L2.length + 1) c9)).heap.size := by rw [World.size_setCell]; exact Nat.le_trans hszA HGW9.out.size
          have hkpA : KpM base X W (w1.setCell ⟨X, 0, none⟩ (.slice p9 (L2.length + 1) c9)) := kpM_t (kpM_gr (HGE2.out.trans gA)) hkp5
          have hdf : DkF base q b off n cap l (w1.setCell ⟨X, 0, none⟩ (.slice p9 (L2.length + 1) c9)) := ⟨hkpA base _ _ _ HDD.out.box (fun _ h => by cases h) (.inr (by decide)), fun i x hx => (HDD.out.row i x hx).kpM hkpA (by have := hbw (by omega); omega) (by have := hbw (by omega); omega)⟩
          refine ⟨((gr_others (HGE2.out.trans gA)).trans hko5).from _, hkpA, ?_, hbl5, hsz5, hdf⟩
          have hfin : (pre ++ [(⟨(g, s), hgk⟩ : Grp l)]).flatMap (fun (y : Grp l) => gapG y.1.1) = L2 ++ [⟨dk, (c : Int) + 1⟩] := by
            rw [List.flatMap_append, ← HL2.out, List.flatMap_singleton]
            simp only
            rw [HCE.out]
          rw [hfin]
          exact hpi5
      · have hlt2 : ¬ (c : Int) < (k : Int) := by omega
        have HCE : Hid (gapG g = []) := gapG_no (by have := HK.out; rw [HC.out, cntN_end (by omega)]; omega)
        have HCE2 : Hid ((pre ++ [(⟨(g, s), hgk⟩ : Grp l)]).flatMap (fun (y : Grp l) => gapG y.1.1) = pre.flatMap fun (y : Grp l) => gapG y.1.1) := by
          rw [Hid, List.flatMap_append, List.flatMap_singleton]
          simp only
          rw [HCE.out, List.append_nil]
        gi_wp2
        refine ⟨(gr_others HGW.out).from _, kpM_gr HGW.out, ?_, HBB.out.trans (Below.mono HGW.out (show w.heap.size ≤ _ from Below.size HBB.out)), Nat.le_trans hZ (Below.size HGW.out), HDD.out.gr HGW.out⟩
        rw [HCE2.out]
        exact HII.out.gr HGW.out
  case done =>
    rintro D ys W hD hys ⟨hI, hB, hZ, _⟩ hKD
    have hL : ys.flatMap (fun (y : Grp l) => gapG y.1.1) = gapsP l := by
      have := hys.out
      unfold gapsP
      rw [← this, List.flatMap_map]
    rw [hL] at hI
    obtain ⟨v9, xb9, hown9⟩ := hI.out
    obtain ⟨p9, c9, rfl, hc1, hc2⟩ := own_shape hown9
    have x9 := cell1_of xb9
    have HOW9 := Lib.hid hown9
    have hG9 : Hid (Gr w (W.putObj D (.deferred none))) := hB.trans (belowK_b (w := w) (Nat.le_refl _) W D _ _ (Nat.le_trans (Below.size G7.out) hD) hKD rfl rfl)
    clear hI hB hL hys xb9 hown9
    gi_wp2
    refine ⟨by simp, .inl ⟨_, _, rfl, run_takeDeferred hKD, ?_⟩⟩
    refine ⟨_, by simp [results, Tryz.results33, go_sem], ⟨⟨p9, c9, rfl, ⟨hc1, hc2⟩, ?_⟩, hG9.out⟩⟩
    exact MkS.of_own (own_turn HOW9.out (grownBy_putObj' W D _) (fun r e => by cases e; exact ⟨_, hKD, rfl⟩)) rfl
  case stop =>
    rintro D c pre W _ _ h _
    exact h.elim
end Go.Proofs.YtbpgifihlppedaaGreatDoor
