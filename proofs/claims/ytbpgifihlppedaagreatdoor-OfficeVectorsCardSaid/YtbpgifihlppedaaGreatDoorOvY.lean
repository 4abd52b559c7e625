/- Archives (chapter 10): the program's Vector. -/
import Derived.Test.YtbpgifihlppedaaGreatDoorOvX
namespace Go.Proofs.YtbpgifihlppedaaGreatDoor
open Go.RowKit Go.Shelf
set_option linter.unusedSimpArgs false
set_option linter.unusedVariables false
attribute [local go_sem] Oper.semAt_some
theorem cntN_step {g : List EnR} {c : Nat} {e : EnR} (h : g[c]? = some e) : cntN c (g.drop c) = if e.nu = (c : Int) + 1 then cntN (c + 1) (g.drop (c + 1)) else c := by
  obtain ⟨h1, h2⟩ := List.getElem?_eq_some_iff.1 h
  rw [List.drop_eq_getElem_cons h1, h2]
  rfl
theorem cntN_end {g : List EnR} {c : Nat} (h : g.length ≤ c) : cntN c (g.drop c) = c := by
  rw [List.drop_of_length_le h]; rfl
/-- marks that are returned, without an error -/
structure RetMt (e : Ending) (w' : World) (l : List MkR) : Prop where
  mk' ::
  out : ∃ q c, e = .returned (.tuple #[.slice q l.length c, .int .i64 0]) ∧ (l.length ≤ c ∧ c ≤ maxLen) ∧ MkS w' q l
theorem en7_of {w : World} {b off : Nat} {e : EnR} (h : EnAt w b off e) : En7 w b off e := ⟨h.c0, h.c1, h.c2, h.c3, h.c4, h.c5, h.c6⟩
theorem groups_len : ∀ (f : Nat) (l : List EnR), (grps f l).length ≤ l.length
  | 0, l => by simp [grps]
  | f + 1, [] => by simp [grps]
  | f + 1, x :: t => by
    have h1 := groups_len f (t.dropWhile (sameD x))
    have hdl : (t.dropWhile (sameD x)).length ≤ t.length := (List.dropWhile_sublist _).length_le
    rw [grps_step]; simp only [List.length_cons]; omega
set_option maxHeartbeats 4000000 in
set_option maxRecDepth 100000 in
theorem vector_err {w : World} {q : Option Addr} {l : List EnR} {n cap : Nat} (hn : n = l.length) (h1 : n ≤ 1000) (hr : EnS w q l) (hf : Few l) (he : archE l ≠ 0) :
    Calls Tryz.prog 32 #[.agg #[.slice q n cap]] w fun e w' => e = .returned (.tuple #[.slice none 0 0, .int .i64 (archE l)]) ∧ Gr w w' := by
  have HCA := Lib.hid (fun V (g : Gr w V) => checkArch_c (cap := cap) hn h1 (hr.gr g) hf)
  have hz : (archE l != 0) = true := bne_iff_ne.2 he
  generalize archE l = z at *
  obtain ⟨W1, hW1, g1, a0⟩ := box1 w (.slice q n cap) 24
  have HW := Lib.hid hW1
  clear hW1 hr hf hn he
  go_enter Tryz.func32, Tryz.ntmps32
  go_wp2_with fail
  rw [HW.out]
  clear HW
  go_wp2_with fail
  refine (HCA.out _ g1).mono ?_
  rintro e W2 ⟨rfl, hg2⟩
  go_wp2_with fail
  exact bodyPost_ret (v := .tuple #[.slice none 0 0, .int .i64 z]) (by simp [results, Tryz.results32, go_sem]) rfl ⟨rfl, g1.trans hg2⟩
set_option maxHeartbeats 4000000 in
set_option maxRecDepth 100000 in
theorem vector_ok {w : World} {q : Option Addr} {l : List EnR} {n cap : Nat} (hn : n = l.length) (h1 : n ≤ 1000) (hcap : n ≤ cap) (hmx : cap ≤ maxLen) (hr : EnS w q l) (hf : Few l) (he : archE l = 0) :
    Calls Tryz.prog 32 #[.agg #[.slice q n cap]] w fun e w' => RetMt e w' (vecP l) ∧ Gr w w' := by
  have HCA0 := Lib.hid (fun V (g : Gr w V) => checkArch_c (cap := cap) hn h1 (hr.gr g) hf)
  rw [he] at HCA0
  have HCA := HCA0
  have HN := Lib.hid hn
  obtain ⟨b, off, hq, hbw, hrow⟩ : ∃ b off, (0 < n → q = some ⟨b, off, none⟩) ∧ (0 < n → b < w.heap.size) ∧ ∀ i e, l[i]? = some e → En7 w b (off + i * 7) e := by
    by_cases h0 : 0 < n
    · obtain ⟨b, off, e, hc⟩ := hr.out (by omega)
      obtain ⟨x, hx⟩ : ∃ x, l[0]? = some x := ⟨l[0]'(by omega), List.getElem?_eq_getElem _⟩
      exact ⟨b, off, fun _ => e, fun _ => World.block_lt_of_cell? w ⟨b, off + 0 * 7, none⟩ (hc 0 x hx).c0, fun i e he => en7_of (hc i e he)⟩
    · exact ⟨0, 0, fun h => absurd h h0, fun h => absurd h h0, fun i e he => by have := (List.getElem?_eq_some_iff.1 he).1; omega⟩
  have HROW := Lib.hid hrow
  have HQ := Lib.hid hq
  obtain ⟨W1, hW1, g1, a0⟩ := box1 w (.slice q n cap) 24
  have HW := Lib.hid hW1
  have hs1 : W1.heap.size = w.heap.size + 1 := by rw [← hW1]; simp
  clear hW1 hr hf hn he HCA0 hrow hq
  refine (callsIn_wide (n := 6)).1 ?_
  refine callsIn_of_wp_marks Tryz.func32 rfl trivial ?_ rfl
  simp only [Tryz.ntmps32, List.size_toArray, List.length_cons, List.length_nil, Nat.reduceAdd, Nat.reduceSub, Array.replicate_succ, Array.replicate_zero, List.push_toArray, List.append_toArray, List.nil_append, List.cons_append]
  gi_wp2_with fail
  rw [HW.out]
  clear HW
  gi_wp2_with fail
  refine ⟨trivial, ?_⟩
  gi_at_call 11
  refine (callsIn_wide.2 (HCA.out _ g1)).mono ?_
  rintro e W2 ⟨rfl, hg2⟩
  replace a0 := hg2.cell a0
  have G2 := Lib.hid (g1.trans hg2)
  have hsz2 := hg2.size
  clear hg2 HCA
  obtain ⟨W3, hW3, g3, x0⟩ := box1 W2 (.slice none 0 0) 55
  have xb : W3.heap[W2.heap.size]? = some (.cells #[.slice none 0 0] 55 (0, 0)) := by rw [← hW3]; exact heap_alloc_new W2 _
  have hs3 : W3.heap.size = W2.heap.size + 1 := by rw [← hW3]; simp
  have HW3 := Lib.hid hW3
  have a03 := g3.cell a0
  gi_wp2_with fail
  refine ⟨trivial, ?_⟩
  gi_at_call 78
  refine (callsIn_wide.2 (desks_c q n cap W3)).mono ?_
  rintro e W6 ⟨rfl, hW6⟩
  obtain ⟨W7, hW7, g7, bk0⟩ := box1 W3 (.slice q n cap) 24
  obtain rfl : W7 = W6 := hW7.symm.trans hW6.symm
  have hBl : W7.heap[W3.heap.size]? = some (.cells #[.slice q n cap] 24 (0, 0)) := by rw [← hW7]; exact heap_alloc_new W3 _
  have G7 := Lib.hid (G2.out.trans (g3.trans g7))
  have HBK : Hid (DkF W3.heap.size q b off n cap l W7) := ⟨hBl, fun i e he => (HROW.out i e he).gr G7.out⟩
  obtain ⟨X, hX⟩ : ∃ X, W2.heap.size = X := ⟨_, rfl⟩
  obtain ⟨base, hbase⟩ : ∃ base, X + 1 = base := ⟨_, rfl⟩
  rw [hX] at xb hs3 hsz2 ⊢
  have HXB : Hid (X + 1 = base ∧ w.heap.size < X ∧ w.heap.size < base) := ⟨hbase, by omega, by omega⟩
  have HP7 : Hid (MkI base X [] W7) := ⟨_, Gr.block g7 xb, World.ownsRow_nil _ _ _ _⟩
  have HS7 : Hid (base ≤ W7.heap.size) := by have := Below.size g7; rw [Hid]; omega
  have HBl7 : Hid (base ≤ W3.heap.size) := by rw [Hid]; omega
  clear hW6 hW7 hBl g7 bk0 g3 xb x0 a0 a03 HW3 hW3 hs1 g1
  gi_wp2_with fail
  have hxx := HXB.out
  have hWB : W3.heap.size = base := by omega
  rw [hWB] at HBK
  refine wpIn_rangeFunc_ownH rfl (by decide) (gf := 123) (lb := #[.pointer (some ⟨base, 0, none⟩)]) rfl trivial (enters_of Tryz.func123 (by kernel_rfl) rfl)
    (desks_stops base n b off cap q HQ.out l HN.out.symm h1 hcap hmx (KpM base X) (fun A B hk hb => ⟨hk base _ _ _ hb.box (fun _ h => by cases h) (.inr (by decide)), fun i x hx => (hb.row i x hx).kpM hk (by have := hbw (by have := (List.getElem?_eq_some_iff.1 hx).1; have := HN.out; omega); omega) (by have := hbw (by have := (List.getElem?_eq_some_iff.1 hx).1; have := HN.out; omega); omega)⟩) W7 HBK.out)
    kpM_t (fun W l o o' _ h1 h2 _ => kpM_putObj W l o o' h1 h2) (Below.refl _ _) (fun _ => rfl)
    (fun pre W => MkI base X (pre.map (fun (y : Grp l) => vecG y.1.1)) W ∧ Below w.heap.size w W ∧ base ≤ W.heap.size ∧ DkF base q b off n cap l W)
    (fun _ _ _ => False)
    (OwnFrom.and (Own.from (MkI.own _) _) (OwnFrom.and (ownFrom_below (Nat.le_refl _) (Below.size G7.out)) (OwnFrom.and (fun s A B row hs hg _ => Nat.le_trans hs hg.size) (Own.from DkF.own _))))
    (fun _ _ _ _ _ hs _ _ => hs)
    ⟨by simpa using HP7.out, G7.out, HS7.out, HBK.out⟩
    (fun (y : Grp l) a' W => ∃ (u0 u1 u2 u3 u4 u8 u9 u10 u11 u12 u13 u14 u15 u16 u17 u18 u19 u20 u21 u22 u23 u24 u25 u26 u27 u28 u29 u30 u31 u32 u33 u34 u35 u36 u37 u38 u39 u40 : Value), a' = ({ tmps := #[u0, u1, u2, u3, u4, .pointer (some ⟨X, 0, none⟩), .string (deskOf y.1.1), .slice (some ⟨b, off + y.1.2 * 7, none⟩) y.1.1.length (cap - y.1.2), u8, u9, u10, u11, u12, u13, u14, u15, u16, u17, u18, u19, u20, u21, u22, u23, u24, u25, u26, u27, u28, u29, u30, u31, u32, u33, u34, u35, u36, u37, u38, u39, u40], defers := [] } : Act))
    (fun y a' => fun _ A B row hs hg hr => hs)
    ?assign ?body ?done ?stop
  case assign =>
    rintro lp pre y W K ⟨hI, hB, hZ, hD⟩ hK
    have HKK := Lib.hid (fun a' hh => hK a' W (KeepsFrom.refl _ _) (kpM_gr (Gr.refl _)) ⟨hI, hB, hZ, hD⟩ hh)
    clear hK hI hB hD
    gi_wp2
    exact HKK.out _ ⟨_, _, _, _, _, _, _, _, _, _, _, _, _, _, _, _, _, _, _, _, _, _, _, _, _, _, _, _, _, _, _, _, _, _, _, _, _, _, rfl⟩
  case body =>
    rintro lp pre ⟨⟨g, s⟩, hgk⟩ a' W hlw ⟨r8, hlr⟩ ⟨hI, hB, hZ, hD⟩ ⟨u0, u1, u2, u3, u4, u8, u9, u10, u11, u12, u13, u14, u15, u16, u17, u18, u19, u20, u21, u22, u23, u24, u25, u26, u27, u28, u29, u30, u31, u32, u33, u34, u35, u36, u37, u38, u39, u40, rfl⟩ hpre
    simp only
    obtain ⟨i0, hi, hz0, hz1, hz2⟩ := info_parts infoMkP
    have HI0 := Lib.hid (And.intro hi (And.intro hz0 (And.intro hz1 hz2)))
    obtain ⟨k, hk⟩ : ∃ k, k = g.length := ⟨_, rfl⟩
    have HK := Lib.hid hk
    obtain ⟨dk, hdk⟩ : ∃ d, d = deskOf g := ⟨_, rfl⟩
    have HDK := Lib.hid hdk
    rw [← hk, ← hdk]
    have hkn : s + k ≤ n := by have := hgk.le; have := HN.out; simp only at *; omega
    have HGE : Hid (∀ c, c < k → ∃ e, g[c]? = some e ∧ W.cell? ⟨b, off + s * 7 + c * 7 + 1, none⟩ = some (.int .i64 e.nu)) := fun c hc => by
      obtain ⟨e, he⟩ : ∃ e, g[c]? = some e := ⟨g[c]'(by omega), List.getElem?_eq_getElem _⟩
      refine ⟨e, he, ?_⟩
      have := (hD.row (s + c) e (hgk.at_ c e he)).c1
      rw [show off + (s + c) * 7 = off + s * 7 + c * 7 by omega] at this
      exact this
    have HII := Lib.hid hI
    have HBB := Lib.hid hB
    have HDD := Lib.hid hD
    have HPL : Hid (pre.length < n) := hpre
    obtain ⟨cc, hcc⟩ : ∃ c, c = cap - s := ⟨_, rfl⟩
    rw [← hcc]
    clear hk hdk hI hB hD hcc hi hz0 hz1 hz2 hpre
    gi_wp2
    gi_loopw [8] (fun dv wr => ∃ c : Nat, dv = .int .i64 (c : Int) ∧ c ≤ k ∧ Hid (cntN 0 g = cntN c (g.drop c)) ∧ wr = W) (fun dv _ => k + 1 - (intOf dv).toNat)
    case atStart => exact ⟨0, rfl, Nat.zero_le _, rfl, rfl⟩
    case round =>
      obtain ⟨c, rfl, hck, HC, rfl⟩ := hrel
      by_cases hlt : c < k
      · have hlt2 : (c : Int) < (k : Int) := by omega
        obtain ⟨e, he, ce⟩ := HGE.out c hlt
        have hstep := cntN_step he
        have hw1 : IntKind.i64.wrap ((c : Int) + 1) = (c : Int) + 1 := by rw [IntKind.wrap_i64]; omega
        by_cases hq : e.nu = (c : Int) + 1
        · have hq2 : (e.nu == (c : Int) + 1) = true := beq_iff_eq.2 hq
          rw [if_pos hq] at hstep
          have HC2 : Hid (cntN 0 g = cntN (c + 1) (g.drop (c + 1))) := by rw [Hid, HC.out, hstep]
          clear hstep hq he
          gi_wp2
          refine ⟨⟨c + 1, by go_num, by omega, HC2, by trivial⟩, ?_⟩
          simp [intOf]
          omega
        · have hq2 : (e.nu == (c : Int) + 1) = false := beq_eq_false_iff_ne.2 hq
          rw [if_neg hq] at hstep
          have HCE : Hid (cntN 0 g = c) := by rw [Hid, HC.out, hstep]
          clear hstep hq he
          obtain ⟨v2, xb2, hown2⟩ := HII.out.out
          have x2 := cell1_of xb2
          obtain ⟨L2, hL2⟩ : ∃ L2, L2 = pre.map (fun (y : Grp l) => vecG y.1.1) := ⟨_, rfl⟩
          have HL2 := Lib.hid hL2
          rw [← hL2] at hown2
          have hln : L2.length < n := by rw [hL2, List.length_map]; exact HPL.out
          clear hL2
          obtain ⟨p2, c2, rfl, _, _⟩ := own_shape hown2
          have gA := (Gr.refl wr).alloc (.cells #[.string dk, .int .i64 (c : Int)] 96)
          have hownA := own_kept hown2 gA
          have hxA := Gr.block gA xb2
          have hszA : base ≤ (wr.alloc (.cells #[.string dk, .int .i64 (c : Int)] 96)).heap.size := Nat.le_trans hZ (Below.size gA)
          have hbA : Below w.heap.size w (wr.alloc (.cells #[.string dk, .int .i64 (c : Int)] 96)) := HBB.out.trans (Below.mono gA (show w.heap.size ≤ _ from Below.size HBB.out))
          obtain ⟨hi, hz0, hz1, hz2⟩ := HI0.out
          gi_wp2_with (gi_at_builtin; refine wpListIn_append_own _ rfl _ _ 55 rfl base 96 i0 (.agg #[.string ⟨#[]⟩, .int .i64 0]) 2 24 Tryz.underlying55 hi hz0 hz1 hz2 rfl (by decide) _ _ _ rfl hownA ⟨wr.heap.size, 0, none⟩ 1 1 [.string dk, .int .i64 (c : Int)] rfl rfl (cell_twoM _ _ _ _) (one_twoM _ _) (by unfold maxLen; omega) (by omega) hszA ?_; intro v1 w1 hown1 hgrow1 _; obtain ⟨⟨x5, xf5⟩, hpi5, hkp5, hko5⟩ := MkI.store (r := ⟨dk, (c : Int)⟩) (L := L2) (by have := HXB.out; omega) hxA hownA hgrow1 hown1; have HGW : Hid (World.grownBy _ w1 _) := hgrow1; obtain ⟨p9, c9, rfl, _, _⟩ := own_shape hown1)
          have hbl5 := MkI.below (base := base) (X := X) (v1 := .slice p9 (L2.length + 1) c9) (n₀ := w.heap.size) (by omega) (by omega) hbA (show w.heap.size ≤ _ from Below.size hbA) hownA HGW.out
          have hsz5 : base ≤ (w1.setCell ⟨X, 0, none⟩ (.slice p9 (L2.length + 1) c9)).heap.size := by rw [World.size_setCell]; exact Nat.le_trans hszA HGW.out.size
          have hkpA : KpM base X wr (w1.setCell ⟨X, 0, none⟩ (.slice p9 (L2.length + 1) c9)) := kpM_t (kpM_gr gA) hkp5
          have hdf : DkF base q b off n cap l (w1.setCell ⟨X, 0, none⟩ (.slice p9 (L2.length + 1) c9)) := ⟨hkpA base _ _ _ HDD.out.box (fun _ h => by cases h) (.inr (by decide)), fun i x hx => (HDD.out.row i x hx).kpM hkpA (by have := hbw (by omega); omega) (by have := hbw (by omega); omega)⟩
          refine ⟨((gr_others gA).trans hko5).from _, hkpA, ?_, hbl5, hsz5, hdf⟩
          have hfin : (pre ++ [(⟨(g, s), hgk⟩ : Grp l)]).map (fun (y : Grp l) => vecG y.1.1) = L2 ++ [⟨dk, (c : Int)⟩] := by
            rw [List.map_append, ← HL2.out, List.map_singleton]
            simp only [vecG]
            rw [HDK.out, HCE.out]
          rw [hfin]
          exact hpi5
      · have hlt2 : ¬ (c : Int) < (k : Int) := by omega
        have HCE : Hid (cntN 0 g = c) := by rw [Hid, HC.out, cntN_end (by have := HK.out; omega)]
        obtain ⟨v2, xb2, hown2⟩ := HII.out.out
        have x2 := cell1_of xb2
        obtain ⟨L2, hL2⟩ : ∃ L2, L2 = pre.map (fun (y : Grp l) => vecG y.1.1) := ⟨_, rfl⟩
        have HL2 := Lib.hid hL2
        rw [← hL2] at hown2
        have hln : L2.length < n := by rw [hL2, List.length_map]; exact HPL.out
        clear hL2
        obtain ⟨p2, c2, rfl, _, _⟩ := own_shape hown2
        have gA := (Gr.refl wr).alloc (.cells #[.string dk, .int .i64 (c : Int)] 96)
        have hownA := own_kept hown2 gA
        have hxA := Gr.block gA xb2
        have hszA : base ≤ (wr.alloc (.cells #[.string dk, .int .i64 (c : Int)] 96)).heap.size := Nat.le_trans hZ (Below.size gA)
        have hbA : Below w.heap.size w (wr.alloc (.cells #[.string dk, .int .i64 (c : Int)] 96)) := HBB.out.trans (Below.mono gA (show w.heap.size ≤ _ from Below.size HBB.out))
        obtain ⟨hi, hz0, hz1, hz2⟩ := HI0.out
        gi_wp2_with (gi_at_builtin; refine wpListIn_append_own _ rfl _ _ 55 rfl base 96 i0 (.agg #[.string ⟨#[]⟩, .int .i64 0]) 2 24 Tryz.underlying55 hi hz0 hz1 hz2 rfl (by decide) _ _ _ rfl hownA ⟨wr.heap.size, 0, none⟩ 1 1 [.string dk, .int .i64 (c : Int)] rfl rfl (cell_twoM _ _ _ _) (one_twoM _ _) (by unfold maxLen; omega) (by omega) hszA ?_; intro v1 w1 hown1 hgrow1 _; obtain ⟨⟨x5, xf5⟩, hpi5, hkp5, hko5⟩ := MkI.store (r := ⟨dk, (c : Int)⟩) (L := L2) (by have := HXB.out; omega) hxA hownA hgrow1 hown1; have HGW : Hid (World.grownBy _ w1 _) := hgrow1; obtain ⟨p9, c9, rfl, _, _⟩ := own_shape hown1)
        have hbl5 := MkI.below (base := base) (X := X) (v1 := .slice p9 (L2.length + 1) c9) (n₀ := w.heap.size) (by omega) (by omega) hbA (show w.heap.size ≤ _ from Below.size hbA) hownA HGW.out
        have hsz5 : base ≤ (w1.setCell ⟨X, 0, none⟩ (.slice p9 (L2.length + 1) c9)).heap.size := by rw [World.size_setCell]; exact Nat.le_trans hszA HGW.out.size
        have hkpA : KpM base X wr (w1.setCell ⟨X, 0, none⟩ (.slice p9 (L2.length + 1) c9)) := kpM_t (kpM_gr gA) hkp5
        have hdf : DkF base q b off n cap l (w1.setCell ⟨X, 0, none⟩ (.slice p9 (L2.length + 1) c9)) := ⟨hkpA base _ _ _ HDD.out.box (fun _ h => by cases h) (.inr (by decide)), fun i x hx => (HDD.out.row i x hx).kpM hkpA (by have := hbw (by omega); omega) (by have := hbw (by omega); omega)⟩
        refine ⟨((gr_others gA).trans hko5).from _, hkpA, ?_, hbl5, hsz5, hdf⟩
        have hfin : (pre ++ [(⟨(g, s), hgk⟩ : Grp l)]).map (fun (y : Grp l) => vecG y.1.1) = L2 ++ [⟨dk, (c : Int)⟩] := by
          rw [List.map_append, ← HL2.out, List.map_singleton]
          simp only [vecG]
          rw [HDK.out, HCE.out]
        rw [hfin]
        exact hpi5
  case done =>
    rintro D ys W hD hys ⟨hI, hB, hZ, _⟩ hKD
    have hL : ys.map (fun (y : Grp l) => vecG y.1.1) = vecP l := by
      have := hys.out
      unfold vecP
      rw [← this, List.map_map]
      rfl
    rw [hL] at hI
    obtain ⟨v9, xb9, hown9⟩ := hI.out
    obtain ⟨p9, c9, rfl, hc1, hc2⟩ := own_shape hown9
    have x9 := cell1_of xb9
    have HOW9 := Lib.hid hown9
    have hG9 : Hid (Gr w (W.putObj D (.deferred none))) := hB.trans (belowK_b (w := w) (Nat.le_refl _) W D _ _ (Nat.le_trans (Below.size G7.out) hD) hKD rfl rfl)
    clear hI hB hL hys xb9 hown9
    gi_wp2
    refine ⟨by simp, .inl ⟨_, _, rfl, run_takeDeferred hKD, ?_⟩⟩
    refine ⟨_, by simp [results, Tryz.results32, go_sem], ⟨⟨p9, c9, rfl, ⟨hc1, hc2⟩, ?_⟩, hG9.out⟩⟩
    exact MkS.of_own (own_turn HOW9.out (grownBy_putObj' W D _) (fun r e => by cases e; exact ⟨_, hKD, rfl⟩)) rfl
  case stop =>
    rintro D c pre W _ _ h _
    exact h.elim
end Go.Proofs.YtbpgifihlppedaaGreatDoor
