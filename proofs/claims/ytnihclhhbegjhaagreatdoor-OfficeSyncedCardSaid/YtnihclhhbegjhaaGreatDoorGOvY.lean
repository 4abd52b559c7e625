/- Archives (chapter 10): the program's Vector. -/
import Derived.Test.YtnihclhhbegjhaaGreatDoorGOvT
import Derived.Scope
import Derived.WalkMore
import Derived.MapKept
namespace Go.Proofs.YtnihclhhbegjhaaGreatDoor
open Go.RowKit Go.Shelf
set_option linter.unusedSimpArgs false
set_option linter.unusedVariables false
attribute [local go_sem] Oper.semAt_some
theorem cntN_step {g : List EnR} {c : Nat} {e : EnR} (h : g[c]? = some e) : cntN c (g.drop c) = if e.nu = (c : Int) + 1 then cntN (c + 1) (g.drop (c + 1)) else c := by
  obtain ⟨h1, h2⟩ := List.getElem?_eq_some_iff.1 h
  rw [List.drop_eq_getElem_cons h1, h2]
  rfl
theorem cntN_end {g : List EnR} {c : Nat} (h : g.length ≤ c) : cntN c (g.drop c) = c := by
  rw [List.drop_of_length_le h]; rfl
structure RetMt (e : Ending) (w' : World) (l : List MkR) : Prop where
  mk' ::
  out : ∃ q c, e = .returned (.tuple #[.slice q l.length c, .int .i64 0]) ∧ (l.length ≤ c ∧ c ≤ maxLen) ∧ MkS w' q l
theorem en7_of {w : World} {b off : Nat} {e : EnR} (h : EnAt w b off e) : En7 w b off e := ⟨h.c0, h.c1, h.c2, h.c3, h.c4, h.c5, h.c6⟩
theorem groups_len : ∀ (f : Nat) (l : List EnR), (grps f l).length ≤ l.length
  | 0, l => by simp [grps]
  | f + 1, [] => by simp [grps]
  | f + 1, x :: t => by
    have h1 := groups_len f (t.dropWhile (sameD x))
    have hdl : (t.dropWhile (sameD x)).length ≤ t.length := (List.dropWhile_sublist _).length_le
    rw [grps_step]; simp only [List.length_cons]; omega
set_option maxHeartbeats 4000000 in
set_option maxRecDepth 100000 in
theorem vector_ok {w : World} {q : Option Addr} {l : List EnR} {n cap : Nat} (hn : n = l.length) (h1 : n ≤ 1000) (hcap : n ≤ cap) (hmx : cap ≤ maxLen) (hr : EnS w q l) (hf : Few l) (he : archE l = 0) :
    Calls Tryz.prog 32 #[.agg #[.slice q n cap]] w fun e w' => RetMt e w' (vecP l) ∧ Gr w w' := by
  have HCA0 := Lib.hid (fun V (g : Gr w V) => checkArch_c (cap := cap) hn h1 (hr.gr g) hf)
  rw [he] at HCA0
  have HCA := HCA0
  have HN := Lib.hid hn
  obtain ⟨b, off, hq, hbw, hrow⟩ : ∃ b off, (0 < n → q = some ⟨b, off, none⟩) ∧ (0 < n → b < w.heap.size) ∧ ∀ i e, l[i]? = some e → En7 w b (off + i * 7) e := by
    by_cases h0 : 0 < n
    · obtain ⟨b, off, e, hc⟩ := hr.out (by omega)
      obtain ⟨x, hx⟩ : ∃ x, l[0]? = some x := ⟨l[0]'(by omega), List.getElem?_eq_getElem _⟩
      exact ⟨b, off, fun _ => e, fun _ => World.block_lt_of_cell? w ⟨b, off + 0 * 7, none⟩ (hc 0 x hx).c0, fun i e he => en7_of (hc i e he)⟩
    · exact ⟨0, 0, fun h => absurd h h0, fun h => absurd h h0, fun i e he => by have := (List.getElem?_eq_some_iff.1 he).1; omega⟩
  have HROW := Lib.hid hrow
  have HQ := Lib.hid hq
  obtain ⟨W1, hW1, g1, a0⟩ := box1 w (.slice q n cap) 24
  have HW := Lib.hid hW1
  have hs1 : W1.heap.size = w.heap.size + 1 := by rw [← hW1]; simp
  clear hW1 hr hf hn he HCA0 hrow hq
  refine (callsIn_wide (n := 6)).1 ?_
  refine callsIn_of_wp_marks Tryz.func32 rfl trivial ?_ rfl
  simp only [Tryz.ntmps32, List.size_toArray, List.length_cons, List.length_nil, Nat.reduceAdd, Nat.reduceSub, Array.replicate_succ, Array.replicate_zero, List.push_toArray, List.append_toArray, List.nil_append, List.cons_append]
  gi_wp2_with fail
  rw [HW.out]
  clear HW
  gi_wp2_with fail
  refine ⟨trivial, ?_⟩
  gi_at_call 12
  refine (callsIn_wide.2 (HCA.out _ g1)).mono ?_
  rintro e W2 ⟨rfl, hg2⟩
  replace a0 := hg2.cell a0
  have G2 := Lib.hid (g1.trans hg2)
  have hsz2 := hg2.size
  clear hg2 HCA
  obtain ⟨W3, hW3, g3, x0⟩ := box1 W2 (.slice none 0 0) 55
  have xb : W3.heap[W2.heap.size]? = some (.cells #[.slice none 0 0] 55 (0, 0)) := by rw [← hW3]; exact heap_alloc_new W2 _
  have hs3 : W3.heap.size = W2.heap.size + 1 := by rw [← hW3]; simp
  have HW3 := Lib.hid hW3
  have a03 := g3.cell a0
  gi_wp2_with fail
  refine ⟨trivial, ?_⟩
  gi_at_call 75
  refine (callsIn_wide.2 (desks_c q n cap W3)).mono ?_
  rintro e W6 ⟨rfl, hW6⟩
  obtain ⟨W7, hW7, g7, bk0⟩ := box1 W3 (.slice q n cap) 24
  obtain rfl : W7 = W6 := hW7.symm.trans hW6.symm
  have hBl : W7.heap[W3.heap.size]? = some (.cells #[.slice q n cap] 24 (0, 0)) := by rw [← hW7]; exact heap_alloc_new W3 _
  have G7 := Lib.hid (G2.out.trans (g3.trans g7))
  have HBK : Hid (DkF W3.heap.size q b off n cap l W7) := ⟨hBl, fun i e he => (HROW.out i e he).gr G7.out⟩
  obtain ⟨X, hX⟩ : ∃ X, W2.heap.size = X := ⟨_, rfl⟩
  obtain ⟨base, hbase⟩ : ∃ base, X + 1 = base := ⟨_, rfl⟩
  rw [hX] at xb hs3 hsz2 ⊢
  have HXB : Hid (X + 1 = base ∧ w.heap.size < X ∧ w.heap.size < base) := ⟨hbase, by omega, by omega⟩
  have HP7 : Hid (MkI base X [] W7) := ⟨_, Gr.block g7 xb, World.ownsRow_nil _ _ _ _⟩
  have HS7 : Hid (base ≤ W7.heap.size) := by have := Below.size g7; rw [Hid]; omega
  have HBl7 : Hid (base ≤ W3.heap.size) := by rw [Hid]; omega
  clear hW6 hW7 hBl g7 bk0 g3 xb x0 a0 a03 HW3 hW3 hs1 g1
  gi_wp2_with fail
  have hxx := HXB.out
  have hWB : W3.heap.size = base := by omega
  rw [hWB] at HBK
  refine wpIn_rangeFunc_ownH rfl (by decide) (gf := 120) (lb := #[.pointer (some ⟨base, 0, none⟩)]) rfl trivial (enters_of Tryz.func120 (by kernel_rfl) rfl)
    (desks_stops base n b off cap q HQ.out l HN.out.symm h1 hcap hmx (KpM base X) (fun A B hk hb => ⟨hk base _ _ _ hb.box (fun _ h => by cases h) (.inr (by decide)), fun i x hx => (hb.row i x hx).kpM hk (by have := hbw (by have := (List.getElem?_eq_some_iff.1 hx).1; have := HN.out; omega); omega) (by have := hbw (by have := (List.getElem?_eq_some_iff.1 hx).1; have := HN.out; omega); omega)⟩) W7 HBK.out)
    kpM_t (fun W l o o' _ h1 h2 _ => kpM_putObj W l o o' h1 h2) (Below.refl _ _) (fun _ => rfl)
    (fun pre W => MkI base X (pre.map (fun (y : Grp l) => vecG y.1.1)) W ∧ Below w.heap.size w W ∧ base ≤ W.heap.size ∧ DkF base q b off n cap l W)
    (fun _ _ _ => False)
    (OwnFrom.and (Own.from (MkI.own _) _) (OwnFrom.and (ownFrom_below (Nat.le_refl _) (Below.size G7.out)) (OwnFrom.and (fun s A B row hs hg _ => Nat.le_trans hs hg.size) (Own.from DkF.own _))))
    (fun _ _ _ _ _ hs _ _ => hs)
    ⟨by simpa using HP7.out, G7.out, HS7.out, HBK.out⟩
    (fun (y : Grp l) a' W => ∃ (u0 u1 u2 u3 u4 u8 u9 u10 u11 u12 u13 u14 u15 u16 u17 u18 u19 u20 u21 u22 u23 u24 u25 u26 u27 u28 u29 u30 u31 u32 u33 u34 u35 u36 u37 u38 u39 u40 : Value), a' = ({ tmps := #[u0, u1, u2, u3, u4, .pointer (some ⟨X, 0, none⟩), .string (deskOf y.1.1), .slice (some ⟨b, off + y.1.2 * 7, none⟩) y.1.1.length (cap - y.1.2), u8, u9, u10, u11, u12, u13, u14, u15, u16, u17, u18, u19, u20, u21, u22, u23, u24, u25, u26, u27, u28, u29, u30, u31, u32, u33, u34, u35, u36, u37, u38, u39, u40], defers := [] } : Act))
    (fun y a' => fun _ A B row hs hg hr => hs)
    ?assign ?body ?done ?stop
  case assign =>
    rintro lp pre y W K ⟨hI, hB, hZ, hD⟩ hK
    have HKK := Lib.hid (fun a' hh => hK a' W (KeepsFrom.refl _ _) (kpM_gr (Gr.refl _)) ⟨hI, hB, hZ, hD⟩ hh)
    clear hK hI hB hD
    gi_wp2
    exact HKK.out _ ⟨_, _, _, _, _, _, _, _, _, _, _, _, _, _, _, _, _, _, _, _, _, _, _, _, _, _, _, _, _, _, _, _, _, _, _, _, _, _, rfl⟩
  case body =>
    rintro lp pre ⟨⟨g, s⟩, hgk⟩ a' W hlw ⟨r8, hlr⟩ ⟨hI, hB, hZ, hD⟩ ⟨u0, u1, u2, u3, u4, u8, u9, u10, u11, u12, u13, u14, u15, u16, u17, u18, u19, u20, u21, u22, u23, u24, u25, u26, u27, u28, u29, u30, u31, u32, u33, u34, u35, u36, u37, u38, u39, u40, rfl⟩ hpre
    simp only
    obtain ⟨i0, hi, hz0, hz1, hz2⟩ := info_parts infoMkP
    have HI0 := Lib.hid (And.intro hi (And.intro hz0 (And.intro hz1 hz2)))
    obtain ⟨k, hk⟩ : ∃ k, k = g.length := ⟨_, rfl⟩
    have HK := Lib.hid hk
    obtain ⟨dk, hdk⟩ : ∃ d, d = deskOf g := ⟨_, rfl⟩
    have HDK := Lib.hid hdk
    rw [← hk, ← hdk]
    have hkn : s + k ≤ n := by have := hgk.le; have := HN.out; simp only at *; omega
    have HGE : Hid (∀ c, c < k → ∃ e, g[c]? = some e ∧ W.cell? ⟨b, off + s * 7 + c * 7 + 1, none⟩ = some (.int .i64 e.nu)) := fun c hc => by
      obtain ⟨e, he⟩ : ∃ e, g[c]? = some e := ⟨g[c]'(by omega), List.getElem?_eq_getElem _⟩
      refine ⟨e, he, ?_⟩
      have := (hD.row (s + c) e (hgk.at_ c e he)).c1
      rw [show off + (s + c) * 7 = off + s * 7 + c * 7 by omega] at this
      exact this
    have HII := Lib.hid hI
    have HBB := Lib.hid hB
    have HDD := Lib.hid hD
    have HPL : Hid (pre.length < n) := hpre
    obtain ⟨cc, hcc⟩ : ∃ c, c = cap - s := ⟨_, rfl⟩
    rw [← hcc]
    clear hk hdk hI hB hD hcc hi hz0 hz1 hz2 hpre
    gi_wp2
    gi_loopw [8] (fun dv wr => ∃ c : Nat, dv = .int .i64 (c : Int) ∧ c ≤ k ∧ Hid (cntN 0 g = cntN c (g.drop c)) ∧ wr = W) (fun dv _ => k + 1 - (intOf dv).toNat)
    case atStart => exact ⟨0, rfl, Nat.zero_le _, rfl, rfl⟩
    case round =>
      obtain ⟨c, rfl, hck, HC, rfl⟩ := hrel
      by_cases hlt : c < k
      · have hlt2 : (c : Int) < (k : Int) := by omega
        obtain ⟨e, he, ce⟩ := HGE.out c hlt
        have hstep := cntN_step he
        have hw1 : IntKind.i64.wrap ((c : Int) + 1) = (c : Int) + 1 := by rw [IntKind.wrap_i64]; omega
        by_cases hq : e.nu = (c : Int) + 1
        · have hq2 : (e.nu == (c : Int) + 1) = true := beq_iff_eq.2 hq
          rw [if_pos hq] at hstep
          have HC2 : Hid (cntN 0 g = cntN (c + 1) (g.drop (c + 1))) := by rw [Hid, HC.out, hstep]
          clear hstep hq he
          gi_wp2
          refine ⟨⟨c + 1, by go_num, by omega, HC2, by trivial⟩, ?_⟩
          simp [intOf]
          omega
        · have hq2 : (e.nu == (c : Int) + 1) = false := beq_eq_false_iff_ne.2 hq
          rw [if_neg hq] at hstep
          have HCE : Hid (cntN 0 g = c) := by rw [Hid, HC.out, hstep]
          clear hstep hq he
          obtain ⟨v2, xb2, hown2⟩ := HII.out.out
          have x2 := cell1_of xb2
          obtain ⟨L2, hL2⟩ : ∃ L2, L2 = pre.map (fun (y : Grp l) => vecG y.1.1) := ⟨_, rfl⟩
          have HL2 := Lib.hid hL2
          rw [← hL2] at hown2
          have hln : L2.length < n := by rw [hL2, List.length_map]; exact HPL.out
          clear hL2
          obtain ⟨p2, c2, rfl, _, _⟩ := own_shape hown2
          have gA := (Gr.refl wr).alloc (.cells #[.string dk, .int .i64 (c : Int)] 84)
          have hownA := own_kept hown2 gA
          have hxA := Gr.block gA xb2
          have hszA : base ≤ (wr.alloc (.cells #[.string dk, .int .i64 (c : Int)] 84)).heap.size := Nat.le_trans hZ (Below.size gA)
          have hbA : Below w.heap.size w (wr.alloc (.cells #[.string dk, .int .i64 (c : Int)] 84)) := HBB.out.trans (Below.mono gA (show w.heap.size ≤ _ from Below.size HBB.out))
          obtain ⟨hi, hz0, hz1, hz2⟩ := HI0.out
          gi_wp2_with (gi_at_builtin; refine wpListIn_append_own _ rfl _ _ 55 rfl base 84 i0 (.agg #[.string ⟨#[]⟩, .int .i64 0]) 2 24 Tryz.underlying55 hi hz0 hz1 hz2 rfl (by decide) _ _ _ rfl hownA ⟨wr.heap.size, 0, none⟩ 1 1 [.string dk, .int .i64 (c : Int)] rfl rfl (cell_twoM _ _ _ _) (one_twoM _ _) (by unfold maxLen; omega) (by omega) hszA ?_; intro v1 w1 hown1 hgrow1 _; obtain ⟨⟨x5, xf5⟩, hpi5, hkp5, hko5⟩ := MkI.store (r := ⟨dk, (c : Int)⟩) (L := L2) (by have := HXB.out; omega) hxA hownA hgrow1 hown1; have HGW : Hid (World.grownBy _ w1 _) := hgrow1; obtain ⟨p9, c9, rfl, _, _⟩ := own_shape hown1)
          have hbl5 := MkI.below (base := base) (X := X) (v1 := .slice p9 (L2.length + 1) c9) (n₀ := w.heap.size) (by omega) (by omega) hbA (show w.heap.size ≤ _ from Below.size hbA) hownA HGW.out
          have hsz5 : base ≤ (w1.setCell ⟨X, 0, none⟩ (.slice p9 (L2.length + 1) c9)).heap.size := by rw [World.size_setCell]; exact Nat.le_trans hszA HGW.out.size
          have hkpA : KpM base X wr (w1.setCell ⟨X, 0, none⟩ (.slice p9 (L2.length + 1) c9)) := kpM_t (kpM_gr gA) hkp5
          have hdf : DkF base q b off n cap l (w1.setCell ⟨X, 0, none⟩ (.slice p9 (L2.length + 1) c9)) := ⟨hkpA base _ _ _ HDD.out.box (fun _ h => by cases h) (.inr (by decide)), fun i x hx => (HDD.out.row i x hx).kpM hkpA (by have := hbw (by omega); omega) (by have := hbw (by omega); omega)⟩
          refine ⟨((gr_others gA).trans hko5).from _, hkpA, ?_, hbl5, hsz5, hdf⟩
          have hfin : (pre ++ [(⟨(g, s), hgk⟩ : Grp l)]).map (fun (y : Grp l) => vecG y.1.1) = L2 ++ [⟨dk, (c : Int)⟩] := by
            rw [List.map_append, ← HL2.out, List.map_singleton]
            simp only [vecG]
            rw [HDK.out, HCE.out]
          rw [hfin]
          exact hpi5
      · have hlt2 : ¬ (c : Int) < (k : Int) := by omega
        have HCE : Hid (cntN 0 g = c) := by rw [Hid, HC.out, cntN_end (by have := HK.out; omega)]
        obtain ⟨v2, xb2, hown2⟩ := HII.out.out
        have x2 := cell1_of xb2
        obtain ⟨L2, hL2⟩ : ∃ L2, L2 = pre.map (fun (y : Grp l) => vecG y.1.1) := ⟨_, rfl⟩
        have HL2 := Lib.hid hL2
        rw [← hL2] at hown2
        have hln : L2.length < n := by rw [hL2, List.length_map]; exact HPL.out
        clear hL2
        obtain ⟨p2, c2, rfl, _, _⟩ := own_shape hown2
        have gA := (Gr.refl wr).alloc (.cells #[.string dk, .int .i64 (c : Int)] 84)
        have hownA := own_kept hown2 gA
        have hxA := Gr.block gA xb2
        have hszA : base ≤ (wr.alloc (.cells #[.string dk, .int .i64 (c : Int)] 84)).heap.size := Nat.le_trans hZ (Below.size gA)
        have hbA : Below w.heap.size w (wr.alloc (.cells #[.string dk, .int .i64 (c : Int)] 84)) := HBB.out.trans (Below.mono gA (show w.heap.size ≤ _ from Below.size HBB.out))
        obtain ⟨hi, hz0, hz1, hz2⟩ := HI0.out
        gi_wp2_with (gi_at_builtin; refine wpListIn_append_own _ rfl _ _ 55 rfl base 84 i0 (.agg #[.string ⟨#[]⟩, .int .i64 0]) 2 24 Tryz.underlying55 hi hz0 hz1 hz2 rfl (by decide) _ _ _ rfl hownA ⟨wr.heap.size, 0, none⟩ 1 1 [.string dk, .int .i64 (c : Int)] rfl rfl (cell_twoM _ _ _ _) (one_twoM _ _) (by unfold maxLen; omega) (by omega) hszA ?_; intro v1 w1 hown1 hgrow1 _; obtain ⟨⟨x5, xf5⟩, hpi5, hkp5, hko5⟩ := MkI.store (r := ⟨dk, (c : Int)⟩) (L := L2) (by have := HXB.out; omega) hxA hownA hgrow1 hown1; have HGW : Hid (World.grownBy _ w1 _) := hgrow1; obtain ⟨p9, c9, rfl, _, _⟩ := own_shape hown1)
        have hbl5 := MkI.below (base := base) (X := X) (v1 := .slice p9 (L2.length + 1) c9) (n₀ := w.heap.size) (by omega) (by omega) hbA (show w.heap.size ≤ _ from Below.size hbA) hownA HGW.out
        have hsz5 : base ≤ (w1.setCell ⟨X, 0, none⟩ (.slice p9 (L2.length + 1) c9)).heap.size := by rw [World.size_setCell]; exact Nat.le_trans hszA HGW.out.size
        have hkpA : KpM base X wr (w1.setCell ⟨X, 0, none⟩ (.slice p9 (L2.length + 1) c9)) := kpM_t (kpM_gr gA) hkp5
        have hdf : DkF base q b off n cap l (w1.setCell ⟨X, 0, none⟩ (.slice p9 (L2.length + 1) c9)) := ⟨hkpA base _ _ _ HDD.out.box (fun _ h => by cases h) (.inr (by decide)), fun i x hx => (HDD.out.row i x hx).kpM hkpA (by have := hbw (by omega); omega) (by have := hbw (by omega); omega)⟩
        refine ⟨((gr_others gA).trans hko5).from _, hkpA, ?_, hbl5, hsz5, hdf⟩
        have hfin : (pre ++ [(⟨(g, s), hgk⟩ : Grp l)]).map (fun (y : Grp l) => vecG y.1.1) = L2 ++ [⟨dk, (c : Int)⟩] := by
          rw [List.map_append, ← HL2.out, List.map_singleton]
          simp only [vecG]
          rw [HDK.out, HCE.out]
        rw [hfin]
        exact hpi5
  case done =>
    rintro D ys W hD hys ⟨hI, hB, hZ, _⟩ hKD
    have hL : ys.map (fun (y : Grp l) => vecG y.1.1) = vecP l := by
      have := hys.out
      unfold vecP
      rw [← this, List.map_map]
      rfl
    rw [hL] at hI
    obtain ⟨v9, xb9, hown9⟩ := hI.out
    obtain ⟨p9, c9, rfl, hc1, hc2⟩ := own_shape hown9
    have x9 := cell1_of xb9
    have HOW9 := Lib.hid hown9
    have hG9 : Hid (Gr w (W.putObj D (.deferred none))) := hB.trans (belowK_b (w := w) (Nat.le_refl _) W D _ _ (Nat.le_trans (Below.size G7.out) hD) hKD rfl rfl)
    clear hI hB hL hys xb9 hown9
    gi_wp2
    refine ⟨by simp, .inl ⟨_, _, rfl, run_takeDeferred hKD, ?_⟩⟩
    refine ⟨_, by simp [results, Tryz.results32, go_sem], ⟨⟨p9, c9, rfl, ⟨hc1, hc2⟩, ?_⟩, hG9.out⟩⟩
    exact MkS.of_own (own_turn HOW9.out (grownBy_putObj' W D _) (fun r e => by cases e; exact ⟨_, hKD, rfl⟩)) rfl
  case stop =>
    rintro D c pre W _ _ h _
    exact h.elim
end Go.Proofs.YtnihclhhbegjhaaGreatDoor
namespace Go
section
variable {F : Fence} {P : Program} {n : Nat} {b : Frame} {a : Act} {k : List Item} {cs : List Frame} {w : World}
theorem stepR_scope1 {c : Code} : step P (lone (b.atR a (.code (.scope c) :: k)) cs w) = .next (lone (b.atR a (.code c :: .inScope c :: k)) cs w) :=
  step_lone_go (by simp [stepG, stepG.exec, Frame.atR])
theorem stepR_inScope1 {c : Code} : step P (lone (b.atR a (.inScope c :: k)) cs w) = .next (lone (b.atR a k) cs w) :=
  step_lone_go (by simp [stepG, stepG.exec, Frame.atR])
theorem wpIn_scope_one {c : Code} {Q : Exit → Act → World → Prop} (h : c.wpIn F n P (Exit.noGoto Q) a w) : (Code.scope c).wpIn F n P Q a w := by
  intro b k cs hro hb hr
  have h0 : (lone (b.atR a (.code (.scope c) :: k)) cs w).fenced P F := fenced_calm hb hr rfl
  obtain ⟨e, a₁, w₁, hq, harr⟩ := h b (.inScope c :: k) cs hro hb hr
  cases e with
  | normal => exact ⟨.normal, a₁, w₁, hq, .head h0 stepR_scope1 (StepsIn.trans harr (.one (fenced_calm hb hr rfl) stepR_inScope1))⟩
  | exit id =>
    have hx : exitTo id (.inScope c :: k) = exitTo id k := by simp [exitTo]
    exact ⟨.exit id, a₁, w₁, hq, fun k' hk => .head h0 stepR_scope1 (harr.1 k' (by rw [hx]; exact hk)),
      fun hr' hk => let ⟨k₁, h1, h2⟩ := harr.2 hr' (by rw [hx]; exact hk); ⟨k₁, h1, .head h0 stepR_scope1 h2⟩⟩
  | goto l => exact hq.elim
  | ret => exact ⟨_, a₁, w₁, hq, .of_steps (.one h0 stepR_scope1) harr⟩
  | panic ch => exact ⟨_, a₁, w₁, hq, .of_steps (.one h0 stepR_scope1) harr⟩
  | outgrown => exact ⟨_, a₁, w₁, hq, .of_steps (.one h0 stepR_scope1) harr⟩
end
end Go
namespace Go.Proofs.YtnihclhhbegjhaaGreatDoor
open Go.RowKit Go.Shelf
set_option linter.unusedSimpArgs false
set_option linter.unusedVariables false
attribute [local go_sem] Oper.semAt_some
theorem gapG_at {g : List EnR} {c : Nat} (h : cntN 0 g = c) (hl : c < g.length) : gapG g = [⟨deskOf g, (c : Int) + 1⟩] := by
  unfold gapG; rw [h, if_pos hl]
theorem gapG_no {g : List EnR} (h : cntN 0 g = g.length) : gapG g = [] := by
  unfold gapG; rw [h, if_neg (Nat.lt_irrefl _)]
theorem gapG_len (g : List EnR) : (gapG g).length ≤ 1 := by
  unfold gapG; split <;> simp
theorem gapF_len {α : Type} (f : α → List EnR) : ∀ pre : List α, (pre.flatMap fun y => gapG (f y)).length ≤ pre.length
  | [] => by simp
  | x :: t => by
    have h1 := gapF_len f t
    have h2 := gapG_len (f x)
    simp only [List.flatMap_cons, List.length_append, List.length_cons]
    omega
set_option maxHeartbeats 4000000 in
set_option maxRecDepth 100000 in
theorem gaps_ok {w : World} {q : Option Addr} {l : List EnR} {n cap : Nat} (hn : n = l.length) (h1 : n ≤ 1000) (hcap : n ≤ cap) (hmx : cap ≤ maxLen) (hr : EnS w q l) (hf : Few l) (he : archE l = 0) :
    Calls Tryz.prog 33 #[.agg #[.slice q n cap]] w fun e w' => RetMt e w' (gapsP l) ∧ Gr w w' := by
  have HCA0 := Lib.hid (fun V (g : Gr w V) => checkArch_c (cap := cap) hn h1 (hr.gr g) hf)
  rw [he] at HCA0
  have HCA := HCA0
  have HN := Lib.hid hn
  obtain ⟨b, off, hq, hbw, hrow⟩ : ∃ b off, (0 < n → q = some ⟨b, off, none⟩) ∧ (0 < n → b < w.heap.size) ∧ ∀ i e, l[i]? = some e → En7 w b (off + i * 7) e := by
    by_cases h0 : 0 < n
    · obtain ⟨b, off, e, hc⟩ := hr.out (by omega)
      obtain ⟨x, hx⟩ : ∃ x, l[0]? = some x := ⟨l[0]'(by omega), List.getElem?_eq_getElem _⟩
      exact ⟨b, off, fun _ => e, fun _ => World.block_lt_of_cell? w ⟨b, off + 0 * 7, none⟩ (hc 0 x hx).c0, fun i e he => en7_of (hc i e he)⟩
    · exact ⟨0, 0, fun h => absurd h h0, fun h => absurd h h0, fun i e he => by have := (List.getElem?_eq_some_iff.1 he).1; omega⟩
  have HROW := Lib.hid hrow
  have HQ := Lib.hid hq
  obtain ⟨W1, hW1, g1, a0⟩ := box1 w (.slice q n cap) 24
  have HW := Lib.hid hW1
  have hs1 : W1.heap.size = w.heap.size + 1 := by rw [← hW1]; simp
  clear hW1 hr hf hn he HCA0 hrow hq
  refine (callsIn_wide (n := 6)).1 ?_
  refine callsIn_of_wp_marks Tryz.func33 rfl trivial ?_ rfl
  simp only [Tryz.ntmps33, List.size_toArray, List.length_cons, List.length_nil, Nat.reduceAdd, Nat.reduceSub, Array.replicate_succ, Array.replicate_zero, List.push_toArray, List.append_toArray, List.nil_append, List.cons_append]
  gi_wp2_with fail
  rw [HW.out]
  clear HW
  refine wpIn_scope_one ?_
  gi_wp2_with fail
  refine ⟨trivial, ?_⟩
  gi_at_call 12
  refine (callsIn_wide.2 (HCA.out _ g1)).mono ?_
  rintro e W2 ⟨rfl, hg2⟩
  replace a0 := hg2.cell a0
  have G2 := Lib.hid (g1.trans hg2)
  have hsz2 := hg2.size
  clear hg2 HCA
  obtain ⟨W3, hW3, g3, x0⟩ := box1 W2 (.slice none 0 0) 55
  have xb : W3.heap[W2.heap.size]? = some (.cells #[.slice none 0 0] 55 (0, 0)) := by rw [← hW3]; exact heap_alloc_new W2 _
  have hs3 : W3.heap.size = W2.heap.size + 1 := by rw [← hW3]; simp
  have HW3 := Lib.hid hW3
  have a03 := g3.cell a0
  gi_wp2_with fail
  refine wpIn_label ?_
  gi_wp2_with fail
  refine ⟨trivial, ?_⟩
  gi_at_call 75
  refine (callsIn_wide.2 (desks_c q n cap W3)).mono ?_
  rintro e W6 ⟨rfl, hW6⟩
  obtain ⟨W7, hW7, g7, bk0⟩ := box1 W3 (.slice q n cap) 24
  obtain rfl : W7 = W6 := hW7.symm.trans hW6.symm
  have hBl : W7.heap[W3.heap.size]? = some (.cells #[.slice q n cap] 24 (0, 0)) := by rw [← hW7]; exact heap_alloc_new W3 _
  have G7 := Lib.hid (G2.out.trans (g3.trans g7))
  have HBK : Hid (DkF W3.heap.size q b off n cap l W7) := ⟨hBl, fun i e he => (HROW.out i e he).gr G7.out⟩
  obtain ⟨X, hX⟩ : ∃ X, W2.heap.size = X := ⟨_, rfl⟩
  obtain ⟨base, hbase⟩ : ∃ base, X + 1 = base := ⟨_, rfl⟩
  rw [hX] at xb hs3 hsz2 ⊢
  have HXB : Hid (X + 1 = base ∧ w.heap.size < X ∧ w.heap.size < base) := ⟨hbase, by omega, by omega⟩
  have HP7 : Hid (MkI base X [] W7) := ⟨_, Gr.block g7 xb, World.ownsRow_nil _ _ _ _⟩
  have HS7 : Hid (base ≤ W7.heap.size) := by have := Below.size g7; rw [Hid]; omega
  have HBl7 : Hid (base ≤ W3.heap.size) := by rw [Hid]; omega
  clear hW6 hW7 hBl g7 bk0 g3 xb x0 a0 a03 HW3 hW3 hs1 g1
  gi_wp2_with fail
  have hxx := HXB.out
  have hWB : W3.heap.size = base := by omega
  rw [hWB] at HBK
  refine wpIn_rangeFunc_ownH rfl (by decide) (gf := 120) (lb := #[.pointer (some ⟨base, 0, none⟩)]) rfl trivial (enters_of Tryz.func120 (by kernel_rfl) rfl)
    (desks_stops base n b off cap q HQ.out l HN.out.symm h1 hcap hmx (KpM base X) (fun A B hk hb => ⟨hk base _ _ _ hb.box (fun _ h => by cases h) (.inr (by decide)), fun i x hx => (hb.row i x hx).kpM hk (by have := hbw (by have := (List.getElem?_eq_some_iff.1 hx).1; have := HN.out; omega); omega) (by have := hbw (by have := (List.getElem?_eq_some_iff.1 hx).1; have := HN.out; omega); omega)⟩) W7 HBK.out)
    kpM_t (fun W l o o' _ h1 h2 _ => kpM_putObj W l o o' h1 h2) (Below.refl _ _) (fun _ => rfl)
    (fun pre W => MkI base X (pre.flatMap fun (y : Grp l) => gapG y.1.1) W ∧ Below w.heap.size w W ∧ base ≤ W.heap.size ∧ DkF base q b off n cap l W)
    (fun _ _ _ => False)
    (OwnFrom.and (Own.from (MkI.own _) _) (OwnFrom.and (ownFrom_below (Nat.le_refl _) (Below.size G7.out)) (OwnFrom.and (fun s A B row hs hg _ => Nat.le_trans hs hg.size) (Own.from DkF.own _))))
    (fun _ _ _ _ _ hs _ _ => hs)
    ⟨by simpa using HP7.out, G7.out, HS7.out, HBK.out⟩
    (fun (y : Grp l) a' W => ∃ (u0 u1 u2 u3 u4 u8 u9 u10 u11 u12 u13 u14 u15 u16 u17 u18 u19 u20 u21 u22 u23 u24 u25 u26 u27 u28 u29 u30 u31 u32 u33 u34 u35 u36 u37 u38 u39 : Value), a' = ({ tmps := #[u0, u1, u2, u3, u4, .pointer (some ⟨X, 0, none⟩), .string (deskOf y.1.1), .slice (some ⟨b, off + y.1.2 * 7, none⟩) y.1.1.length (cap - y.1.2), u8, u9, u10, u11, u12, u13, u14, u15, u16, u17, u18, u19, u20, u21, u22, u23, u24, u25, u26, u27, u28, u29, u30, u31, u32, u33, u34, u35, u36, u37, u38, u39], defers := [] } : Act))
    (fun y a' => fun _ A B row hs hg hr => hs)
    ?assign ?body ?done ?stop
  case assign =>
    rintro lp pre y W K ⟨hI, hB, hZ, hD⟩ hK
    have HKK := Lib.hid (fun a' hh => hK a' W (KeepsFrom.refl _ _) (kpM_gr (Gr.refl _)) ⟨hI, hB, hZ, hD⟩ hh)
    clear hK hI hB hD
    gi_wp2
    exact HKK.out _ ⟨_, _, _, _, _, _, _, _, _, _, _, _, _, _, _, _, _, _, _, _, _, _, _, _, _, _, _, _, _, _, _, _, _, _, _, _, _, rfl⟩
  case body =>
    rintro lp pre ⟨⟨g, s⟩, hgk⟩ a' W hlw ⟨r8, hlr⟩ ⟨hI, hB, hZ, hD⟩ ⟨u0, u1, u2, u3, u4, u8, u9, u10, u11, u12, u13, u14, u15, u16, u17, u18, u19, u20, u21, u22, u23, u24, u25, u26, u27, u28, u29, u30, u31, u32, u33, u34, u35, u36, u37, u38, u39, rfl⟩ hpre
    simp only
    obtain ⟨i0, hi, hz0, hz1, hz2⟩ := info_parts infoMkP
    have HI0 := Lib.hid (And.intro hi (And.intro hz0 (And.intro hz1 hz2)))
    obtain ⟨k, hk⟩ : ∃ k, k = g.length := ⟨_, rfl⟩
    have HK := Lib.hid hk
    obtain ⟨dk, hdk⟩ : ∃ d, d = deskOf g := ⟨_, rfl⟩
    have HDK := Lib.hid hdk
    rw [← hk, ← hdk]
    have hkn : s + k ≤ n := by have := hgk.le; have := HN.out; simp only at *; omega
    have HGE : Hid (∀ c, c < k → ∃ e, g[c]? = some e ∧ En7 W b (off + s * 7 + c * 7) e) := fun c hc => by
      obtain ⟨e, he⟩ : ∃ e, g[c]? = some e := ⟨g[c]'(by omega), List.getElem?_eq_getElem _⟩
      refine ⟨e, he, ?_⟩
      have := hD.row (s + c) e (hgk.at_ c e he)
      rw [show off + (s + c) * 7 = off + s * 7 + c * 7 by omega] at this
      exact this
    have HII := Lib.hid hI
    have HBB := Lib.hid hB
    have HDD := Lib.hid hD
    have HPL : Hid (pre.length < n) := hpre
    obtain ⟨cc, hcc⟩ : ∃ c, c = cap - s := ⟨_, rfl⟩
    rw [← hcc]
    clear hk hdk hI hB hD hcc hi hz0 hz1 hz2 hpre
    gi_wp2
    gi_loopw [21] (fun dv wr => ∃ c : Nat, dv = .int .i64 (c : Int) ∧ c ≤ k ∧ Hid (cntN 0 g = cntN c (g.drop c)) ∧ Hid (Gr W wr)) (fun dv _ => k + 1 - (intOf dv).toNat)
    case atStart => exact ⟨0, rfl, Nat.zero_le _, rfl, Gr.refl _⟩
    case round =>
      obtain ⟨c, rfl, hck, HC, HGW⟩ := hrel
      by_cases hlt : c < k
      · have hlt2 : (c : Int) < (k : Int) := by omega
        obtain ⟨e, he, ce⟩ := HGE.out c hlt
        replace ce := ce.gr HGW.out
        have hstep := cntN_step he
        have hw1 : IntKind.i64.wrap ((c : Int) + 1) = (c : Int) + 1 := by rw [IntKind.wrap_i64]; omega
        obtain ⟨e0, e1, e2, e3, e4, e5, e6⟩ := ce
        have gE := (Gr.refl wr).alloc (.cells #[.string e.de, .int .i64 e.nu, .int .i64 e.ck, .string e.ro, .int .i64 e.va, .string e.st, .slice e.p e.n e.cap] 77)
        have HGE2 := Lib.hid (HGW.out.trans gE)
        clear gE
        by_cases hq : e.nu = (c : Int) + 1
        · have hq2 : (e.nu != (c : Int) + 1) = false := bne_eq_false_iff_eq.2 hq
          rw [if_pos hq] at hstep
          have HC2 : Hid (cntN 0 g = cntN (c + 1) (g.drop (c + 1))) := by rw [Hid, HC.out, hstep]
          clear hstep he hq
          gi_wp2
          refine ⟨⟨c + 1, by go_num, by omega, HC2, HGE2⟩, ?_⟩
          simp [intOf]
          omega
        · have hq2 : (e.nu != (c : Int) + 1) = true := bne_iff_ne.2 hq
          rw [if_neg hq] at hstep
          have HCE : Hid (gapG g = [⟨dk, (c : Int) + 1⟩]) := by rw [Hid, HDK.out]; exact gapG_at (by rw [HC.out, hstep]) (by have := HK.out; omega)
          clear hstep he
          have hszE := Below.size HGE2.out
          obtain ⟨v2, xb2, hown2⟩ := (HII.out.gr HGE2.out).out
          have x2 := cell1_of xb2
          obtain ⟨L2, hL2⟩ : ∃ L2, L2 = pre.flatMap fun (y : Grp l) => gapG y.1.1 := ⟨_, rfl⟩
          have HL2 := Lib.hid hL2
          rw [← hL2] at hown2
          have hln : L2.length < n := by have := gapF_len (fun (y : Grp l) => y.1.1) pre; have := HPL.out; rw [hL2]; omega
          clear hL2
          obtain ⟨p2, c2, rfl, _, _⟩ := own_shape hown2
          have gA := (Gr.refl (wr.alloc (.cells #[.string e.de, .int .i64 e.nu, .int .i64 e.ck, .string e.ro, .int .i64 e.va, .string e.st, .slice e.p e.n e.cap] 77))).alloc (.cells #[.string dk, .int .i64 ((c : Int) + 1)] 84)
          have hownA := own_kept hown2 gA
          have hxA := Gr.block gA xb2
          have hszA : base ≤ ((wr.alloc (.cells #[.string e.de, .int .i64 e.nu, .int .i64 e.ck, .string e.ro, .int .i64 e.va, .string e.st, .slice e.p e.n e.cap] 77)).alloc (.cells #[.string dk, .int .i64 ((c : Int) + 1)] 84)).heap.size := Nat.le_trans (Nat.le_trans hZ hszE) (Below.size gA)
          have hbA : Below w.heap.size w ((wr.alloc (.cells #[.string e.de, .int .i64 e.nu, .int .i64 e.ck, .string e.ro, .int .i64 e.va, .string e.st, .slice e.p e.n e.cap] 77)).alloc (.cells #[.string dk, .int .i64 ((c : Int) + 1)] 84)) := HBB.out.trans (Below.mono (HGE2.out.trans gA) (show w.heap.size ≤ _ from Below.size HBB.out))
          obtain ⟨hi, hz0, hz1, hz2⟩ := HI0.out
          have HC2M := cell_twoM (wr.alloc (.cells #[.string e.de, .int .i64 e.nu, .int .i64 e.ck, .string e.ro, .int .i64 e.va, .string e.st, .slice e.p e.n e.cap] 77)) (.string dk) (.int .i64 ((c : Int) + 1)) 84
          rw [World.size_alloc] at HC2M
          gi_wp2_with (gi_at_builtin; refine wpListIn_append_own _ rfl _ _ 55 rfl base 84 i0 (.agg #[.string ⟨#[]⟩, .int .i64 0]) 2 24 Tryz.underlying55 hi hz0 hz1 hz2 rfl (by decide) _ _ _ rfl hownA ⟨wr.heap.size + 1, 0, none⟩ 1 1 [.string dk, .int .i64 ((c : Int) + 1)] rfl rfl HC2M (one_twoM _ _) (by unfold maxLen; omega) (by omega) hszA ?_; intro v1 w1 hown1 hgrow1 _; obtain ⟨⟨x5, xf5⟩, hpi5, hkp5, hko5⟩ := MkI.store (r := ⟨dk, (c : Int) + 1⟩) (L := L2) (by have := HXB.out; omega) hxA hownA hgrow1 hown1; have HGW9 : Hid (World.grownBy _ w1 _) := hgrow1; obtain ⟨p9, c9, rfl, _, _⟩ := own_shape hown1)
          have hbl5 := MkI.below (base := base) (X := X) (v1 := .slice p9 (L2.length + 1) c9) (n₀ := w.heap.size) (by omega) (by omega) hbA (show w.heap.size ≤ _ from Below.size hbA) hownA HGW9.out
          have hsz5 : base ≤ (w1.setCell ⟨X, 0, none⟩ (.slice p9 (L2.length + 1) c9)).heap.size := by rw [World.size_setCell]; exact Nat.le_trans hszA HGW9.out.size
          have hkpA : KpM base X W (w1.setCell ⟨X, 0, none⟩ (.slice p9 (L2.length + 1) c9)) := kpM_t (kpM_gr (HGE2.out.trans gA)) hkp5
          have hdf : DkF base q b off n cap l (w1.setCell ⟨X, 0, none⟩ (.slice p9 (L2.length + 1) c9)) := ⟨hkpA base _ _ _ HDD.out.box (fun _ h => by cases h) (.inr (by decide)), fun i x hx => (HDD.out.row i x hx).kpM hkpA (by have := hbw (by omega); omega) (by have := hbw (by omega); omega)⟩
          refine ⟨((gr_others (HGE2.out.trans gA)).trans hko5).from _, hkpA, ?_, hbl5, hsz5, hdf⟩
          have hfin : (pre ++ [(⟨(g, s), hgk⟩ : Grp l)]).flatMap (fun (y : Grp l) => gapG y.1.1) = L2 ++ [⟨dk, (c : Int) + 1⟩] := by
            rw [List.flatMap_append, ← HL2.out, List.flatMap_singleton]
            simp only
            rw [HCE.out]
          rw [hfin]
          exact hpi5
      · have hlt2 : ¬ (c : Int) < (k : Int) := by omega
        have HCE : Hid (gapG g = []) := gapG_no (by have := HK.out; rw [HC.out, cntN_end (by omega)]; omega)
        have HCE2 : Hid ((pre ++ [(⟨(g, s), hgk⟩ : Grp l)]).flatMap (fun (y : Grp l) => gapG y.1.1) = pre.flatMap fun (y : Grp l) => gapG y.1.1) := by
          rw [Hid, List.flatMap_append, List.flatMap_singleton]
          simp only
          rw [HCE.out, List.append_nil]
        gi_wp2
        refine ⟨(gr_others HGW.out).from _, kpM_gr HGW.out, ?_, HBB.out.trans (Below.mono HGW.out (show w.heap.size ≤ _ from Below.size HBB.out)), Nat.le_trans hZ (Below.size HGW.out), HDD.out.gr HGW.out⟩
        rw [HCE2.out]
        exact HII.out.gr HGW.out
  case done =>
    rintro D ys W hD hys ⟨hI, hB, hZ, _⟩ hKD
    have hL : ys.flatMap (fun (y : Grp l) => gapG y.1.1) = gapsP l := by
      have := hys.out
      unfold gapsP
      rw [← this, List.flatMap_map]
    rw [hL] at hI
    obtain ⟨v9, xb9, hown9⟩ := hI.out
    obtain ⟨p9, c9, rfl, hc1, hc2⟩ := own_shape hown9
    have x9 := cell1_of xb9
    have HOW9 := Lib.hid hown9
    have hG9 : Hid (Gr w (W.putObj D (.deferred none))) := hB.trans (belowK_b (w := w) (Nat.le_refl _) W D _ _ (Nat.le_trans (Below.size G7.out) hD) hKD rfl rfl)
    clear hI hB hL hys xb9 hown9
    gi_wp2
    refine ⟨by simp, .inl ⟨_, _, rfl, run_takeDeferred hKD, ?_⟩⟩
    refine ⟨_, by simp [results, Tryz.results33, go_sem], ⟨⟨p9, c9, rfl, ⟨hc1, hc2⟩, ?_⟩, hG9.out⟩⟩
    exact MkS.of_own (own_turn HOW9.out (grownBy_putObj' W D _) (fun r e => by cases e; exact ⟨_, hKD, rfl⟩)) rfl
  case stop =>
    rintro D c pre W _ _ h _
    exact h.elim
end Go.Proofs.YtnihclhhbegjhaaGreatDoor
namespace Go.Proofs.YtnihclhhbegjhaaGreatDoor
open Go.RowKit Go.Lib
set_option linter.unusedSimpArgs false
set_option linter.unusedVariables false
theorem EnS.lens {w : World} {q : Option Addr} {l : List EnR} (h : EnS w q l) : ∀ e ∈ l, e.xs.length = e.n := fun e he => by
  obtain ⟨i, hi⟩ := List.mem_iff_getElem?.1 he
  obtain ⟨b, off, _, hc⟩ := h.out (by have := (List.getElem?_eq_some_iff.1 hi).1; omega)
  exact (hc i e hi).rows.len
theorem arch_few {l : List EnR} (h : archE l = 0) : ∀ e ∈ l, e.xs.length ≤ 160 := fun e he => by
  have h1 := (arch_ord h).2 e he
  unfold enErr entryE at h1
  refine sheetE_few (ro := e.ro) (va := e.va) (st := e.st) ?_
  simp only [firstE] at h1
  split at h1 <;> try split at h1 <;> try split at h1 <;> try split at h1
  all_goals first | assumption | (exfalso; omega)
theorem firstE_two (x y : Int) : firstE [x, y] = if x = 0 then (if y = 0 then 0 else y) else x := rfl
theorem gapsP_len (l : List EnR) : (gapsP l).length ≤ l.length := by
  have h1 : ∀ gs : List (List EnR), (gs.flatMap gapG).length ≤ gs.length := by
    intro gs
    induction gs with
    | nil => simp
    | cons g gs ih =>
      have := gapG_len g
      simp only [List.flatMap_cons, List.length_append, List.length_cons]
      omega
  exact Nat.le_trans (h1 _) (groups_len _ _)
theorem vecP_len (l : List EnR) : (vecP l).length ≤ l.length := by
  unfold vecP; rw [List.length_map]; exact groups_len _ _
theorem en_nil (w : World) : EnS w none [] := ⟨fun h => absurd h (by simp)⟩
end Go.Proofs.YtnihclhhbegjhaaGreatDoor
namespace Go.Proofs.YtnihclhhbegjhaaGreatDoor
open Go.RowKit Go.Lib
set_option linter.unusedSimpArgs false
set_option linter.unusedVariables false
structure RetB (e : Ending) (P : Prop) : Prop where
  mk' ::
  out : ∃ b, e = .returned (.bool b) ∧ Hid (b = true ↔ P)
theorem list_ext {α : Type} {xs ys : List α} {n : Nat} (h1 : xs.length = n) (h2 : ys.length = n) (h : ∀ j, j < n → xs[j]? = ys[j]?) : xs = ys := by
  apply List.ext_getElem?
  intro j
  rcases Nat.lt_or_ge j n with hj | hj
  · exact h j hj
  · rw [List.getElem?_eq_none (by omega), List.getElem?_eq_none (by omega)]
set_option maxHeartbeats 4000000 in
set_option maxRecDepth 100000 in
theorem equalI_c {xs ys : List Int} {n m : Nat} {q1 q2 : Option Addr} {c c2 : Nat} {w : World} (h : IntS w q1 n xs) (h2 : IntS w q2 m ys) (hs : n ≤ 1000) :
    Calls Tryz.prog 218 #[.slice q1 n c, .slice q2 m c2] w fun e w' => RetB e (xs = ys) ∧ Gr w w' := by
  have HA := Lib.hid h.out
  have HB := Lib.hid h2.out
  have HN := Lib.hid h.len
  have HM := Lib.hid h2.len
  clear h h2
  by_cases hnm : n = m
  · subst hnm
    go_enter Tryz.func218, Tryz.ntmps218
    go_wp2_with fail
    go_loopg [5, 13] n (fun gk s5 s13 wr => ∃ k : Nat, s13 = .int .i64 k ∧ gk + k = n ∧ Hid (∀ j, j < k → xs[j]? = ys[j]?) ∧ Gr w wr)
    case atStart => exact ⟨0, rfl, by omega, fun j hj => by omega, Gr.refl _⟩
    case round =>
      obtain ⟨k, rfl, hk, HJ, hg⟩ := hrel
      by_cases hlt : k < n
      · obtain ⟨x, hx⟩ : ∃ x, xs[k]? = some x := ⟨xs[k]'(by have := HN.out; omega), List.getElem?_eq_getElem _⟩
        obtain ⟨y, hy⟩ : ∃ y, ys[k]? = some y := ⟨ys[k]'(by have := HM.out; omega), List.getElem?_eq_getElem _⟩
        obtain ⟨b1, o1, rfl, ha⟩ := HA.out (by omega)
        obtain ⟨b2, o2, rfl, hb⟩ := HB.out (by omega)
        have a0 := hg.cell (ha k x hx)
        have b0 := hg.cell (hb k y hy)
        have hi : (k : Int) < (n : Int) := by omega
        have HX := Lib.hid hx
        have HY := Lib.hid hy
        clear hx hy ha hb
        by_cases hq : x = y
        · subst hq
          have HJ2 : Hid (∀ j, j < k + 1 → xs[j]? = ys[j]?) := fun j hj => by
            rcases Nat.lt_or_ge j k with h | h
            · exact HJ.out j h
            · obtain rfl : j = k := by omega
              rw [HX.out, HY.out]
          clear HX HY
          go_wp2_with fail
          go_quiet (fail)
          go_wp2_with fail
          go_roundg (gk - 1)
          case measure => omega
          case rel => exact ⟨k + 1, by go_num, by omega, HJ2, hg.drewN _⟩
        · have hq2 : (x != y) = true := bne_iff_ne.2 hq
          have HNE : Hid (¬ xs = ys) := fun e => by
            have h1 := HX.out
            have h2 := HY.out
            rw [e, h2] at h1
            exact hq (Option.some.inj h1).symm
          have HQ := Lib.hid hq
          clear HX HY HJ hq
          go_wp2_with fail
          go_quiet (fail)
          go_wp2_with fail
          go_ret
          exact ⟨⟨false, rfl, by rw [Hid]; simp [HNE.out]⟩, hg.drewN _⟩
      · obtain rfl : k = n := by omega
        have hi : (k : Int) ≤ k := by omega
        have HEQ : Hid (xs = ys) := list_ext HN.out HM.out HJ.out
        go_wp2_with fail
        go_ret
        exact ⟨⟨true, rfl, by rw [Hid]; simp [HEQ.out]⟩, hg⟩
  · have hnm2 : ¬ (n : Int) = (m : Int) := by omega
    have HNE : Hid (¬ xs = ys) := fun e => by have h1 := HN.out; have h2 := HM.out; rw [e] at h1; omega
    go_enter Tryz.func218, Tryz.ntmps218
    go_wp2_with fail
    go_ret
    exact ⟨⟨false, rfl, by rw [Hid]; simp [HNE.out]⟩, Gr.refl _⟩
theorem rk_eq {x y : RowR} : rk x = rk y ↔ x.nm = y.nm ∧ x.st = y.st ∧ x.xs = y.xs := by unfold rk; simp
theorem baEq {s t : ByteArray} : (s.toList == t.toList) = true ↔ s = t := ⟨fun h => baI (beq_iff_eq.1 h), fun h => by rw [h]; exact beq_self_eq_true _⟩
set_option maxHeartbeats 4000000 in
set_option maxRecDepth 100000 in
theorem isSameR_c {x y : RowR} {w : World} (h1 : IntsV w x.u x.xs) (h2 : IntsV w y.u y.xs) (hl : x.xs.length ≤ 1000) :
    Calls Tryz.prog 167 #[.agg #[.string x.nm, .string x.st, x.u], .agg #[.string y.nm, .string y.st, y.u]] w fun e w' => RetB e (rk x = rk y) ∧ Gr w w' := by
  obtain ⟨nm, st, u, xs⟩ := x
  obtain ⟨nm2, st2, u2, ys⟩ := y
  simp only at h1 h2 hl
  rw [rk_eq]
  simp only
  obtain ⟨⟨p1, k1, e1, _⟩⟩ := id h1
  obtain ⟨⟨p2, k2, e2, _⟩⟩ := id h2
  rw [e1] at h1
  rw [e2] at h2
  rw [e1, e2]
  have HS := Lib.hid (fun V (g : Gr w V) => equalI_c (c := k1) (c2 := k2) ((h1.gr g).intS.2) ((h2.gr g).intS.2) hl)
  have HQ1 : Hid ((nm.toList == nm2.toList) = true ↔ nm = nm2) := baEq
  have HQ2 : Hid ((st.toList == st2.toList) = true ↔ st = st2) := baEq
  obtain ⟨W1, hW1, g1, a0, a1, a2⟩ := box3 w (.string nm) (.string st) (.slice p1 xs.length k1) 91
  obtain ⟨W2, hW2, g2, b0, b1, b2⟩ := box3 W1 (.string nm2) (.string st2) (.slice p2 ys.length k2) 91
  replace a0 := g2.cell a0
  replace a1 := g2.cell a1
  replace a2 := g2.cell a2
  have g := g1.trans g2
  have hsz : W1.heap.size = w.heap.size + 1 := by rw [← hW1]; simp
  rw [hsz] at b0 b1 b2
  rw [← hW1] at hW2
  have HW := Lib.hid hW2
  clear hW1 hW2 g1 g2 hsz
  clear h1 h2 e1 e2
  generalize xs.length = n at *
  generalize ys.length = m at *
  cases hn1 : (nm.toList == nm2.toList)
  · rw [hn1] at HQ1
    go_enter Tryz.func167, Tryz.ntmps167
    go_wp2_with fail
    rw [HW.out]
    clear HW
    generalize w.heap.size + 1 = Cx at *
    generalize w.heap.size = Bx at *
    go_wp2_with fail
    go_ret
    exact ⟨⟨false, rfl, ⟨(fun h => by cases h), fun h => HQ1.out.2 h.1⟩⟩, g⟩
  · rw [hn1] at HQ1
    cases hn2 : (st.toList == st2.toList)
    · rw [hn2] at HQ2
      go_enter Tryz.func167, Tryz.ntmps167
      go_wp2_with fail
      rw [HW.out]
      clear HW
      generalize w.heap.size + 1 = Cx at *
      generalize w.heap.size = Bx at *
      go_wp2_with fail
      go_ret
      exact ⟨⟨false, rfl, ⟨(fun h => by cases h), fun h => HQ2.out.2 h.2.1⟩⟩, g⟩
    · rw [hn2] at HQ2
      go_enter Tryz.func167, Tryz.ntmps167
      go_wp2_with fail
      rw [HW.out]
      clear HW
      generalize w.heap.size + 1 = Cx at *
      generalize w.heap.size = Bx at *
      go_wp2_with fail
      refine (HS.out _ g).mono ?_
      rintro e w4 ⟨⟨b, rfl, hb⟩, hg⟩
      have HB := Lib.hid hb.out
      clear hb
      go_wp2_with fail
      go_ret
      exact ⟨⟨b, rfl, ⟨fun h => ⟨HQ1.out.1 (by simp), HQ2.out.1 (by simp), HB.out.1 h⟩, fun h => HB.out.2 h.2.2⟩⟩, g.trans hg⟩
set_option maxHeartbeats 4000000 in
set_option maxRecDepth 100000 in
theorem equalR_c {xs ys : List RowR} {n m : Nat} {q1 q2 : Option Addr} {c c2 : Nat} {w : World} (h : RowsX w q1 n c xs) (h2 : RowsX w q2 m c2 ys) (hs : n ≤ 1000) (hl : ∀ x ∈ xs, x.xs.length ≤ 1000) :
    Calls Tryz.prog 166 #[.slice q1 n c, .slice q2 m c2, .func (.func 167) #[] #[]] w fun e w' => RetB e (xs.map rk = ys.map rk) ∧ Gr w w' := by
  have HA := Lib.hid h.at_
  have HB := Lib.hid h2.at_
  have HN := Lib.hid h.len
  have HM := Lib.hid h2.len
  have HL := Lib.hid hl
  clear h h2 hl
  by_cases hnm : n = m
  · subst hnm
    go_enter Tryz.func166, Tryz.ntmps166
    go_wp2_with fail
    go_loopg [7, 17] n (fun gk s7 s17 wr => ∃ k : Nat, s17 = .int .i64 k ∧ gk + k = n ∧ Hid (∀ j, j < k → (xs.map rk)[j]? = (ys.map rk)[j]?) ∧ Hid (Gr w wr))
    case atStart => exact ⟨0, rfl, by omega, fun j hj => by omega, Gr.refl _⟩
    case round =>
      obtain ⟨k, rfl, hk, HJ, HG⟩ := hrel
      by_cases hlt : k < n
      · obtain ⟨x, hx⟩ : ∃ x, xs[k]? = some x := ⟨xs[k]'(by have := HN.out; omega), List.getElem?_eq_getElem _⟩
        obtain ⟨y, hy⟩ : ∃ y, ys[k]? = some y := ⟨ys[k]'(by have := HM.out; omega), List.getElem?_eq_getElem _⟩
        obtain ⟨b1, o1, rfl, ha⟩ := HA.out (by omega)
        obtain ⟨b2, o2, rfl, hb⟩ := HB.out (by omega)
        obtain ⟨a0, a1, a2, hv⟩ := (ha k x hx).gr HG.out
        obtain ⟨b0, b1', b2', hv2⟩ := (hb k y hy).gr HG.out
        have hi : (k : Int) < (n : Int) := by omega
        have HX := Lib.hid hx
        have HY := Lib.hid hy
        have HX2 : Hid ((xs.map rk)[k]? = some (rk x)) := by rw [Hid, List.getElem?_map, hx]; rfl
        have HY2 : Hid ((ys.map rk)[k]? = some (rk y)) := by rw [Hid, List.getElem?_map, hy]; rfl
        have hxl := HL.out x (List.mem_of_getElem? hx)
        obtain ⟨⟨pu, cu, hu, _⟩⟩ := id hv
        obtain ⟨⟨pu2, cu2, hu2, _⟩⟩ := id hv2
        obtain ⟨WB, hWB, gB, c0, c1, c2x⟩ := box3 wr (.string x.nm) (.string x.st) x.u 91
        obtain ⟨WC, hWC, gC, d0, d1, d2x⟩ := box3 WB (.string y.nm) (.string y.st) y.u 91
        have gBC := gB.trans gC
        have HCR := Lib.hid (isSameR_c (x := x) (y := y) (hv.gr gBC) (hv2.gr gBC) hxl)
        rw [hu] at a2 HCR
        rw [hu2] at HCR
        have g9 := HG.out.trans gBC
        replace b0 := gB.cell b0
        replace b1' := gB.cell b1'
        replace b2' := gB.cell b2'
        rw [hu2] at b2'
        rw [← hWB] at b0 b1' b2'
        rw [hu] at b0 b1' b2'
        rw [← hWB] at hWC
        rw [hu] at hWC
        rw [hu2] at hWC
        rw [← hWC] at HCR g9
        have HG9 := Lib.hid g9
        clear hx hy ha hb hv hv2 hu hu2 hWB hWC gB gC gBC c0 c1 c2x d0 d1 d2x g9 hxl HX HY
        go_wp2_with fail
        refine HCR.out.mono ?_
        rintro e V ⟨⟨b, rfl, hb⟩, hg⟩
        have HBB := Lib.hid hb.out
        clear hb
        have HGV := Lib.hid (HG9.out.trans hg)
        clear hg HCR a0 a1 a2 b0 b1' b2'
        cases b
        · have HNE : Hid (¬ xs.map rk = ys.map rk) := fun e => by
            have h1 := HX2.out
            rw [e, HY2.out] at h1
            have := HBB.out.2 (Option.some.inj h1).symm
            cases this
          clear HX2 HY2 HBB
          go_wp2_with fail
          go_ret
          exact ⟨⟨false, rfl, by rw [Hid]; simp [HNE.out]⟩, HGV.out⟩
        · have HJ2 : Hid (∀ j, j < k + 1 → (xs.map rk)[j]? = (ys.map rk)[j]?) := fun j hj => by
            rcases Nat.lt_or_ge j k with h | h
            · exact HJ.out j h
            · obtain rfl : j = k := by omega
              rw [HX2.out, HY2.out, HBB.out.1 rfl]
          clear HX2 HY2 HBB
          go_wp2_with fail
          go_roundg (gk - 1)
          case measure => omega
          case rel => exact ⟨k + 1, by go_num, by omega, HJ2, HGV⟩
      · obtain rfl : k = n := by omega
        have hi : (k : Int) ≤ k := by omega
        have HEQ : Hid (xs.map rk = ys.map rk) := list_ext (by rw [List.length_map]; exact HN.out) (by rw [List.length_map]; exact HM.out) HJ.out
        go_wp2_with fail
        go_ret
        exact ⟨⟨true, rfl, by rw [Hid]; simp [HEQ.out]⟩, HG.out⟩
  · have hnm2 : ¬ (n : Int) = (m : Int) := by omega
    have HNE : Hid (¬ xs.map rk = ys.map rk) := fun e => by have h1 := HN.out; have h2 := HM.out; have := congrArg List.length e; rw [List.length_map, List.length_map] at this; omega
    go_enter Tryz.func166, Tryz.ntmps166
    go_wp2_with fail
    go_ret
    exact ⟨⟨false, rfl, by rw [Hid]; simp [HNE.out]⟩, Gr.refl _⟩
def shk (e : EnR) : ByteArray × Int × ByteArray × List (ByteArray × ByteArray × List Int) := (e.ro, e.va, e.st, e.xs.map rk)
theorem shk_eq {x y : EnR} : shk x = shk y ↔ x.ro = y.ro ∧ x.va = y.va ∧ x.st = y.st ∧ x.xs.map rk = y.xs.map rk := by unfold shk; simp
set_option maxHeartbeats 4000000 in
set_option maxRecDepth 100000 in
theorem isSameS_c {x y : EnR} {w : World} (h1 : RowsX w x.p x.n x.cap x.xs) (h2 : RowsX w y.p y.n y.cap y.xs) (hs : x.n ≤ 1000) (hl : ∀ z ∈ x.xs, z.xs.length ≤ 1000) :
    Calls Tryz.prog 109 #[.agg #[.string x.ro, .int .i64 x.va, .string x.st, .slice x.p x.n x.cap], .agg #[.string y.ro, .int .i64 y.va, .string y.st, .slice y.p y.n y.cap]] w fun e w' => RetB e (shk x = shk y) ∧ Gr w w' := by
  rw [shk_eq]
  have HS := Lib.hid (fun V (g : Gr w V) => equalR_c (h1.gr g) (h2.gr g) hs hl)
  have HQ1 : Hid ((x.ro.toList == y.ro.toList) = true ↔ x.ro = y.ro) := baEq
  have HQ2 : Hid ((x.st.toList == y.st.toList) = true ↔ x.st = y.st) := baEq
  obtain ⟨W1, hW1, g1, a0, a1, a2, a3⟩ := box4 w (.string x.ro) (.int .i64 x.va) (.string x.st) (.slice x.p x.n x.cap) 27
  obtain ⟨W2, hW2, g2, b0, b1, b2, b3⟩ := box4 W1 (.string y.ro) (.int .i64 y.va) (.string y.st) (.slice y.p y.n y.cap) 27
  replace a0 := g2.cell a0
  replace a1 := g2.cell a1
  replace a2 := g2.cell a2
  replace a3 := g2.cell a3
  have g := g1.trans g2
  have hsz : W1.heap.size = w.heap.size + 1 := by rw [← hW1]; simp
  rw [hsz] at b0 b1 b2 b3
  rw [← hW1] at hW2
  have HW := Lib.hid hW2
  clear hW1 hW2 g1 g2 hsz
  clear h1 h2
  cases hn1 : (x.ro.toList == y.ro.toList)
  · rw [hn1] at HQ1
    go_enter Tryz.func109, Tryz.ntmps109
    go_wp2_with fail
    rw [HW.out]
    clear HW
    generalize w.heap.size + 1 = Cx at *
    generalize w.heap.size = Bx at *
    go_wp2_with fail
    go_ret
    exact ⟨⟨false, rfl, ⟨(fun h => by cases h), fun h => HQ1.out.2 h.1⟩⟩, g⟩
  · rw [hn1] at HQ1
    by_cases hva : x.va = y.va
    · have hv1 : (x.va == y.va) = true := beq_iff_eq.2 hva
      have HVA := Lib.hid hva
      clear hva
      cases hn2 : (x.st.toList == y.st.toList)
      · rw [hn2] at HQ2
        go_enter Tryz.func109, Tryz.ntmps109
        go_wp2_with fail
        rw [HW.out]
        clear HW
        generalize w.heap.size + 1 = Cx at *
        generalize w.heap.size = Bx at *
        go_wp2_with fail
        go_ret
        exact ⟨⟨false, rfl, ⟨(fun h => by cases h), fun h => HQ2.out.2 h.2.2.1⟩⟩, g⟩
      · rw [hn2] at HQ2
        go_enter Tryz.func109, Tryz.ntmps109
        go_wp2_with fail
        rw [HW.out]
        clear HW
        generalize w.heap.size + 1 = Cx at *
        generalize w.heap.size = Bx at *
        go_wp2_with fail
        refine (HS.out _ g).mono ?_
        rintro e w4 ⟨⟨b, rfl, hb⟩, hg⟩
        have HB := Lib.hid hb.out
        clear hb
        go_wp2_with fail
        go_ret
        exact ⟨⟨b, rfl, ⟨fun h => ⟨HQ1.out.1 (by simp), HVA.out, HQ2.out.1 (by simp), HB.out.1 h⟩, fun h => HB.out.2 h.2.2.2⟩⟩, g.trans hg⟩
    · have hv1 : (x.va == y.va) = false := beq_eq_false_iff_ne.2 hva
      have HVA := Lib.hid hva
      clear hva
      go_enter Tryz.func109, Tryz.ntmps109
      go_wp2_with fail
      rw [HW.out]
      clear HW
      generalize w.heap.size + 1 = Cx at *
      generalize w.heap.size = Bx at *
      go_wp2_with fail
      go_ret
      exact ⟨⟨false, rfl, ⟨(fun h => by cases h), fun h => absurd h.2.1 HVA.out⟩⟩, g⟩
end Go.Proofs.YtnihclhhbegjhaaGreatDoor
namespace Go.Proofs.YtnihclhhbegjhaaGreatDoor
open Go.RowKit Go.Lib
set_option linter.unusedSimpArgs false
set_option linter.unusedVariables false
def mkV (e : EnR) : Value := .agg #[.string e.de, .int .i64 e.nu]
def smk (y x : EnR) : Bool := (y.de == x.de) && (y.nu == x.nu)
theorem smk_iff {y x : EnR} : smk y x = true ↔ y.de = x.de ∧ y.nu = x.nu := by
  unfold smk
  rw [Bool.and_eq_true, beq_toListBytes, beq_iff_eq, beq_iff_eq]
  exact ⟨fun h => ⟨baI h.1, h.2⟩, fun h => ⟨by rw [h.1], h.2⟩⟩
theorem uMkK : Tryz.prog.underlying 198 = some (.map 84 77) := by kernel_rfl
theorem zeroEnK (w : World) : (zeroValue 77).run Tryz.prog w = .ok (.agg #[.string ⟨#[]⟩, .int .i64 0, .int .i64 0, .string ⟨#[]⟩, .int .i64 0, .string ⟨#[]⟩, .slice none 0 0]) w := by kernel_rfl
set_option maxRecDepth 100000 in
theorem mark_eqK (y x : EnR) (w : World) : (Op.equal 84 (mkV y) (mkV x)).run Tryz.prog w = .ok (smk y x) w := by
  obtain ⟨a, b, _, _, _, _, _, _, _, _⟩ := y
  obtain ⟨c, d, _, _, _, _, _, _, _, _⟩ := x
  unfold mkV smk
  simp only
  have hu := run_underlying Tryz.underlying84 w
  have hs : Tryz.prog.stoodInHeld 84 = false := by kernel_rfl
  have hpr : (Go.program).run Tryz.prog w = .ok Tryz.prog w := by rfl
  have hp0 : ∀ (a : ByteArray) (b : Int), (part 9 #[.string a, .int .i64 b] 0).run Tryz.prog w = .ok (.string a) w := fun a b => by kernel_rfl
  have hp1 : ∀ (a : ByteArray) (b : Int), (part 3 #[.string a, .int .i64 b] 1).run Tryz.prog w = .ok (.int .i64 b) w := fun a b => by kernel_rfl
  have he : ∀ x y : Int, (Op.equalIn (9998 + 1) 3 (.int .i64 x) (.int .i64 y)).run Tryz.prog w = .ok (x == y) w := fun x y => by
    have hi : (underlying 3).run Tryz.prog w = .ok (.int .i64) w := run_underlying Tryz.underlying3 w
    generalize 9998 = q
    simp [Op.equalIn, hi]
  have he9 : ∀ x y : ByteArray, (Op.equalIn (9998 + 1) 9 (.string x) (.string y)).run Tryz.prog w = .ok (x == y) w := fun x y => by
    have hi := run_underlying Tryz.underlying9 w
    generalize 9998 = q
    simp [Op.equalIn, hi]
  show (Op.equalIn ((9998 + 1) + 1) 84 _ _).run Tryz.prog w = _
  generalize 9998 + 1 = dd at *
  unfold Op.equalIn
  simp only [Sem.run_bind, hu, Result.andThen_ok, hpr]
  cases h1 : (a == c) <;> by_cases h2 : b = d <;> simp [hs, hp0, hp1, he, he9, h1, h2]
structure MapM (w : World) (g : Nat) (l : List EnR) : Prop where
  mk' ::
  out : ∃ es clock, w.heap[g]? = some (.map ⟨es⟩ clock) ∧ es.map (fun e : MapEntry => (e.key, e.val)) = l.map fun e => (mkV e, enV e)
theorem MapM.gr {w w' : World} {g : Nat} {l : List EnR} (h : MapM w g l) (k : Gr w w') : MapM w' g l := by
  obtain ⟨⟨es, clock, h1, h2⟩⟩ := h
  exact ⟨es, clock, k.block h1, h2⟩
def lookM (l : List EnR) (y : EnR) : Option EnR := l.find? fun x => smk y x
theorem mapM_find (y : EnR) (w : World) : ∀ {es : List MapEntry} {l : List EnR} (i : Nat), es.map (fun e : MapEntry => (e.key, e.val)) = l.map (fun e => (mkV e, enV e)) →
    ∃ r, (Instr.findAsking 84 (mkV y) es i).run Tryz.prog w = .ok r w ∧ r.map (·.2) = (lookM l y).map enV
  | [], [], i, _ => ⟨none, by simp [Instr.findAsking], rfl⟩
  | [], _ :: _, _, h => by simp at h
  | _ :: _, [], _, h => by simp at h
  | e :: es, x :: l, i, h => by
    simp only [List.map_cons, List.cons.injEq, Prod.mk.injEq] at h
    obtain ⟨⟨h1, h2⟩, h3⟩ := h
    obtain ⟨r, hr, hm⟩ := mapM_find y w (i + 1) h3
    cases hq : smk y x
    · refine ⟨r, ?_, ?_⟩
      · simp only [Instr.findAsking, Sem.run_bind, h1, mark_eqK, hq, Result.andThen_ok]
        simpa using hr
      · rw [hm]; unfold lookM; rw [List.find?_cons, hq]
    · refine ⟨some (i, e.val), ?_, ?_⟩
      · simp only [Instr.findAsking, Sem.run_bind, h1, mark_eqK, hq, Result.andThen_ok]
        simp
      · unfold lookM; rw [List.find?_cons, hq]; simp [h2]
theorem run_findKeyM (y : EnR) (es : List MapEntry) (w : World) : (Instr.findKey 84 (mkV y) es).run Tryz.prog w = (Instr.findAsking 84 (mkV y) es 0).run Tryz.prog w := by
  have hu := run_underlying Tryz.underlying84 w
  cases es with
  | nil => simp [Instr.findKey, hu, Instr.findNow, Instr.findAsking]
  | cons e es => simp [Instr.findKey, hu, Instr.findNow, Instr.sameNow]
set_option maxRecDepth 100000 in
theorem checkKeyM (b : Bool) (y : EnR) (w : World) : (Instr.checkKey b 10000 84 (mkV y)).run Tryz.prog w = .ok () w := by
  have hu := run_underlying Tryz.underlying84 w
  have hp0 : ∀ (a : ByteArray) (b : Int), (part 9 #[.string a, .int .i64 b] 0).run Tryz.prog w = .ok (.string a) w := fun a b => by kernel_rfl
  have hp1 : ∀ (a : ByteArray) (b : Int), (part 3 #[.string a, .int .i64 b] 1).run Tryz.prog w = .ok (.int .i64 b) w := fun a b => by kernel_rfl
  have he : ∀ x : Int, (Instr.checkKey b (9998 + 1) 3 (.int .i64 x)).run Tryz.prog w = .ok () w := fun x => by
    have hi : (underlying 3).run Tryz.prog w = .ok (.int .i64) w := run_underlying Tryz.underlying3 w
    generalize 9998 = q
    unfold Instr.checkKey
    simp only [Sem.run_bind, hi, Result.andThen_ok]
    rfl
  have he9 : ∀ x : ByteArray, (Instr.checkKey b (9998 + 1) 9 (.string x)).run Tryz.prog w = .ok () w := fun x => by
    have hi := run_underlying Tryz.underlying9 w
    generalize 9998 = q
    unfold Instr.checkKey
    simp only [Sem.run_bind, hi, Result.andThen_ok]
    rfl
  show (Instr.checkKey b ((9998 + 1) + 1) _ _).run Tryz.prog w = _
  generalize 9998 + 1 = dd at *
  unfold Instr.checkKey mkV
  simp only [Sem.run_bind, hu, Result.andThen_ok]
  simp [hp0, hp1, he, he9]
theorem mapM_look2 {w : World} {g : Nat} {l : List EnR} (h : MapM w g l) (y : EnR) : (Instr.lookup 198 (.map (some g)) (mkV y) true).run Tryz.prog w = .ok (.tuple #[((lookM l y).map enV).getD (.agg #[.string ⟨#[]⟩, .int .i64 0, .int .i64 0, .string ⟨#[]⟩, .int .i64 0, .string ⟨#[]⟩, .slice none 0 0]), .bool (lookM l y).isSome]) w := by
  obtain ⟨⟨es, clock, h1, h2⟩⟩ := h
  have hu := run_underlying uMkK w
  have hg : (getObj g).run Tryz.prog w = .ok (.map ⟨es⟩ clock) w := by simp [getObj, Sem.run, h1]
  obtain ⟨r, hr, hm⟩ := mapM_find y w 0 h2
  have hfk := (run_findKeyM y es w).trans hr
  unfold Instr.lookup
  cases r with
  | none =>
    simp only [Option.map_none] at hm
    have hn : lookM l y = none := by cases hq : lookM l y with | none => rfl | some x => rw [hq] at hm; simp at hm
    rw [hn]
    simp only [Sem.run_bind, hu, Result.andThen_ok, Sem.run_pure, hg, checkKeyM, hfk, zeroEnK]
    simp
  | some p =>
    obtain ⟨i, v⟩ := p
    cases hq : lookM l y with
    | none => rw [hq] at hm; simp at hm
    | some x =>
      rw [hq] at hm
      simp only [Option.map_some, Option.some.injEq] at hm
      simp only [Sem.run_bind, hu, Result.andThen_ok, Sem.run_pure, hg, checkKeyM, hfk]
      simp [hm]
theorem mapM_put {w : World} {g : Nat} {l : List EnR} (h : MapM w g l) (y : EnR) (hn : lookM l y = none) : ∃ ob, (Instr.mapUpdate 198 (.map (some g)) (mkV y) (enV y)).run Tryz.prog w = .ok () (putGB w g ob) ∧ MapM (putGB w g ob) g (l ++ [y]) := by
  obtain ⟨⟨es, clock, h1, h2⟩⟩ := h
  have hu := run_underlying uMkK w
  have hg : (getObj g).run Tryz.prog w = .ok (.map ⟨es⟩ clock) w := by simp [getObj, Sem.run, h1]
  have hset : ∀ ob, (setObj g ob).run Tryz.prog w = .ok () (putGB w g ob) := fun ob => by simp [setObj, Sem.run, h1, putGB]
  have hlt := (Array.getElem?_eq_some_iff.1 h1).1
  have hput : ∀ ob, (putGB w g ob).heap[g]? = some ob := fun ob => by simp [putGB, hlt]
  obtain ⟨r, hr, hm⟩ := mapM_find y w 0 h2
  rw [hn] at hm
  have hr0 : r = none := by cases r with | none => rfl | some p => simp at hm
  subst hr0
  have hfk := (run_findKeyM y es w).trans hr
  refine ⟨.map ⟨es ++ [⟨mkV y, enV y, clock⟩]⟩ (clock + 1), ?_, ⟨_, _, hput _, by simp [h2]⟩⟩
  simp [Instr.mapUpdate, hu, hg, checkKeyM, hfk, hset]
theorem mapM_new (w : World) : MapM (w.alloc (.map #[] 0)) w.heap.size [] := ⟨[], 0, heap_alloc_new _ _, rfl⟩
end Go.Proofs.YtnihclhhbegjhaaGreatDoor
