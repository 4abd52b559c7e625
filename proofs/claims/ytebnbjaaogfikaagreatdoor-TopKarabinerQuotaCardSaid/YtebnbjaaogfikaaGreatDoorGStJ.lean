/- Who goes on (chapter 6): the reference's CheckResults, of which only that it ends is asked. -/
import Derived.Test.YtebnbjaaogfikaaGreatDoorGStG
import Derived.Test.YtebnbjaaogfikaaGreatDoorGResB
import Derived.Test.YtebnbjaaogfikaaGreatDoorGRoC
namespace Go.Proofs.YtebnbjaaogfikaaGreatDoor
open Go.RowKit Go.Lib
set_option linter.unusedSimpArgs false
set_option linter.unusedVariables false
/-- some integer is returned -/
structure SomeI (e : Ending) : Prop where
  out : ∃ z : Int, e = .returned (.int .i64 z)
theorem outside_c (n l h : Int) (w : World) :
    Calls Tryz.prog 70 #[.int .i64 n, .int .i64 l, .int .i64 h] w fun e w' => (e = .returned (.int .i64 3) ∨ e = .returned (.int .i64 0)) ∧ w = w' := by
  cases h1 : decide (n < l) <;> cases h2 : decide (h < n)
  all_goals
    go_enter Tryz.func70, Tryz.ntmps70
    go_wp2_with fail
    go_ret
    first
      | exact ⟨.inl rfl, rfl⟩
      | exact ⟨.inr rfl, rfl⟩
set_option maxHeartbeats 1000000 in
set_option maxRecDepth 100000 in
theorem refOne_c (c s : ByteArray) (v : Value) (xs : List Int) (w : World) (h : IntsV w v xs) :
    Calls Tryz.prog 34 #[.agg #[.string c, .string s, v]] w fun e w' => SomeI e ∧ Gr w w' := by
  obtain ⟨p, cap, rfl, hh⟩ := h.out
  rcases grade_of s.toList with h1 | h1 | h1 | h1 | ⟨h0, h1, h2, h3⟩
  case other =>
    clear hh h
    go_enter Tryz.func34, Tryz.ntmps34
    go_wp2_with fail
    go_ret
    exact ⟨⟨13, rfl⟩, (Gr.refl w).alloc _⟩
  case none =>
    rcases Nat.lt_or_ge 8 xs.length with hl | hl
    · have hl2 : decide ((8 : Int) < xs.length) = true := decide_eq_true (by omega)
      clear hh h
      go_enter Tryz.func34, Tryz.ntmps34
      go_wp2_with fail
      go_ret
      exact ⟨⟨5, rfl⟩, (Gr.refl w).alloc _⟩
    · have hl2 : decide ((8 : Int) < xs.length) = false := decide_eq_false (by omega)
      obtain ⟨W, hW, g, a0, a1, a2⟩ := box3 w (.string c) (.string s) (.slice p xs.length cap) 34
      have HW := Lib.hid hW
      have HX := Lib.hid (fun k (h : k < xs.length) => (show ∃ x, xs[k]? = some x from ⟨xs[k]'(by omega), List.getElem?_eq_getElem _⟩))
      have HH := Lib.hid hh
      have HO := Lib.hid (fun n W => outside_c n (-999999999) 999999999 W)
      clear hh h hW
      generalize xs.length = n at *
      go_enter Tryz.func34, Tryz.ntmps34
      go_wp2_with fail
      rw [HW.out]
      generalize w.heap.size = B at *
      clear HW
      go_loopg [3] n (fun gk s3 wr => ∃ k : Nat, s3 = .int .i64 k ∧ gk + k = n ∧ wr = W)
      case atStart => exact ⟨0, rfl, by omega, rfl⟩
      case round =>
        obtain ⟨k, rfl, hk, rfl⟩ := hrel
        by_cases hlt : k < n
        · obtain ⟨x, hx⟩ := HX.out k hlt
          obtain ⟨b, off, rfl, hc⟩ := HH.out (by omega)
          have d0 := g.cell (hc k x hx)
          have hk2 : (k : Int) < n := by omega
          clear hx hc
          go_wp2_with fail
          refine (HO.out _ _).mono ?_
          rintro e w4 ⟨rfl | rfl, rfl⟩
          · go_wp2_with fail
            go_ret
            exact ⟨⟨3, rfl⟩, g⟩
          · go_wp2_with fail
            go_roundg (gk - 1)
            case measure => omega
            case rel => exact ⟨k + 1, by go_num, by omega, rfl⟩
        · have hk2 : ¬ (k : Int) < n := by omega
          go_wp2_with fail
          go_ret
          exact ⟨⟨0, rfl⟩, g⟩
  all_goals
    by_cases hl : 0 < xs.length
    · have hl2 : decide ((0 : Int) < xs.length) = true := decide_eq_true (by omega)
      clear hh h
      go_enter Tryz.func34, Tryz.ntmps34
      go_wp2_with fail
      go_ret
      exact ⟨⟨1, rfl⟩, (Gr.refl w).alloc _⟩
    · rw [show xs.length = 0 by omega]
      clear hh h hl
      go_enter Tryz.func34, Tryz.ntmps34
      go_wp2_with fail
      refine wp_loop_rounds 1 ?_
      rw [rounds_succ]
      go_wp2_with fail
      go_ret
      exact ⟨⟨0, rfl⟩, (Gr.refl w).alloc _⟩
set_option maxHeartbeats 2000000 in
set_option maxRecDepth 100000 in
theorem refRes_c {xs : List RowR} {p : Option Addr} {N c : Nat} {w : World} (hx : RowsV w (.slice p N c) xs) (h1 : N ≤ 160) :
    Calls Tryz.prog 12 #[.slice p N c] w fun e w' => SomeI e ∧ Gr w w' := by
  obtain ⟨hN, _, hh⟩ := hx.at
  have HX := Lib.hid (fun k (h : k < N) => (show ∃ x, xs[k]? = some x from ⟨xs[k]'(by omega), List.getElem?_eq_getElem _⟩))
  have HH := Lib.hid hh
  have hz2 : decide ((160 : Int) < N) = false := decide_eq_false (by omega)
  clear hh hN hx
  go_enter Tryz.func12, Tryz.ntmps12
  go_wp2_with fail
  go_loopg [3, 4] N (fun gk s3 s4 wr => ∃ (i : Nat) (z : Int), s4 = .int .i64 i ∧ s3 = .int .i64 z ∧ gk + i = N ∧ Gr w wr)
  case atStart => exact ⟨0, -1, rfl, rfl, by omega, Gr.refl _⟩
  case round =>
    obtain ⟨i, z, rfl, rfl, hi, hg⟩ := hrel
    obtain ⟨gO, rfl⟩ : ∃ q, q = gk := ⟨gk, rfl⟩
    by_cases hlt : i < N
    · obtain ⟨x, hx⟩ := HX.out i hlt
      obtain ⟨b, off, rfl, hc⟩ := HH.out (by omega)
      have HRx := Lib.hid (hc i x hx)
      have HC := Lib.hid hc
      have c0 := (HRx.out.gr hg).nm
      have hi2 : (i : Int) < N := by omega
      have hN := Lib.hid (fun W => refIsName_c x.nm W)
      clear hx hc
      cases e1 : decide (Nm x.nm)
      · rw [e1] at hN
        go_wp2_with fail
        refine (hN.out _).mono ?_
        rintro e w4 ⟨rfl, rfl⟩
        go_wp2_with fail
        go_ret
        exact ⟨⟨8, rfl⟩, hg⟩
      · rw [e1] at hN
        go_wp2_with fail
        refine (hN.out _).mono ?_
        rintro e w4 ⟨rfl, rfl⟩
        clear e1
        go_wp2_with fail
        go_loopg [5] i (fun g2 s5 wr2 => ∃ k : Nat, s5 = .int .i64 k ∧ g2 + k = i ∧ Gr w wr2)
        case atStart => exact ⟨0, rfl, by omega, hg⟩
        case round =>
          obtain ⟨k, rfl, hk, hg2⟩ := hrel
          obtain ⟨c0, c1, c2, hv, hvl⟩ := HRx.out.gr hg2
          obtain ⟨⟨pu, cu, hu, _⟩⟩ := id hv
          rw [hu] at c2
          by_cases hlk : k < i
          · obtain ⟨y, hy⟩ := HX.out k (by omega)
            have d0 := ((HC.out k y hy).gr hg2).nm
            have hk2 : (k : Int) < i := by omega
            have hk3 : (k : Int) < N := by omega
            clear hy hu hv
            cases e2 : (y.nm.toList == x.nm.toList)
            · go_wp2_with fail
              go_big_quiet (fail)
              go_wp2_with fail
              go_roundg (gk - 1)
              case measure => omega
              case rel => exact ⟨k + 1, by go_num, by omega, hg2.drewN _⟩
            · go_wp2_with fail
              go_big_quiet (fail)
              go_wp2_with fail
              go_ret
              exact ⟨⟨9, rfl⟩, hg2.drewN _⟩
          · have hk2 : ¬ (k : Int) < i := by omega
            have hki : k = i := by omega
            have HK := Lib.hid (refOne_c x.nm x.st x.u x.xs _ hv)
            rw [hu] at HK
            clear hu hv
            generalize x.xs.length = xl at *
            go_wp2_with fail
            refine HK.out.mono ?_
            rintro e wq ⟨⟨z6, rfl⟩, gq⟩
            replace c0 := gq.cell c0
            replace c1 := gq.cell c1
            replace c2 := gq.cell c2
            have hg3 := hg2.trans gq
            clear gq HK
            by_cases h6 : z6 = 0
            · subst h6
              cases hE : x.st.toList.isEmpty
              · have hE2 : ¬ x.st.toList = [] := by intro e; rw [e] at hE; cases hE
                go_wp2_with fail
                go_roundg (gO - 1)
                case measure => omega
                case rel => exact ⟨i + 1, z, by go_num, rfl, by omega, hg3⟩
              · have hE2 : x.st.toList = [] := by simpa using hE
                cases h0 : decide (z < 0)
                · cases h2 : ((xl : Int) != z)
                  · go_wp2_with fail
                    go_roundg (gO - 1)
                    case measure => omega
                    case rel => exact ⟨i + 1, z, by go_num, rfl, by omega, hg3⟩
                  · go_wp2_with fail
                    go_ret
                    exact ⟨⟨2, rfl⟩, hg3⟩
                · go_wp2_with fail
                  go_roundg (gO - 1)
                  case measure => omega
                  case rel => exact ⟨i + 1, (xl : Int), by go_num, rfl, by omega, hg3⟩
            · have h7 : (z6 != 0) = true := bne_iff_ne.2 h6
              go_wp2_with fail
              go_ret
              exact ⟨⟨z6, rfl⟩, hg3⟩
    · have hi2 : ¬ (i : Int) < N := by omega
      go_wp2_with fail
      go_ret
      exact ⟨⟨0, rfl⟩, hg⟩
end Go.Proofs.YtebnbjaaogfikaaGreatDoor
namespace Go.Proofs.YtebnbjaaogfikaaGreatDoor
open Go.RowKit Go.Lib
set_option linter.unusedSimpArgs false
set_option linter.unusedVariables false
/-- the slice v reads as the results xs, however many values they have -/
structure Rows0V (w : World) (v : Value) (xs : List RowR) : Prop where
  mk' ::
  out : ∃ p cap, v = .slice p xs.length cap ∧ (xs.length ≤ cap ∧ cap ≤ maxLen) ∧ (0 < xs.length → ∃ b off, p = some ⟨b, off, none⟩ ∧ ∀ i x, xs[i]? = some x → Row0 w b (off + i * 3) x)
theorem Rows0V.rows {w : World} {v : Value} {xs : List RowR} (h : Rows0V w v xs) (hl : ∀ x ∈ xs, x.xs.length ≤ 10) : RowsV w v xs := by
  obtain ⟨⟨p, cap, rfl, hcap, hh⟩⟩ := h
  refine ⟨p, cap, rfl, hcap, fun h0 => ?_⟩
  obtain ⟨b, off, e, hc⟩ := hh h0
  exact ⟨b, off, e, fun i x hx => (hc i x hx).at (by have := hl x (List.mem_of_getElem? hx); omega)⟩
theorem valid_round {xs : List RowR} (h : roundE xs = 0) (h1 : xs.length ≤ 160) : ValidB (xs.map bare) := by
  unfold roundE at h
  rw [if_neg (by omega)] at h
  exact valid_of_zero h
/-- results of which more is asked -/
structure Good (xs : List RowR) (n : Nat) : Prop where
  few : n ≤ 10
  short : ∀ x ∈ xs, x.xs.length ≤ 10
  valid : ValidB (xs.map bare)
/-! ## who goes on -/
theorem ValidB.sub {bs cs : List Bare} (h : ValidB bs) (hs : cs.Sublist bs) : ValidB cs where
  each := fun b hb => h.each b (hs.subset hb)
  apart := h.apart.sublist (hs.map _)
  even := fun b hb c hc => h.even b (hs.subset hb) c (hs.subset hc)
def restB (ns : List ByteArray) (bs : List Bare) : List Bare := bs.filter fun b => !hasS ns b.nm
theorem rest_bare (ns : List ByteArray) (xs : List RowR) : (rest ns xs).map bare = restB ns (xs.map bare) := by
  unfold rest restB
  rw [List.filter_map]
  rfl
theorem restB_sub (ns : List ByteArray) (bs : List Bare) : (restB ns bs).Sublist bs := List.filter_sublist
theorem thruB_mem {bs : List Bare} {m : Int} {s : ByteArray} : s ∈ thruB bs m ↔ ∃ b ∈ fineB bs, b.nm = s ∧ rankB (fineB bs) b ≤ m := by
  unfold thruB goOn ranksB
  rw [pls_map, List.mem_map]
  constructor
  · rintro ⟨p, hp, rfl⟩
    rw [List.mem_filter] at hp
    obtain ⟨h1, h2⟩ := hp
    rw [(srtP_spec _).1.mem_iff, List.mem_map] at h1
    obtain ⟨b, hb, rfl⟩ := h1
    exact ⟨b, hb, rfl, by simpa using h2⟩
  · rintro ⟨b, hb, rfl, h⟩
    refine ⟨⟨b.nm, rankB (fineB bs) b⟩, ?_, rfl⟩
    rw [List.mem_filter, (srtP_spec _).1.mem_iff, List.mem_map]
    exact ⟨⟨b, hb, rfl⟩, by simpa using h⟩
theorem rankB_sub {bs cs : List Bare} (h : cs.Sublist bs) (b : Bare) : rankB cs b ≤ rankB bs b := by
  unfold rankB
  have := h.countP_le (p := fun c => decide (cmpB c b < 0))
  omega
/-- who goes on and is not out goes on without those who are out -/
theorem goes_on {ns : List ByteArray} {bs : List Bare} {m : Int} {s : ByteArray} (h : s ∈ thruB bs m) (hs : hasS ns s = false) : hasS (thruB (restB ns bs) m) s = true := by
  obtain ⟨b, hb, rfl, hr⟩ := thruB_mem.1 h
  unfold hasS
  rw [List.any_eq_true]
  refine ⟨b.nm, thruB_mem.2 ⟨b, ?_, rfl, ?_⟩, by simp⟩
  · unfold fineB restB at *
    rw [List.mem_filter] at hb ⊢
    exact ⟨List.mem_filter.2 ⟨hb.1, by simp [hs]⟩, hb.2⟩
  · have : (fineB (restB ns bs)).Sublist (fineB bs) := (restB_sub ns bs).filter _
    have := rankB_sub this b
    omega
theorem StrsV.words {w : World} {v : Value} {ns : List ByteArray} (h : StrsV w v ns) : WordsV w v ns := by
  obtain ⟨⟨p, cap, rfl, hc, hh⟩⟩ := h
  refine ⟨p, cap, rfl, hc, fun h0 => ?_⟩
  rcases hh with ⟨rfl, _⟩ | ⟨b, rfl, hb⟩
  · cases h0
  · exact ⟨b, 0, rfl, fun i t ht => by rw [Nat.zero_add]; exact hb i t ht⟩
end Go.Proofs.YtebnbjaaogfikaaGreatDoor
namespace Go.Proofs.YtebnbjaaogfikaaGreatDoor
open Go.RowKit Go.Lib
set_option linter.unusedSimpArgs false
set_option linter.unusedVariables false
theorem shortRs_any {xs : List RowR} {p : Option Addr} {n c : Nat} {w : World} (h : Rows0V w (.slice p n c) xs) :
    Calls Tryz.prog 11 #[.slice p n c, .int .i64 10] w fun e w' => ShoRet e xs ∧ w = w' := by
  obtain ⟨⟨p', c', e, hcap, hh⟩⟩ := h
  cases e
  by_cases h0 : 0 < xs.length
  · obtain ⟨b, off, rfl, hc⟩ := hh h0
    exact shortRs_pos xs _ b off c 10 w rfl (Nat.le_trans hcap.1 hcap.2) hc
  · have hz : xs = [] := List.length_eq_zero_iff.1 (by omega)
    subst hz
    refine (shortRs_nil p c 10 (by omega) w).mono ?_
    rintro e w' ⟨rfl, rfl⟩
    exact ⟨⟨true, rfl, fun _ x hx => by cases hx⟩, rfl⟩
/-- what karabinerResults returns -/
structure KRet (e : Ending) (xs : List RowR) (n : Nat) : Prop where
  out : ∃ r, e = .returned (.bool r) ∧ (r = true → Good xs n)
set_option maxHeartbeats 1000000 in
set_option maxRecDepth 100000 in
theorem kRes_c {xs : List RowR} {p : Option Addr} {n c : Nat} {w : World} (h : Rows0V w (.slice p n c) xs) :
    Calls Tryz.prog 4 #[.slice p n c, .int .i64 10] w fun e w' => KRet e xs n ∧ Gr w w' := by
  have HS := Lib.hid (shortRs_any h)
  have hn : xs.length = n := by obtain ⟨⟨p', c', e, hcap, hh⟩⟩ := h; cases e; rfl
  have HN := Lib.hid hn
  have HR := Lib.hid (fun hl W (g : Gr w W) => (h.rows hl).gr g)
  clear h hn
  go_enter Tryz.func4, Tryz.ntmps4
  go_wp2_with fail
  refine HS.out.mono ?_
  rintro e w1 ⟨⟨r, rfl, hr⟩, rfl⟩
  cases r
  · clear hr
    go_wp2_with fail
    go_ret
    exact ⟨⟨false, rfl, fun h => by cases h⟩, Gr.refl _⟩
  · have HSh := Lib.hid (hr rfl)
    clear hr
    cases h10 : decide ((n : Int) ≤ 10)
    · go_wp2_with fail
      go_ret
      exact ⟨⟨false, rfl, fun h => by cases h⟩, Gr.refl _⟩
    · have h10' : (n : Int) ≤ 10 := of_decide_eq_true h10
      have HC := Lib.hid (refRes_c (HR.out HSh.out _ (Gr.refl _)) (by omega))
      have HK := Lib.hid (fun W (g : Gr w W) => refRound_any (HR.out HSh.out _ g))
      have HV := Lib.hid (fun (h : roundE xs = 0) => valid_round h (by have := HN.out; omega))
      generalize roundE xs = E at *
      go_wp2_with fail
      refine HC.out.mono ?_
      rintro e w2 ⟨⟨z, rfl⟩, g2⟩
      clear HC
      by_cases hz : z = 0
      · have hz2 : (z == 0) = true := by rw [hz]; rfl
        by_cases hE : E = 0
        · have hE2 : (E == 0) = true := by rw [hE]; rfl
          go_wp2_with fail
          refine (HK.out _ g2).mono ?_
          rintro e w3 ⟨rfl, g3⟩
          go_wp2_with fail
          go_ret
          exact ⟨⟨true, rfl, fun _ => ⟨by omega, HSh.out, HV.out hE⟩⟩, g2.trans g3⟩
        · have hE2 : (E == 0) = false := beq_eq_false_iff_ne.2 hE
          go_wp2_with fail
          refine (HK.out _ g2).mono ?_
          rintro e w3 ⟨rfl, g3⟩
          go_wp2_with fail
          go_ret
          exact ⟨⟨false, rfl, fun h => by cases h⟩, g2.trans g3⟩
      · have hz2 : (z == 0) = false := beq_eq_false_iff_ne.2 hz
        go_wp2_with fail
        go_ret
        exact ⟨⟨false, rfl, fun h => by cases h⟩, g2⟩
theorem throughK_ok (hS : SortFOK) (I : InsOK) {W : World} {p : Option Addr} {n c : Nat} {ys : List RowR} (h : RowsV W (.slice p n c) ys) (h1 : n < 20) (hSt : StatesIn W) (hV : ValidB (ys.map bare)) (m : Int) (hm : outE m 0 160 = 0) :
    Calls Tryz.prog 8 #[.slice p n c, .int .i64 m] W fun e w' => ∃ q l k, e = .returned (.tuple #[.slice q l k, .int .i64 0]) ∧ StrsV w' (.slice q l k) (thruB (ys.map bare) m) ∧ Gr W w' := by
  have hn := h.at.1
  by_cases h0 : 0 < n
  · refine (through_ok hS I h (by omega) (by omega) hSt hV m (outE_zero.1 hm)).mono ?_
    rintro e w' ⟨u, rfl, hu, g⟩
    obtain ⟨q, k, rfl, _, _⟩ := id hu.out
    exact ⟨q, _, k, rfl, hu, g⟩
  · have hz : n = 0 := by omega
    subst hz
    refine (through_none p c m hm W).mono ?_
    rintro e w' ⟨rfl, g⟩
    have hnil : thruB (ys.map bare) m = [] := List.length_eq_zero_iff.1 (by have := thruB_len (ys.map bare) m; rw [List.length_map, hn] at this; omega)
    rw [hnil]
    exact ⟨none, 0, 0, rfl, ⟨none, 0, rfl, ⟨Nat.le_refl _, by unfold maxLen; omega⟩, .inl ⟨rfl, rfl, rfl⟩⟩, g⟩
end Go.Proofs.YtebnbjaaogfikaaGreatDoor
