/- Witnesses: the program's Witness. -/
import Derived.Test.YtimbcjldejifaaaGreatDoorGExA
import Derived.Test.YtimbcjldejifaaaGreatDoorExB
import Derived.Test.YtimbcjldejifaaaGreatDoorGOpP
import Derived.Test.YtimbcjldejifaaaGreatDoorGNaM
namespace Go.Proofs.YtimbcjldejifaaaGreatDoor
open Go.RowKit Go.Lib
set_option linter.unusedSimpArgs false
set_option linter.unusedVariables false
theorem witL_c {c : Nat} {T : Int} {xs : List OpR} {i : Nat} {x : OpR} (b : Int) (h : xs[i]? = some x) (hc : i = c) : witL c T (xs.drop i) i b = T :: witL c T (xs.drop (i + 1)) (i + 1) b := by
  obtain ⟨h1, rfl⟩ := List.getElem?_eq_some_iff.1 h
  rw [List.drop_eq_getElem_cons h1, witL, if_pos hc]
theorem witL_hi {c : Nat} {T : Int} {xs : List OpR} {i : Nat} {x : OpR} {b : Int} (h : xs[i]? = some x) (hc : ¬ i = c) (hq : (x.lo ≤ T ∧ T < x.hi) ∧ 0 < b) : witL c T (xs.drop i) i b = x.hi :: witL c T (xs.drop (i + 1)) (i + 1) (b - 1) := by
  obtain ⟨h1, rfl⟩ := List.getElem?_eq_some_iff.1 h
  rw [List.drop_eq_getElem_cons h1, witL, if_neg hc, if_pos hq]
theorem witL_lo {c : Nat} {T : Int} {xs : List OpR} {i : Nat} {x : OpR} {b : Int} (h : xs[i]? = some x) (hc : ¬ i = c) (hq : ¬ ((x.lo ≤ T ∧ T < x.hi) ∧ 0 < b)) : witL c T (xs.drop i) i b = x.lo :: witL c T (xs.drop (i + 1)) (i + 1) b := by
  obtain ⟨h1, rfl⟩ := List.getElem?_eq_some_iff.1 h
  rw [List.drop_eq_getElem_cons h1, witL, if_neg hc, if_neg hq]
set_option maxHeartbeats 1000000 in
set_option maxRecDepth 100000 in
theorem witness_err {v : Value} {xs : List OpR} {w : World} (cl r : Int) (h : OpsV w v xs) (hE : questE xs cl r ≠ 0) :
    Calls Tryz.prog 8 #[v, .int .i64 cl, .int .i64 r] w fun e w' => e = .returned (.tuple #[.slice none 0 0, .int .i64 (questE xs cl r)]) ∧ Gr w w' := by
  obtain ⟨p, cap, rfl⟩ := opsV_slice h
  have HQ := Lib.hid (quest_c cl r h)
  have hz : (questE xs cl r == 0) = false := beq_eq_false_iff_ne.2 hE
  clear h
  generalize questE xs cl r = E at *
  generalize xs.length = n at *
  go_enter Tryz.func8, Tryz.ntmps8
  go_wp2_with fail
  refine HQ.out.mono ?_
  rintro e w1 ⟨rfl, g⟩
  go_wp2_with fail
  exact bodyPost_ret (v := .tuple #[.slice none 0 0, .int .i64 E]) (by simp [results, Tryz.results8, go_sem]) rfl ⟨rfl, g⟩
set_option maxHeartbeats 1000000 in
set_option maxRecDepth 100000 in
theorem witness_none (hS : SortOK) {v : Value} {xs : List OpR} {w : World} (cl : Nat) (r : Int) (x : OpR) (h : OpsV w v xs) (hE : questE xs cl r = 0) (hx : xs[cl]? = some x) (h1 : xs.length ≤ 160) (hr0 : 1 ≤ r) (hr1 : r ≤ 1000) (hP : isPoss x.lo x.hi (others xs cl) r = false) :
    Calls Tryz.prog 8 #[v, .int .i64 cl, .int .i64 r] w fun e w' => e = .returned (.tuple #[.slice none 0 0, .int .i64 23]) ∧ Gr w w' := by
  have HQ := Lib.hid (quest_c (cl : Int) r h)
  rw [hE] at HQ
  have HAsk := Lib.hid (fun (W : World) (hW : Gr w W) => ask_c r (h.gr hW) (by omega) hx)
  have hlo : (others xs cl).length ≤ 1000 := by unfold others; rw [List.length_append, List.length_take, List.length_drop]; omega
  have HIs := Lib.hid (fun (u : Value) (W : World) (hu : OpsV W u (others xs cl)) => isPossible_c hS x hu hlo hr0 hr1)
  rw [hP] at HIs
  unfold qV at HIs
  obtain ⟨p, cap, rfl⟩ := opsV_slice h
  clear h hE hx hP hlo
  generalize xs.length = n at *
  go_enter Tryz.func8, Tryz.ntmps8
  go_wp2_with fail
  refine HQ.out.mono ?_
  rintro e w1 ⟨rfl, g⟩
  go_wp2_with fail
  refine (HAsk.out _ g).mono ?_
  rintro e w2 ⟨u, rfl, hu, g2⟩
  replace g := g.trans g2
  obtain ⟨p3, c3, rfl⟩ := opsV_slice hu
  obtain ⟨W, hW, gW, hQ⟩ := boxQ w2 (.string x.nm) (.int .i64 x.lo) (.int .i64 x.hi) (.slice p3 (others xs cl).length c3) (.int .i64 r) 67
  have HT := Lib.hid (HIs.out _ W (hu.gr gW))
  have HW := Lib.hid hW
  clear hW hQ hu g2
  go_wp2_with fail
  rw [HW.out]
  refine HT.out.mono ?_
  rintro e w3 ⟨rfl, g3⟩
  go_wp2_with fail
  exact bodyPost_ret (v := .tuple #[.slice none 0 0, .int .i64 23]) (by simp [results, Tryz.results8, go_sem]) rfl ⟨rfl, (g.trans gW).trans g3⟩
set_option maxHeartbeats 1000000 in
set_option maxRecDepth 100000 in
theorem witness_some (hS : SortOK) {xs : List OpR} {w : World} (n b off cap cl : Nat) (r : Int) (x : OpR) (hn : xs.length = n) (h : OpsV w (.slice (some ⟨b, off, none⟩) n cap) xs) (hc : ∀ i x, xs[i]? = some x → OpAt w b (off + i * 3) x) (hE : questE xs cl r = 0) (hx : xs[cl]? = some x) (h1 : n ≤ 160) (hr0 : 1 ≤ r) (hr1 : r ≤ 1000) (hP : isPoss x.lo x.hi (others xs cl) r = true) :
    Calls Tryz.prog 8 #[.slice (some ⟨b, off, none⟩) n cap, .int .i64 cl, .int .i64 r] w fun e w' => ∃ u, e = .returned (.tuple #[u, .int .i64 0]) ∧ w'.ownsRow w.heap.size 3 1 u n (ints (witL cl (turnV x.lo (others xs cl) r) xs 0 (r - 1 - cntV (fun y => y.lo) (turnV x.lo (others xs cl) r) (others xs cl)))) ∧ Gr w w' := by
  have HQ := Lib.hid (quest_c (cl : Int) r h)
  rw [hE] at HQ
  have HAsk := Lib.hid (fun (W : World) (hW : Gr w W) => ask_c r (h.gr hW) (by omega) hx)
  have hlo : (others xs cl).length ≤ 1000 := by unfold others; rw [List.length_append, List.length_take, List.length_drop]; omega
  have HIs := Lib.hid (fun (u : Value) (W : World) (hu : OpsV W u (others xs cl)) => isPossible_c hS x hu hlo hr0 hr1)
  rw [hP] at HIs
  have HTu := Lib.hid (fun (u : Value) (W : World) (hu : OpsV W u (others xs cl)) => turn_c hS x hu hlo hr0 hr1)
  have HAb := Lib.hid (fun (u : Value) (T : Int) (W : World) (hu : OpsV W u (others xs cl)) => above_lo_c x r T hu hlo)
  have hcb := cnt_le (fun _ (y : OpR) => decide (turnV x.lo (others xs cl) r < y.lo)) (others xs cl) 0
  have hcl : cl < n := by
    have := (List.getElem?_eq_some_iff.1 hx).1
    omega
  unfold qV at HIs HTu HAb
  generalize turnV x.lo (others xs cl) r = T at *
  replace HAb := Lib.hid (fun u => HAb.out u T)
  have hA0 : 0 ≤ cntV (fun y => y.lo) T (others xs cl) := hcb.1
  have hA1 : cntV (fun y => y.lo) T (others xs cl) ≤ 1000 := by
    have := hcb.2
    have e : cntV (fun y => y.lo) T (others xs cl) = cnt (fun _ (y : OpR) => decide (T < y.lo)) (others xs cl) 0 := rfl
    omega
  clear hcb
  generalize cntV (fun y => y.lo) T (others xs cl) = A at *
  have HC := Lib.hid hc
  have HN := Lib.hid hn
  have hwl := witL_len cl T xs 0 (r - 1 - A)
  rw [hn] at hwl
  obtain ⟨R, hR⟩ : ∃ R, witL cl T xs 0 (r - 1 - A) = R := ⟨_, rfl⟩
  have HR := Lib.hid hR
  rw [hR] at hwl ⊢
  obtain ⟨i0, hi, hz0, hz1, hz2⟩ := info_parts info3
  have hw1 : IntKind.i64.wrap (r - 1) = r - 1 := by rw [IntKind.wrap_i64]; omega
  have hw2 : IntKind.i64.wrap (r - 1 - A) = r - 1 - A := by rw [IntKind.wrap_i64]; omega
  clear h hc hE hx hP hlo hn hR
  go_enter Tryz.func8, Tryz.ntmps8
  go_wp2_with fail
  refine HQ.out.mono ?_
  rintro e w1 ⟨rfl, g⟩
  go_wp2_with fail
  refine (HAsk.out _ g).mono ?_
  rintro e w2 ⟨u, rfl, hu, g2⟩
  replace g := g.trans g2
  obtain ⟨p3, c3, rfl⟩ := opsV_slice hu
  obtain ⟨W, hW, gW, hQ⟩ := boxQ w2 (.string x.nm) (.int .i64 x.lo) (.int .i64 x.hi) (.slice p3 (others xs cl).length c3) (.int .i64 r) 67
  have HT := Lib.hid (HIs.out _ W (hu.gr gW))
  have HW := Lib.hid hW
  replace g := g.trans gW
  replace hu := hu.gr gW
  obtain ⟨r0, r1, r2, r3, r4, _⟩ := row5 hQ
  clear hW hQ g2 gW HQ HAsk
  generalize (others xs cl).length = m at *
  go_wp2_with fail
  rw [HW.out]
  generalize w2.heap.size = B at *
  refine HT.out.mono ?_
  rintro e w3 ⟨rfl, g3⟩
  replace g := g.trans g3
  replace hu := hu.gr g3
  replace r0 := g3.cell r0
  replace r1 := g3.cell r1
  replace r2 := g3.cell r2
  replace r3 := g3.cell r3
  replace r4 := g3.cell r4
  clear HT HW g3
  go_wp2_with fail
  refine (HTu.out _ _ hu).mono ?_
  rintro e w4 ⟨rfl, g3⟩
  replace g := g.trans g3
  replace hu := hu.gr g3
  replace r0 := g3.cell r0
  replace r1 := g3.cell r1
  replace r2 := g3.cell r2
  replace r3 := g3.cell r3
  replace r4 := g3.cell r4
  clear g3
  go_wp2_with fail
  refine (HAb.out _ _ hu).mono ?_
  rintro e w5 ⟨rfl, g3⟩
  replace g := g.trans g3
  clear g3 r0 r1 r2 r3 r4 hu HTu HAb HIs
  go_wp2_with fail
  go_loopw [11, 12, 40] (fun s11 s12 s40 wr => ∃ (k : Nat) (q : Int) (L : List Int), k ≤ n ∧ s40 = .int .i64 k ∧ s11 = .int .i64 q ∧ -3000 ≤ q ∧ q ≤ 3000 ∧ wr.ownsRow w.heap.size 3 1 s12 k (ints L) ∧ Hid (L ++ witL cl T (xs.drop k) k q = R) ∧ Gr w wr) (fun _ _ i _ => n - (intOf i).toNat)
  case atStart => exact ⟨0, _, [], Nat.zero_le _, rfl, rfl, by omega, by omega, World.ownsRow_nil _ _ _ _, by unfold Hid; rw [List.drop_zero, HR.out]; rfl, g⟩
  case round =>
    obtain ⟨k, q, L, hk, rfl, rfl, hq0, hq1, hown, HL, gr⟩ := hrel
    have hsize := Below.size gr
    by_cases hlt : k < n
    · obtain ⟨y, hy⟩ : ∃ y, xs[k]? = some y := ⟨xs[k]'(by have := HN.out; omega), List.getElem?_eq_getElem _⟩
      obtain ⟨c0, c1, c2⟩ := (HC.out k y hy).gr gr
      have hkI : (k : Int) < n := by omega
      have hwq : IntKind.i64.wrap (q - 1) = q - 1 := by rw [IntKind.wrap_i64]; omega
      have hk1 : k ≤ 1000 := by omega
      by_cases hcc : k = cl
      · subst hcc
        have qc : ((k : Int) == (k : Int)) = true := by simp
        by_cases ha : y.lo ≤ T
        · have q1 : decide (y.lo ≤ T) = true := decide_eq_true ha
          by_cases hb : T < y.hi
          · have q2 : decide (T < y.hi) = true := decide_eq_true hb
            have HS := Lib.hid (witL_c (T := T) q hy rfl)
            clear hy
            go_wp2_with (first
                | (at_builtin; refine wpList_append_own _ rfl _ _ 31 rfl w.heap.size 3 i0 (.int .i64 0) 1 8 Tryz.underlying31 hi hz0 hz1 hz2 rfl (by decide) _ _ _ rfl ((hown.alloc _).alloc _) ⟨wr.heap.size + 1, 0, none⟩ 1 1 [.int .i64 T] rfl rfl (cell_one_at (by simp) _ _) (by intro u hu; simp at hu; subst hu; rfl) (by unfold maxLen; omega) (by first | omega | (simp; omega)) (by first | omega | (simp; omega)) ?_; intro v1 w9 hown1 hgrow1 hnil1))
            go_roundw
            case rel =>
              exact ⟨k + 1, q, L ++ [T], by omega, by go_num, by go_num, by omega, by omega, by simpa [ints] using hown1, by unfold Hid; rw [← HL.out, HS.out]; simp, Below.grown ((gr.alloc _).alloc _) hgrow1 (by simp; omega) (fun j hj => (hown.lt j hj).1)⟩
            case measure => simp [intOf]; omega
          · have q2 : decide (T < y.hi) = false := decide_eq_false hb
            have HS := Lib.hid (witL_c (T := T) q hy rfl)
            clear hy
            go_wp2_with (first
                | (at_builtin; refine wpList_append_own _ rfl _ _ 31 rfl w.heap.size 3 i0 (.int .i64 0) 1 8 Tryz.underlying31 hi hz0 hz1 hz2 rfl (by decide) _ _ _ rfl ((hown.alloc _).alloc _) ⟨wr.heap.size + 1, 0, none⟩ 1 1 [.int .i64 T] rfl rfl (cell_one_at (by simp) _ _) (by intro u hu; simp at hu; subst hu; rfl) (by unfold maxLen; omega) (by first | omega | (simp; omega)) (by first | omega | (simp; omega)) ?_; intro v1 w9 hown1 hgrow1 hnil1))
            go_roundw
            case rel =>
              exact ⟨k + 1, q, L ++ [T], by omega, by go_num, by go_num, by omega, by omega, by simpa [ints] using hown1, by unfold Hid; rw [← HL.out, HS.out]; simp, Below.grown ((gr.alloc _).alloc _) hgrow1 (by simp; omega) (fun j hj => (hown.lt j hj).1)⟩
            case measure => simp [intOf]; omega
        · have q1 : decide (y.lo ≤ T) = false := decide_eq_false ha
          have HS := Lib.hid (witL_c (T := T) q hy rfl)
          clear hy
          go_wp2_with (first
              | (at_builtin; refine wpList_append_own _ rfl _ _ 31 rfl w.heap.size 3 i0 (.int .i64 0) 1 8 Tryz.underlying31 hi hz0 hz1 hz2 rfl (by decide) _ _ _ rfl ((hown.alloc _).alloc _) ⟨wr.heap.size + 1, 0, none⟩ 1 1 [.int .i64 T] rfl rfl (cell_one_at (by simp) _ _) (by intro u hu; simp at hu; subst hu; rfl) (by unfold maxLen; omega) (by first | omega | (simp; omega)) (by first | omega | (simp; omega)) ?_; intro v1 w9 hown1 hgrow1 hnil1))
          go_roundw
          case rel =>
            exact ⟨k + 1, q, L ++ [T], by omega, by go_num, by go_num, by omega, by omega, by simpa [ints] using hown1, by unfold Hid; rw [← HL.out, HS.out]; simp, Below.grown ((gr.alloc _).alloc _) hgrow1 (by simp; omega) (fun j hj => (hown.lt j hj).1)⟩
          case measure => simp [intOf]; omega
      · have qc : ((k : Int) == (cl : Int)) = false := beq_eq_false_iff_ne.2 (by omega)
        by_cases hq : (y.lo ≤ T ∧ T < y.hi) ∧ 0 < q
        · obtain ⟨⟨ha, hb⟩, hd⟩ := id hq
          have q1 : decide (y.lo ≤ T) = true := decide_eq_true ha
          have q2 : decide (T < y.hi) = true := decide_eq_true hb
          have q3 : decide (0 < q) = true := decide_eq_true hd
          have HS := Lib.hid (witL_hi (T := T) hy hcc hq)
          clear hy
          go_wp2_with (first
              | (at_builtin; refine wpList_append_own _ rfl _ _ 31 rfl w.heap.size 3 i0 (.int .i64 0) 1 8 Tryz.underlying31 hi hz0 hz1 hz2 rfl (by decide) _ _ _ rfl ((hown.alloc _).alloc _) ⟨wr.heap.size + 1, 0, none⟩ 1 1 [.int .i64 y.hi] rfl rfl (cell_one_at (by simp) _ _) (by intro u hu; simp at hu; subst hu; rfl) (by unfold maxLen; omega) (by first | omega | (simp; omega)) (by first | omega | (simp; omega)) ?_; intro v1 w9 hown1 hgrow1 hnil1))
          go_roundw
          case rel =>
            exact ⟨k + 1, q - 1, L ++ [y.hi], by omega, by go_num, by go_num, by omega, by omega, by simpa [ints] using hown1, by unfold Hid; rw [← HL.out, HS.out]; simp, Below.grown ((gr.alloc _).alloc _) hgrow1 (by simp; omega) (fun j hj => (hown.lt j hj).1)⟩
          case measure => simp [intOf]; omega
        · by_cases ha : y.lo ≤ T
          · have q1 : decide (y.lo ≤ T) = true := decide_eq_true ha
            by_cases hb : T < y.hi
            · have q2 : decide (T < y.hi) = true := decide_eq_true hb
              have q3 : decide (0 < q) = false := decide_eq_false (fun hd => hq ⟨⟨ha, hb⟩, hd⟩)
              have hd : ¬ 0 < q := fun hd => hq ⟨⟨ha, hb⟩, hd⟩
              have HS := Lib.hid (witL_lo (T := T) hy hcc hq)
              clear hy
              go_wp2_with (first
                  | (at_builtin; refine wpList_append_own _ rfl _ _ 31 rfl w.heap.size 3 i0 (.int .i64 0) 1 8 Tryz.underlying31 hi hz0 hz1 hz2 rfl (by decide) _ _ _ rfl ((hown.alloc _).alloc _) ⟨wr.heap.size + 1, 0, none⟩ 1 1 [.int .i64 y.lo] rfl rfl (cell_one_at (by simp) _ _) (by intro u hu; simp at hu; subst hu; rfl) (by unfold maxLen; omega) (by first | omega | (simp; omega)) (by first | omega | (simp; omega)) ?_; intro v1 w9 hown1 hgrow1 hnil1))
              go_roundw
              case rel =>
                exact ⟨k + 1, q, L ++ [y.lo], by omega, by go_num, by go_num, by omega, by omega, by simpa [ints] using hown1, by unfold Hid; rw [← HL.out, HS.out]; simp, Below.grown ((gr.alloc _).alloc _) hgrow1 (by simp; omega) (fun j hj => (hown.lt j hj).1)⟩
              case measure => simp [intOf]; omega
            · have q2 : decide (T < y.hi) = false := decide_eq_false hb
              have HS := Lib.hid (witL_lo (T := T) hy hcc hq)
              clear hy
              go_wp2_with (first
                  | (at_builtin; refine wpList_append_own _ rfl _ _ 31 rfl w.heap.size 3 i0 (.int .i64 0) 1 8 Tryz.underlying31 hi hz0 hz1 hz2 rfl (by decide) _ _ _ rfl ((hown.alloc _).alloc _) ⟨wr.heap.size + 1, 0, none⟩ 1 1 [.int .i64 y.lo] rfl rfl (cell_one_at (by simp) _ _) (by intro u hu; simp at hu; subst hu; rfl) (by unfold maxLen; omega) (by first | omega | (simp; omega)) (by first | omega | (simp; omega)) ?_; intro v1 w9 hown1 hgrow1 hnil1))
              go_roundw
              case rel =>
                exact ⟨k + 1, q, L ++ [y.lo], by omega, by go_num, by go_num, by omega, by omega, by simpa [ints] using hown1, by unfold Hid; rw [← HL.out, HS.out]; simp, Below.grown ((gr.alloc _).alloc _) hgrow1 (by simp; omega) (fun j hj => (hown.lt j hj).1)⟩
              case measure => simp [intOf]; omega
          · have q1 : decide (y.lo ≤ T) = false := decide_eq_false ha
            have HS := Lib.hid (witL_lo (T := T) hy hcc hq)
            clear hy
            go_wp2_with (first
                | (at_builtin; refine wpList_append_own _ rfl _ _ 31 rfl w.heap.size 3 i0 (.int .i64 0) 1 8 Tryz.underlying31 hi hz0 hz1 hz2 rfl (by decide) _ _ _ rfl ((hown.alloc _).alloc _) ⟨wr.heap.size + 1, 0, none⟩ 1 1 [.int .i64 y.lo] rfl rfl (cell_one_at (by simp) _ _) (by intro u hu; simp at hu; subst hu; rfl) (by unfold maxLen; omega) (by first | omega | (simp; omega)) (by first | omega | (simp; omega)) ?_; intro v1 w9 hown1 hgrow1 hnil1))
            go_roundw
            case rel =>
              exact ⟨k + 1, q, L ++ [y.lo], by omega, by go_num, by go_num, by omega, by omega, by simpa [ints] using hown1, by unfold Hid; rw [← HL.out, HS.out]; simp, Below.grown ((gr.alloc _).alloc _) hgrow1 (by simp; omega) (fun j hj => (hown.lt j hj).1)⟩
            case measure => simp [intOf]; omega
    · have hkk : k = n := by omega
      subst hkk
      have hi2 : (k : Int) ≤ k := by omega
      have HL2 : Hid (L = R) := by
        have hd : xs.drop k = [] := List.drop_of_length_le (by have := HN.out; omega)
        unfold Hid
        rw [← HL.out, hd]
        simp [witL]
      go_wp2_with fail
      obtain ⟨p8, c8, hp8⟩ := owns_slice hown
      subst hp8
      exact bodyPost_ret (v := .tuple #[.slice p8 k c8, .int .i64 0]) (by simp [results, Tryz.results8, go_sem]) rfl ⟨_, rfl, by rw [← HL2.out]; exact hown, gr⟩
end Go.Proofs.YtimbcjldejifaaaGreatDoor
namespace Go.Proofs.YtimbcjldejifaaaGreatDoor
open Go.RowKit Go.Lib
set_option linter.unusedSimpArgs false
set_option linter.unusedVariables false
/-- the error of a question with so many values -/
def shapeE (xs : List OpR) (m : Nat) (cl r : Int) : Int := firstE [questE xs cl r, if ((m : Int) != (xs.length : Int)) then 2 else 0]
end Go.Proofs.YtimbcjldejifaaaGreatDoor
namespace Go.Proofs.YtimbcjldejifaaaGreatDoor
open Go.RowKit Go.Lib
set_option linter.unusedSimpArgs false
set_option linter.unusedVariables false
/-- what is known where a question has no error -/
theorem quest_ok {xs : List OpR} {cl r : Int} (h : questE xs cl r = 0) : openE xs = 0 ∧ 0 ≤ cl ∧ cl < xs.length ∧ 1 ≤ r ∧ r ≤ xs.length := by
  unfold questE firstE firstE firstE firstE at h
  by_cases h0 : openE xs = 0
  · rw [if_pos h0] at h
    by_cases h1 : climbE cl xs.length = 0
    · rw [if_pos h1] at h
      by_cases h2 : outE r 1 xs.length = 0
      · refine ⟨h0, ?_⟩
        unfold climbE at h1
        split at h1
        · cases h1
        · unfold outE outB at h2
          split at h2
          · cases h2
          · rename_i a b
            simp only [Bool.or_eq_true, decide_eq_true_eq, not_or] at b
            omega
      · rw [if_neg h2] at h
        exact absurd h h2
    · rw [if_neg h1] at h
      exact absurd h h1
  · rw [if_neg h0] at h
    exact absurd h h0
end Go.Proofs.YtimbcjldejifaaaGreatDoor
namespace Go.Proofs.YtimbcjldejifaaaGreatDoor
open Go.RowKit Go.Lib
set_option linter.unusedSimpArgs false
set_option linter.unusedVariables false
/-- an empty row of the call's own has no cell -/
theorem cell_past {W W9 : World} {base N0 : Nat} {T : TypeId} (own : W.ownsRow base T 1 (.slice (some ⟨N0, 0, none⟩) 0 0) 0 []) (gr : W.grownBy W9 (some N0)) {b j : Nat} {a : Value} (hc : W.cell? ⟨b, j, none⟩ = some a) : W9.cell? ⟨b, j, none⟩ = some a := by
  have hlt := World.block_lt_of_cell? W _ hc
  have hb : some N0 ≠ some b := fun e => by
    cases e
    rcases own.2 with ⟨hn, _⟩ | ⟨g, cap', cur, hv, _, hcur, _, _, hsz, _⟩
    · cases hn
    · cases hv
      have : cur = #[] := by
        apply Array.eq_empty_of_size_eq_zero
        omega
      subst this
      simp [World.cell?, hcur] at hc
  rw [World.cell?_of_block (w := W) (gr.block b hlt (fun e => hb e.symm))]
  exact hc
theorem ops_past {W W9 : World} {u : Value} {xs : List OpR} {base N0 : Nat} {T : TypeId} (h : OpsV W u xs) (own : W.ownsRow base T 1 (.slice (some ⟨N0, 0, none⟩) 0 0) 0 []) (gr : W.grownBy W9 (some N0)) : OpsV W9 u xs := by
  obtain ⟨⟨p, cap, rfl, hcap, hh⟩⟩ := h
  refine ⟨p, cap, rfl, hcap, fun h0 => ?_⟩
  obtain ⟨b, off, h1, h2⟩ := hh h0
  exact ⟨b, off, h1, fun i x hx => ⟨cell_past own gr (h2 i x hx).nm, cell_past own gr (h2 i x hx).lo, cell_past own gr (h2 i x hx).hi⟩⟩
theorem ints_past {W W9 : World} {u : Value} {xs : List Int} {base N0 : Nat} {T : TypeId} (h : IntsV W u xs) (own : W.ownsRow base T 1 (.slice (some ⟨N0, 0, none⟩) 0 0) 0 []) (gr : W.grownBy W9 (some N0)) : IntsV W9 u xs := by
  obtain ⟨⟨p, cap, rfl, hh⟩⟩ := h
  refine ⟨p, cap, rfl, fun h0 => ?_⟩
  obtain ⟨b, off, h1, h2⟩ := hh h0
  exact ⟨b, off, h1, fun i x hx => cell_past own gr (h2 i x hx)⟩
theorem ints_of_owns {w : World} {base n : Nat} {v : Value} {xs : List Int} (hn : xs.length = n) (h : w.ownsRow base 3 1 v n (ints xs)) : IntsV w v xs := by
  subst hn
  obtain ⟨⟨p, cap, rfl, hh⟩⟩ := reads_of_owns h
  refine ⟨p, cap, rfl, fun h0 => ?_⟩
  obtain ⟨g, h1, h2⟩ := hh h0
  exact ⟨g, 0, h1, fun i x hx => by rw [Nat.zero_add]; exact h2 i x hx⟩
theorem ints_nil (w : World) : IntsV w (.slice none 0 0) [] := ⟨none, 0, rfl, fun h => absurd h (by simp)⟩
theorem box0 (w : World) (T : TypeId) : ∃ W, w.alloc (.cells #[] T) = W ∧ Gr w W ∧ W.ownsRow w.heap.size T 1 (.slice (some ⟨w.heap.size, 0, none⟩) 0 0) 0 [] :=
  ⟨_, rfl, (Gr.refl w).alloc _, rfl, .inr ⟨w.heap.size, 0, #[], rfl, Nat.le_refl _, heap_alloc_new w _, Nat.le_refl _, by unfold maxLen; omega, rfl, rfl⟩⟩
theorem shape_ne {xs : List OpR} {cl r : Int} (m : Nat) (h : questE xs cl r ≠ 0) : shapeE xs m cl r ≠ 0 := by
  unfold shapeE firstE
  rw [if_neg h]
  exact h
theorem shape_eq {xs : List OpR} {cl r : Int} (m : Nat) (h : questE xs cl r ≠ 0) : shapeE xs m cl r = questE xs cl r := by
  unfold shapeE firstE
  rw [if_neg h]
theorem shape_two {xs : List OpR} {cl r : Int} (m : Nat) (h : questE xs cl r = 0) (hm : m ≠ xs.length) : shapeE xs m cl r = 2 := by
  have hb : ((m : Int) != (xs.length : Int)) = true := by
    rw [bne_iff_ne]
    omega
  unfold shapeE firstE
  rw [if_pos h, hb]
  rfl
/-- a nil slice, appended to an empty row -/
theorem run_append_nil0 {P : Program} {w : World} (t ty e : TypeId) (i : TypeInfo) (ht : P.underlying t = some (.slice e)) (hi : P.info? e = some i) (N0 c : Nat) :
    (Builtin.append_ #[t, t] ty #[.slice (some ⟨N0, 0, none⟩) 0 0, .slice none 0 c]).run P w = .ok (.slice (some ⟨N0, 0, none⟩) 0 0) w := by
  simp [Builtin.append_, run_underlying ht, sizeOf, typeInfo, hi, Builtin.lenOf, Builtin.firstCells, storeCells]
/-- the values given, appended to an empty row of the call's own -/
theorem wp_append_src {P : Program} {W : World} {o : Oper} {a : Act} {K : Act → World → Prop} {Q : Exit → Act → World → Prop} (s x : Operand) (t : TypeId)
    (ho : o.op = .call { callee := .builtin .append, args := #[s, x], argTypes := #[t, t] }) (i : TypeInfo) (ht : P.underlying t = some (.slice 3)) (hi : P.info? 3 = some i) (hz : i.zero = some (.int .i64 0)) (hsize : i.size = 1) (hby : i.bytes = 8)
    (N0 m c2 : Nat) (p2 : Option Addr) (ys : List Int) (hs : a.eval s = .slice (some ⟨N0, 0, none⟩) 0 0) (hown : W.ownsRow N0 3 1 (.slice (some ⟨N0, 0, none⟩) 0 0) 0 []) (hx : a.eval x = .slice p2 m c2) (hI : IntsV W (.slice p2 m c2) ys) (hm : m ≤ 200) (hbase : N0 ≤ W.heap.size)
    (h : ∀ p9 c9 w', w'.ownsRow N0 3 1 (.slice p9 m c9) m (ints ys) → W.grownBy w' (some N0) → K (a.put o.dst (.slice p9 m c9)) w') : o.wp P a W K Q := by
  obtain ⟨⟨p, cap, hv, hh⟩⟩ := hI
  cases hv
  have h1 : ∀ u ∈ ints ys, u.oneCell' = true := by
    intro u hu
    simp [ints] at hu
    obtain ⟨q, _, rfl⟩ := hu
    rfl
  cases p2 with
  | none =>
    have h0 : ys = [] := by
      rcases Nat.eq_zero_or_pos ys.length with h0 | h0
      · exact List.eq_nil_of_length_eq_zero h0
      · obtain ⟨b, off, e, _⟩ := hh h0
        cases e
    subst h0
    have hr := run_append_nil0 (P := P) (w := W) t o.type 3 i ht hi N0 c2
    unfold Oper.wp execOp
    simp only [ho, resolve, invoke, builtin, Sem.run_bind, Sem.run_pure, Result.andThen_ok, List.map_toArray, List.map_cons, List.map_nil, hs, hx, List.length_nil, hr]
    exact h _ _ _ hown ⟨rfl, rfl, rfl, Nat.le_refl _, fun _ _ _ => rfl⟩
  | some ad =>
    refine wp_append_own W s x t ho N0 3 i (.int .i64 0) 1 8 ht hi hz hsize hby rfl (by decide) _ 0 [] hs hown ad ys.length c2 (ints ys) hx (by simp [ints]) ?_ h1 (by unfold maxLen; omega) (by omega) hbase ?_
    · intro j u hu
      simp only [ints, List.getElem?_map, Option.map_eq_some_iff] at hu
      obtain ⟨y, hy, rfl⟩ := hu
      obtain ⟨b, off, e, hd⟩ := hh (by have := (List.getElem?_eq_some_iff.1 hy).1; omega)
      cases e
      rw [Go.WideShapes.add_plain]
      exact hd j y hy
    · intro v9 W9 own9 gr9 _
      rw [Nat.zero_add] at own9
      obtain ⟨p9, c9, hp9⟩ := owns_slice own9
      subst hp9
      exact h _ _ _ own9 gr9
end Go.Proofs.YtimbcjldejifaaaGreatDoor
namespace Go.Proofs.YtimbcjldejifaaaGreatDoor
open Go.RowKit Go.Lib
set_option linter.unusedSimpArgs false
set_option linter.unusedVariables false
theorem ints_len {w : World} {p : Option Addr} {m c : Nat} {xs : List Int} (h : IntsV w (.slice p m c) xs) : xs.length = m := by
  obtain ⟨⟨p', c', e, _⟩⟩ := h
  cases e
  rfl
theorem ints_slice {w : World} {v : Value} {xs : List Int} {n : Nat} (hn : xs.length = n) (h : IntsV w v xs) : ∃ p c, v = .slice p n c ∧ IntsV w (.slice p n c) xs := by
  obtain ⟨⟨p, cap, rfl, hh⟩⟩ := h
  subst hn
  exact ⟨p, cap, rfl, ⟨p, cap, rfl, hh⟩⟩
end Go.Proofs.YtimbcjldejifaaaGreatDoor
namespace Go.Proofs.YtimbcjldejifaaaGreatDoor
open Go.RowKit Go.Lib
set_option linter.unusedSimpArgs false
set_option linter.unusedVariables false
theorem witness_I (hS : SortOK) {xs : List OpR} {v : Value} {w : World} {cl : Nat} {x : OpR} {r : Int} (h : OpsV w v xs) (hE : questE xs cl r = 0) (hx : xs[cl]? = some x) (h1 : xs.length ≤ 160) (hr0 : 1 ≤ r) (hr1 : r ≤ 1000) (hP : isPoss x.lo x.hi (others xs cl) r = true) :
    Calls Tryz.prog 8 #[v, .int .i64 cl, .int .i64 r] w fun e w' => ∃ s, e = .returned (.tuple #[s, .int .i64 0]) ∧ IntsV w' s (witL cl (turnV x.lo (others xs cl) r) xs 0 (r - 1 - cntV (fun y => y.lo) (turnV x.lo (others xs cl) r) (others xs cl))) ∧ Gr w w' := by
  have h0 : 0 < xs.length := by
    have := (List.getElem?_eq_some_iff.1 hx).1
    omega
  have h' := h
  obtain ⟨⟨p, cap, rfl, hcap, hh'⟩⟩ := h
  obtain ⟨b, off, rfl, hc⟩ := hh' h0
  refine (witness_some hS _ b off cap cl r x rfl h' hc hE hx h1 hr0 hr1 hP).mono ?_
  rintro e w' ⟨s, rfl, ho, g⟩
  exact ⟨s, rfl, ints_of_owns (witL_len _ _ _ _ _) ho, g⟩
end Go.Proofs.YtimbcjldejifaaaGreatDoor
