/- Members: who suits. -/
import Derived.Test.YtmlmbgifkmkmgaaGreatGMbI
import Derived.Test.YtmlmbgifkmkmgaaGreatMbO
namespace Go.Proofs.YtmlmbgifkmkmgaaGreat
open Go.RowKit Go.Lib
set_option linter.unusedSimpArgs false
set_option linter.unusedVariables false
/-- words -/
def wdsC (ns : List ByteArray) : List Value := ns.map fun s => .string s
structure WdsV (w : World) (v : Value) (ns : List ByteArray) : Prop where
  mk' ::
  out : ∃ p cap, v = .slice p ns.length cap ∧ (ns.length ≤ cap ∧ cap ≤ maxLen) ∧ (0 < ns.length → ∃ b off, p = some ⟨b, off, none⟩ ∧ ∀ i s, ns[i]? = some s → w.cell? ⟨b, off + i, none⟩ = some (.string s))
theorem WdsV.gr {w w' : World} {v : Value} {ns : List ByteArray} (h : WdsV w v ns) (k : Gr w w') : WdsV w' v ns := by
  obtain ⟨⟨p, cap, rfl, hcap, hh⟩⟩ := h
  refine ⟨p, cap, rfl, hcap, fun h0 => ?_⟩
  obtain ⟨b, off, h1, h2⟩ := hh h0
  exact ⟨b, off, h1, fun i x hx => k.cell (h2 i x hx)⟩
theorem wdsV_of_owns {w : World} {base : Nat} {v : Value} {ns : List ByteArray} {T : TypeId} {n : Nat} (hn : ns.length = n) (h : w.ownsRow base T 1 v n (wdsC ns)) : WdsV w v ns := by
  subst hn
  rcases h.2 with ⟨rfl, h0⟩ | ⟨g, cap, cur, rfl, _, _, hle, hmx, _, _⟩
  · exact ⟨none, 0, by rw [h0], ⟨by omega, by unfold maxLen; omega⟩, fun h => by omega⟩
  · refine ⟨some ⟨g, 0, none⟩, cap, rfl, ⟨hle, hmx⟩, fun _ => ⟨g, 0, rfl, fun i x hx => ?_⟩⟩
    have e : ∀ j, (⟨g, 0, none⟩ : Addr).add j = ⟨g, j, none⟩ := fun j => by unfold Addr.add; split <;> simp_all
    have c0 := h.cells (g := g) rfl i (.string x) (by simp [wdsC, hx])
    rw [e] at c0
    simpa using c0
theorem infoStr : (Tryz.prog.info? 9).map (fun i => (i.zero, i.size, i.bytes)) = some (some (.string ⟨#[]⟩), 1, 16) := by kernel_rfl
theorem wdsC_add (ns : List ByteArray) (s : ByteArray) : wdsC (ns ++ [s]) = wdsC ns ++ [.string s] := by simp [wdsC]
theorem cell_one_at (w : World) (s : Nat) (hs : w.heap.size = s) (a : Value) (T : TypeId) : ∀ (j : Nat) (u : Value), [a][j]? = some u → (w.alloc (.cells #[a] T)).cell? ((⟨s, 0, none⟩ : Addr).add j) = some u := by
  subst hs
  exact cell_one_new w a T
set_option maxHeartbeats 1000000 in
set_option maxRecDepth 100000 in
theorem suits_good {xs : List CatR} {v : Value} (x : CliR) (d : Int) (w : World) (hv : CatAts w v xs) (h0 : listE 256 (catE xs) xs = 0) (h1 : ageE x d = 0) :
    Calls Tryz.prog 19 #[v, cliV x, .int .i64 d] w fun e w' => ∃ u, e = .returned (.tuple #[u, .int .i64 0]) ∧ WdsV w' u (suitL xs ((d - x.bn) / 365)) ∧ Gr w w' := by
  obtain ⟨i1, hj, hy0, hy1, hy2⟩ := info_parts infoStr
  obtain ⟨r1, r2⟩ := cat_range h0
  obtain ⟨b0, b1, b2⟩ := ageE_zero h1
  have HAg := Lib.hid (fun W => ageOf_c x d W b0 b1 b2)
  have HC := Lib.hid (fun W (gg : Gr w W) => checkCats_c xs _ W (hv.gr gg))
  have HA := Lib.hid (fun W (_ : Gr w W) => checkAge_c x d W)
  have HF := Lib.hid (fun b cap W h h' => first_pair (listE 256 (catE xs) xs) (ageE x d) b cap W h h')
  rw [h0] at HC HF
  rw [h1] at HA HF
  rw [show firstE [0, 0] = 0 by simp [firstE]] at HF
  obtain ⟨⟨p, cap, rfl, hcap, hh⟩⟩ := hv
  have HCs := Lib.hid hh
  obtain ⟨n, hn⟩ : ∃ n, n = xs.length := ⟨_, rfl⟩
  rw [← hn] at HC HCs r1 hcap ⊢
  have HN := Lib.hid hn
  generalize hae : (d - x.bn) / 365 = a at *
  clear hn hh r2 h0 h1 b0 b1 b2 hae
  unfold cliV at *
  obtain ⟨W, hW, g, a0, a1, a2, a3⟩ := box4 w (.string x.nm) (.string x.na) (.int .i64 x.bn) (.string x.ct) 42
  have HW := Lib.hid hW
  clear hW
  go_enter Tryz.func19, Tryz.ntmps19
  go_wp2_with fail
  rw [HW.out]
  generalize w.heap.size = Bx at *
  clear HW
  have gd := (Gr.refl W).drew
  replace a0 := gd.cell a0
  replace a1 := gd.cell a1
  replace a2 := gd.cell a2
  replace a3 := gd.cell a3
  replace g := g.trans gd
  clear gd
  refine wp_region_held_drew (S := (fun w' => w'.cell? ⟨Bx, 0, none⟩ = some (.string x.nm) ∧ w'.cell? ⟨Bx, 1, none⟩ = some (.string x.na) ∧ w'.cell? ⟨Bx, 2, none⟩ = some (.int .i64 x.bn) ∧ w'.cell? ⟨Bx, 3, none⟩ = some (.string x.ct))) (by kernel_rfl) ⟨a0, a1, a2, a3⟩ (fun hHeld => ?_)
  generalize W.drew = V at *
  refine wpAnyH_take (i := 0) (v := (.slice p n cap)) (op_at rfl) (by kernel_rfl) (by kernel_rfl) (by kernel_rfl) (fun _ _ _ h => h) (Or.inl ⟨rfl, fun w hSw => ?_⟩) (by assumption) ?_
  · (try dsimp only at hSw); go_simp; try with_reducible rfl
  (try simp only [Act.put, List.setIfInBounds_toArray, List.set_cons_zero, List.set_cons_succ])
  refine wpAnyH_take (i := 2) (v := (.agg #[.string x.nm, .string x.na, .int .i64 x.bn, .string x.ct])) (op_at rfl) (by kernel_rfl) (by kernel_rfl) (by kernel_rfl) (fun _ _ _ h => h) (Or.inl ⟨rfl, fun w hSw => ?_⟩) (by assumption) ?_
  · (try dsimp only at hSw); go_simp; try with_reducible rfl
  (try simp only [Act.put, List.setIfInBounds_toArray, List.set_cons_zero, List.set_cons_succ])
  refine wpAnyH_take (i := 3) (v := (.int .i64 d)) (op_at rfl) (by kernel_rfl) (by kernel_rfl) (by kernel_rfl) (fun _ _ _ h => h) (Or.inl ⟨rfl, fun w hSw => ?_⟩) (by assumption) ?_
  · (try dsimp only at hSw); go_simp; try with_reducible rfl
  (try simp only [Act.put, List.setIfInBounds_toArray, List.set_cons_zero, List.set_cons_succ])
  refine wpAnyH_ready (rs := [1]) (by kernel_rfl) (by simp) (AllReadyH.cons (op_at rfl) (fun K hK => ?_) AllReadyH.nil)
  go_simp
  (refine (HC.out _ g).mono ?_; rintro e W1 ⟨rfl, hg⟩; replace a0 := hg.cell a0; replace a1 := hg.cell a1; replace a2 := hg.cell a2; replace a3 := hg.cell a3; replace g := g.trans hg; clear hg)
  go_wp2_with fail
  refine hK.out _ _ ⟨a0, a1, a2, a3⟩ (fun hHeld => ?_)
  clear hK K
  (try simp only [Act.put, List.setIfInBounds_toArray, List.set_cons_zero, List.set_cons_succ])
  refine wpAnyH_ready (rs := [4]) (by kernel_rfl) (by simp) (AllReadyH.cons (op_at rfl) (fun K hK => ?_) AllReadyH.nil)
  go_simp
  (refine (HA.out _ g).mono ?_; rintro e W2 ⟨rfl, hg⟩; replace a0 := hg.cell a0; replace a1 := hg.cell a1; replace a2 := hg.cell a2; replace a3 := hg.cell a3; replace g := g.trans hg; clear hg)
  go_wp2_with fail
  refine hK.out _ _ ⟨a0, a1, a2, a3⟩ (fun hHeld => ?_)
  clear hK K
  (try simp only [Act.put, List.setIfInBounds_toArray, List.set_cons_zero, List.set_cons_succ])
  refine wpAnyH_ready (rs := [5]) (by kernel_rfl) (by simp) (AllReadyH.cons (op_at rfl) (fun K hK => ?_) AllReadyH.nil)
  go_simp
  obtain ⟨WW, hWW, gW, s0, s1⟩ := box2 W2 (.int .i64 0) (.int .i64 0) 30
  rw [hWW]
  clear hWW
  replace a0 := gW.cell a0
  replace a1 := gW.cell a1
  replace a2 := gW.cell a2
  replace a3 := gW.cell a3
  replace g := g.trans gW
  refine hK.out _ _ ⟨a0, a1, a2, a3⟩ (fun hHeld => ?_)
  clear hK K
  (try simp only [Act.put, List.setIfInBounds_toArray, List.set_cons_zero, List.set_cons_succ])
  refine wpAnyH_ready (rs := [6]) (by kernel_rfl) (by simp) (AllReadyH.cons (op_at rfl) (fun K hK => ?_) AllReadyH.nil)
  go_simp
  (refine (HF.out _ _ WW s0 s1).mono ?_; rintro e w8 ⟨rfl, rfl⟩)
  go_wp2_with fail
  refine hK.out _ _ ⟨a0, a1, a2, a3⟩ (fun hHeld => ?_)
  clear hK K
  (try simp only [Act.put, List.setIfInBounds_toArray, List.set_cons_zero, List.set_cons_succ])
  refine wpAnyH_take (i := 7) (v := (.int .i64 0)) (op_at rfl) (by kernel_rfl) (by kernel_rfl) (by kernel_rfl) (fun _ _ _ h => h) (Or.inl ⟨rfl, fun w hSw => ?_⟩) (by assumption) ?_
  · (try dsimp only at hSw); go_simp; try with_reducible rfl
  (try simp only [Act.put, List.setIfInBounds_toArray, List.set_cons_zero, List.set_cons_succ])
  refine wpAnyH_done (by kernel_rfl) ?_ _
  go_wp2_with fail
  refine (HAg.out _).mono ?_
  rintro e W9 ⟨rfl, hg9⟩
  have g9 := g.trans hg9
  clear hg9
  go_wp2_with fail
  go_loopw [9, 28] (fun v ix wr => ∃ k : Nat, k ≤ n ∧ ix = .int .i64 k ∧ wr.ownsRow W9.heap.size 9 1 v (suitL (xs.take k) a).length (wdsC (suitL (xs.take k) a)) ∧ Gr W9 wr) (fun _ ix _ => n - (intOf ix).toNat)
  case atStart => exact ⟨0, Nat.zero_le _, rfl, World.ownsRow_nil _ _ _ _, Gr.refl _⟩
  case round =>
    obtain ⟨k, hk, rfl, hown, hnx⟩ := hrel
    have hsize := hnx.size
    by_cases hkN : k < n
    · obtain ⟨y, hy⟩ : ∃ y, xs[k]? = some y := ⟨xs[k]'(by have := HN.out; omega), List.getElem?_eq_getElem _⟩
      obtain ⟨b, off, rfl, hcc⟩ := HCs.out (by omega)
      obtain ⟨c0, c1, c2⟩ := (hcc k y hy).gr (g9.trans hnx)
      have hst := suitL_take hy a
      have hsl := suitL_len (xs.take k) a
      have hsl2 := List.length_take_le k xs
      have hi2 : (k : Int) < n := by omega
      clear hcc hy
      generalize hzz : (suitL (xs.take k) a).length = z at *
      unfold suitB at hst
      cases q1 : decide (y.lo ≤ a)
      · rw [q1] at hst
        simp only [Bool.false_and, Bool.false_eq_true, if_false, List.append_nil] at hst
        have HST := Lib.hid hst
        have HZ := Lib.hid hzz
        clear hst hzz
        go_wp2_with fail
        go_roundw
        case rel => exact ⟨k + 1, by omega, by go_num, by rw [HST.out, HZ.out]; exact own_gr hown ((Gr.refl wr).alloc _), hnx.trans ((Gr.refl wr).alloc _)⟩
        case measure => simp [intOf]; omega
      cases q2 : decide (a ≤ y.hi)
      · rw [q1, q2] at hst
        simp only [Bool.and_false, Bool.false_eq_true, if_false, List.append_nil] at hst
        have HST := Lib.hid hst
        have HZ := Lib.hid hzz
        clear hst hzz
        go_wp2_with fail
        go_roundw
        case rel => exact ⟨k + 1, by omega, by go_num, by rw [HST.out, HZ.out]; exact own_gr hown ((Gr.refl wr).alloc _), hnx.trans ((Gr.refl wr).alloc _)⟩
        case measure => simp [intOf]; omega
      · rw [q1, q2] at hst
        simp only [Bool.and_true, if_true] at hst
        have HST := Lib.hid hst
        have HZ := Lib.hid hzz
        clear hst hzz
        go_wp2_with (first
          | (at_builtin; refine wpList_append_own _ rfl _ _ 43 rfl W9.heap.size 9 i1 (.string ⟨#[]⟩) 1 16 Tryz.underlying43 hj hy0 hy1 hy2 rfl (by decide) _ _ _ rfl ((hown.alloc _).alloc _) ⟨wr.heap.size + 1, 0, none⟩ 1 1 [.string y.nm] rfl rfl (cell_one_at _ _ (by simp) _ _) (by intro u hu; simp at hu; subst hu; rfl) (by unfold maxLen; omega) (by omega) (by simp; omega) ?_; intro v1 w1 hown1 hgrow1 hnil1))
        go_roundw
        case rel => exact ⟨k + 1, by omega, by go_num, by rw [HST.out, wdsC_add, List.length_append, HZ.out]; exact hown1, Below.grown (Below.alloc (Below.alloc hnx hsize _) (by simp; omega) _) hgrow1 (by simp; omega) (fun j hj => (hown.lt j hj).1)⟩
        case measure => simp [intOf]; omega
    · have hkk : k = n := by omega
      subst hkk
      rw [List.take_of_length_le (by have := HN.out; omega)] at hown
      go_wp2_with fail
      exact bodyPost_ret (v := .tuple #[_, .int .i64 0]) (by simp [results, Tryz.results19, go_sem]) rfl ⟨_, rfl, wdsV_of_owns rfl hown, g9.trans hnx⟩
set_option maxHeartbeats 1000000 in
set_option maxRecDepth 100000 in
theorem suits_bad {xs : List CatR} {v : Value} (x : CliR) (d : Int) (w : World) (hv : CatAts w v xs) (h0 : firstE [listE 256 (catE xs) xs, ageE x d] ≠ 0) :
    Calls Tryz.prog 19 #[v, cliV x, .int .i64 d] w fun e w' => e = .returned (.tuple #[.slice none 0 0, .int .i64 (firstE [listE 256 (catE xs) xs, ageE x d])]) ∧ Gr w w' := by
  have HC := Lib.hid (fun W (gg : Gr w W) => checkCats_c xs _ W (hv.gr gg))
  have HA := Lib.hid (fun W (_ : Gr w W) => checkAge_c x d W)
  have HF := Lib.hid (fun b cap W h h' => first_pair (listE 256 (catE xs) xs) (ageE x d) b cap W h h')
  generalize firstE [listE 256 (catE xs) xs, ageE x d] = err at *
  generalize listE 256 (catE xs) xs = e1 at *
  generalize ageE x d = e2 at *
  have q1 : (err == 0) = false := by simpa using h0
  have q2 : (err != 0) = true := by simpa [bne] using q1
  obtain ⟨⟨p, cap, rfl, hcap, hh⟩⟩ := hv
  generalize xs.length = n at *
  clear hh h0
  unfold cliV at *
  obtain ⟨W, hW, g, a0, a1, a2, a3⟩ := box4 w (.string x.nm) (.string x.na) (.int .i64 x.bn) (.string x.ct) 42
  have HW := Lib.hid hW
  clear hW
  go_enter Tryz.func19, Tryz.ntmps19
  go_wp2_with fail
  rw [HW.out]
  generalize w.heap.size = Bx at *
  clear HW
  have gd := (Gr.refl W).drew
  replace a0 := gd.cell a0
  replace a1 := gd.cell a1
  replace a2 := gd.cell a2
  replace a3 := gd.cell a3
  replace g := g.trans gd
  clear gd
  refine wp_region_held_drew (S := (fun w' => w'.cell? ⟨Bx, 0, none⟩ = some (.string x.nm) ∧ w'.cell? ⟨Bx, 1, none⟩ = some (.string x.na) ∧ w'.cell? ⟨Bx, 2, none⟩ = some (.int .i64 x.bn) ∧ w'.cell? ⟨Bx, 3, none⟩ = some (.string x.ct))) (by kernel_rfl) ⟨a0, a1, a2, a3⟩ (fun hHeld => ?_)
  generalize W.drew = V at *
  refine wpAnyH_take (i := 0) (v := (.slice p n cap)) (op_at rfl) (by kernel_rfl) (by kernel_rfl) (by kernel_rfl) (fun _ _ _ h => h) (Or.inl ⟨rfl, fun w hSw => ?_⟩) (by assumption) ?_
  · (try dsimp only at hSw); go_simp; try with_reducible rfl
  (try simp only [Act.put, List.setIfInBounds_toArray, List.set_cons_zero, List.set_cons_succ])
  refine wpAnyH_take (i := 2) (v := (.agg #[.string x.nm, .string x.na, .int .i64 x.bn, .string x.ct])) (op_at rfl) (by kernel_rfl) (by kernel_rfl) (by kernel_rfl) (fun _ _ _ h => h) (Or.inl ⟨rfl, fun w hSw => ?_⟩) (by assumption) ?_
  · (try dsimp only at hSw); go_simp; try with_reducible rfl
  (try simp only [Act.put, List.setIfInBounds_toArray, List.set_cons_zero, List.set_cons_succ])
  refine wpAnyH_take (i := 3) (v := (.int .i64 d)) (op_at rfl) (by kernel_rfl) (by kernel_rfl) (by kernel_rfl) (fun _ _ _ h => h) (Or.inl ⟨rfl, fun w hSw => ?_⟩) (by assumption) ?_
  · (try dsimp only at hSw); go_simp; try with_reducible rfl
  (try simp only [Act.put, List.setIfInBounds_toArray, List.set_cons_zero, List.set_cons_succ])
  refine wpAnyH_ready (rs := [1]) (by kernel_rfl) (by simp) (AllReadyH.cons (op_at rfl) (fun K hK => ?_) AllReadyH.nil)
  go_simp
  (refine (HC.out _ g).mono ?_; rintro e W1 ⟨rfl, hg⟩; replace a0 := hg.cell a0; replace a1 := hg.cell a1; replace a2 := hg.cell a2; replace a3 := hg.cell a3; replace g := g.trans hg; clear hg)
  go_wp2_with fail
  refine hK.out _ _ ⟨a0, a1, a2, a3⟩ (fun hHeld => ?_)
  clear hK K
  (try simp only [Act.put, List.setIfInBounds_toArray, List.set_cons_zero, List.set_cons_succ])
  refine wpAnyH_ready (rs := [4]) (by kernel_rfl) (by simp) (AllReadyH.cons (op_at rfl) (fun K hK => ?_) AllReadyH.nil)
  go_simp
  (refine (HA.out _ g).mono ?_; rintro e W2 ⟨rfl, hg⟩; replace a0 := hg.cell a0; replace a1 := hg.cell a1; replace a2 := hg.cell a2; replace a3 := hg.cell a3; replace g := g.trans hg; clear hg)
  go_wp2_with fail
  refine hK.out _ _ ⟨a0, a1, a2, a3⟩ (fun hHeld => ?_)
  clear hK K
  (try simp only [Act.put, List.setIfInBounds_toArray, List.set_cons_zero, List.set_cons_succ])
  refine wpAnyH_ready (rs := [5]) (by kernel_rfl) (by simp) (AllReadyH.cons (op_at rfl) (fun K hK => ?_) AllReadyH.nil)
  go_simp
  obtain ⟨WW, hWW, gW, s0, s1⟩ := box2 W2 (.int .i64 e1) (.int .i64 e2) 30
  rw [hWW]
  clear hWW
  replace a0 := gW.cell a0
  replace a1 := gW.cell a1
  replace a2 := gW.cell a2
  replace a3 := gW.cell a3
  replace g := g.trans gW
  refine hK.out _ _ ⟨a0, a1, a2, a3⟩ (fun hHeld => ?_)
  clear hK K
  (try simp only [Act.put, List.setIfInBounds_toArray, List.set_cons_zero, List.set_cons_succ])
  refine wpAnyH_ready (rs := [6]) (by kernel_rfl) (by simp) (AllReadyH.cons (op_at rfl) (fun K hK => ?_) AllReadyH.nil)
  go_simp
  (refine (HF.out _ _ WW s0 s1).mono ?_; rintro e w8 ⟨rfl, rfl⟩)
  go_wp2_with fail
  refine hK.out _ _ ⟨a0, a1, a2, a3⟩ (fun hHeld => ?_)
  clear hK K
  (try simp only [Act.put, List.setIfInBounds_toArray, List.set_cons_zero, List.set_cons_succ])
  refine wpAnyH_take (i := 7) (v := (.int .i64 err)) (op_at rfl) (by kernel_rfl) (by kernel_rfl) (by kernel_rfl) (fun _ _ _ h => h) (Or.inl ⟨rfl, fun w hSw => ?_⟩) (by assumption) ?_
  · (try dsimp only at hSw); go_simp; try with_reducible rfl
  (try simp only [Act.put, List.setIfInBounds_toArray, List.set_cons_zero, List.set_cons_succ])
  refine wpAnyH_done (by kernel_rfl) ?_ _
  go_wp2_with fail
  exact bodyPost_ret (v := .tuple #[.slice none 0 0, .int .i64 err]) (by simp [results, Tryz.results19, go_sem]) rfl ⟨rfl, g⟩
set_option maxHeartbeats 1000000 in
set_option maxRecDepth 100000 in
theorem refSuits_c {xs : List CatR} {v : Value} (a : Int) (W9 : World) (hv : CatAts W9 v xs) (r1 : xs.length ≤ 1000) :
    Calls Tryz.prog 25 #[v, .int .i64 a] W9 fun e w' => ∃ u, e = .returned u ∧ w'.ownsRow W9.heap.size 9 1 u (suitL xs a).length (wdsC (suitL xs a)) ∧ Gr W9 w' := by
  obtain ⟨i1, hj, hy0, hy1, hy2⟩ := info_parts infoStr
  obtain ⟨⟨p, cap, rfl, hcap, hh⟩⟩ := hv
  have HCs := Lib.hid hh
  obtain ⟨n, hn⟩ : ∃ n, n = xs.length := ⟨_, rfl⟩
  rw [← hn] at HCs r1 hcap ⊢
  have HN := Lib.hid hn
  have g9 := Gr.refl W9
  clear hn hh
  go_enter Tryz.func25, Tryz.ntmps25
  go_wp2_with fail
  go_loopw [5, 6] (fun v ix wr => ∃ k : Nat, k ≤ n ∧ ix = .int .i64 k ∧ wr.ownsRow W9.heap.size 9 1 v (suitL (xs.take k) a).length (wdsC (suitL (xs.take k) a)) ∧ Gr W9 wr) (fun _ ix _ => n - (intOf ix).toNat)
  case atStart => exact ⟨0, Nat.zero_le _, rfl, World.ownsRow_nil _ _ _ _, Gr.refl _⟩
  case round =>
    obtain ⟨k, hk, rfl, hown, hnx⟩ := hrel
    have hsize := hnx.size
    by_cases hkN : k < n
    · obtain ⟨y, hy⟩ : ∃ y, xs[k]? = some y := ⟨xs[k]'(by have := HN.out; omega), List.getElem?_eq_getElem _⟩
      obtain ⟨b, off, rfl, hcc⟩ := HCs.out (by omega)
      obtain ⟨c0, c1, c2⟩ := (hcc k y hy).gr (g9.trans hnx)
      have hst := suitL_take hy a
      have hsl := suitL_len (xs.take k) a
      have hsl2 := List.length_take_le k xs
      have hi2 : (k : Int) < n := by omega
      clear hcc hy
      generalize hzz : (suitL (xs.take k) a).length = z at *
      unfold suitB at hst
      cases q1 : decide (y.lo ≤ a)
      · rw [q1] at hst
        simp only [Bool.false_and, Bool.false_eq_true, if_false, List.append_nil] at hst
        have HST := Lib.hid hst
        have HZ := Lib.hid hzz
        clear hst hzz
        go_wp2_with fail
        go_roundw
        case rel => exact ⟨k + 1, by omega, by go_num, by rw [HST.out, HZ.out]; exact own_gr hown (Gr.refl wr), hnx.trans (Gr.refl wr)⟩
        case measure => simp [intOf]; omega
      cases q2 : decide (a ≤ y.hi)
      · rw [q1, q2] at hst
        simp only [Bool.and_false, Bool.false_eq_true, if_false, List.append_nil] at hst
        have HST := Lib.hid hst
        have HZ := Lib.hid hzz
        clear hst hzz
        go_wp2_with fail
        go_roundw
        case rel => exact ⟨k + 1, by omega, by go_num, by rw [HST.out, HZ.out]; exact own_gr hown (Gr.refl wr), hnx.trans (Gr.refl wr)⟩
        case measure => simp [intOf]; omega
      · rw [q1, q2] at hst
        simp only [Bool.and_true, if_true] at hst
        have HST := Lib.hid hst
        have HZ := Lib.hid hzz
        clear hst hzz
        go_wp2_with (first
          | (at_builtin; refine wpList_append_own _ rfl _ _ 43 rfl W9.heap.size 9 i1 (.string ⟨#[]⟩) 1 16 Tryz.underlying43 hj hy0 hy1 hy2 rfl (by decide) _ _ _ rfl (hown.alloc _) ⟨wr.heap.size, 0, none⟩ 1 1 [.string y.nm] rfl rfl (cell_one_at _ _ (by simp) _ _) (by intro u hu; simp at hu; subst hu; rfl) (by unfold maxLen; omega) (by omega) (by simp; omega) ?_; intro v1 w1 hown1 hgrow1 hnil1))
        go_roundw
        case rel => exact ⟨k + 1, by omega, by go_num, by rw [HST.out, wdsC_add, List.length_append, HZ.out]; exact hown1, Below.grown (Below.alloc hnx hsize _) hgrow1 (by simp; omega) (fun j hj => (hown.lt j hj).1)⟩
        case measure => simp [intOf]; omega
    · have hkk : k = n := by omega
      subst hkk
      rw [List.take_of_length_le (by have := HN.out; omega)] at hown
      go_wp2_with fail
      go_ret
      exact ⟨_, rfl, hown, hnx⟩
end Go.Proofs.YtmlmbgifkmkmgaaGreat
