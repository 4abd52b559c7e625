/- Members: who suits. -/
import Derived.Test.YtenkbeeiblhnjaaGreatGMbM
import Derived.Test.YtenkbeeiblhnjaaGreatMbO
import Derived.Test.YtenkbeeiblhnjaaGreatGSyA
import Derived.Test.YtenkbeeiblhnjaaGreatGMbA
import Derived.Test.YtenkbeeiblhnjaaGreatGTsB
import Derived.Test.YtenkbeeiblhnjaaGreatMbD
import Derived.Test.YtenkbeeiblhnjaaGreatNmsA
import Derived.BigRegion
import Derived.BigQuiet
namespace Go.Proofs.YtenkbeeiblhnjaaGreat
open Go.RowKit Go.Lib
set_option linter.unusedSimpArgs false
set_option linter.unusedVariables false
/-- words -/
def wdsC (ns : List ByteArray) : List Value := ns.map fun s => .string s
structure WdsV (w : World) (v : Value) (ns : List ByteArray) : Prop where
  mk' ::
  out : ∃ p cap, v = .slice p ns.length cap ∧ (ns.length ≤ cap ∧ cap ≤ maxLen) ∧ (0 < ns.length → ∃ b off, p = some ⟨b, off, none⟩ ∧ ∀ i s, ns[i]? = some s → w.cell? ⟨b, off + i, none⟩ = some (.string s))
theorem WdsV.gr {w w' : World} {v : Value} {ns : List ByteArray} (h : WdsV w v ns) (k : Gr w w') : WdsV w' v ns := by
  obtain ⟨⟨p, cap, rfl, hcap, hh⟩⟩ := h
  refine ⟨p, cap, rfl, hcap, fun h0 => ?_⟩
  obtain ⟨b, off, h1, h2⟩ := hh h0
  exact ⟨b, off, h1, fun i x hx => k.cell (h2 i x hx)⟩
theorem wdsV_of_owns {w : World} {base : Nat} {v : Value} {ns : List ByteArray} {T : TypeId} {n : Nat} (hn : ns.length = n) (h : w.ownsRow base T 1 v n (wdsC ns)) : WdsV w v ns := by
  subst hn
  rcases h.2 with ⟨rfl, h0⟩ | ⟨g, cap, cur, rfl, _, _, hle, hmx, _, _⟩
  · exact ⟨none, 0, by rw [h0], ⟨by omega, by unfold maxLen; omega⟩, fun h => by omega⟩
  · refine ⟨some ⟨g, 0, none⟩, cap, rfl, ⟨hle, hmx⟩, fun _ => ⟨g, 0, rfl, fun i x hx => ?_⟩⟩
    have e : ∀ j, (⟨g, 0, none⟩ : Addr).add j = ⟨g, j, none⟩ := fun j => by unfold Addr.add; split <;> simp_all
    have c0 := h.cells (g := g) rfl i (.string x) (by simp [wdsC, hx])
    rw [e] at c0
    simpa using c0
theorem infoStr : (Tryz.prog.info? 9).map (fun i => (i.zero, i.size, i.bytes)) = some (some (.string ⟨#[]⟩), 1, 16) := by kernel_rfl
theorem wdsC_add (ns : List ByteArray) (s : ByteArray) : wdsC (ns ++ [s]) = wdsC ns ++ [.string s] := by simp [wdsC]
theorem cell_one_at (w : World) (s : Nat) (hs : w.heap.size = s) (a : Value) (T : TypeId) : ∀ (j : Nat) (u : Value), [a][j]? = some u → (w.alloc (.cells #[a] T)).cell? ((⟨s, 0, none⟩ : Addr).add j) = some u := by
  subst hs
  exact cell_one_new w a T
set_option maxHeartbeats 1000000 in
set_option maxRecDepth 100000 in
theorem suits_good {xs : List CatR} {v : Value} (x : CliR) (d : Int) (w : World) (hv : CatAts w v xs) (h0 : listE 256 (catE xs) xs = 0) (h1 : ageE x d = 0) :
    Calls Tryz.prog 32 #[v, cliV x, .int .i64 d] w fun e w' => ∃ u, e = .returned (.tuple #[u, .int .i64 0]) ∧ WdsV w' u (suitL xs ((d - x.bn) / 365)) ∧ Gr w w' := by
  obtain ⟨i1, hj, hy0, hy1, hy2⟩ := info_parts infoStr
  obtain ⟨r1, r2⟩ := cat_range h0
  obtain ⟨b0, b1, b2⟩ := ageE_zero h1
  have HAg := Lib.hid (fun W => ageOf_c x d W b0 b1 b2)
  have HC := Lib.hid (fun W (gg : Gr w W) => checkCats_c xs _ W (hv.gr gg))
  have HA := Lib.hid (fun W (_ : Gr w W) => checkAge_c x d W)
  have HF := Lib.hid (fun b cap W h h' => first_pair (listE 256 (catE xs) xs) (ageE x d) b cap W h h')
  rw [h0] at HC HF
  rw [h1] at HA HF
  rw [show firstE [0, 0] = 0 by simp [firstE]] at HF
  obtain ⟨⟨p, cap, rfl, hcap, hh⟩⟩ := hv
  have HCs := Lib.hid hh
  obtain ⟨n, hn⟩ : ∃ n, n = xs.length := ⟨_, rfl⟩
  rw [← hn] at HC HCs r1 hcap ⊢
  have HN := Lib.hid hn
  generalize hae : (d - x.bn) / 365 = a at *
  clear hn hh r2 h0 h1 b0 b1 b2 hae
  unfold cliV at *
  obtain ⟨W, hW, g, a0, a1, a2, a3⟩ := box4 w (.string x.nm) (.string x.na) (.int .i64 x.bn) (.string x.ct) 74
  have HW := Lib.hid hW
  clear hW
  go_enter Tryz.func32, Tryz.ntmps32
  go_wp2_with fail
  rw [HW.out]
  generalize w.heap.size = Bx at *
  clear HW
  have gd := (Gr.refl W).drew
  replace a0 := gd.cell a0
  replace a1 := gd.cell a1
  replace a2 := gd.cell a2
  replace a3 := gd.cell a3
  replace g := g.trans gd
  clear gd
  refine wp_region_held_drew (S := (fun w' => w'.cell? ⟨Bx, 0, none⟩ = some (.string x.nm) ∧ w'.cell? ⟨Bx, 1, none⟩ = some (.string x.na) ∧ w'.cell? ⟨Bx, 2, none⟩ = some (.int .i64 x.bn) ∧ w'.cell? ⟨Bx, 3, none⟩ = some (.string x.ct))) (by kernel_rfl) ⟨a0, a1, a2, a3⟩ (fun hHeld => ?_)
  generalize W.drew = V at *
  refine wpAnyH_take (i := 0) (v := (.slice p n cap)) (op_at rfl) (by kernel_rfl) (by kernel_rfl) (by kernel_rfl) (fun _ _ _ h => h) (Or.inl ⟨rfl, fun w hSw => ?_⟩) (by assumption) ?_
  · (try dsimp only at hSw); go_simp; try with_reducible rfl
  (try simp only [Act.put, List.setIfInBounds_toArray, List.set_cons_zero, List.set_cons_succ])
  refine wpAnyH_take (i := 2) (v := (.agg #[.string x.nm, .string x.na, .int .i64 x.bn, .string x.ct])) (op_at rfl) (by kernel_rfl) (by kernel_rfl) (by kernel_rfl) (fun _ _ _ h => h) (Or.inl ⟨rfl, fun w hSw => ?_⟩) (by assumption) ?_
  · (try dsimp only at hSw); go_simp; try with_reducible rfl
  (try simp only [Act.put, List.setIfInBounds_toArray, List.set_cons_zero, List.set_cons_succ])
  refine wpAnyH_take (i := 3) (v := (.int .i64 d)) (op_at rfl) (by kernel_rfl) (by kernel_rfl) (by kernel_rfl) (fun _ _ _ h => h) (Or.inl ⟨rfl, fun w hSw => ?_⟩) (by assumption) ?_
  · (try dsimp only at hSw); go_simp; try with_reducible rfl
  (try simp only [Act.put, List.setIfInBounds_toArray, List.set_cons_zero, List.set_cons_succ])
  refine wpAnyH_ready (rs := [1]) (by kernel_rfl) (by simp) (AllReadyH.cons (op_at rfl) (fun K hK => ?_) AllReadyH.nil)
  go_simp
  (refine (HC.out _ g).mono ?_; rintro e W1 ⟨rfl, hg⟩; replace a0 := hg.cell a0; replace a1 := hg.cell a1; replace a2 := hg.cell a2; replace a3 := hg.cell a3; replace g := g.trans hg; clear hg)
  go_wp2_with fail
  refine hK.out _ _ ⟨a0, a1, a2, a3⟩ (fun hHeld => ?_)
  clear hK K
  (try simp only [Act.put, List.setIfInBounds_toArray, List.set_cons_zero, List.set_cons_succ])
  refine wpAnyH_ready (rs := [4]) (by kernel_rfl) (by simp) (AllReadyH.cons (op_at rfl) (fun K hK => ?_) AllReadyH.nil)
  go_simp
  (refine (HA.out _ g).mono ?_; rintro e W2 ⟨rfl, hg⟩; replace a0 := hg.cell a0; replace a1 := hg.cell a1; replace a2 := hg.cell a2; replace a3 := hg.cell a3; replace g := g.trans hg; clear hg)
  go_wp2_with fail
  refine hK.out _ _ ⟨a0, a1, a2, a3⟩ (fun hHeld => ?_)
  clear hK K
  (try simp only [Act.put, List.setIfInBounds_toArray, List.set_cons_zero, List.set_cons_succ])
  refine wpAnyH_ready (rs := [5]) (by kernel_rfl) (by simp) (AllReadyH.cons (op_at rfl) (fun K hK => ?_) AllReadyH.nil)
  go_simp
  obtain ⟨WW, hWW, gW, s0, s1⟩ := box2 W2 (.int .i64 0) (.int .i64 0) 32
  rw [hWW]
  clear hWW
  replace a0 := gW.cell a0
  replace a1 := gW.cell a1
  replace a2 := gW.cell a2
  replace a3 := gW.cell a3
  replace g := g.trans gW
  refine hK.out _ _ ⟨a0, a1, a2, a3⟩ (fun hHeld => ?_)
  clear hK K
  (try simp only [Act.put, List.setIfInBounds_toArray, List.set_cons_zero, List.set_cons_succ])
  refine wpAnyH_ready (rs := [6]) (by kernel_rfl) (by simp) (AllReadyH.cons (op_at rfl) (fun K hK => ?_) AllReadyH.nil)
  go_simp
  (refine (HF.out _ _ WW s0 s1).mono ?_; rintro e w8 ⟨rfl, rfl⟩)
  go_wp2_with fail
  refine hK.out _ _ ⟨a0, a1, a2, a3⟩ (fun hHeld => ?_)
  clear hK K
  (try simp only [Act.put, List.setIfInBounds_toArray, List.set_cons_zero, List.set_cons_succ])
  refine wpAnyH_take (i := 7) (v := (.int .i64 0)) (op_at rfl) (by kernel_rfl) (by kernel_rfl) (by kernel_rfl) (fun _ _ _ h => h) (Or.inl ⟨rfl, fun w hSw => ?_⟩) (by assumption) ?_
  · (try dsimp only at hSw); go_simp; try with_reducible rfl
  (try simp only [Act.put, List.setIfInBounds_toArray, List.set_cons_zero, List.set_cons_succ])
  refine wpAnyH_done (by kernel_rfl) ?_ _
  go_wp2_with fail
  refine (HAg.out _).mono ?_
  rintro e W9 ⟨rfl, hg9⟩
  have g9 := g.trans hg9
  clear hg9
  go_wp2_with fail
  go_loopw [9, 28] (fun v ix wr => ∃ k : Nat, k ≤ n ∧ ix = .int .i64 k ∧ wr.ownsRow W9.heap.size 9 1 v (suitL (xs.take k) a).length (wdsC (suitL (xs.take k) a)) ∧ Gr W9 wr) (fun _ ix _ => n - (intOf ix).toNat)
  case atStart => exact ⟨0, Nat.zero_le _, rfl, World.ownsRow_nil _ _ _ _, Gr.refl _⟩
  case round =>
    obtain ⟨k, hk, rfl, hown, hnx⟩ := hrel
    have hsize := hnx.size
    by_cases hkN : k < n
    · obtain ⟨y, hy⟩ : ∃ y, xs[k]? = some y := ⟨xs[k]'(by have := HN.out; omega), List.getElem?_eq_getElem _⟩
      obtain ⟨b, off, rfl, hcc⟩ := HCs.out (by omega)
      obtain ⟨c0, c1, c2⟩ := (hcc k y hy).gr (g9.trans hnx)
      have hst := suitL_take hy a
      have hsl := suitL_len (xs.take k) a
      have hsl2 := List.length_take_le k xs
      have hi2 : (k : Int) < n := by omega
      clear hcc hy
      generalize hzz : (suitL (xs.take k) a).length = z at *
      unfold suitB at hst
      cases q1 : decide (y.lo ≤ a)
      · rw [q1] at hst
        simp only [Bool.false_and, Bool.false_eq_true, if_false, List.append_nil] at hst
        have HST := Lib.hid hst
        have HZ := Lib.hid hzz
        clear hst hzz
        go_wp2_with fail
        go_roundw
        case rel => exact ⟨k + 1, by omega, by go_num, by rw [HST.out, HZ.out]; exact own_gr hown ((Gr.refl wr).alloc _), hnx.trans ((Gr.refl wr).alloc _)⟩
        case measure => simp [intOf]; omega
      cases q2 : decide (a ≤ y.hi)
      · rw [q1, q2] at hst
        simp only [Bool.and_false, Bool.false_eq_true, if_false, List.append_nil] at hst
        have HST := Lib.hid hst
        have HZ := Lib.hid hzz
        clear hst hzz
        go_wp2_with fail
        go_roundw
        case rel => exact ⟨k + 1, by omega, by go_num, by rw [HST.out, HZ.out]; exact own_gr hown ((Gr.refl wr).alloc _), hnx.trans ((Gr.refl wr).alloc _)⟩
        case measure => simp [intOf]; omega
      · rw [q1, q2] at hst
        simp only [Bool.and_true, if_true] at hst
        have HST := Lib.hid hst
        have HZ := Lib.hid hzz
        clear hst hzz
        go_wp2_with (first
          | (at_builtin; refine wpList_append_own _ rfl _ _ 22 rfl W9.heap.size 9 i1 (.string ⟨#[]⟩) 1 16 Tryz.underlying22 hj hy0 hy1 hy2 rfl (by decide) _ _ _ rfl ((hown.alloc _).alloc _) ⟨wr.heap.size + 1, 0, none⟩ 1 1 [.string y.nm] rfl rfl (cell_one_at _ _ (by simp) _ _) (by intro u hu; simp at hu; subst hu; rfl) (by unfold maxLen; omega) (by omega) (by simp; omega) ?_; intro v1 w1 hown1 hgrow1 hnil1))
        go_roundw
        case rel => exact ⟨k + 1, by omega, by go_num, by rw [HST.out, wdsC_add, List.length_append, HZ.out]; exact hown1, Below.grown (Below.alloc (Below.alloc hnx hsize _) (by simp; omega) _) hgrow1 (by simp; omega) (fun j hj => (hown.lt j hj).1)⟩
        case measure => simp [intOf]; omega
    · have hkk : k = n := by omega
      subst hkk
      rw [List.take_of_length_le (by have := HN.out; omega)] at hown
      go_wp2_with fail
      exact bodyPost_ret (v := .tuple #[_, .int .i64 0]) (by simp [results, Tryz.results32, go_sem]) rfl ⟨_, rfl, wdsV_of_owns rfl hown, g9.trans hnx⟩
set_option maxHeartbeats 1000000 in
set_option maxRecDepth 100000 in
theorem suits_bad {xs : List CatR} {v : Value} (x : CliR) (d : Int) (w : World) (hv : CatAts w v xs) (h0 : firstE [listE 256 (catE xs) xs, ageE x d] ≠ 0) :
    Calls Tryz.prog 32 #[v, cliV x, .int .i64 d] w fun e w' => e = .returned (.tuple #[.slice none 0 0, .int .i64 (firstE [listE 256 (catE xs) xs, ageE x d])]) ∧ Gr w w' := by
  have HC := Lib.hid (fun W (gg : Gr w W) => checkCats_c xs _ W (hv.gr gg))
  have HA := Lib.hid (fun W (_ : Gr w W) => checkAge_c x d W)
  have HF := Lib.hid (fun b cap W h h' => first_pair (listE 256 (catE xs) xs) (ageE x d) b cap W h h')
  generalize firstE [listE 256 (catE xs) xs, ageE x d] = err at *
  generalize listE 256 (catE xs) xs = e1 at *
  generalize ageE x d = e2 at *
  have q1 : (err == 0) = false := by simpa using h0
  have q2 : (err != 0) = true := by simpa [bne] using q1
  obtain ⟨⟨p, cap, rfl, hcap, hh⟩⟩ := hv
  generalize xs.length = n at *
  clear hh h0
  unfold cliV at *
  obtain ⟨W, hW, g, a0, a1, a2, a3⟩ := box4 w (.string x.nm) (.string x.na) (.int .i64 x.bn) (.string x.ct) 74
  have HW := Lib.hid hW
  clear hW
  go_enter Tryz.func32, Tryz.ntmps32
  go_wp2_with fail
  rw [HW.out]
  generalize w.heap.size = Bx at *
  clear HW
  have gd := (Gr.refl W).drew
  replace a0 := gd.cell a0
  replace a1 := gd.cell a1
  replace a2 := gd.cell a2
  replace a3 := gd.cell a3
  replace g := g.trans gd
  clear gd
  refine wp_region_held_drew (S := (fun w' => w'.cell? ⟨Bx, 0, none⟩ = some (.string x.nm) ∧ w'.cell? ⟨Bx, 1, none⟩ = some (.string x.na) ∧ w'.cell? ⟨Bx, 2, none⟩ = some (.int .i64 x.bn) ∧ w'.cell? ⟨Bx, 3, none⟩ = some (.string x.ct))) (by kernel_rfl) ⟨a0, a1, a2, a3⟩ (fun hHeld => ?_)
  generalize W.drew = V at *
  refine wpAnyH_take (i := 0) (v := (.slice p n cap)) (op_at rfl) (by kernel_rfl) (by kernel_rfl) (by kernel_rfl) (fun _ _ _ h => h) (Or.inl ⟨rfl, fun w hSw => ?_⟩) (by assumption) ?_
  · (try dsimp only at hSw); go_simp; try with_reducible rfl
  (try simp only [Act.put, List.setIfInBounds_toArray, List.set_cons_zero, List.set_cons_succ])
  refine wpAnyH_take (i := 2) (v := (.agg #[.string x.nm, .string x.na, .int .i64 x.bn, .string x.ct])) (op_at rfl) (by kernel_rfl) (by kernel_rfl) (by kernel_rfl) (fun _ _ _ h => h) (Or.inl ⟨rfl, fun w hSw => ?_⟩) (by assumption) ?_
  · (try dsimp only at hSw); go_simp; try with_reducible rfl
  (try simp only [Act.put, List.setIfInBounds_toArray, List.set_cons_zero, List.set_cons_succ])
  refine wpAnyH_take (i := 3) (v := (.int .i64 d)) (op_at rfl) (by kernel_rfl) (by kernel_rfl) (by kernel_rfl) (fun _ _ _ h => h) (Or.inl ⟨rfl, fun w hSw => ?_⟩) (by assumption) ?_
  · (try dsimp only at hSw); go_simp; try with_reducible rfl
  (try simp only [Act.put, List.setIfInBounds_toArray, List.set_cons_zero, List.set_cons_succ])
  refine wpAnyH_ready (rs := [1]) (by kernel_rfl) (by simp) (AllReadyH.cons (op_at rfl) (fun K hK => ?_) AllReadyH.nil)
  go_simp
  (refine (HC.out _ g).mono ?_; rintro e W1 ⟨rfl, hg⟩; replace a0 := hg.cell a0; replace a1 := hg.cell a1; replace a2 := hg.cell a2; replace a3 := hg.cell a3; replace g := g.trans hg; clear hg)
  go_wp2_with fail
  refine hK.out _ _ ⟨a0, a1, a2, a3⟩ (fun hHeld => ?_)
  clear hK K
  (try simp only [Act.put, List.setIfInBounds_toArray, List.set_cons_zero, List.set_cons_succ])
  refine wpAnyH_ready (rs := [4]) (by kernel_rfl) (by simp) (AllReadyH.cons (op_at rfl) (fun K hK => ?_) AllReadyH.nil)
  go_simp
  (refine (HA.out _ g).mono ?_; rintro e W2 ⟨rfl, hg⟩; replace a0 := hg.cell a0; replace a1 := hg.cell a1; replace a2 := hg.cell a2; replace a3 := hg.cell a3; replace g := g.trans hg; clear hg)
  go_wp2_with fail
  refine hK.out _ _ ⟨a0, a1, a2, a3⟩ (fun hHeld => ?_)
  clear hK K
  (try simp only [Act.put, List.setIfInBounds_toArray, List.set_cons_zero, List.set_cons_succ])
  refine wpAnyH_ready (rs := [5]) (by kernel_rfl) (by simp) (AllReadyH.cons (op_at rfl) (fun K hK => ?_) AllReadyH.nil)
  go_simp
  obtain ⟨WW, hWW, gW, s0, s1⟩ := box2 W2 (.int .i64 e1) (.int .i64 e2) 32
  rw [hWW]
  clear hWW
  replace a0 := gW.cell a0
  replace a1 := gW.cell a1
  replace a2 := gW.cell a2
  replace a3 := gW.cell a3
  replace g := g.trans gW
  refine hK.out _ _ ⟨a0, a1, a2, a3⟩ (fun hHeld => ?_)
  clear hK K
  (try simp only [Act.put, List.setIfInBounds_toArray, List.set_cons_zero, List.set_cons_succ])
  refine wpAnyH_ready (rs := [6]) (by kernel_rfl) (by simp) (AllReadyH.cons (op_at rfl) (fun K hK => ?_) AllReadyH.nil)
  go_simp
  (refine (HF.out _ _ WW s0 s1).mono ?_; rintro e w8 ⟨rfl, rfl⟩)
  go_wp2_with fail
  refine hK.out _ _ ⟨a0, a1, a2, a3⟩ (fun hHeld => ?_)
  clear hK K
  (try simp only [Act.put, List.setIfInBounds_toArray, List.set_cons_zero, List.set_cons_succ])
  refine wpAnyH_take (i := 7) (v := (.int .i64 err)) (op_at rfl) (by kernel_rfl) (by kernel_rfl) (by kernel_rfl) (fun _ _ _ h => h) (Or.inl ⟨rfl, fun w hSw => ?_⟩) (by assumption) ?_
  · (try dsimp only at hSw); go_simp; try with_reducible rfl
  (try simp only [Act.put, List.setIfInBounds_toArray, List.set_cons_zero, List.set_cons_succ])
  refine wpAnyH_done (by kernel_rfl) ?_ _
  go_wp2_with fail
  exact bodyPost_ret (v := .tuple #[.slice none 0 0, .int .i64 err]) (by simp [results, Tryz.results32, go_sem]) rfl ⟨rfl, g⟩
end Go.Proofs.YtenkbeeiblhnjaaGreat
namespace Go.Proofs.YtenkbeeiblhnjaaGreat
open Go.RowKit Go.Lib
set_option linter.unusedSimpArgs false
set_option linter.unusedVariables false
theorem catE_eq (xs : List CatR) (i : Nat) (x : CatR) : catE xs i x = if (!decide (Nm x.nm)) = true then 8 else if dupN (fun y : CatR => y.nm) xs i x.nm = true then 9 else if (outB x.lo 0 120 || outB x.hi 0 120) = true then 3 else if decide (x.hi < x.lo) = true then 11 else 0 := by
  unfold catE nmE outE
  by_cases q0 : Nm x.nm <;> cases dupN (fun y : CatR => y.nm) xs i x.nm <;> cases outB x.lo 0 120 <;> cases outB x.hi 0 120 <;> cases decide (x.hi < x.lo) <;> simp [firstE, q0]
end Go.Proofs.YtenkbeeiblhnjaaGreat
namespace Go.Proofs.YtenkbeeiblhnjaaGreat
open Go.RowKit Go.Lib
set_option linter.unusedSimpArgs false
set_option linter.unusedVariables false
theorem bits_inner {f : Nat → Bool} {lo hi : Int} {m : Nat} {cur : Array Value} (hm : lo ≤ (m : Int)) (h1 : (m : Int) ≤ hi) (h2 : hi ≤ 120) (h : BitsA 121 (fun a => f a || (decide (lo ≤ (a : Int)) && decide ((a : Int) < m))) cur) :
    BitsA 121 (fun a => f a || (decide (lo ≤ (a : Int)) && decide ((a : Int) < ((m + 1 : Nat) : Int)))) (cur.setIfInBounds m (.bool true)) := by
  refine (h.store (m := m) (by omega)).congr fun a ha => ?_
  rw [Bool.or_assoc]
  congr 1
  by_cases q : a = m
  · subst q; simp; omega
  · rw [show (a == m) = false by simpa using q, Bool.or_false]
    congr 1
    exact decide_eq_decide.2 (by omega)
theorem bits_end {f : Nat → Bool} {lo hi : Int} {m : Nat} {cur : Array Value} (h1 : hi < (m : Int)) (h3 : (m : Int) ≤ hi + 1) (h : BitsA 121 (fun a => f a || (decide (lo ≤ (a : Int)) && decide ((a : Int) < m))) cur) :
    BitsA 121 (fun a => f a || (decide (lo ≤ (a : Int)) && decide ((a : Int) ≤ hi))) cur := by
  refine h.congr fun a ha => ?_
  congr 2
  exact decide_eq_decide.2 (by omega)
/-- whether an age is in one of the first k gaps; the end of the gap before the k-th -/
def inG (gs : List GapR) (a : Nat) : Bool := gs.any fun q => decide (q.a ≤ (a : Int)) && decide ((a : Int) ≤ q.b)
theorem inG_take {gs : List GapR} {k : Nat} {q : GapR} (h : gs[k]? = some q) (a : Nat) : inG (gs.take (k + 1)) a = (inG (gs.take k) a || (decide (q.a ≤ (a : Int)) && decide ((a : Int) ≤ q.b))) := by
  unfold inG; rw [List.take_add_one, h]; simp
def lastB (gs : List GapR) (k : Nat) : Int := match gs[k - 1]? with
  | some q => if k = 0 then -2 else q.b
  | none => -2
theorem lastB_zero (gs : List GapR) : lastB gs 0 = -2 := by unfold lastB; split <;> simp
theorem lastB_succ {gs : List GapR} {k : Nat} {q : GapR} (h : gs[k]? = some q) : lastB gs (k + 1) = q.b := by unfold lastB; simp [h]
theorem inG_cov {f : Nat → Bool} {a : Nat} (ha : a < 121) : inG (gapL f 121) a = !f a := by
  have h := (gaps_ok f 121).mem a ha
  unfold inG
  cases e : f a
  · obtain ⟨q, hq, h1, h2⟩ := h.2 e
    simp only [Bool.not_false, List.any_eq_true]
    exact ⟨q, hq, by simp [h1, h2]⟩
  · simp only [Bool.not_true, List.any_eq_false]
    intro q hq h3
    have h4 : f a = false := h.1 ⟨q, hq, by simpa using h3⟩
    rw [e] at h4
    cases h4
/-- what is known of a gap in its turn -/
structure GapT (gs : List GapR) (k : Nat) (q : GapR) : Prop where
  low : 0 ≤ q.a
  le : q.a ≤ q.b
  high : q.b ≤ 120
  far : lastB gs k + 1 < q.a
theorem gapT (f : Nat → Bool) {k : Nat} {q : GapR} (h : (gapL f 121)[k]? = some q) : GapT (gapL f 121) k q := by
  have ok := gaps_ok f 121
  have h1 := ok.low q (List.mem_of_getElem? h)
  refine ⟨h1.1, h1.2.1, by omega, ?_⟩
  rcases Nat.eq_zero_or_pos k with rfl | hk
  · rw [lastB_zero]; omega
  · obtain ⟨j, rfl⟩ : ∃ j, k = j + 1 := ⟨k - 1, by omega⟩
    have hj : j < (gapL f 121).length := by have := (List.getElem?_eq_some_iff.1 h).1; omega
    have h2 := ok.asc j _ q (List.getElem?_eq_getElem hj) h
    rw [lastB_succ (List.getElem?_eq_getElem hj)]
    exact h2
theorem lastB_le (f : Nat → Bool) (k : Nat) : -2 ≤ lastB (gapL f 121) k ∧ lastB (gapL f 121) k ≤ 120 := by
  unfold lastB
  split
  · rename_i q hq
    have := (gaps_ok f 121).low q (List.mem_of_getElem? hq)
    split <;> omega
  · omega
/-- the climber of the law -/
def annR (born : Int) : CliR := ⟨⟨#[97, 110, 110]⟩, ⟨#[65]⟩, born, ⟨#[111, 112, 101, 110]⟩⟩
theorem ann_ok {born d : Int} (h0 : 0 ≤ born) (h1 : born ≤ d) (h2 : d ≤ 99999) : ageE (annR born) d = 0 := by
  have e1 : outE born 0 99999 = 0 := outE_zero.2 ⟨h0, by omega⟩
  have e2 : outE d 0 99999 = 0 := outE_zero.2 ⟨by omega, h2⟩
  have n1 : nmE (annR born).nm = 0 := by unfold nmE; rw [if_pos (by show Nm ⟨#[97, 110, 110]⟩; decide)]
  have n2 : nmE (annR born).na = 0 := by unfold nmE; rw [if_pos (by show Nm ⟨#[65]⟩; decide)]
  have n3 : nmE (annR born).ct = 0 := by unfold nmE; rw [if_pos (by show Nm ⟨#[111, 112, 101, 110]⟩; decide)]
  have hc : cliE [annR born] 0 (annR born) = 0 := by
    unfold cliE
    rw [n1, n2, n3, show (annR born).bn = born from rfl, e1]
    simp [firstE, dupN]
  have hl : listE 160 (cliE [annR born]) [annR born] = 0 := by
    unfold listE
    rw [if_neg (by simp)]
    simp [errG, hc]
  unfold ageE
  rw [hl, e2, show (annR born).bn = born from rfl]
  simp [firstE]
  omega
end Go.Proofs.YtenkbeeiblhnjaaGreat
namespace Go.Proofs.YtenkbeeiblhnjaaGreat
open Go.RowKit Go.Lib
set_option linter.unusedSimpArgs false
set_option linter.unusedVariables false
end Go.Proofs.YtenkbeeiblhnjaaGreat
namespace Go.Proofs.YtenkbeeiblhnjaaGreat
open Go.RowKit Go.Lib
set_option linter.unusedSimpArgs false
set_option linter.unusedVariables false
set_option maxHeartbeats 1000000 in
set_option maxRecDepth 100000 in
theorem sameWds_pos (ns : List ByteArray) (n b off b2 off2 cap cap2 : Nat) (w : World) (hn : ns.length = n) (h1 : n ≤ 1000) (ha : ∀ i s, ns[i]? = some s → w.cell? ⟨b, off + i, none⟩ = some (.string s)) (hb : ∀ i s, ns[i]? = some s → w.cell? ⟨b2, off2 + i, none⟩ = some (.string s)) :
    Calls Tryz.prog 36 #[.slice (some ⟨b, off, none⟩) n cap, .slice (some ⟨b2, off2, none⟩) n cap2] w fun e w' => e = .returned (.bool true) ∧ Gr w w' := by
  have HX := Lib.hid (fun k (h : k < n) => (show ∃ x, ns[k]? = some x from ⟨ns[k]'(by omega), List.getElem?_eq_getElem _⟩))
  have HA := Lib.hid ha
  have HB := Lib.hid hb
  clear ha hb hn
  go_enter Tryz.func36, Tryz.ntmps36
  go_wp2_with fail
  go_loopg [5] n (fun gk s5 wr => ∃ i : Nat, s5 = .int .i64 i ∧ gk + i = n ∧ Gr w wr)
  case atStart => exact ⟨0, rfl, by omega, Gr.refl _⟩
  case round =>
    obtain ⟨i, rfl, hi, hnx⟩ := hrel
    by_cases hlt : i < n
    · obtain ⟨x, hx⟩ := HX.out i hlt
      have c0 := hnx.cell (HA.out i x hx)
      have c1 := hnx.cell (HB.out i x hx)
      have hi2 : (i : Int) < n := by omega
      clear hx
      go_wp2_with fail
      go_quiet (fail)
      go_wp2_with fail
      go_roundg (gk - 1)
      case measure => omega
      case rel => exact ⟨i + 1, by go_num, by omega, hnx.drewN _⟩
    · obtain rfl : i = n := by omega
      go_wp2_with fail
      go_ret
      exact ⟨rfl, hnx⟩
theorem sameWds_nil (p p2 : Option Addr) (cap cap2 : Nat) (w : World) :
    Calls Tryz.prog 36 #[.slice p 0 cap, .slice p2 0 cap2] w fun e w' => e = .returned (.bool true) ∧ Gr w w' := by
  go_enter Tryz.func36, Tryz.ntmps36
  go_wp2_with fail
  refine wp_loop_rounds 2 ?_
  rw [rounds_succ]
  go_wp2_with fail
  go_ret
  exact ⟨rfl, Gr.refl _⟩
theorem sameStr_c {v v2 : Value} {ns : List ByteArray} {w : World} (h : StrAts w v ns) (h2 : StrAts w v2 ns) (hs : ns.length ≤ 1000) :
    Calls Tryz.prog 36 #[v, v2] w fun e w' => e = .returned (.bool true) ∧ Gr w w' := by
  obtain ⟨⟨p, cap, rfl, _, ha⟩⟩ := h
  obtain ⟨⟨p2, cap2, rfl, _, hb⟩⟩ := h2
  rcases Nat.eq_zero_or_pos ns.length with h0 | h0
  · rw [h0]; exact sameWds_nil p p2 cap cap2 w
  · obtain ⟨b, off, rfl, h3⟩ := ha h0
    obtain ⟨b2, off2, rfl, h4⟩ := hb h0
    exact sameWds_pos ns _ b off b2 off2 cap cap2 w rfl hs (fun i s hi => (h3 i s hi).nm) (fun i s hi => (h4 i s hi).nm)
end Go.Proofs.YtenkbeeiblhnjaaGreat
