/- Bars: the program's check of one after another. -/
import Derived.Test.YtimbcjldejifaaaGreatDoorExC
import Derived.Test.YtimbcjldejifaaaGreatDoorGExA
namespace Go.Proofs.YtimbcjldejifaaaGreatDoor
open Go.RowKit Go.Lib
set_option linter.unusedSimpArgs false
set_option linter.unusedVariables false
/-- the first error of bars from a place on -/
def barFrom (ys : List OpR) (r lo : Int) (xs : List BarR) : Nat → Nat → Int
  | 0, _ => 0
  | k + 1, i => match xs[i]? with
    | some x => if barE ys r lo xs i x = 0 then barFrom ys r lo xs k (i + 1) else barE ys r lo xs i x
    | none => 0
theorem barFrom_step {ys : List OpR} {r lo : Int} {xs : List BarR} {n i : Nat} {x : BarR} (hi : i < n) (h : xs[i]? = some x) : barFrom ys r lo xs (n - i) i = if barE ys r lo xs i x = 0 then barFrom ys r lo xs (n - (i + 1)) (i + 1) else barE ys r lo xs i x := by
  obtain ⟨k, hk⟩ : ∃ k, n - i = k + 1 := ⟨n - i - 1, by omega⟩
  have hk2 : n - (i + 1) = k := by omega
  rw [hk, hk2]
  simp only [barFrom, h]
set_option maxHeartbeats 1000000 in
set_option maxRecDepth 100000 in
theorem findB_pos (ys : List OpR) (q : OpR) (r : Int) (xs : List BarR) (n b off cap nu cu L Q : Nat) (pu : Option Addr) (w : World) (hn : xs.length = n) (h1 : n ≤ 1000) (hcap : n ≤ cap) (hmx : cap ≤ maxLen)
    (hc : ∀ i x, xs[i]? = some x → BarAt w b (off + i * 3) x) (hL : w.cell? ⟨L, 0, none⟩ = some (.slice (some ⟨b, off, none⟩) n cap)) (hu : OpsV w (.slice pu nu cu) ys) (hy : ys.length ≤ 1000) (hr0 : 1 ≤ r) (hr1 : r ≤ 1000)
    (hQ : ∀ W, Gr w W → Row5 W Q (.string q.nm) (.int .i64 q.lo) (.int .i64 q.hi) (.slice pu nu cu) (.int .i64 r)) :
    Calls Tryz.prog 61 #[.slice (some ⟨b, off, none⟩) n cap, .func (.func 30) #[] #[.pointer (some ⟨L, 0, none⟩), .pointer (some ⟨Q, 0, none⟩)]] w fun e w' => (∃ i : Int, e = .returned (.tuple #[.int .i64 i, .int .i64 (barFrom ys r q.lo xs n 0)])) ∧ Gr w w' := by
  have HC := Lib.hid hc
  have HN := Lib.hid hn
  have HO := Lib.hid (fun (i : Nat) (x : BarR) (W : World) (hi : i < n) (hx : xs[i]? = some x) (hg : Gr w W) => one_bar ys q r xs i n b off cap nu cu L Q pu x W hn hi h1 hcap hmx (hc i x hx).ok (fun i x hx => (hc i x hx).gr hg) (hg.cell hL) (hu.gr hg) hy hr0 hr1 (hQ W hg))
  clear hc hL hn hu hQ
  go_enter Tryz.func61, Tryz.ntmps61
  go_wp2_with fail
  go_loopg [11] n (fun gk s11 wr => ∃ i : Nat, s11 = .int .i64 i ∧ gk + i = n ∧ Gr w wr ∧ Hid (barFrom ys r q.lo xs (n - i) i = barFrom ys r q.lo xs n 0))
  case atStart => exact ⟨0, rfl, by omega, Gr.refl _, rfl⟩
  case round =>
    obtain ⟨i, rfl, hi, hg, HF⟩ := hrel
    by_cases hlt : i < n
    · obtain ⟨x, hx⟩ : ∃ x, xs[i]? = some x := ⟨xs[i]'(by have := HN.out; omega), List.getElem?_eq_getElem _⟩
      obtain ⟨c0, c1, c2, _⟩ := (HC.out i x hx).gr hg
      have hf := barFrom_step (ys := ys) (r := r) (lo := q.lo) hlt hx
      have hi2 : (i : Int) < n := by omega
      have hT := fun W hg2 => HO.out i x W hlt hx hg2
      unfold barV at hT
      clear hx
      obtain ⟨W, hW, g, a0, a1, a2⟩ := box3 wr (.int .i64 x.fr) (.int .i64 x.to) (.string x.why) 74
      have gW := hg.trans g
      have HW := Lib.hid hW
      by_cases h0 : barE ys r q.lo xs i x = 0
      · rw [h0] at hT hf
        rw [if_pos rfl] at hf
        have HT := Lib.hid hT
        have HF2 := Lib.hid hf
        clear hT hf h0 hW
        go_wp2_with fail
        rw [HW.out]
        refine (HT.out _ gW).mono ?_
        rintro e w4 ⟨rfl, hg2⟩
        go_wp2_with fail
        go_roundg (gk - 1)
        case measure => omega
        case rel => exact ⟨i + 1, by go_num, by omega, gW.trans hg2, by unfold Hid; rw [← HF2.out, HF.out]⟩
      · rw [if_neg h0] at hf
        generalize barE ys r q.lo xs i x = z at *
        have q1 : (z == 0) = false := by simpa using h0
        have q2 : (z != 0) = true := by simpa [bne] using q1
        have HT := Lib.hid hT
        have HF2 := Lib.hid hf
        clear hT hf hW
        go_wp2_with fail
        rw [HW.out]
        refine (HT.out _ gW).mono ?_
        rintro e w4 ⟨rfl, hg2⟩
        go_wp2_with fail
        exact bodyPost_ret (v := .tuple #[.int .i64 i, .int .i64 z]) (by simp [results, Tryz.results61, go_sem]) rfl ⟨⟨i, by rw [← HF.out, HF2.out]⟩, gW.trans hg2⟩
    · have hin : i = n := by omega
      have HE2 : Hid (barFrom ys r q.lo xs (n - i) i = 0) := by unfold Hid; rw [hin, Nat.sub_self]; rfl
      have hi2 : (n : Int) ≤ i := by omega
      clear hin
      go_wp2_with fail
      exact bodyPost_ret (v := .tuple #[.int .i64 0, .int .i64 0]) (by simp [results, Tryz.results61, go_sem]) rfl ⟨⟨0, by rw [← HF.out, HE2.out]⟩, hg⟩
theorem eachB_pos (ys : List OpR) (q : OpR) (r : Int) (xs : List BarR) (n b off cap nu cu L Q : Nat) (pu : Option Addr) (w : World) (hn : xs.length = n) (h1 : n ≤ 1000) (hcap : n ≤ cap) (hmx : cap ≤ maxLen)
    (hc : ∀ i x, xs[i]? = some x → BarAt w b (off + i * 3) x) (hL : w.cell? ⟨L, 0, none⟩ = some (.slice (some ⟨b, off, none⟩) n cap)) (hu : OpsV w (.slice pu nu cu) ys) (hy : ys.length ≤ 1000) (hr0 : 1 ≤ r) (hr1 : r ≤ 1000)
    (hQ : ∀ W, Gr w W → Row5 W Q (.string q.nm) (.int .i64 q.lo) (.int .i64 q.hi) (.slice pu nu cu) (.int .i64 r)) :
    Calls Tryz.prog 29 #[.slice (some ⟨b, off, none⟩) n cap, .func (.func 30) #[] #[.pointer (some ⟨L, 0, none⟩), .pointer (some ⟨Q, 0, none⟩)]] w fun e w' => e = .returned (.int .i64 (barFrom ys r q.lo xs n 0)) ∧ Gr w w' := by
  have HF := Lib.hid (findB_pos ys q r xs n b off cap nu cu L Q pu w hn h1 hcap hmx hc hL hu hy hr0 hr1 hQ)
  generalize barFrom ys r q.lo xs n 0 = z at *
  clear hc hL hn hu hQ
  go_enter Tryz.func29, Tryz.ntmps29
  go_wp2_with fail
  refine HF.out.mono ?_
  rintro e w4 ⟨⟨i, rfl⟩, hg⟩
  go_wp2_with fail
  go_ret
  exact ⟨rfl, hg⟩
end Go.Proofs.YtimbcjldejifaaaGreatDoor
namespace Go.Proofs.YtimbcjldejifaaaGreatDoor
open Go.RowKit Go.Lib
set_option linter.unusedSimpArgs false
set_option linter.unusedVariables false
/-- the error of a question with so many bars -/
def emptyE (xs : List OpR) (m : Nat) (cl r : Int) : Int := firstE [questE xs cl r, if ((m : Int) == 0) then 12 else 0]
set_option maxHeartbeats 1000000 in
set_option maxRecDepth 100000 in
theorem checkEx_err {v : Value} {xs : List OpR} {w : World} (cl r : Int) (p2 : Option Addr) (m c2 : Nat) (h : OpsV w v xs) (hE : emptyE xs m cl r ≠ 0) :
    Calls Tryz.prog 10 #[v, .int .i64 cl, .int .i64 r, .slice p2 m c2] w fun e w' => e = .returned (.int .i64 (emptyE xs m cl r)) ∧ Gr w w' := by
  obtain ⟨p, cap, rfl⟩ := opsV_slice h
  have HQ := Lib.hid (fun (W : World) (g : Gr w W) => quest_c cl r (h.gr g))
  have HR : emptyE xs m cl r = firstE [questE xs cl r, if ((m : Int) == 0) then 12 else 0] := rfl
  generalize xs.length = n at *
  obtain ⟨e2, h2', H2⟩ := if_e ((m : Int) == 0) 12
  rw [← h2'] at HR
  have HF := Lib.hid (fun b cap W => first_pair (questE xs cl r) e2 b cap W)
  rw [← HR] at HF
  clear HR h h2'
  replace H2 := Lib.hid H2
  generalize emptyE xs m cl r = E at *
  generalize questE xs cl r = e1 at *
  have hz : (E == 0) = false := beq_eq_false_iff_ne.2 hE
  obtain ⟨W, hW, g, l0⟩ := box1 w (.slice p2 m c2) 39
  have HW := Lib.hid hW
  clear hW
  go_enter Tryz.func10, Tryz.ntmps10
  go_wp2_with fail
  rw [HW.out]
  clear HW
  generalize w.heap.size = B at *
  have gd := (Gr.refl W).drew
  replace l0 := gd.cell l0
  replace g := g.trans gd
  clear gd
  refine wp_region_held_drew (S := (fun w' => w'.cell? ⟨B, 0, none⟩ = some (.slice p2 m c2))) (by kernel_rfl) l0 (fun hHeld => ?_)
  generalize W.drew = V at *
  refine wpAnyH_take (i := 0) (v := (.slice p n cap)) (op_at rfl) (by kernel_rfl) (by kernel_rfl) (by kernel_rfl) (fun _ _ _ h => h) (Or.inl ⟨rfl, fun w hSw => ?_⟩) (by assumption) ?_
  · (try dsimp only at hSw); go_simp; try with_reducible rfl
  (try simp only [Act.put, List.setIfInBounds_toArray, List.set_cons_zero, List.set_cons_succ])
  refine wpAnyH_take (i := 1) (v := (.int .i64 cl)) (op_at rfl) (by kernel_rfl) (by kernel_rfl) (by kernel_rfl) (fun _ _ _ h => h) (Or.inl ⟨rfl, fun w hSw => ?_⟩) (by assumption) ?_
  · (try dsimp only at hSw); go_simp; try with_reducible rfl
  (try simp only [Act.put, List.setIfInBounds_toArray, List.set_cons_zero, List.set_cons_succ])
  refine wpAnyH_take (i := 2) (v := (.int .i64 r)) (op_at rfl) (by kernel_rfl) (by kernel_rfl) (by kernel_rfl) (fun _ _ _ h => h) (Or.inl ⟨rfl, fun w hSw => ?_⟩) (by assumption) ?_
  · (try dsimp only at hSw); go_simp; try with_reducible rfl
  (try simp only [Act.put, List.setIfInBounds_toArray, List.set_cons_zero, List.set_cons_succ])
  refine wpAnyH_take (i := 4) (v := (.slice p2 m c2)) (op_at rfl) (by kernel_rfl) (by kernel_rfl) (by kernel_rfl) (fun _ _ _ h => h) (Or.inl ⟨rfl, fun w hSw => ?_⟩) (by assumption) ?_
  · (try dsimp only at hSw); go_simp; try with_reducible rfl
  (try simp only [Act.put, List.setIfInBounds_toArray, List.set_cons_zero, List.set_cons_succ])
  refine wpAnyH_take (i := 5) (v := (.int .i64 m)) (op_at rfl) (by kernel_rfl) (by kernel_rfl) (by kernel_rfl) (fun _ _ _ h => h) (Or.inl ⟨rfl, fun w hSw => ?_⟩) (by assumption) ?_
  · (try dsimp only at hSw); go_simp; try with_reducible rfl
  (try simp only [Act.put, List.setIfInBounds_toArray, List.set_cons_zero, List.set_cons_succ])
  refine wpAnyH_take (i := 6) (v := (.bool ((m : Int) == 0))) (op_at rfl) (by kernel_rfl) (by kernel_rfl) (by kernel_rfl) (fun _ _ _ h => h) (Or.inl ⟨rfl, fun w hSw => ?_⟩) (by assumption) ?_
  · (try dsimp only at hSw); go_simp; try with_reducible rfl
  (try simp only [Act.put, List.setIfInBounds_toArray, List.set_cons_zero, List.set_cons_succ])
  refine wpAnyH_ready (rs := [3]) (by kernel_rfl) (by simp) (AllReadyH.cons (op_at rfl) (fun K hK => ?_) AllReadyH.nil)
  go_simp
  (refine (HQ.out _ g).mono ?_; rintro e W2 ⟨rfl, hg⟩; replace l0 := hg.cell l0; replace g := g.trans hg; clear hg)
  go_wp2_with fail
  refine hK.out _ _ l0 (fun hHeld => ?_)
  clear hK K
  (try simp only [Act.put, List.setIfInBounds_toArray, List.set_cons_zero, List.set_cons_succ])
  refine wpAnyH_ready (rs := [7]) (by kernel_rfl) (by simp) (AllReadyH.cons (op_at rfl) (fun K hK => ?_) AllReadyH.nil)
  go_simp
  (refine (H2.out _).mono ?_; rintro e w' ⟨rfl, rfl⟩)
  go_wp2_with fail
  refine hK.out _ _ l0 (fun hHeld => ?_)
  clear hK K
  (try simp only [Act.put, List.setIfInBounds_toArray, List.set_cons_zero, List.set_cons_succ])
  refine wpAnyH_ready (rs := [8]) (by kernel_rfl) (by simp) (AllReadyH.cons (op_at rfl) (fun K hK => ?_) AllReadyH.nil)
  go_simp
  obtain ⟨W3, hW3, g3, s0, s1⟩ := box2 W2 (.int .i64 e1) (.int .i64 e2) 34
  rw [hW3]
  clear hW3
  replace l0 := g3.cell l0
  replace g := g.trans g3
  refine hK.out _ _ l0 (fun hHeld => ?_)
  clear hK K
  (try simp only [Act.put, List.setIfInBounds_toArray, List.set_cons_zero, List.set_cons_succ])
  refine wpAnyH_ready (rs := [9]) (by kernel_rfl) (by simp) (AllReadyH.cons (op_at rfl) (fun K hK => ?_) AllReadyH.nil)
  go_simp
  (refine (HF.out _ _ W3 s0 s1).mono ?_; rintro e w8 ⟨rfl, rfl⟩)
  go_wp2_with fail
  refine hK.out _ _ l0 (fun hHeld => ?_)
  clear hK K
  (try simp only [Act.put, List.setIfInBounds_toArray, List.set_cons_zero, List.set_cons_succ])
  refine wpAnyH_take (i := 10) (v := (.int .i64 E)) (op_at rfl) (by kernel_rfl) (by kernel_rfl) (by kernel_rfl) (fun _ _ _ h => h) (Or.inl ⟨rfl, fun w hSw => ?_⟩) (by assumption) ?_
  · (try dsimp only at hSw); go_simp; try with_reducible rfl
  (try simp only [Act.put, List.setIfInBounds_toArray, List.set_cons_zero, List.set_cons_succ])
  refine wpAnyH_done (by kernel_rfl) ?_ _
  go_wp2_with fail
  go_ret
  exact ⟨rfl, g⟩
set_option maxHeartbeats 1000000 in
set_option maxRecDepth 100000 in
theorem checkEx_ok (bs : List BarR) (y : BarR) (k b2 o2 c2 cl : Nat) (r : Int) (x : OpR) {v : Value} {xs : List OpR} {w : World} (h : OpsV w v xs) (hn : bs.length = k + 1) (h1 : k < 900) (hcap : k + 1 ≤ c2) (hmx : c2 ≤ maxLen) (hc : ∀ i x, bs[i]? = some x → BarAt w b2 (o2 + i * 3) x) (hy : bs[k]? = some y)
    (hE : questE xs cl r = 0) (hx : xs[cl]? = some x) (hl : xs.length ≤ 160) (hr0 : 1 ≤ r) (hr1 : r ≤ 1000) :
    Calls Tryz.prog 10 #[v, .int .i64 cl, .int .i64 r, .slice (some ⟨b2, o2, none⟩) (k + 1) c2] w fun e w' => e = .returned (.int .i64 (firstE [barFrom (others xs cl) r x.lo bs (k + 1) 0, if y.to != x.hi then 2 else 0])) ∧ Gr w w' := by
  obtain ⟨p, cap, rfl⟩ := opsV_slice h
  have HQ := Lib.hid (fun (W : World) (g : Gr w W) => quest_c (cl : Int) r (h.gr g))
  rw [hE] at HQ
  have HAsk := Lib.hid (fun (W : World) (hW : Gr w W) => ask_c r (h.gr hW) (by omega) hx)
  have hlo : (others xs cl).length ≤ 1000 := by unfold others; rw [List.length_append, List.length_take, List.length_drop]; omega
  have HEa := Lib.hid (fun (L Q nu cu : Nat) (pu : Option Addr) (W : World) (g : Gr w W) hL hu hQ => eachB_pos (others xs cl) x r bs (k + 1) b2 o2 c2 nu cu L Q pu W hn (by omega) hcap hmx (fun i x hx => (hc i x hx).gr g) hL hu hlo hr0 hr1 hQ)
  have ct := (hc k y hy).to
  obtain ⟨e2, h2', H2⟩ := if_e false 12
  have h20 : e2 = 0 := by rw [h2']; rfl
  have HF := Lib.hid (fun b cap W => first_pair 0 e2 b cap W)
  have hE0 : firstE [0, e2] = 0 := by rw [h20]; rfl
  rw [hE0] at HF
  replace H2 := Lib.hid H2
  obtain ⟨e5, h5', H5⟩ := if_e (y.to != x.hi) 2
  rw [← h5']
  replace H5 := Lib.hid H5
  clear h hE hx hlo hn hy h2' h20 hE0 h5' hc
  generalize hz : barFrom (others xs cl) r x.lo bs (k + 1) 0 = z at *
  have HF5 := Lib.hid (fun b cap W => first_pair z e5 b cap W)
  obtain ⟨E, hE⟩ : ∃ E, firstE [z, e5] = E := ⟨_, rfl⟩
  rw [hE] at HF5 ⊢
  clear hz hE
  have hz1 : ((k : Int) + 1 == 0) = false := beq_eq_false_iff_ne.2 (by omega)
  have hw1 : IntKind.i64.wrap (k : Int) = k := by rw [IntKind.wrap_i64]; omega
  have hk0 : (0 : Int) ≤ k := by omega
  have hk1 : ¬ (k : Int) + 1 ≤ k := by omega
  generalize xs.length = n at *
  obtain ⟨W, hW, g, l0⟩ := box1 w (.slice (some ⟨b2, o2, none⟩) (k + 1) c2) 39
  replace ct := g.cell ct
  have HW := Lib.hid hW
  clear hW
  go_enter Tryz.func10, Tryz.ntmps10
  go_wp2_with fail
  rw [HW.out]
  clear HW
  generalize w.heap.size = B at *
  have gd := (Gr.refl W).drew
  replace l0 := gd.cell l0
  replace ct := gd.cell ct
  replace g := g.trans gd
  clear gd
  refine wp_region_held_drew (S := (fun w' => w'.cell? ⟨B, 0, none⟩ = some (.slice (some ⟨b2, o2, none⟩) (k + 1) c2))) (by kernel_rfl) l0 (fun hHeld => ?_)
  generalize W.drew = V at *
  refine wpAnyH_take (i := 0) (v := (.slice p n cap)) (op_at rfl) (by kernel_rfl) (by kernel_rfl) (by kernel_rfl) (fun _ _ _ h => h) (Or.inl ⟨rfl, fun w hSw => ?_⟩) (by assumption) ?_
  · (try dsimp only at hSw); go_simp; try with_reducible rfl
  (try simp only [Act.put, List.setIfInBounds_toArray, List.set_cons_zero, List.set_cons_succ])
  refine wpAnyH_take (i := 1) (v := (.int .i64 cl)) (op_at rfl) (by kernel_rfl) (by kernel_rfl) (by kernel_rfl) (fun _ _ _ h => h) (Or.inl ⟨rfl, fun w hSw => ?_⟩) (by assumption) ?_
  · (try dsimp only at hSw); go_simp; try with_reducible rfl
  (try simp only [Act.put, List.setIfInBounds_toArray, List.set_cons_zero, List.set_cons_succ])
  refine wpAnyH_take (i := 2) (v := (.int .i64 r)) (op_at rfl) (by kernel_rfl) (by kernel_rfl) (by kernel_rfl) (fun _ _ _ h => h) (Or.inl ⟨rfl, fun w hSw => ?_⟩) (by assumption) ?_
  · (try dsimp only at hSw); go_simp; try with_reducible rfl
  (try simp only [Act.put, List.setIfInBounds_toArray, List.set_cons_zero, List.set_cons_succ])
  refine wpAnyH_take (i := 4) (v := (.slice (some ⟨b2, o2, none⟩) (k + 1) c2)) (op_at rfl) (by kernel_rfl) (by kernel_rfl) (by kernel_rfl) (fun _ _ _ h => h) (Or.inl ⟨rfl, fun w hSw => ?_⟩) (by assumption) ?_
  · (try dsimp only at hSw); go_simp; try with_reducible rfl
  (try simp only [Act.put, List.setIfInBounds_toArray, List.set_cons_zero, List.set_cons_succ])
  refine wpAnyH_take (i := 5) (v := (.int .i64 ((k : Int) + 1))) (op_at rfl) (by kernel_rfl) (by kernel_rfl) (by kernel_rfl) (fun _ _ _ h => h) (Or.inl ⟨rfl, fun w hSw => ?_⟩) (by assumption) ?_
  · (try dsimp only at hSw); go_simp; try with_reducible rfl
  (try simp only [Act.put, List.setIfInBounds_toArray, List.set_cons_zero, List.set_cons_succ])
  refine wpAnyH_take (i := 6) (v := (.bool false)) (op_at rfl) (by kernel_rfl) (by kernel_rfl) (by kernel_rfl) (fun _ _ _ h => h) (Or.inl ⟨rfl, fun w hSw => ?_⟩) (by assumption) ?_
  · (try dsimp only at hSw); go_simp; try with_reducible rfl
  (try simp only [Act.put, List.setIfInBounds_toArray, List.set_cons_zero, List.set_cons_succ])
  refine wpAnyH_ready (rs := [3]) (by kernel_rfl) (by simp) (AllReadyH.cons (op_at rfl) (fun K hK => ?_) AllReadyH.nil)
  go_simp
  (refine (HQ.out _ g).mono ?_; rintro e W2 ⟨rfl, hg⟩; replace l0 := hg.cell l0; replace ct := hg.cell ct; replace g := g.trans hg; clear hg)
  go_wp2_with fail
  refine hK.out _ _ l0 (fun hHeld => ?_)
  clear hK K
  (try simp only [Act.put, List.setIfInBounds_toArray, List.set_cons_zero, List.set_cons_succ])
  refine wpAnyH_ready (rs := [7]) (by kernel_rfl) (by simp) (AllReadyH.cons (op_at rfl) (fun K hK => ?_) AllReadyH.nil)
  go_simp
  (refine (H2.out _).mono ?_; rintro e w' ⟨rfl, rfl⟩)
  go_wp2_with fail
  refine hK.out _ _ l0 (fun hHeld => ?_)
  clear hK K
  (try simp only [Act.put, List.setIfInBounds_toArray, List.set_cons_zero, List.set_cons_succ])
  refine wpAnyH_ready (rs := [8]) (by kernel_rfl) (by simp) (AllReadyH.cons (op_at rfl) (fun K hK => ?_) AllReadyH.nil)
  go_simp
  obtain ⟨W3, hW3, g3, s0, s1⟩ := box2 W2 (.int .i64 0) (.int .i64 e2) 34
  rw [hW3]
  clear hW3
  replace l0 := g3.cell l0
  replace ct := g3.cell ct
  replace g := g.trans g3
  refine hK.out _ _ l0 (fun hHeld => ?_)
  clear hK K
  (try simp only [Act.put, List.setIfInBounds_toArray, List.set_cons_zero, List.set_cons_succ])
  refine wpAnyH_ready (rs := [9]) (by kernel_rfl) (by simp) (AllReadyH.cons (op_at rfl) (fun K hK => ?_) AllReadyH.nil)
  go_simp
  (refine (HF.out _ _ W3 s0 s1).mono ?_; rintro e w8 ⟨rfl, rfl⟩)
  go_wp2_with fail
  refine hK.out _ _ l0 (fun hHeld => ?_)
  clear hK K
  (try simp only [Act.put, List.setIfInBounds_toArray, List.set_cons_zero, List.set_cons_succ])
  refine wpAnyH_take (i := 10) (v := (.int .i64 0)) (op_at rfl) (by kernel_rfl) (by kernel_rfl) (by kernel_rfl) (fun _ _ _ h => h) (Or.inl ⟨rfl, fun w hSw => ?_⟩) (by assumption) ?_
  · (try dsimp only at hSw); go_simp; try with_reducible rfl
  (try simp only [Act.put, List.setIfInBounds_toArray, List.set_cons_zero, List.set_cons_succ])
  refine wpAnyH_done (by kernel_rfl) ?_ _
  go_wp2_with fail
  refine (HAsk.out _ g).mono ?_
  rintro e w2 ⟨u, rfl, hu, hg⟩
  replace l0 := hg.cell l0
  replace ct := hg.cell ct
  replace g := g.trans hg
  clear hg HQ HAsk HF H2
  obtain ⟨pu, cu, rfl⟩ := opsV_slice hu
  obtain ⟨W4, hW4, gW, hQ⟩ := boxQ w2 (.string x.nm) (.int .i64 x.lo) (.int .i64 x.hi) (.slice pu (others xs cl).length cu) (.int .i64 r) 67
  have hQ' := fun (W' : World) (g' : Gr W4 W') => row5 (g'.block hQ)
  have HW4 := Lib.hid hW4
  replace l0 := gW.cell l0
  replace ct := gW.cell ct
  replace g := g.trans gW
  replace hu := hu.gr gW
  obtain ⟨q0, q1, q2, q3, q4, _⟩ := row5 hQ
  have HT := Lib.hid (HEa.out B _ _ cu pu W4 g l0 hu hQ')
  have la := l0
  rw [← hW4] at la
  clear hW4 hQ gW HEa hQ' hu
  generalize (others xs cl).length = nu at *
  go_wp2_with fail
  rw [HW4.out]
  clear la
  generalize w2.heap.size = Q at *
  clear HW4
  refine HT.out.mono ?_
  rintro e W5 ⟨rfl, hg⟩
  replace l0 := hg.cell l0
  replace ct := hg.cell ct
  replace q0 := hg.cell q0
  replace q1 := hg.cell q1
  replace q2 := hg.cell q2
  replace q3 := hg.cell q3
  replace q4 := hg.cell q4
  replace g := g.trans hg
  clear hg HT
  go_wp2_with fail
  have gd := (Gr.refl W5).drew
  replace l0 := gd.cell l0
  replace ct := gd.cell ct
  replace q0 := gd.cell q0
  replace q1 := gd.cell q1
  replace q2 := gd.cell q2
  replace q3 := gd.cell q3
  replace q4 := gd.cell q4
  replace g := g.trans gd
  clear gd
  refine wp_region_held_drew (S := (fun w' => (w'.cell? ⟨B, 0, none⟩ = some (.slice (some ⟨b2, o2, none⟩) (k + 1) c2) ∧ w'.cell? ⟨b2, o2 + k * 3 + 1, none⟩ = some (.int .i64 y.to)) ∧ w'.cell? ⟨Q, 2, none⟩ = some (.int .i64 x.hi))) (by kernel_rfl) ⟨⟨l0, ct⟩, q2⟩ (fun hHeld => ?_)
  generalize W5.drew = V4 at *
  refine wpAnyH_take (i := 0) (v := (.int .i64 z)) (op_at rfl) (by kernel_rfl) (by kernel_rfl) (by kernel_rfl) (fun _ _ _ h => h) (Or.inl ⟨rfl, fun w hSw => ?_⟩) (by assumption) ?_
  · (try dsimp only at hSw); go_simp; try with_reducible rfl
  (try simp only [Act.put, List.setIfInBounds_toArray, List.set_cons_zero, List.set_cons_succ])
  refine wpAnyH_take (i := 1) (v := (.slice (some ⟨b2, o2, none⟩) (k + 1) c2)) (op_at rfl) (by kernel_rfl) (by kernel_rfl) (by kernel_rfl) (fun _ _ _ h => h) (Or.inl ⟨rfl, fun w hSw => ?_⟩) (by assumption) ?_
  · (try dsimp only at hSw); go_simp; try with_reducible rfl
  (try simp only [Act.put, List.setIfInBounds_toArray, List.set_cons_zero, List.set_cons_succ])
  refine wpAnyH_take (i := 2) (v := (.slice (some ⟨b2, o2, none⟩) (k + 1) c2)) (op_at rfl) (by kernel_rfl) (by kernel_rfl) (by kernel_rfl) (fun _ _ _ h => h) (Or.inl ⟨rfl, fun w hSw => ?_⟩) (by assumption) ?_
  · (try dsimp only at hSw); go_simp; try with_reducible rfl
  (try simp only [Act.put, List.setIfInBounds_toArray, List.set_cons_zero, List.set_cons_succ])
  refine wpAnyH_take (i := 3) (v := (.int .i64 ((k : Int) + 1))) (op_at rfl) (by kernel_rfl) (by kernel_rfl) (by kernel_rfl) (fun _ _ _ h => h) (Or.inl ⟨rfl, fun w hSw => ?_⟩) (by assumption) ?_
  · (try dsimp only at hSw); go_simp; try with_reducible rfl
  (try simp only [Act.put, List.setIfInBounds_toArray, List.set_cons_zero, List.set_cons_succ])
  refine wpAnyH_take (i := 4) (v := (.int .i64 k)) (op_at rfl) (by kernel_rfl) (by kernel_rfl) (by kernel_rfl) (fun _ _ _ h => h) (Or.inl ⟨rfl, fun w hSw => ?_⟩) (by assumption) ?_
  · (try dsimp only at hSw); go_simp; try with_reducible rfl
  (try simp only [Act.put, List.setIfInBounds_toArray, List.set_cons_zero, List.set_cons_succ])
  refine wpAnyH_take (i := 5) (v := (.pointer (some ⟨b2, o2 + k * 3, none⟩))) (op_at rfl) (by kernel_rfl) (by kernel_rfl) (by kernel_rfl) (fun _ _ _ h => h) (Or.inl ⟨rfl, fun w hSw => ?_⟩) (by assumption) ?_
  · (try dsimp only at hSw); go_simp; try with_reducible rfl
  (try simp only [Act.put, List.setIfInBounds_toArray, List.set_cons_zero, List.set_cons_succ])
  refine wpAnyH_take (i := 6) (v := (.pointer (some ⟨b2, o2 + k * 3 + 1, none⟩))) (op_at rfl) (by kernel_rfl) (by kernel_rfl) (by kernel_rfl) (fun _ _ _ h => h) (Or.inl ⟨rfl, fun w hSw => ?_⟩) (by assumption) ?_
  · (try dsimp only at hSw); go_simp; try with_reducible rfl
  (try simp only [Act.put, List.setIfInBounds_toArray, List.set_cons_zero, List.set_cons_succ])
  refine wpAnyH_take (i := 7) (v := (.int .i64 y.to)) (op_at rfl) (by kernel_rfl) (by kernel_rfl) (by kernel_rfl) (fun _ _ _ h => h) (Or.inl ⟨rfl, fun w hSw => ?_⟩) (by assumption) ?_
  · (try dsimp only at hSw); go_simp; try with_reducible rfl
  (try simp only [Act.put, List.setIfInBounds_toArray, List.set_cons_zero, List.set_cons_succ])
  refine wpAnyH_take (i := 8) (v := (.pointer (some ⟨Q, 0, none⟩))) (op_at rfl) (by kernel_rfl) (by kernel_rfl) (by kernel_rfl) (fun _ _ _ h => h) (Or.inl ⟨rfl, fun w hSw => ?_⟩) (by assumption) ?_
  · (try dsimp only at hSw); go_simp; try with_reducible rfl
  (try simp only [Act.put, List.setIfInBounds_toArray, List.set_cons_zero, List.set_cons_succ])
  refine wpAnyH_take (i := 9) (v := (.pointer (some ⟨Q, 2, none⟩))) (op_at rfl) (by kernel_rfl) (by kernel_rfl) (by kernel_rfl) (fun _ _ _ h => h) (Or.inl ⟨rfl, fun w hSw => ?_⟩) (by assumption) ?_
  · (try dsimp only at hSw); go_simp; try with_reducible rfl
  (try simp only [Act.put, List.setIfInBounds_toArray, List.set_cons_zero, List.set_cons_succ])
  refine wpAnyH_take (i := 10) (v := (.int .i64 x.hi)) (op_at rfl) (by kernel_rfl) (by kernel_rfl) (by kernel_rfl) (fun _ _ _ h => h) (Or.inl ⟨rfl, fun w hSw => ?_⟩) (by assumption) ?_
  · (try dsimp only at hSw); go_simp; try with_reducible rfl
  (try simp only [Act.put, List.setIfInBounds_toArray, List.set_cons_zero, List.set_cons_succ])
  refine wpAnyH_take (i := 11) (v := (.bool (y.to != x.hi))) (op_at rfl) (by kernel_rfl) (by kernel_rfl) (by kernel_rfl) (fun _ _ _ h => h) (Or.inl ⟨rfl, fun w hSw => ?_⟩) (by assumption) ?_
  · (try dsimp only at hSw); go_simp; try with_reducible rfl
  (try simp only [Act.put, List.setIfInBounds_toArray, List.set_cons_zero, List.set_cons_succ])
  refine wpAnyH_ready (rs := [12]) (by kernel_rfl) (by simp) (AllReadyH.cons (op_at rfl) (fun K hK => ?_) AllReadyH.nil)
  go_simp
  (refine (H5.out _).mono ?_; rintro e w' ⟨rfl, rfl⟩)
  go_wp2_with fail
  refine hK.out _ _ ⟨⟨l0, ct⟩, q2⟩ (fun hHeld => ?_)
  clear hK K
  (try simp only [Act.put, List.setIfInBounds_toArray, List.set_cons_zero, List.set_cons_succ])
  refine wpAnyH_ready (rs := [13]) (by kernel_rfl) (by simp) (AllReadyH.cons (op_at rfl) (fun K hK => ?_) AllReadyH.nil)
  go_simp
  obtain ⟨W7, hW7, g7, s0, s1⟩ := box2 V4 (.int .i64 z) (.int .i64 e5) 34
  rw [hW7]
  clear hW7
  replace l0 := g7.cell l0
  replace ct := g7.cell ct
  replace q2 := g7.cell q2
  replace g := g.trans g7
  refine hK.out _ _ ⟨⟨l0, ct⟩, q2⟩ (fun hHeld => ?_)
  clear hK K
  (try simp only [Act.put, List.setIfInBounds_toArray, List.set_cons_zero, List.set_cons_succ])
  refine wpAnyH_ready (rs := [14]) (by kernel_rfl) (by simp) (AllReadyH.cons (op_at rfl) (fun K hK => ?_) AllReadyH.nil)
  go_simp
  (refine (HF5.out _ _ W7 s0 s1).mono ?_; rintro e w8 ⟨rfl, rfl⟩)
  go_wp2_with fail
  refine hK.out _ _ ⟨⟨l0, ct⟩, q2⟩ (fun hHeld => ?_)
  clear hK K
  (try simp only [Act.put, List.setIfInBounds_toArray, List.set_cons_zero, List.set_cons_succ])
  refine wpAnyH_take (i := 15) (v := (.int .i64 E)) (op_at rfl) (by kernel_rfl) (by kernel_rfl) (by kernel_rfl) (fun _ _ _ h => h) (Or.inl ⟨rfl, fun w hSw => ?_⟩) (by assumption) ?_
  · (try dsimp only at hSw); go_simp; try with_reducible rfl
  (try simp only [Act.put, List.setIfInBounds_toArray, List.set_cons_zero, List.set_cons_succ])
  refine wpAnyH_done (by kernel_rfl) ?_ _
  go_wp2_with fail
  go_ret
  exact ⟨rfl, g⟩
end Go.Proofs.YtimbcjldejifaaaGreatDoor
namespace Go.Proofs.YtimbcjldejifaaaGreatDoor
open Go.RowKit Go.Lib
set_option linter.unusedSimpArgs false
set_option linter.unusedVariables false
/-- the error of bars -/
def exclE (ys : List OpR) (r lo hi : Int) (bs : List BarR) : Int :=
  match bs.getLast? with
  | none => 12
  | some y => firstE [barFrom ys r lo bs bs.length 0, if y.to != hi then 2 else 0]
theorem exclE_at {ys : List OpR} {r lo hi : Int} {bs : List BarR} {k : Nat} {y : BarR} (hn : bs.length = k + 1) (hy : bs[k]? = some y) : exclE ys r lo hi bs = firstE [barFrom ys r lo bs (k + 1) 0, if y.to != hi then 2 else 0] := by
  have h : bs.getLast? = some y := by
    rw [List.getLast?_eq_getElem?, hn]
    exact hy
  unfold exclE
  rw [h, hn]
theorem turn_le {lo : Int} {ys : List OpR} {r m : Int} (hlo : lo ≤ m) (h0 : 0 ≤ m) (h : ∀ (j : Nat) (x : OpR), ys[j]? = some x → x.lo ≤ m) : turnV lo ys r ≤ m := by
  unfold turnV
  split
  · exact hlo
  · have hd : ∀ k : Nat, (lowsS ys).getD k 0 ≤ m := by
      intro k
      rw [List.getD_eq_getElem?_getD]
      cases hk : (lowsS ys)[k]? with
      | none => exact h0
      | some v =>
        have hm : v ∈ lowsS ys := List.mem_of_getElem? hk
        unfold lowsS at hm
        rw [List.mem_mergeSort, List.mem_map] at hm
        obtain ⟨y, hy, rfl⟩ := hm
        obtain ⟨j, hj⟩ := List.mem_iff_getElem?.1 hy
        exact h j y hj
    have := hd (((ys.length : Int) - r).toNat)
    omega
theorem firstE_two0 {a b : Int} (ha : a = 0) (hb : b = 0) : firstE [a, b] = 0 := by
  subst ha hb
  rfl
theorem barE_zero {ys : List OpR} {r lo : Int} {xs : List BarR} {i : Nat} {x : BarR} (h1 : kindB x = false) (h2 : contB lo xs x i = true) (h3 : holdB ys r x = true) : barE ys r lo xs i x = 0 := by
  unfold barE
  rw [h1, h2, h3]
  rfl
theorem ab_list : abW.toList = [97, 98, 111, 118, 101] := by decide +kernel
theorem be_list : beW.toList = [98, 101, 108, 111, 119] := by decide +kernel
theorem isAb_ab (a b : Int) : isAb ⟨a, b, abW⟩ = true := by unfold isAb; rw [ab_list]; rfl
theorem isAb_be (a b : Int) : isAb ⟨a, b, beW⟩ = false := by unfold isAb; rw [be_list]; rfl
theorem isBe_be (a b : Int) : isBe ⟨a, b, beW⟩ = true := by unfold isBe; rw [be_list]; rfl
theorem kind_ab (a b : Int) : kindB ⟨a, b, abW⟩ = false := by unfold kindB; rw [isAb_ab]; rfl
theorem kind_be (a b : Int) : kindB ⟨a, b, beW⟩ = false := by unfold kindB; rw [isAb_be, isBe_be]; rfl
theorem hold_ab {ys : List OpR} {r a b : Int} (h : r ≤ cntV (fun y => y.lo) b ys) : holdB ys r ⟨a, b, abW⟩ = true := by
  unfold holdB
  rw [isAb_ab]
  exact decide_eq_true h
theorem hold_be {ys : List OpR} {r a b : Int} (h : cntV (fun y => y.hi) a ys ≤ r - 2) : holdB ys r ⟨a, b, beW⟩ = true := by
  unfold holdB
  rw [isAb_be]
  exact decide_eq_true h
theorem bars_good (ys : List OpR) (r lo hi T : Int) (hr : 1 ≤ r) (hlh : lo ≤ hi) (hT : turnV lo ys r = T) (hm : T ≤ 99999) (hP : isPoss lo hi ys r = false) : exclE ys r lo hi (barsL lo hi T) = 0 := by
  have hge := turn_ge lo ys r
  have hiff := fun v (h : lo ≤ v) => turn_iff (ys := ys) (v := v) hr h
  unfold isPoss at hP
  rw [hT] at hge hiff hP
  rw [Bool.and_eq_false_iff, decide_eq_false_iff_not, decide_eq_false_iff_not] at hP
  by_cases hlt : lo < T
  · have h1 : r ≤ cntV (fun y => y.lo) (T - 1) ys := by
      have := (hiff (T - 1) (by omega)).1
      exact Int.not_lt.1 fun h => absurd (this h) (by omega)
    by_cases hle : T ≤ hi
    · have e : barsL lo hi T = [⟨lo, T - 1, abW⟩, ⟨T, hi, beW⟩] := by
        unfold barsL
        rw [if_pos hlt, if_pos hle, if_neg (show ¬ hi < T - 1 by omega)]
        rfl
      rw [e, exclE_at (k := 1) rfl rfl]
      have b0 : barE ys r lo [⟨lo, T - 1, abW⟩, ⟨T, hi, beW⟩] 0 ⟨lo, T - 1, abW⟩ = 0 := barE_zero (kind_ab _ _) (fromB_t ⟨rfl, by show lo ≤ T - 1; omega⟩) (hold_ab h1)
      have c1 : contB lo [⟨lo, T - 1, abW⟩, ⟨T, hi, beW⟩] ⟨T, hi, beW⟩ 1 = true := by
        show behindB ⟨lo, T - 1, abW⟩ ⟨T, hi, beW⟩ = true
        unfold behindB
        rw [Bool.and_eq_true]
        exact ⟨decide_eq_true (by show T - 1 ≠ 9223372036854775807; omega), fromB_t ⟨by show T = T - 1 + 1; omega, hle⟩⟩
      have b1 : barE ys r lo [⟨lo, T - 1, abW⟩, ⟨T, hi, beW⟩] 1 ⟨T, hi, beW⟩ = 0 := barE_zero (kind_be _ _) c1 (hold_be (by omega))
      refine firstE_two0 ?_ (by simp)
      simp only [barFrom, List.getElem?_cons_zero, List.getElem?_cons_succ, b0, b1, if_true]
    · have e : barsL lo hi T = [⟨lo, hi, abW⟩] := by
        unfold barsL
        rw [if_pos hlt, if_neg hle]
        by_cases hh : hi < T - 1
        · rw [if_pos hh]; rfl
        · rw [if_neg hh, show T - 1 = hi by omega]; rfl
      rw [e, exclE_at (k := 0) rfl rfl]
      have h2 : r ≤ cntV (fun y => y.lo) hi ys := Int.not_lt.1 fun h => absurd ((hiff hi hlh).1 h) hle
      have b0 : barE ys r lo [⟨lo, hi, abW⟩] 0 ⟨lo, hi, abW⟩ = 0 := barE_zero (kind_ab _ _) (fromB_t ⟨rfl, hlh⟩) (hold_ab h2)
      refine firstE_two0 ?_ (by simp)
      simp only [barFrom, List.getElem?_cons_zero, b0, if_true]
  · obtain rfl : T = lo := by omega
    have e : barsL T hi T = [⟨T, hi, beW⟩] := by
      unfold barsL
      rw [if_neg hlt, if_pos hlh]
      rfl
    rw [e, exclE_at (k := 0) rfl rfl]
    have b0 : barE ys r T [⟨T, hi, beW⟩] 0 ⟨T, hi, beW⟩ = 0 := barE_zero (kind_be _ _) (fromB_t ⟨rfl, hlh⟩) (hold_be (by omega))
    refine firstE_two0 ?_ (by simp)
    simp only [barFrom, List.getElem?_cons_zero, b0, if_true]
theorem barsL_ok {lo hi T : Int} (h0 : 0 ≤ lo) (h1 : hi ≤ 99999) (h2 : 0 ≤ T) (h3 : T ≤ 99999) (hlo : lo ≤ 99999) (hhi : 0 ≤ hi) : ∀ (i : Nat) (x : BarR), (barsL lo hi T)[i]? = some x → BarOK x := by
  intro i x hx
  have hm : x ∈ barsL lo hi T := List.mem_of_getElem? hx
  unfold barsL at hm
  rw [List.mem_append] at hm
  rcases hm with hm | hm
  · split at hm
    · rw [List.mem_singleton] at hm
      subst hm
      refine ⟨by show -9223372036854775808 ≤ lo; omega, by show lo ≤ 9223372036854775807; omega, ?_, ?_⟩
      · show -9223372036854775808 ≤ if hi < T - 1 then hi else T - 1
        split <;> omega
      · show (if hi < T - 1 then hi else T - 1) ≤ 9223372036854775807
        split <;> omega
    · simp at hm
  · split at hm
    · rw [List.mem_singleton] at hm
      subst hm
      exact ⟨by show -9223372036854775808 ≤ T; omega, by show T ≤ 9223372036854775807; omega, by show -9223372036854775808 ≤ hi; omega, by show hi ≤ 9223372036854775807; omega⟩
    · simp at hm
theorem barsL_pos {lo hi T : Int} (hlh : lo ≤ hi) (hT : lo ≤ T) : 0 < (barsL lo hi T).length := by
  unfold barsL
  rw [List.length_append]
  by_cases hlt : lo < T
  · rw [if_pos hlt]; simp; omega
  · rw [if_neg hlt, if_pos (show T ≤ hi by omega)]; simp
end Go.Proofs.YtimbcjldejifaaaGreatDoor
