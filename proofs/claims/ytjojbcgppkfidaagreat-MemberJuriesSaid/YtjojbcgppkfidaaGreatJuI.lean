/- Juries: CheckAppointment. -/
import Derived.Test.YtjojbcgppkfidaaGreatGJuG
namespace Go.Proofs.YtjojbcgppkfidaaGreat
open Go.RowKit Go.Lib
set_option linter.unusedSimpArgs false
set_option linter.unusedVariables false
set_option maxHeartbeats 1000000 in
set_option maxRecDepth 100000 in
theorem upToB_c (os : List OfR) (ps : List PoR) (a : List Int) (vo vp va : Value) (B C k : Nat) (o : Int) (w : World) (ho : OfAts w vo os) (hp : PoAts w vp ps) (ha : IntsC w va a) (hk : a[k]? = some o) (hal : a.length = ps.length) (hr : o = -1 ∨ noneE os.length o = 0) (hl1 : os.length ≤ 1000) (hl2 : ps.length ≤ 1000)
    (hB0 : w.cell? ⟨B, 0, none⟩ = some vo) (hB1 : w.cell? ⟨B, 1, none⟩ = some vp) (hC : w.cell? ⟨C, 0, none⟩ = some va) :
    Calls Tryz.prog 50 #[.int .i64 (k : Int), .int .i64 o, .pointer (some ⟨B, 0, none⟩), .pointer (some ⟨C, 0, none⟩)] w fun e w' => e = .returned (.int .i64 (uptoE os ps a k o)) ∧ Gr w w' := by
  have H := Lib.hid (upTo_c os ps a vo vp va k o w ho hp ha hk hal hr hl1 hl2)
  generalize uptoE os ps a k o = z at *
  clear ho hp ha hk hr
  go_enter Tryz.func50, Tryz.ntmps50
  go_wp2_with fail
  refine H.out.mono ?_
  rintro e w4 ⟨rfl, hg⟩
  go_wp2_with fail
  go_ret
  exact ⟨rfl, hg⟩
theorem offE_zero {os : List OfR} {ps : List PoR} {k : Nat} {o : Int} (h : offE os ps k o = 0) : o = -1 ∨ noneE os.length o = 0 := by
  unfold offE at h
  split at h
  · rename_i h1; exact .inl h1
  · split at h
    · rename_i h1; exact .inr h1
    · exact .inr h
set_option maxHeartbeats 1000000 in
set_option maxRecDepth 100000 in
theorem app_bad (os : List OfR) (ps : List PoR) (a : List Int) (vo vp va : Value) (w : World) (ho : OfAts w vo os) (hp : PoAts w vp ps) (ha : IntsC w va a) (hr : ∀ x ∈ os, x.rs.length ≤ 1000) (hs : ∀ y ∈ ps, y.ns.length ≤ 1000) (hl1 : os.length ≤ 1000) (hl2 : ps.length ≤ 1000) (h0 : firstE [juryE os ps, if ((a.length : Int) != (ps.length : Int)) then 2 else 0] ≠ 0) :
    Calls Tryz.prog 15 #[.agg #[vo, vp], va] w fun e w' => e = .returned (.int .i64 (firstE [juryE os ps, if ((a.length : Int) != (ps.length : Int)) then 2 else 0])) ∧ Gr w w' := by
  have HO := Lib.hid (fun W (g : Gr w W) => ho.gr g)
  have HPP := Lib.hid (fun W (g : Gr w W) => hp.gr g)
  have HA := Lib.hid (fun W (g : Gr w W) => ha.gr g)
  have H1 := Lib.hid (fun W (g : Gr w W) => checkJury_c os ps vo vp W (ho.gr g) (hp.gr g))
  obtain ⟨⟨po, co, rfl, hco, hho⟩⟩ := ho
  obtain ⟨⟨pp, cp, rfl, hcp, hhp⟩⟩ := hp
  obtain ⟨⟨pa, ca, rfl, hca, hha⟩⟩ := ha
  obtain ⟨e2, h2', H2⟩ := if_e ((a.length : Int) != (ps.length : Int)) 2
  obtain ⟨e1, he1⟩ : ∃ z, z = juryE os ps := ⟨_, rfl⟩
  rw [← he1] at H1
  have hF := first_pair e1 e2
  obtain ⟨z1, hz1⟩ : ∃ z, z = firstE [e1, e2] := ⟨_, rfl⟩
  rw [← hz1] at hF
  have HF := Lib.hid hF
  have hz : z1 = firstE [juryE os ps, if ((a.length : Int) != (ps.length : Int)) then 2 else 0] := by rw [hz1, he1, h2']
  have hzz := firstE_zero (l := [e1, e2])
  rw [← hz1] at hzz
  rw [← hz] at h0 ⊢
  clear hz1 hF he1 hz
  replace H2 := Lib.hid H2
  obtain ⟨W, hW, g, a0, a1⟩ := box2 w (.slice po os.length co) (.slice pp ps.length cp) 25
  obtain ⟨W2, hW2, g2, c0⟩ := box1 W (.slice pa a.length ca) 26
  have hsz : W.heap.size = w.heap.size + 1 := by rw [← hW]; simp
  rw [hsz] at c0
  replace a0 := g2.cell a0
  replace a1 := g2.cell a1
  replace g := g.trans g2
  clear g2 hho hhp hha hco hcp
  have q1 : (z1 == 0) = false := by simpa using h0
  have q2 : (z1 != 0) = true := by simpa [bne] using q1
  clear hzz h2' hr hs
  go_enter Tryz.func15, Tryz.ntmps15
  go_wp2_with fail
  (try rw [hsz])
  generalize w.heap.size = Bx at *
  obtain ⟨C, hC⟩ : ∃ z, z = Bx + 1 := ⟨_, rfl⟩
  rw [← hC] at c0
  (try rw [← hC])
  clear hC hsz hW hW2
  have gd := (Gr.refl W2).drew
  replace a0 := gd.cell a0
  replace a1 := gd.cell a1
  replace c0 := gd.cell c0
  replace g := g.trans gd
  clear gd
  refine wp_region_held_drew (S := (fun w' => w'.cell? ⟨Bx, 0, none⟩ = some (.slice po os.length co) ∧ w'.cell? ⟨Bx, 1, none⟩ = some (.slice pp ps.length cp) ∧ w'.cell? ⟨C, 0, none⟩ = some (.slice pa a.length ca))) (by kernel_rfl) ⟨a0, a1, c0⟩ (fun hHeld => ?_)
  generalize W2.drew = V at *
  refine wpAnyH_take (i := 0) (v := (.agg #[.slice po os.length co, .slice pp ps.length cp])) (op_at rfl) (by kernel_rfl) (by kernel_rfl) (by kernel_rfl) (fun _ _ _ h => h) (Or.inl ⟨rfl, fun w hSw => ?_⟩) (by assumption) ?_
  · (try dsimp only at hSw); go_simp; try with_reducible rfl
  (try simp only [Act.put, List.setIfInBounds_toArray, List.set_cons_zero, List.set_cons_succ])
  refine wpAnyH_take (i := 2) (v := (.slice pa a.length ca)) (op_at rfl) (by kernel_rfl) (by kernel_rfl) (by kernel_rfl) (fun _ _ _ h => h) (Or.inl ⟨rfl, fun w hSw => ?_⟩) (by assumption) ?_
  · (try dsimp only at hSw); go_simp; try with_reducible rfl
  (try simp only [Act.put, List.setIfInBounds_toArray, List.set_cons_zero, List.set_cons_succ])
  refine wpAnyH_take (i := 3) (v := (.int .i64 (a.length : Int))) (op_at rfl) (by kernel_rfl) (by kernel_rfl) (by kernel_rfl) (fun _ _ _ h => h) (Or.inl ⟨rfl, fun w hSw => ?_⟩) (by assumption) ?_
  · (try dsimp only at hSw); go_simp; try with_reducible rfl
  (try simp only [Act.put, List.setIfInBounds_toArray, List.set_cons_zero, List.set_cons_succ])
  refine wpAnyH_take (i := 4) (v := (.pointer (some ⟨Bx, 1, none⟩))) (op_at rfl) (by kernel_rfl) (by kernel_rfl) (by kernel_rfl) (fun _ _ _ h => h) (Or.inl ⟨rfl, fun w hSw => ?_⟩) (by assumption) ?_
  · (try dsimp only at hSw); go_simp; try with_reducible rfl
  (try simp only [Act.put, List.setIfInBounds_toArray, List.set_cons_zero, List.set_cons_succ])
  refine wpAnyH_take (i := 5) (v := (.slice pp ps.length cp)) (op_at rfl) (by kernel_rfl) (by kernel_rfl) (by kernel_rfl) (fun _ _ _ h => h) (Or.inl ⟨rfl, fun w hSw => ?_⟩) (by assumption) ?_
  · (try dsimp only at hSw); go_simp; try with_reducible rfl
  (try simp only [Act.put, List.setIfInBounds_toArray, List.set_cons_zero, List.set_cons_succ])
  refine wpAnyH_take (i := 6) (v := (.int .i64 (ps.length : Int))) (op_at rfl) (by kernel_rfl) (by kernel_rfl) (by kernel_rfl) (fun _ _ _ h => h) (Or.inl ⟨rfl, fun w hSw => ?_⟩) (by assumption) ?_
  · (try dsimp only at hSw); go_simp; try with_reducible rfl
  (try simp only [Act.put, List.setIfInBounds_toArray, List.set_cons_zero, List.set_cons_succ])
  refine wpAnyH_take (i := 7) (v := (.bool ((a.length : Int) != (ps.length : Int)))) (op_at rfl) (by kernel_rfl) (by kernel_rfl) (by kernel_rfl) (fun _ _ _ h => h) (Or.inl ⟨rfl, fun w hSw => ?_⟩) (by assumption) ?_
  · (try dsimp only at hSw); go_simp; try with_reducible rfl
  (try simp only [Act.put, List.setIfInBounds_toArray, List.set_cons_zero, List.set_cons_succ])
  refine wpAnyH_ready (rs := [1]) (by kernel_rfl) (by simp) (AllReadyH.cons (op_at rfl) (fun K hK => ?_) AllReadyH.nil)
  go_simp
  (refine (H1.out _ g).mono ?_; rintro e W3 ⟨rfl, hg⟩; replace a0 := hg.cell a0; replace a1 := hg.cell a1; replace c0 := hg.cell c0; replace g := g.trans hg; clear hg)
  go_wp2_with fail
  refine hK.out _ _ ⟨a0, a1, c0⟩ (fun hHeld => ?_)
  clear hK K
  (try simp only [Act.put, List.setIfInBounds_toArray, List.set_cons_zero, List.set_cons_succ])
  refine wpAnyH_ready (rs := [8]) (by kernel_rfl) (by simp) (AllReadyH.cons (op_at rfl) (fun K hK => ?_) AllReadyH.nil)
  go_simp
  (refine (H2.out _).mono ?_; rintro e w' ⟨rfl, rfl⟩)
  go_wp2_with fail
  refine hK.out _ _ ⟨a0, a1, c0⟩ (fun hHeld => ?_)
  clear hK K
  (try simp only [Act.put, List.setIfInBounds_toArray, List.set_cons_zero, List.set_cons_succ])
  refine wpAnyH_ready (rs := [9]) (by kernel_rfl) (by simp) (AllReadyH.cons (op_at rfl) (fun K hK => ?_) AllReadyH.nil)
  go_simp
  obtain ⟨WW, hWW, gW, s0, s1⟩ := box2 W3 (.int .i64 e1) (.int .i64 e2) 36
  rw [hWW]
  clear hWW
  replace a0 := gW.cell a0
  replace a1 := gW.cell a1
  replace c0 := gW.cell c0
  replace g := g.trans gW
  refine hK.out _ _ ⟨a0, a1, c0⟩ (fun hHeld => ?_)
  clear hK K
  (try simp only [Act.put, List.setIfInBounds_toArray, List.set_cons_zero, List.set_cons_succ])
  refine wpAnyH_ready (rs := [10]) (by kernel_rfl) (by simp) (AllReadyH.cons (op_at rfl) (fun K hK => ?_) AllReadyH.nil)
  go_simp
  (refine (HF.out _ _ WW s0 s1).mono ?_; rintro e w8 ⟨rfl, rfl⟩)
  go_wp2_with fail
  refine hK.out _ _ ⟨a0, a1, c0⟩ (fun hHeld => ?_)
  clear hK K
  (try simp only [Act.put, List.setIfInBounds_toArray, List.set_cons_zero, List.set_cons_succ])
  refine wpAnyH_take (i := 11) (v := (.int .i64 z1)) (op_at rfl) (by kernel_rfl) (by kernel_rfl) (by kernel_rfl) (fun _ _ _ h => h) (Or.inl ⟨rfl, fun w hSw => ?_⟩) (by assumption) ?_
  · (try dsimp only at hSw); go_simp; try with_reducible rfl
  (try simp only [Act.put, List.setIfInBounds_toArray, List.set_cons_zero, List.set_cons_succ])
  refine wpAnyH_done (by kernel_rfl) ?_ _
  go_wp2_with fail
  go_ret
  exact ⟨rfl, g⟩
set_option maxHeartbeats 1000000 in
set_option maxRecDepth 100000 in
theorem app_good (os : List OfR) (ps : List PoR) (a : List Int) (vo vp va : Value) (w : World) (ho : OfAts w vo os) (hp : PoAts w vp ps) (ha : IntsC w va a) (hr : ∀ x ∈ os, x.rs.length ≤ 1000) (hs : ∀ y ∈ ps, y.ns.length ≤ 1000) (hl1 : os.length ≤ 1000) (hl2 : ps.length ≤ 1000) (h0 : firstE [juryE os ps, if ((a.length : Int) != (ps.length : Int)) then 2 else 0] = 0) :
    Calls Tryz.prog 15 #[.agg #[vo, vp], va] w fun e w' => e = .returned (.int .i64 (if eachI (offE os ps) a 0 = 0 then eachI (uptoE os ps a) a 0 else eachI (offE os ps) a 0)) ∧ Gr w w' := by
  have HO := Lib.hid (fun W (g : Gr w W) => ho.gr g)
  have HPP := Lib.hid (fun W (g : Gr w W) => hp.gr g)
  have HA := Lib.hid (fun W (g : Gr w W) => ha.gr g)
  have H1 := Lib.hid (fun W (g : Gr w W) => checkJury_c os ps vo vp W (ho.gr g) (hp.gr g))
  obtain ⟨⟨po, co, rfl, hco, hho⟩⟩ := ho
  obtain ⟨⟨pp, cp, rfl, hcp, hhp⟩⟩ := hp
  obtain ⟨⟨pa, ca, rfl, hca, hha⟩⟩ := ha
  obtain ⟨e2, h2', H2⟩ := if_e ((a.length : Int) != (ps.length : Int)) 2
  obtain ⟨e1, he1⟩ : ∃ z, z = juryE os ps := ⟨_, rfl⟩
  rw [← he1] at H1
  have hF := first_pair e1 e2
  obtain ⟨z1, hz1⟩ : ∃ z, z = firstE [e1, e2] := ⟨_, rfl⟩
  rw [← hz1] at hF
  have HF := Lib.hid hF
  have hz : z1 = firstE [juryE os ps, if ((a.length : Int) != (ps.length : Int)) then 2 else 0] := by rw [hz1, he1, h2']
  have hzz := firstE_zero (l := [e1, e2])
  rw [← hz1] at hzz
  rw [← hz] at h0
  clear hz1 hF he1 hz
  replace H2 := Lib.hid H2
  obtain ⟨W, hW, g, a0, a1⟩ := box2 w (.slice po os.length co) (.slice pp ps.length cp) 25
  obtain ⟨W2, hW2, g2, c0⟩ := box1 W (.slice pa a.length ca) 26
  have hsz : W.heap.size = w.heap.size + 1 := by rw [← hW]; simp
  rw [hsz] at c0
  replace a0 := g2.cell a0
  replace a1 := g2.cell a1
  replace g := g.trans g2
  clear g2 hho hhp hha hco hcp
  subst h0
  have hal : a.length = ps.length := by
    have := hzz rfl e2 (by simp)
    rw [h2'] at this
    by_cases hh : a.length = ps.length
    · exact hh
    · rw [if_pos (by simp; omega)] at this
      cases this
  have HOFF := Lib.hid (fun W (g : Gr w W) => eachOff_c (offE os ps) a a.length pa ca (.slice po os.length co) (.slice pp ps.length cp) W rfl (by omega) (fun h0 => by
    obtain ⟨⟨pa', ca', e, _, hh⟩⟩ := HA.out W g
    simp only [Value.slice.injEq] at e
    obtain ⟨rfl, _, rfl⟩ := e
    exact hh h0) (fun i x W' hx g' => offOf_c os ps _ _ i x W' (HO.out W' (g.trans g')) (HPP.out W' (g.trans g')) (by have := (List.getElem?_eq_some_iff.1 hx).1; omega) hr hs hl1 hl2))
  have HUP := Lib.hid (fun (B C : Nat) W (hz : eachI (offE os ps) a 0 = 0) (g : Gr w W) hB0 hB1 hC => eachPst_c (uptoE os ps a) a a.length pa ca B C W rfl (by omega) (fun h0 => by
    obtain ⟨⟨pa', ca', e, _, hh⟩⟩ := HA.out W g
    simp only [Value.slice.injEq] at e
    obtain ⟨rfl, _, rfl⟩ := e
    exact hh h0) (fun i x W' hx g' => upToB_c os ps a _ _ _ B C i x W' (HO.out W' (g.trans g')) (HPP.out W' (g.trans g')) (HA.out W' (g.trans g')) hx hal (offE_zero (k := i) (by have := eachI_zero hz i x hx; rwa [Nat.zero_add] at this)) hl1 hl2 (g'.cell hB0) (g'.cell hB1) (g'.cell hC)))
  clear hzz h2' hr hs HO HPP HA hal hca
  by_cases hz : eachI (offE os ps) a 0 = 0
  · rw [if_pos hz]
    rw [hz] at HOFF HUP
    clear hz
    generalize eachI (uptoE os ps a) a 0 = zu at *
    go_enter Tryz.func15, Tryz.ntmps15
    go_wp2_with fail
    (try rw [hsz])
    generalize w.heap.size = Bx at *
    obtain ⟨C, hC⟩ : ∃ z, z = Bx + 1 := ⟨_, rfl⟩
    rw [← hC] at c0
    (try rw [← hC])
    clear hC hsz hW hW2
    have gd := (Gr.refl W2).drew
    replace a0 := gd.cell a0
    replace a1 := gd.cell a1
    replace c0 := gd.cell c0
    replace g := g.trans gd
    clear gd
    refine wp_region_held_drew (S := (fun w' => w'.cell? ⟨Bx, 0, none⟩ = some (.slice po os.length co) ∧ w'.cell? ⟨Bx, 1, none⟩ = some (.slice pp ps.length cp) ∧ w'.cell? ⟨C, 0, none⟩ = some (.slice pa a.length ca))) (by kernel_rfl) ⟨a0, a1, c0⟩ (fun hHeld => ?_)
    generalize W2.drew = V at *
    refine wpAnyH_take (i := 0) (v := (.agg #[.slice po os.length co, .slice pp ps.length cp])) (op_at rfl) (by kernel_rfl) (by kernel_rfl) (by kernel_rfl) (fun _ _ _ h => h) (Or.inl ⟨rfl, fun w hSw => ?_⟩) (by assumption) ?_
    · (try dsimp only at hSw); go_simp; try with_reducible rfl
    (try simp only [Act.put, List.setIfInBounds_toArray, List.set_cons_zero, List.set_cons_succ])
    refine wpAnyH_take (i := 2) (v := (.slice pa a.length ca)) (op_at rfl) (by kernel_rfl) (by kernel_rfl) (by kernel_rfl) (fun _ _ _ h => h) (Or.inl ⟨rfl, fun w hSw => ?_⟩) (by assumption) ?_
    · (try dsimp only at hSw); go_simp; try with_reducible rfl
    (try simp only [Act.put, List.setIfInBounds_toArray, List.set_cons_zero, List.set_cons_succ])
    refine wpAnyH_take (i := 3) (v := (.int .i64 (a.length : Int))) (op_at rfl) (by kernel_rfl) (by kernel_rfl) (by kernel_rfl) (fun _ _ _ h => h) (Or.inl ⟨rfl, fun w hSw => ?_⟩) (by assumption) ?_
    · (try dsimp only at hSw); go_simp; try with_reducible rfl
    (try simp only [Act.put, List.setIfInBounds_toArray, List.set_cons_zero, List.set_cons_succ])
    refine wpAnyH_take (i := 4) (v := (.pointer (some ⟨Bx, 1, none⟩))) (op_at rfl) (by kernel_rfl) (by kernel_rfl) (by kernel_rfl) (fun _ _ _ h => h) (Or.inl ⟨rfl, fun w hSw => ?_⟩) (by assumption) ?_
    · (try dsimp only at hSw); go_simp; try with_reducible rfl
    (try simp only [Act.put, List.setIfInBounds_toArray, List.set_cons_zero, List.set_cons_succ])
    refine wpAnyH_take (i := 5) (v := (.slice pp ps.length cp)) (op_at rfl) (by kernel_rfl) (by kernel_rfl) (by kernel_rfl) (fun _ _ _ h => h) (Or.inl ⟨rfl, fun w hSw => ?_⟩) (by assumption) ?_
    · (try dsimp only at hSw); go_simp; try with_reducible rfl
    (try simp only [Act.put, List.setIfInBounds_toArray, List.set_cons_zero, List.set_cons_succ])
    refine wpAnyH_take (i := 6) (v := (.int .i64 (ps.length : Int))) (op_at rfl) (by kernel_rfl) (by kernel_rfl) (by kernel_rfl) (fun _ _ _ h => h) (Or.inl ⟨rfl, fun w hSw => ?_⟩) (by assumption) ?_
    · (try dsimp only at hSw); go_simp; try with_reducible rfl
    (try simp only [Act.put, List.setIfInBounds_toArray, List.set_cons_zero, List.set_cons_succ])
    refine wpAnyH_take (i := 7) (v := (.bool ((a.length : Int) != (ps.length : Int)))) (op_at rfl) (by kernel_rfl) (by kernel_rfl) (by kernel_rfl) (fun _ _ _ h => h) (Or.inl ⟨rfl, fun w hSw => ?_⟩) (by assumption) ?_
    · (try dsimp only at hSw); go_simp; try with_reducible rfl
    (try simp only [Act.put, List.setIfInBounds_toArray, List.set_cons_zero, List.set_cons_succ])
    refine wpAnyH_ready (rs := [1]) (by kernel_rfl) (by simp) (AllReadyH.cons (op_at rfl) (fun K hK => ?_) AllReadyH.nil)
    go_simp
    (refine (H1.out _ g).mono ?_; rintro e W3 ⟨rfl, hg⟩; replace a0 := hg.cell a0; replace a1 := hg.cell a1; replace c0 := hg.cell c0; replace g := g.trans hg; clear hg)
    go_wp2_with fail
    refine hK.out _ _ ⟨a0, a1, c0⟩ (fun hHeld => ?_)
    clear hK K
    (try simp only [Act.put, List.setIfInBounds_toArray, List.set_cons_zero, List.set_cons_succ])
    refine wpAnyH_ready (rs := [8]) (by kernel_rfl) (by simp) (AllReadyH.cons (op_at rfl) (fun K hK => ?_) AllReadyH.nil)
    go_simp
    (refine (H2.out _).mono ?_; rintro e w' ⟨rfl, rfl⟩)
    go_wp2_with fail
    refine hK.out _ _ ⟨a0, a1, c0⟩ (fun hHeld => ?_)
    clear hK K
    (try simp only [Act.put, List.setIfInBounds_toArray, List.set_cons_zero, List.set_cons_succ])
    refine wpAnyH_ready (rs := [9]) (by kernel_rfl) (by simp) (AllReadyH.cons (op_at rfl) (fun K hK => ?_) AllReadyH.nil)
    go_simp
    obtain ⟨WW, hWW, gW, s0, s1⟩ := box2 W3 (.int .i64 e1) (.int .i64 e2) 36
    rw [hWW]
    clear hWW
    replace a0 := gW.cell a0
    replace a1 := gW.cell a1
    replace c0 := gW.cell c0
    replace g := g.trans gW
    refine hK.out _ _ ⟨a0, a1, c0⟩ (fun hHeld => ?_)
    clear hK K
    (try simp only [Act.put, List.setIfInBounds_toArray, List.set_cons_zero, List.set_cons_succ])
    refine wpAnyH_ready (rs := [10]) (by kernel_rfl) (by simp) (AllReadyH.cons (op_at rfl) (fun K hK => ?_) AllReadyH.nil)
    go_simp
    (refine (HF.out _ _ WW s0 s1).mono ?_; rintro e w8 ⟨rfl, rfl⟩)
    go_wp2_with fail
    refine hK.out _ _ ⟨a0, a1, c0⟩ (fun hHeld => ?_)
    clear hK K
    (try simp only [Act.put, List.setIfInBounds_toArray, List.set_cons_zero, List.set_cons_succ])
    refine wpAnyH_take (i := 11) (v := (.int .i64 0)) (op_at rfl) (by kernel_rfl) (by kernel_rfl) (by kernel_rfl) (fun _ _ _ h => h) (Or.inl ⟨rfl, fun w hSw => ?_⟩) (by assumption) ?_
    · (try dsimp only at hSw); go_simp; try with_reducible rfl
    (try simp only [Act.put, List.setIfInBounds_toArray, List.set_cons_zero, List.set_cons_succ])
    refine wpAnyH_done (by kernel_rfl) ?_ _
    go_wp2_with fail
    refine (HOFF.out _ g).mono ?_
    rintro e W5 ⟨rfl, hg⟩
    replace a0 := hg.cell a0
    replace a1 := hg.cell a1
    replace c0 := hg.cell c0
    replace g := g.trans hg
    clear hg
    go_wp2_with fail
    refine (HUP.out Bx C _ trivial g a0 a1 c0).mono ?_
    rintro e W6 ⟨rfl, hg⟩
    go_wp2_with fail
    go_ret
    exact ⟨rfl, g.trans hg⟩
  · rw [if_neg hz]
    clear HUP
    generalize eachI (offE os ps) a 0 = zo at *
    have q1 : (zo == 0) = false := by simpa using hz
    have q2 : (zo != 0) = true := by simpa [bne] using q1
    go_enter Tryz.func15, Tryz.ntmps15
    go_wp2_with fail
    (try rw [hsz])
    generalize w.heap.size = Bx at *
    obtain ⟨C, hC⟩ : ∃ z, z = Bx + 1 := ⟨_, rfl⟩
    rw [← hC] at c0
    (try rw [← hC])
    clear hC hsz hW hW2
    have gd := (Gr.refl W2).drew
    replace a0 := gd.cell a0
    replace a1 := gd.cell a1
    replace c0 := gd.cell c0
    replace g := g.trans gd
    clear gd
    refine wp_region_held_drew (S := (fun w' => w'.cell? ⟨Bx, 0, none⟩ = some (.slice po os.length co) ∧ w'.cell? ⟨Bx, 1, none⟩ = some (.slice pp ps.length cp) ∧ w'.cell? ⟨C, 0, none⟩ = some (.slice pa a.length ca))) (by kernel_rfl) ⟨a0, a1, c0⟩ (fun hHeld => ?_)
    generalize W2.drew = V at *
    refine wpAnyH_take (i := 0) (v := (.agg #[.slice po os.length co, .slice pp ps.length cp])) (op_at rfl) (by kernel_rfl) (by kernel_rfl) (by kernel_rfl) (fun _ _ _ h => h) (Or.inl ⟨rfl, fun w hSw => ?_⟩) (by assumption) ?_
    · (try dsimp only at hSw); go_simp; try with_reducible rfl
    (try simp only [Act.put, List.setIfInBounds_toArray, List.set_cons_zero, List.set_cons_succ])
    refine wpAnyH_take (i := 2) (v := (.slice pa a.length ca)) (op_at rfl) (by kernel_rfl) (by kernel_rfl) (by kernel_rfl) (fun _ _ _ h => h) (Or.inl ⟨rfl, fun w hSw => ?_⟩) (by assumption) ?_
    · (try dsimp only at hSw); go_simp; try with_reducible rfl
    (try simp only [Act.put, List.setIfInBounds_toArray, List.set_cons_zero, List.set_cons_succ])
    refine wpAnyH_take (i := 3) (v := (.int .i64 (a.length : Int))) (op_at rfl) (by kernel_rfl) (by kernel_rfl) (by kernel_rfl) (fun _ _ _ h => h) (Or.inl ⟨rfl, fun w hSw => ?_⟩) (by assumption) ?_
    · (try dsimp only at hSw); go_simp; try with_reducible rfl
    (try simp only [Act.put, List.setIfInBounds_toArray, List.set_cons_zero, List.set_cons_succ])
    refine wpAnyH_take (i := 4) (v := (.pointer (some ⟨Bx, 1, none⟩))) (op_at rfl) (by kernel_rfl) (by kernel_rfl) (by kernel_rfl) (fun _ _ _ h => h) (Or.inl ⟨rfl, fun w hSw => ?_⟩) (by assumption) ?_
    · (try dsimp only at hSw); go_simp; try with_reducible rfl
    (try simp only [Act.put, List.setIfInBounds_toArray, List.set_cons_zero, List.set_cons_succ])
    refine wpAnyH_take (i := 5) (v := (.slice pp ps.length cp)) (op_at rfl) (by kernel_rfl) (by kernel_rfl) (by kernel_rfl) (fun _ _ _ h => h) (Or.inl ⟨rfl, fun w hSw => ?_⟩) (by assumption) ?_
    · (try dsimp only at hSw); go_simp; try with_reducible rfl
    (try simp only [Act.put, List.setIfInBounds_toArray, List.set_cons_zero, List.set_cons_succ])
    refine wpAnyH_take (i := 6) (v := (.int .i64 (ps.length : Int))) (op_at rfl) (by kernel_rfl) (by kernel_rfl) (by kernel_rfl) (fun _ _ _ h => h) (Or.inl ⟨rfl, fun w hSw => ?_⟩) (by assumption) ?_
    · (try dsimp only at hSw); go_simp; try with_reducible rfl
    (try simp only [Act.put, List.setIfInBounds_toArray, List.set_cons_zero, List.set_cons_succ])
    refine wpAnyH_take (i := 7) (v := (.bool ((a.length : Int) != (ps.length : Int)))) (op_at rfl) (by kernel_rfl) (by kernel_rfl) (by kernel_rfl) (fun _ _ _ h => h) (Or.inl ⟨rfl, fun w hSw => ?_⟩) (by assumption) ?_
    · (try dsimp only at hSw); go_simp; try with_reducible rfl
    (try simp only [Act.put, List.setIfInBounds_toArray, List.set_cons_zero, List.set_cons_succ])
    refine wpAnyH_ready (rs := [1]) (by kernel_rfl) (by simp) (AllReadyH.cons (op_at rfl) (fun K hK => ?_) AllReadyH.nil)
    go_simp
    (refine (H1.out _ g).mono ?_; rintro e W3 ⟨rfl, hg⟩; replace a0 := hg.cell a0; replace a1 := hg.cell a1; replace c0 := hg.cell c0; replace g := g.trans hg; clear hg)
    go_wp2_with fail
    refine hK.out _ _ ⟨a0, a1, c0⟩ (fun hHeld => ?_)
    clear hK K
    (try simp only [Act.put, List.setIfInBounds_toArray, List.set_cons_zero, List.set_cons_succ])
    refine wpAnyH_ready (rs := [8]) (by kernel_rfl) (by simp) (AllReadyH.cons (op_at rfl) (fun K hK => ?_) AllReadyH.nil)
    go_simp
    (refine (H2.out _).mono ?_; rintro e w' ⟨rfl, rfl⟩)
    go_wp2_with fail
    refine hK.out _ _ ⟨a0, a1, c0⟩ (fun hHeld => ?_)
    clear hK K
    (try simp only [Act.put, List.setIfInBounds_toArray, List.set_cons_zero, List.set_cons_succ])
    refine wpAnyH_ready (rs := [9]) (by kernel_rfl) (by simp) (AllReadyH.cons (op_at rfl) (fun K hK => ?_) AllReadyH.nil)
    go_simp
    obtain ⟨WW, hWW, gW, s0, s1⟩ := box2 W3 (.int .i64 e1) (.int .i64 e2) 36
    rw [hWW]
    clear hWW
    replace a0 := gW.cell a0
    replace a1 := gW.cell a1
    replace c0 := gW.cell c0
    replace g := g.trans gW
    refine hK.out _ _ ⟨a0, a1, c0⟩ (fun hHeld => ?_)
    clear hK K
    (try simp only [Act.put, List.setIfInBounds_toArray, List.set_cons_zero, List.set_cons_succ])
    refine wpAnyH_ready (rs := [10]) (by kernel_rfl) (by simp) (AllReadyH.cons (op_at rfl) (fun K hK => ?_) AllReadyH.nil)
    go_simp
    (refine (HF.out _ _ WW s0 s1).mono ?_; rintro e w8 ⟨rfl, rfl⟩)
    go_wp2_with fail
    refine hK.out _ _ ⟨a0, a1, c0⟩ (fun hHeld => ?_)
    clear hK K
    (try simp only [Act.put, List.setIfInBounds_toArray, List.set_cons_zero, List.set_cons_succ])
    refine wpAnyH_take (i := 11) (v := (.int .i64 0)) (op_at rfl) (by kernel_rfl) (by kernel_rfl) (by kernel_rfl) (fun _ _ _ h => h) (Or.inl ⟨rfl, fun w hSw => ?_⟩) (by assumption) ?_
    · (try dsimp only at hSw); go_simp; try with_reducible rfl
    (try simp only [Act.put, List.setIfInBounds_toArray, List.set_cons_zero, List.set_cons_succ])
    refine wpAnyH_done (by kernel_rfl) ?_ _
    go_wp2_with fail
    refine (HOFF.out _ g).mono ?_
    rintro e W5 ⟨rfl, hg⟩
    replace g := g.trans hg
    go_wp2_with fail
    go_ret
    exact ⟨rfl, g⟩
theorem checkApp_c (os : List OfR) (ps : List PoR) (a : List Int) (vo vp va : Value) (w : World) (ho : OfAts w vo os) (hp : PoAts w vp ps) (ha : IntsC w va a) (hr : ∀ x ∈ os, x.rs.length ≤ 1000) (hs : ∀ y ∈ ps, y.ns.length ≤ 1000) (hl1 : os.length ≤ 1000) (hl2 : ps.length ≤ 1000) :
    Calls Tryz.prog 15 #[.agg #[vo, vp], va] w fun e w' => e = .returned (.int .i64 (appE os ps a)) ∧ Gr w w' := by
  by_cases h0 : firstE [juryE os ps, if ((a.length : Int) != (ps.length : Int)) then 2 else 0] = 0
  · have := app_good os ps a vo vp va w ho hp ha hr hs hl1 hl2 h0
    have e : appE os ps a = (if eachI (offE os ps) a 0 = 0 then eachI (uptoE os ps a) a 0 else eachI (offE os ps) a 0) := by
      unfold appE
      rw [h0]
      simp only [firstE, if_true]
      by_cases h1 : eachI (offE os ps) a 0 = 0
      · rw [if_pos h1, if_pos h1]
        by_cases h2 : eachI (uptoE os ps a) a 0 = 0
        · rw [if_pos h2, h2]
        · rw [if_neg h2]
      · rw [if_neg h1, if_neg h1]
    rw [e]
    exact this
  · have := app_bad os ps a vo vp va w ho hp ha hr hs hl1 hl2 h0
    have e : appE os ps a = firstE [juryE os ps, if ((a.length : Int) != (ps.length : Int)) then 2 else 0] := by
      unfold appE
      rw [firstE, if_neg h0]
    rw [e]
    exact this
end Go.Proofs.YtjojbcgppkfidaaGreat
