/- Archives (chapter 10): the iterator over the desks, walked. -/
import Derived.Test.YtbpgifihlppedaaGreatDoorOvU
namespace Go.Proofs.YtbpgifihlppedaaGreatDoor
open Go.RowKit Go.Shelf
set_option linter.unusedSimpArgs false
set_option linter.unusedVariables false
attribute [local go_sem] Oper.semAt_some
def lenV (v : Value) : Nat := match v with
  | .slice _ n _ => n
  | _ => 0
set_option maxHeartbeats 4000000 in
set_option maxRecDepth 100000 in
theorem desks_in (lp Bl n b off cap : Nat) (q0 : Option Addr) (hq : 0 < n → q0 = some ⟨b, off, none⟩) (l : List EnR) (hl : l.length = n) (h1 : n ≤ 1000) (hc : n ≤ cap) (hmx : cap ≤ maxLen) (Kp : World → World → Prop) (hKp : ∀ A B, Kp A B → DkF Bl q0 b off n cap l A → DkF Bl q0 b off n cap l B) (J Jx : List (Grp l) → World → Prop) (W : World)
    (hJ : ∀ (s : List (Grp l)) (A B : World), J s A → Gr A B → J s B)
    (hY : ∀ pre (y : Grp l) W1, J pre W1 → pre.length < n → YieldAt Fence.wide 4 Tryz.prog lp #[.string (deskOf y.1.1), .slice (some ⟨b, off + y.1.2 * 7, none⟩) y.1.1.length (cap - y.1.2)] W1 fun e W' =>
      (e = .returned (.bool true) ∧ J (pre ++ [y]) W' ∧ Kp W1 W') ∨ (e = .returned (.bool false) ∧ Jx (pre ++ [y]) W'))
    (hB : DkF Bl q0 b off n cap l W) (h0 : J [] W) :
    CallsIn Fence.wide 5 Tryz.prog 123 #[.func (.yield lp) #[] #[], .pointer (some ⟨Bl, 0, none⟩)] W fun e W' => (∃ v, e = .returned v) ∧
      ((∃ zs : List (Grp l), Hid (zs.map (fun y => y.1.1) = groups l) ∧ J zs W') ∨ (∃ pre, True ∧ Jx pre W')) := by
  refine callsIn_of_wp Tryz.func123 rfl trivial ?_ rfl
  simp only [Tryz.ntmps123, List.size_toArray, List.length_cons, List.length_nil, Nat.reduceAdd, Nat.reduceSub, Array.replicate_succ, Array.replicate_zero, List.push_toArray, List.append_toArray, List.nil_append, List.cons_append]
  have HL := Lib.hid hl
  have HKP := Lib.hid hKp
  have HJ := Lib.hid hJ
  have HY := Lib.hid hY
  have HB := Lib.hid hB
  have hbox := cell1_of hB.box
  have hcm : cap < 9223372036854775808 := by unfold maxLen at hmx; omega
  clear hl hKp hJ hY hB hmx
  gi_wp2
  gi_loopw [3] (fun dv wr => ∃ (pre : List (Grp l)) (s r cr : Nat) (q : Option Addr), dv = .slice q r cr ∧ s + r = n ∧ s + cr = cap ∧ Hid (0 < r → q = some ⟨b, off + s * 7, none⟩) ∧ pre.length ≤ s ∧ Hid (pre.map (fun y => y.1.1) ++ groups (l.drop s) = groups l) ∧ J pre wr ∧ DkF Bl q0 b off n cap l wr) (fun dv _ => lenV dv)
  case atStart => exact ⟨[], 0, n, cap, _, rfl, by omega, by omega, (fun h => by rw [hq h]; simp), Nat.le_refl _, rfl, h0, HB.out⟩
  case round =>
    obtain ⟨pre, s, r, cr, q, rfl, hsr, hscr, HQ, hpl, HGR, hJs, hB⟩ := hrel
    by_cases hr0 : r = 0
    · subst hr0
      have HZ : Hid (pre.map (fun y => y.1.1) = groups l) := by
        have := HGR.out
        rw [List.drop_of_length_le (by have := HL.out; omega)] at this
        rw [Hid, ← this]; simp [groups, grps]
      have HJS := Lib.hid hJs
      clear hJs h0 hbox hB
      gi_wp2
      go_end0
      exact ⟨⟨_, rfl⟩, .inl ⟨_, HZ, HJS.out⟩⟩
    · have hr1 : 0 < r := by omega
      have hq := HQ.out hr1
      subst hq
      obtain ⟨x, hx⟩ : ∃ x, l[s]? = some x := ⟨l[s]'(by have := HL.out; omega), List.getElem?_eq_getElem _⟩
      have hri : (0 : Int) < (r : Int) := by omega
      have hJS := Lib.hid hJs
      have hBB := Lib.hid hB
      have x0 := (hB.row s x hx).c0
      obtain ⟨WQ, hWQ⟩ : ∃ W, W = wr := ⟨wr, rfl⟩
      subst hWQ
      clear hJs hB h0 hbox
      gi_wp2
      gi_loopw [4] (fun dv wr => ∃ k : Nat, dv = .int .i64 (k : Int) ∧ 1 ≤ k ∧ k ≤ r ∧ Hid (∀ j, 1 ≤ j → j < k → ∃ e, l[s + j]? = some e ∧ sameD x e = true) ∧ Hid (Gr WQ wr)) (fun dv _ => r + 1 - (intOf dv).toNat)
      case atStart => exact ⟨1, rfl, Nat.le_refl _, hr1, (fun j h1 h2 => by omega), Gr.refl _⟩
      case round =>
        obtain ⟨k, rfl, hk1, hkr, HIN, HG⟩ := hrel
        have x0k := HG.out.cell x0
        by_cases hlt : k < r
        · have hlt2 : (k : Int) < (r : Int) := by omega
          obtain ⟨y, hy⟩ : ∃ y, l[s + k]? = some y := ⟨l[s + k]'(by have := HL.out; omega), List.getElem?_eq_getElem _⟩
          have y0 := HG.out.cell (hBB.out.row (s + k) y hy).c0
          have ya : off + (s + k) * 7 = off + s * 7 + k * 7 := by omega
          rw [ya] at y0
          cases heq : (y.de.toList == x.de.toList)
          · have HEND : ∀ e, l[s + k]? = some e → sameD x e = false := fun e he => by
              rw [hy] at he; cases he; exact heq
            clear ya
            gi_wp2
            refine wpIn_wide.2 ?_
            go_big_quiet (fail)
            gi_wp2
            have GALL : Gr WQ (wr.drewN nq).drew := (HG.out.drewN nq).drew
            have hrun := take_run hx hk1 HIN.out HEND
            obtain ⟨hr1', hr2, hr3⟩ := hrun
            have hgk : GOK l (x :: (l.drop (s + 1)).takeWhile (sameD x), s) := ⟨by simp, fun i e he => by
              have hil := (List.getElem?_eq_some_iff.1 he).1
              have h9 : (l.drop s)[i]? = some e := by rw [hr1', List.getElem?_append_left hil]; exact he
              rw [List.getElem?_drop] at h9
              exact h9, by simp only; rw [hr2]; have := HL.out; omega⟩
            have hgr : pre.map (fun y => y.1.1) ++ [x :: (l.drop (s + 1)).takeWhile (sameD x)] ++ groups (l.drop (s + k)) = groups l := by
              have hd : l.drop s = x :: l.drop (s + 1) := by
                obtain ⟨h1, h2⟩ := List.getElem?_eq_some_iff.1 hx
                rw [List.drop_eq_getElem_cons h1, h2]
              have := HGR.out
              rw [hd, groups_cons, hr3] at this
              rw [← this]; simp
            have hkn : s + k ≤ n := by omega
            have hJ1 := HJ.out _ _ _ hJS.out GALL
            have hB1 := hBB.out.gr GALL
            have hy0 := HY.out pre ⟨(x :: (l.drop (s + 1)).takeWhile (sameD x), s), hgk⟩ _ hJ1 (by omega)
            have hdk : deskOf (x :: (l.drop (s + 1)).takeWhile (sameD x)) = x.de := rfl
            simp only [hdk] at hy0
            rw [hr2] at hy0
            rw [show cap - s = cr by omega] at hy0
            obtain ⟨fn, tmps, assign, body, hyy, hR⟩ := hy0
            have HRR := Lib.hid hR
            have HGR2 := Lib.hid hgr
            have HB1 := Lib.hid hB1
            have x0d := (hB1.row s x hx).c0
            have hkc : k ≤ cr := by omega
            have hk0 : (0 : Int) ≤ (k : Int) := by omega
            clear hR hgr hB1 hJ1 hr1' hr2 hr3 hx x0 x0k HEND hdk
            refine wpIn_region_any (by kernel_rfl) ?_
            change wpAnyIn _ _ _ _ _ _ _ _ _ (World.drew _)
            generalize (wr.drewN nq).drew = VD at *
            refine wpAnyIn_take (i := 0) (v := (.func (.yield lp) #[] #[])) rfl rfl (by kernel_rfl) (by kernel_rfl) (by kernel_rfl) (fun _ _ _ h => h) ⟨Or.inl ⟨by rfl, fun w => ?_⟩, fun _ => rfl⟩ ?_
            · go_simp; try with_reducible rfl
            (try simp only [Act.put, List.setIfInBounds_toArray, List.set_cons_zero, List.set_cons_succ])
            refine wpAnyIn_take (i := 1) (v := (.slice (some ⟨b, off + s * 7, none⟩) r cr)) rfl rfl (by kernel_rfl) (by kernel_rfl) (by kernel_rfl) (fun _ _ _ h => h) ⟨Or.inl ⟨by rfl, fun w => ?_⟩, fun _ => rfl⟩ ?_
            · go_simp; try with_reducible rfl
            (try simp only [Act.put, List.setIfInBounds_toArray, List.set_cons_zero, List.set_cons_succ])
            refine wpAnyIn_take (i := 2) (v := (.pointer (some ⟨b, off + s * 7, none⟩))) rfl rfl (by kernel_rfl) (by kernel_rfl) (by kernel_rfl) (fun _ _ _ h => h) ⟨Or.inl ⟨by rfl, fun w => ?_⟩, fun _ => rfl⟩ ?_
            · go_simp; try with_reducible rfl
            (try simp only [Act.put, List.setIfInBounds_toArray, List.set_cons_zero, List.set_cons_succ])
            refine wpAnyIn_take (i := 3) (v := (.pointer (some ⟨b, off + s * 7, none⟩))) rfl rfl (by kernel_rfl) (by kernel_rfl) (by kernel_rfl) (fun _ _ _ h => h) ⟨Or.inl ⟨by rfl, fun w => ?_⟩, fun _ => rfl⟩ ?_
            · go_simp; try with_reducible rfl
            (try simp only [Act.put, List.setIfInBounds_toArray, List.set_cons_zero, List.set_cons_succ])
            refine wpAnyIn_take (i := 5) (v := (.slice (some ⟨b, off + s * 7, none⟩) r cr)) rfl rfl (by kernel_rfl) (by kernel_rfl) (by kernel_rfl) (fun _ _ _ h => h) ⟨Or.inl ⟨by rfl, fun w => ?_⟩, fun _ => rfl⟩ ?_
            · go_simp; try with_reducible rfl
            (try simp only [Act.put, List.setIfInBounds_toArray, List.set_cons_zero, List.set_cons_succ])
            refine wpAnyIn_take (i := 6) (v := (.int .i64 (k : Int))) rfl rfl (by kernel_rfl) (by kernel_rfl) (by kernel_rfl) (fun _ _ _ h => h) ⟨Or.inl ⟨by rfl, fun w => ?_⟩, fun _ => rfl⟩ ?_
            · go_simp; try with_reducible rfl
            (try simp only [Act.put, List.setIfInBounds_toArray, List.set_cons_zero, List.set_cons_succ])
            refine wpAnyIn_take (i := 7) (v := (.slice (some ⟨b, off + s * 7, none⟩) k cr)) rfl rfl (by kernel_rfl) (by kernel_rfl) (by kernel_rfl) (fun _ _ _ h => h) ⟨Or.inl ⟨by rfl, fun w => ?_⟩, fun _ => rfl⟩ ?_
            · go_simp; try with_reducible rfl
            (try simp only [Act.put, List.setIfInBounds_toArray, List.set_cons_zero, List.set_cons_succ])
            refine wpAnyIn_ready (rs := [4]) (by kernel_rfl) (by simp) (AllReadyIn.cons rfl (fun K hK => ?_) AllReadyIn.nil)
            go_simp
            refine hK _ _ ?_
            clear hK K
            (try simp only [Act.put, List.setIfInBounds_toArray, List.set_cons_zero, List.set_cons_succ])
            refine wpAnyIn_ready (rs := [8]) (by kernel_rfl) (by simp) (AllReadyIn.cons rfl (fun K hK => ?_) AllReadyIn.nil)
            go_simp
            obtain ⟨r2, hre⟩ : ∃ r2, r - k = r2 := ⟨_, rfl⟩
            obtain ⟨cr2, hcre⟩ : ∃ c2, cr - k = c2 := ⟨_, rfl⟩
            have hki : (k : Int) ≤ (r : Int) := by omega
            have hkr3 : k ≤ r := hkr
            refine HRR.out.mono ?_
            rintro e W3 (⟨rfl, hj, hkp⟩ | ⟨rfl, hj⟩)
            · have hB3 := HKP.out _ _ hkp HB1.out
              have HB3 := Lib.hid hB3
              have HJ3 := Lib.hid hj
              clear hyy hj hkp hB3
              refine hK _ _ ?_
              clear hK K
              (try simp only [Act.put, List.setIfInBounds_toArray, List.set_cons_zero, List.set_cons_succ])
              refine wpAnyIn_take (i := 9) (v := (.bool false)) rfl rfl (by kernel_rfl) (by kernel_rfl) (by kernel_rfl) (fun _ _ _ h => h) ⟨Or.inl ⟨by rfl, fun w => ?_⟩, fun _ => rfl⟩ ?_
              · go_simp; try with_reducible rfl
              (try simp only [Act.put, List.setIfInBounds_toArray, List.set_cons_zero, List.set_cons_succ])
              refine wpAnyIn_done (by kernel_rfl) ?_ _
              by_cases hck : cr = k
              · first
                | (exfalso; omega)
                | (obtain rfl : r2 = 0 := by omega
                   obtain rfl : cr2 = 0 := by omega
                   gi_wp2
                   refine ⟨⟨_, s + k, 0, 0, _, rfl, by omega, by omega, (fun h => by omega), by rw [List.length_append, List.length_singleton]; omega, by rw [Hid, List.map_append]; exact HGR2.out, HJ3.out, HB3.out⟩, ?_⟩
                   simp [lenV]
                   try omega)
              · gi_wp2
                refine ⟨⟨_, s + k, r2, cr2, _, rfl, by omega, by omega, (fun h => by rw [show off + (s + k) * 7 = off + s * 7 + k * 7 by omega]), by rw [List.length_append, List.length_singleton]; omega, by rw [Hid, List.map_append]; exact HGR2.out, HJ3.out, HB3.out⟩, ?_⟩
                simp [lenV]
                try omega
            · have HJ3 := Lib.hid hj
              clear hyy hj
              refine hK _ _ ?_
              clear hK K
              (try simp only [Act.put, List.setIfInBounds_toArray, List.set_cons_zero, List.set_cons_succ])
              refine wpAnyIn_take (i := 9) (v := (.bool true)) rfl rfl (by kernel_rfl) (by kernel_rfl) (by kernel_rfl) (fun _ _ _ h => h) ⟨Or.inl ⟨by rfl, fun w => ?_⟩, fun _ => rfl⟩ ?_
              · go_simp; try with_reducible rfl
              (try simp only [Act.put, List.setIfInBounds_toArray, List.set_cons_zero, List.set_cons_succ])
              refine wpAnyIn_done (by kernel_rfl) ?_ _
              gi_wp2
              first
                | (refine bodyPost_ret (v := .tuple #[]) (by simp [results, Tryz.results123, go_sem]) rfl ?_; exact ⟨⟨_, rfl⟩, .inr ⟨_, trivial, HJ3.out⟩⟩)
                | (refine ⟨rfl, _, by simp [results, Tryz.results123, go_sem]; rfl, ?_⟩; exact ⟨⟨_, rfl⟩, .inr ⟨_, trivial, HJ3.out⟩⟩)
          · have HIN2 : Hid (∀ j, 1 ≤ j → j < k + 1 → ∃ e, l[s + j]? = some e ∧ sameD x e = true) := fun j h1 h2 => by
              rcases Nat.lt_or_ge j k with h | h
              · exact HIN.out j h1 h
              · obtain rfl : j = k := by omega
                exact ⟨y, hy, heq⟩
            clear ya hy
            gi_wp2
            refine wpIn_wide.2 ?_
            go_big_quiet (fail)
            gi_wp2
            refine ⟨⟨k + 1, by go_num, by omega, by omega, HIN2, HG.out.drewN _⟩, ?_⟩
            simp [intOf]
            omega
        · have hlt2 : ¬ (k : Int) < (r : Int) := by omega
          have HEND : ∀ e, l[s + k]? = some e → sameD x e = false := fun e he => by
            have := (List.getElem?_eq_some_iff.1 he).1
            have := HL.out
            omega
          gi_wp2
          refine wpIn_wide.2 ?_
          go_big_quiet (fail)
          gi_wp2
          have GALL : Gr WQ (wr.drewN nq).drew := (HG.out.drewN nq).drew
          have hrun := take_run hx hk1 HIN.out HEND
          obtain ⟨hr1', hr2, hr3⟩ := hrun
          have hgk : GOK l (x :: (l.drop (s + 1)).takeWhile (sameD x), s) := ⟨by simp, fun i e he => by
            have hil := (List.getElem?_eq_some_iff.1 he).1
            have h9 : (l.drop s)[i]? = some e := by rw [hr1', List.getElem?_append_left hil]; exact he
            rw [List.getElem?_drop] at h9
            exact h9, by simp only; rw [hr2]; have := HL.out; omega⟩
          have hgr : pre.map (fun y => y.1.1) ++ [x :: (l.drop (s + 1)).takeWhile (sameD x)] ++ groups (l.drop (s + k)) = groups l := by
            have hd : l.drop s = x :: l.drop (s + 1) := by
              obtain ⟨h1, h2⟩ := List.getElem?_eq_some_iff.1 hx
              rw [List.drop_eq_getElem_cons h1, h2]
            have := HGR.out
            rw [hd, groups_cons, hr3] at this
            rw [← this]; simp
          have hkn : s + k ≤ n := by omega
          have hJ1 := HJ.out _ _ _ hJS.out GALL
          have hB1 := hBB.out.gr GALL
          have hy0 := HY.out pre ⟨(x :: (l.drop (s + 1)).takeWhile (sameD x), s), hgk⟩ _ hJ1 (by omega)
          have hdk : deskOf (x :: (l.drop (s + 1)).takeWhile (sameD x)) = x.de := rfl
          simp only [hdk] at hy0
          rw [hr2] at hy0
          rw [show cap - s = cr by omega] at hy0
          obtain ⟨fn, tmps, assign, body, hyy, hR⟩ := hy0
          have HRR := Lib.hid hR
          have HGR2 := Lib.hid hgr
          have HB1 := Lib.hid hB1
          have x0d := (hB1.row s x hx).c0
          have hkc : k ≤ cr := by omega
          have hk0 : (0 : Int) ≤ (k : Int) := by omega
          clear hR hgr hB1 hJ1 hr1' hr2 hr3 hx x0 x0k HEND hdk
          refine wpIn_region_any (by kernel_rfl) ?_
          change wpAnyIn _ _ _ _ _ _ _ _ _ (World.drew _)
          generalize (wr.drewN nq).drew = VD at *
          refine wpAnyIn_take (i := 0) (v := (.func (.yield lp) #[] #[])) rfl rfl (by kernel_rfl) (by kernel_rfl) (by kernel_rfl) (fun _ _ _ h => h) ⟨Or.inl ⟨by rfl, fun w => ?_⟩, fun _ => rfl⟩ ?_
          · go_simp; try with_reducible rfl
          (try simp only [Act.put, List.setIfInBounds_toArray, List.set_cons_zero, List.set_cons_succ])
          refine wpAnyIn_take (i := 1) (v := (.slice (some ⟨b, off + s * 7, none⟩) r cr)) rfl rfl (by kernel_rfl) (by kernel_rfl) (by kernel_rfl) (fun _ _ _ h => h) ⟨Or.inl ⟨by rfl, fun w => ?_⟩, fun _ => rfl⟩ ?_
          · go_simp; try with_reducible rfl
          (try simp only [Act.put, List.setIfInBounds_toArray, List.set_cons_zero, List.set_cons_succ])
          refine wpAnyIn_take (i := 2) (v := (.pointer (some ⟨b, off + s * 7, none⟩))) rfl rfl (by kernel_rfl) (by kernel_rfl) (by kernel_rfl) (fun _ _ _ h => h) ⟨Or.inl ⟨by rfl, fun w => ?_⟩, fun _ => rfl⟩ ?_
          · go_simp; try with_reducible rfl
          (try simp only [Act.put, List.setIfInBounds_toArray, List.set_cons_zero, List.set_cons_succ])
          refine wpAnyIn_take (i := 3) (v := (.pointer (some ⟨b, off + s * 7, none⟩))) rfl rfl (by kernel_rfl) (by kernel_rfl) (by kernel_rfl) (fun _ _ _ h => h) ⟨Or.inl ⟨by rfl, fun w => ?_⟩, fun _ => rfl⟩ ?_
          · go_simp; try with_reducible rfl
          (try simp only [Act.put, List.setIfInBounds_toArray, List.set_cons_zero, List.set_cons_succ])
          refine wpAnyIn_take (i := 5) (v := (.slice (some ⟨b, off + s * 7, none⟩) r cr)) rfl rfl (by kernel_rfl) (by kernel_rfl) (by kernel_rfl) (fun _ _ _ h => h) ⟨Or.inl ⟨by rfl, fun w => ?_⟩, fun _ => rfl⟩ ?_
          · go_simp; try with_reducible rfl
          (try simp only [Act.put, List.setIfInBounds_toArray, List.set_cons_zero, List.set_cons_succ])
          refine wpAnyIn_take (i := 6) (v := (.int .i64 (k : Int))) rfl rfl (by kernel_rfl) (by kernel_rfl) (by kernel_rfl) (fun _ _ _ h => h) ⟨Or.inl ⟨by rfl, fun w => ?_⟩, fun _ => rfl⟩ ?_
          · go_simp; try with_reducible rfl
          (try simp only [Act.put, List.setIfInBounds_toArray, List.set_cons_zero, List.set_cons_succ])
          refine wpAnyIn_take (i := 7) (v := (.slice (some ⟨b, off + s * 7, none⟩) k cr)) rfl rfl (by kernel_rfl) (by kernel_rfl) (by kernel_rfl) (fun _ _ _ h => h) ⟨Or.inl ⟨by rfl, fun w => ?_⟩, fun _ => rfl⟩ ?_
          · go_simp; try with_reducible rfl
          (try simp only [Act.put, List.setIfInBounds_toArray, List.set_cons_zero, List.set_cons_succ])
          refine wpAnyIn_ready (rs := [4]) (by kernel_rfl) (by simp) (AllReadyIn.cons rfl (fun K hK => ?_) AllReadyIn.nil)
          go_simp
          refine hK _ _ ?_
          clear hK K
          (try simp only [Act.put, List.setIfInBounds_toArray, List.set_cons_zero, List.set_cons_succ])
          refine wpAnyIn_ready (rs := [8]) (by kernel_rfl) (by simp) (AllReadyIn.cons rfl (fun K hK => ?_) AllReadyIn.nil)
          go_simp
          obtain ⟨r2, hre⟩ : ∃ r2, r - k = r2 := ⟨_, rfl⟩
          obtain ⟨cr2, hcre⟩ : ∃ c2, cr - k = c2 := ⟨_, rfl⟩
          have hki : (k : Int) ≤ (r : Int) := by omega
          have hkr3 : k ≤ r := hkr
          refine HRR.out.mono ?_
          rintro e W3 (⟨rfl, hj, hkp⟩ | ⟨rfl, hj⟩)
          · have hB3 := HKP.out _ _ hkp HB1.out
            have HB3 := Lib.hid hB3
            have HJ3 := Lib.hid hj
            clear hyy hj hkp hB3
            refine hK _ _ ?_
            clear hK K
            (try simp only [Act.put, List.setIfInBounds_toArray, List.set_cons_zero, List.set_cons_succ])
            refine wpAnyIn_take (i := 9) (v := (.bool false)) rfl rfl (by kernel_rfl) (by kernel_rfl) (by kernel_rfl) (fun _ _ _ h => h) ⟨Or.inl ⟨by rfl, fun w => ?_⟩, fun _ => rfl⟩ ?_
            · go_simp; try with_reducible rfl
            (try simp only [Act.put, List.setIfInBounds_toArray, List.set_cons_zero, List.set_cons_succ])
            refine wpAnyIn_done (by kernel_rfl) ?_ _
            by_cases hck : cr = k
            · first
              | (exfalso; omega)
              | (obtain rfl : r2 = 0 := by omega
                 obtain rfl : cr2 = 0 := by omega
                 gi_wp2
                 refine ⟨⟨_, s + k, 0, 0, _, rfl, by omega, by omega, (fun h => by omega), by rw [List.length_append, List.length_singleton]; omega, by rw [Hid, List.map_append]; exact HGR2.out, HJ3.out, HB3.out⟩, ?_⟩
                 simp [lenV]
                 try omega)
            · gi_wp2
              refine ⟨⟨_, s + k, r2, cr2, _, rfl, by omega, by omega, (fun h => by rw [show off + (s + k) * 7 = off + s * 7 + k * 7 by omega]), by rw [List.length_append, List.length_singleton]; omega, by rw [Hid, List.map_append]; exact HGR2.out, HJ3.out, HB3.out⟩, ?_⟩
              simp [lenV]
              try omega
          · have HJ3 := Lib.hid hj
            clear hyy hj
            refine hK _ _ ?_
            clear hK K
            (try simp only [Act.put, List.setIfInBounds_toArray, List.set_cons_zero, List.set_cons_succ])
            refine wpAnyIn_take (i := 9) (v := (.bool true)) rfl rfl (by kernel_rfl) (by kernel_rfl) (by kernel_rfl) (fun _ _ _ h => h) ⟨Or.inl ⟨by rfl, fun w => ?_⟩, fun _ => rfl⟩ ?_
            · go_simp; try with_reducible rfl
            (try simp only [Act.put, List.setIfInBounds_toArray, List.set_cons_zero, List.set_cons_succ])
            refine wpAnyIn_done (by kernel_rfl) ?_ _
            gi_wp2
            first
              | (refine bodyPost_ret (v := .tuple #[]) (by simp [results, Tryz.results123, go_sem]) rfl ?_; exact ⟨⟨_, rfl⟩, .inr ⟨_, trivial, HJ3.out⟩⟩)
              | (refine ⟨rfl, _, by simp [results, Tryz.results123, go_sem]; rfl, ?_⟩; exact ⟨⟨_, rfl⟩, .inr ⟨_, trivial, HJ3.out⟩⟩)
theorem desks_stops (Bl n b off cap : Nat) (q0 : Option Addr) (hq : 0 < n → q0 = some ⟨b, off, none⟩) (l : List EnR) (hl : l.length = n) (h1 : n ≤ 1000) (hc : n ≤ cap) (hmx : cap ≤ maxLen) (Kp : World → World → Prop) (hKp : ∀ A B, Kp A B → DkF Bl q0 b off n cap l A → DkF Bl q0 b off n cap l B) (w : World) (hB : DkF Bl q0 b off n cap l w) :
    SeqStopsK Fence.wide 5 Tryz.prog 123 #[.pointer (some ⟨Bl, 0, none⟩)] (fun y : Grp l => #[.string (deskOf y.1.1), .slice (some ⟨b, off + y.1.2 * 7, none⟩) y.1.1.length (cap - y.1.2)]) Kp (fun zs => Hid (zs.map (fun y => y.1.1) = groups l)) (fun _ => True) n w := fun lp J Jx W hW hJ hJx hY h0 =>
  desks_in lp Bl n b off cap q0 hq l hl h1 hc hmx Kp hKp J Jx W (fun s A B h g => hJ s A B none h (gr_grown6 g) (fun r e => by cases e)) hY (hB.gr hW) h0
end Go.Proofs.YtbpgifihlppedaaGreatDoor
