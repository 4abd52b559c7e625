/- Juries: appointments, checked by the reference. -/
import Derived.Test.YtjojbcgppkfidaaGreatJuL
namespace Go.Proofs.YtjojbcgppkfidaaGreat
open Go.RowKit Go.Lib
set_option linter.unusedSimpArgs false
set_option linter.unusedVariables false
/-- the error of an appointment of a valid jury -/
def appR (os : List OfR) (ps : List PoR) (a : List Int) : Int := if a.length = ps.length then (if eachI (offE os ps) a 0 = 0 then eachI (uptoE os ps a) a 0 else eachI (offE os ps) a 0) else 2
theorem appE_bad {os : List OfR} {ps : List PoR} {a : List Int} (h : juryE os ps ≠ 0) : appE os ps a = juryE os ps := by
  have e : firstE [juryE os ps, if ((a.length : Int) != (ps.length : Int)) then 2 else 0] = juryE os ps := by rw [firstE, if_neg h]
  unfold appE
  rw [e, firstE, if_neg h]
theorem appE_good {os : List OfR} {ps : List PoR} {a : List Int} (h : juryE os ps = 0) : appE os ps a = appR os ps a := by
  unfold appE appR
  rw [h]
  by_cases hl : a.length = ps.length
  · rw [if_pos hl]
    have e : ((a.length : Int) != (ps.length : Int)) = false := by simp [hl]
    rw [e]
    simp only [firstE, if_true, Bool.false_eq_true, if_false]
    by_cases h1 : eachI (offE os ps) a 0 = 0
    · rw [if_pos h1, if_pos h1]
      by_cases h2 : eachI (uptoE os ps a) a 0 = 0
      · rw [if_pos h2, h2]
      · rw [if_neg h2]
    · rw [if_neg h1, if_neg h1]
  · rw [if_neg hl]
    have e : ((a.length : Int) != (ps.length : Int)) = true := by simp; omega
    rw [e]
    simp [firstE]
set_option maxHeartbeats 8000000 in
set_option maxRecDepth 100000 in
theorem refApp_c (os : List OfR) (ps : List PoR) (a : List Int) (vo vp va : Value) (w : World) (ho : OfAts w vo os) (hp : PoAts w vp ps) (ha : IntsC w va a) (hr : ∀ x ∈ os, x.rs.length ≤ 1000) (hs : ∀ y ∈ ps, y.ns.length ≤ 1000) (hl1 : os.length ≤ 1000) (hl2 : ps.length ≤ 1000) (hl3 : a.length ≤ 1000) :
    Calls Tryz.prog 13 #[.agg #[vo, vp], va] w fun e w' => e = .returned (.int .i64 (appR os ps a)) ∧ Gr w w' := by
  have HOF := Lib.hid (fun W (g : Gr w W) => ho.gr g)
  have HPO := Lib.hid (fun W (g : Gr w W) => hp.gr g)
  obtain ⟨⟨po, co, rfl, hco, hho⟩⟩ := ho
  obtain ⟨⟨pp, cp, rfl, hcp, hhp⟩⟩ := hp
  obtain ⟨⟨pa, ca, rfl, hca, hha⟩⟩ := ha
  obtain ⟨W, hW, g, a0, a1⟩ := box2 w (.slice po os.length co) (.slice pp ps.length cp) 31
  by_cases hal : a.length = ps.length
  case neg =>
    have hR : appR os ps a = 2 := by unfold appR; rw [if_neg hal]
    rw [hR]
    have hn : ((a.length : Int) != (ps.length : Int)) = true := by simp; omega
    have hn2 : ((a.length : Int) == (ps.length : Int)) = false := by simp; omega
    generalize a.length = al at *
    generalize ps.length = pl at *
    clear hho hhp hha hr hs hal hco hcp hca
    go_enter Tryz.func13, Tryz.ntmps13
    go_wp2_with fail
    go_ret
    exact ⟨rfl, g⟩
  have hR : appR os ps a = if eachI (offE os ps) a 0 = 0 then eachI (uptoE os ps a) a 0 else eachI (offE os ps) a 0 := by unfold appR; rw [if_pos hal]
  rw [hR]
  have HOFF := Lib.hid (fun i (x : Int) (h : a[i]? = some x) => eachI_step (E := offE os ps) h)
  have HUPT := Lib.hid (fun i (x : Int) (h : a[i]? = some x) => eachI_step (E := uptoE os ps a) h)
  have HEO : Hid (eachI (offE os ps) (a.drop a.length) a.length = 0) := eachI_end (Nat.le_refl _)
  have HEU : Hid (eachI (uptoE os ps a) (a.drop a.length) a.length = 0) := eachI_end (Nat.le_refl _)
  have HSRV := Lib.hid (fun (i o : Nat) (x : OfR) (y : PoR) W (g : Gr w W) (hx : os[o]? = some x) (hy : ps[i]? = some y) => refServes_c os ps (.slice po os.length co) (.slice pp ps.length cp) o i x y W (HOF.out W g) (HPO.out W g) hx hy (hr x (List.mem_of_getElem? hx)) (hs y (List.mem_of_getElem? hy)) hl1 hl2)
  have HOFE : Hid (∀ (i : Nat) (o : Int), o = -1 → offE os ps i o = 0) := fun i o h => by unfold offE; rw [if_pos h]
  have HOFN : Hid (∀ (i : Nat) (o : Int), o ≠ -1 → noneE os.length o ≠ 0 → offE os ps i o = 10) := fun i o h h1 => by
    unfold offE
    rw [if_neg h, if_neg h1]
    unfold noneE at h1 ⊢
    split
    · rfl
    · rename_i h2; rw [if_neg h2] at h1; exact absurd rfl h1
  have HOFS : Hid (∀ (i o : Nat) (x : OfR) (y : PoR), os[o]? = some x → ps[i]? = some y → offE os ps i (o : Int) = if mayB x y then 0 else 18) := fun i o x y hx hy => by
    unfold offE
    rw [if_neg (by omega), if_pos (noneE_of (List.getElem?_eq_some_iff.1 hx).1), Int.toNat_natCast, hx, hy]
    show (if (!mayB x y) = true then (18 : Int) else 0) = _
    cases mayB x y <;> rfl
  have HFIT : Hid (eachI (offE os ps) a 0 = 0 → ∀ (ba oa i : Nat) (o : Int) W, Gr w W → (∀ j x, a[j]? = some x → W.cell? ⟨ba, oa + j, none⟩ = some (.int .i64 x)) → a[i]? = some o → Calls Tryz.prog 46 #[.agg #[.slice po os.length co, .slice pp ps.length cp], .slice (some ⟨ba, oa, none⟩) (i + 1) ca] W fun e w' => e = .returned (.int .i64 (uptoE os ps a i o)) ∧ Gr W w') := fun hz ba oa i o W g hc hi => by
    have hil := (List.getElem?_eq_some_iff.1 hi).1
    have h := offE_zero (k := i) (by have := eachI_zero hz i o hi; rwa [Nat.zero_add] at this)
    by_cases h1 : o = -1
    · subst h1
      exact fitsNone_c os ps a _ _ ba oa ca i (i + 1) W (HOF.out W g) (HPO.out W g) rfl (by omega) hc hi hal hl2
    · obtain ⟨j1, j2⟩ := noneE_zero (h.resolve_left h1)
      obtain ⟨j, rfl⟩ : ∃ j : Nat, o = (j : Int) := ⟨o.toNat, by omega⟩
      exact fitsSome_c os ps a _ _ ba oa ca i (i + 1) j W (HOF.out W g) (HPO.out W g) rfl (by omega) hc hi hal hl2 (by omega)
  have HXO := Lib.hid (fun o (h : o < os.length) => (show ∃ x, os[o]? = some x from ⟨_, List.getElem?_eq_getElem h⟩))
  have HXP := Lib.hid (fun i (h : i < ps.length) => (show ∃ x, ps[i]? = some x from ⟨_, List.getElem?_eq_getElem h⟩))
  have HXA := Lib.hid (fun i (h : i < a.length) => (show ∃ x, a[i]? = some x from ⟨_, List.getElem?_eq_getElem h⟩))
  have HNN : Hid (∀ o : Int, noneE os.length o = 0 → 0 ≤ o ∧ o < os.length) := fun o h => noneE_zero h
  have HNO : Hid (∀ o : Int, noneE os.length o ≠ 0 → o < 0 ∨ (os.length : Int) ≤ o) := fun o h => by
    unfold noneE at h
    split at h
    · rename_i h1
      simp at h1
      exact h1
    · exact absurd rfl h
  have HCA := Lib.hid hha
  obtain ⟨fin, hfin⟩ : ∃ z, z = if eachI (offE os ps) a 0 = 0 then eachI (uptoE os ps a) a 0 else eachI (offE os ps) a 0 := ⟨_, rfl⟩
  rw [← hfin]
  have HJ1 : Hid (∀ c, eachI (offE os ps) a 0 = c → c ≠ 0 → fin = c) := fun c h1 h2 => by rw [hfin, if_neg (by rw [h1]; exact h2), h1]
  have HJ2 : Hid (eachI (offE os ps) a 0 = 0 → ∀ c, eachI (uptoE os ps a) a 0 = c → fin = c) := fun h c h1 => by rw [hfin, if_pos h, h1]
  obtain ⟨on, hon⟩ : ∃ z, z = os.length := ⟨_, rfl⟩
  obtain ⟨an, han⟩ : ∃ z, z = a.length := ⟨_, rfl⟩
  rw [← hal, ← han] at HXP HSRV HFIT hW a1 hl2
  rw [← hon] at HXO HSRV HFIT hW a0 HNN HNO HOFN hl1
  rw [← han] at HXA HEO HEU HCA hl3 hca
  rw [← hal, ← han, ← hon]
  have hwn : IntKind.i64.wrap ((on : Int) - 1) = (on : Int) - 1 := by rw [IntKind.wrap_i64] <;> omega
  clear hho hhp hha hr hs hal hco hcp hR hfin HOF HPO hon han
  have hca1 : an ≤ ca := hca.1
  clear hca
  go_enter Tryz.func13, Tryz.ntmps13
  go_wp2_with fail
  clear hW
  generalize w.heap.size = Bx at *
  go_loopg [5] an (fun gk s5 wr => ∃ i : Nat, s5 = .int .i64 i ∧ gk + i = an ∧ Gr w wr ∧ wr.cell? ⟨Bx, 0, none⟩ = some (.slice po on co) ∧ wr.cell? ⟨Bx, 1, none⟩ = some (.slice pp an cp) ∧ Hid (eachI (offE os ps) (a.drop i) i = eachI (offE os ps) a 0))
  case atStart => exact ⟨0, rfl, by omega, g, a0, a1, by rw [Hid, List.drop_zero]⟩
  case round =>
    obtain ⟨i, rfl, hi, hg, b0, b1, HF⟩ := hrel
    clear a0 a1
    obtain ⟨a0, a1⟩ := And.intro b0 b1
    clear b0 b1
    by_cases hlt : i < an
    · obtain ⟨o, ho⟩ := HXA.out i hlt
      obtain ⟨ba, oa, rfl, hqa⟩ := HCA.out (by omega)
      have cK := hg.cell (hqa i o ho)
      have hi2 : (i : Int) < an := by omega
      have hf := HOFF.out i o ho
      obtain ⟨y, hy⟩ := HXP.out i hlt
      clear hqa
      by_cases hm : o = -1
      · have hz := HOFE.out i o hm
        subst hm
        rw [hz, if_pos rfl] at hf
        have HF2 := Lib.hid hf
        have ho' : outB (-1) (-1) ((on : Int) - 1) = false := by unfold outB; rw [decide_eq_false (by omega), decide_eq_false (by omega)]; rfl
        have HO := Lib.hid (fun W => refOutside_c (-1) (-1) ((on : Int) - 1) W)
        rw [ho'] at HO
        clear hf hz ho ho' hy
        go_wp2_with fail
        have gd := (Gr.refl wr).drew
        replace a0 := gd.cell a0
        replace a1 := gd.cell a1
        replace cK := gd.cell cK
        replace hg := hg.trans gd
        clear gd
        refine wp_region_held_drew (S := (fun w' => w'.cell? ⟨Bx, 0, none⟩ = some (.slice po on co) ∧ w'.cell? ⟨Bx, 1, none⟩ = some (.slice pp an cp) ∧ w'.cell? ⟨ba, oa + i, none⟩ = some (.int .i64 (-1)))) (by kernel_rfl) ⟨a0, a1, cK⟩ (fun hHeld => ?_)
        generalize wr.drew = V at *
        refine wpAnyH_take (i := 0) (v := (.slice (some ⟨ba, oa, none⟩) an ca)) (op_at rfl) (by kernel_rfl) (by kernel_rfl) (by kernel_rfl) (fun _ _ _ h => h) (Or.inl ⟨rfl, fun w hSw => ?_⟩) (by assumption) ?_
        · (try dsimp only at hSw); go_simp; try with_reducible rfl
        (try simp only [Act.put, List.setIfInBounds_toArray, List.set_cons_zero, List.set_cons_succ])
        refine wpAnyH_take (i := 1) (v := (.int .i64 (i : Int))) (op_at rfl) (by kernel_rfl) (by kernel_rfl) (by kernel_rfl) (fun _ _ _ h => h) (Or.inl ⟨rfl, fun w hSw => ?_⟩) (by assumption) ?_
        · (try dsimp only at hSw); go_simp; try with_reducible rfl
        (try simp only [Act.put, List.setIfInBounds_toArray, List.set_cons_zero, List.set_cons_succ])
        refine wpAnyH_take (i := 2) (v := (.pointer (some ⟨ba, oa + i, none⟩))) (op_at rfl) (by kernel_rfl) (by kernel_rfl) (by kernel_rfl) (fun _ _ _ h => h) (Or.inl ⟨rfl, fun w hSw => ?_⟩) (by assumption) ?_
        · (try dsimp only at hSw); go_simp; try with_reducible rfl
        (try simp only [Act.put, List.setIfInBounds_toArray, List.set_cons_zero, List.set_cons_succ])
        refine wpAnyH_take (i := 3) (v := (.int .i64 (-1))) (op_at rfl) (by kernel_rfl) (by kernel_rfl) (by kernel_rfl) (fun _ _ _ h => h) (Or.inl ⟨rfl, fun w hSw => ?_⟩) (by assumption) ?_
        · (try dsimp only at hSw); go_simp; try with_reducible rfl
        (try simp only [Act.put, List.setIfInBounds_toArray, List.set_cons_zero, List.set_cons_succ])
        refine wpAnyH_take (i := 4) (v := (.pointer (some ⟨Bx, 0, none⟩))) (op_at rfl) (by kernel_rfl) (by kernel_rfl) (by kernel_rfl) (fun _ _ _ h => h) (Or.inl ⟨rfl, fun w hSw => ?_⟩) (by assumption) ?_
        · (try dsimp only at hSw); go_simp; try with_reducible rfl
        (try simp only [Act.put, List.setIfInBounds_toArray, List.set_cons_zero, List.set_cons_succ])
        refine wpAnyH_take (i := 5) (v := (.slice po on co)) (op_at rfl) (by kernel_rfl) (by kernel_rfl) (by kernel_rfl) (fun _ _ _ h => h) (Or.inl ⟨rfl, fun w hSw => ?_⟩) (by assumption) ?_
        · (try dsimp only at hSw); go_simp; try with_reducible rfl
        (try simp only [Act.put, List.setIfInBounds_toArray, List.set_cons_zero, List.set_cons_succ])
        refine wpAnyH_take (i := 6) (v := (.int .i64 (on : Int))) (op_at rfl) (by kernel_rfl) (by kernel_rfl) (by kernel_rfl) (fun _ _ _ h => h) (Or.inl ⟨rfl, fun w hSw => ?_⟩) (by assumption) ?_
        · (try dsimp only at hSw); go_simp; try with_reducible rfl
        (try simp only [Act.put, List.setIfInBounds_toArray, List.set_cons_zero, List.set_cons_succ])
        refine wpAnyH_take (i := 7) (v := (.int .i64 ((on : Int) - 1))) (op_at rfl) (by kernel_rfl) (by kernel_rfl) (by kernel_rfl) (fun _ _ _ h => h) (Or.inl ⟨rfl, fun w hSw => ?_⟩) (by assumption) ?_
        · (try dsimp only at hSw); go_simp; try with_reducible rfl
        (try simp only [Act.put, List.setIfInBounds_toArray, List.set_cons_zero, List.set_cons_succ])
        refine wpAnyH_ready (rs := [8]) (by kernel_rfl) (by simp) (AllReadyH.cons (op_at rfl) (fun K hK => ?_) AllReadyH.nil)
        go_simp
        (refine (HO.out _).mono ?_; rintro e w4 ⟨rfl, rfl⟩)
        go_wp2_with fail
        refine hK.out _ _ ⟨a0, a1, cK⟩ (fun hHeld => ?_)
        clear hK K
        (try simp only [Act.put, List.setIfInBounds_toArray, List.set_cons_zero, List.set_cons_succ])
        refine wpAnyH_done (by kernel_rfl) ?_ _
        go_wp2_with fail
        have gd := (Gr.refl V).drew
        replace a0 := gd.cell a0
        replace a1 := gd.cell a1
        replace cK := gd.cell cK
        replace hg := hg.trans gd
        clear gd
        refine wp_region_held_drew (S := (fun w' => w'.cell? ⟨Bx, 0, none⟩ = some (.slice po on co) ∧ w'.cell? ⟨Bx, 1, none⟩ = some (.slice pp an cp) ∧ w'.cell? ⟨ba, oa + i, none⟩ = some (.int .i64 (-1)))) (by kernel_rfl) ⟨a0, a1, cK⟩ (fun hHeld => ?_)
        generalize V.drew = V8 at *
        refine wpAnyH_take (i := 0) (v := (.slice (some ⟨ba, oa, none⟩) an ca)) (op_at rfl) (by kernel_rfl) (by kernel_rfl) (by kernel_rfl) (fun _ _ _ h => h) (Or.inl ⟨rfl, fun w hSw => ?_⟩) (by assumption) ?_
        · (try dsimp only at hSw); go_simp; try with_reducible rfl
        (try simp only [Act.put, List.setIfInBounds_toArray, List.set_cons_zero, List.set_cons_succ])
        refine wpAnyH_take (i := 1) (v := (.int .i64 (i : Int))) (op_at rfl) (by kernel_rfl) (by kernel_rfl) (by kernel_rfl) (fun _ _ _ h => h) (Or.inl ⟨rfl, fun w hSw => ?_⟩) (by assumption) ?_
        · (try dsimp only at hSw); go_simp; try with_reducible rfl
        (try simp only [Act.put, List.setIfInBounds_toArray, List.set_cons_zero, List.set_cons_succ])
        refine wpAnyH_take (i := 2) (v := (.pointer (some ⟨ba, oa + i, none⟩))) (op_at rfl) (by kernel_rfl) (by kernel_rfl) (by kernel_rfl) (fun _ _ _ h => h) (Or.inl ⟨rfl, fun w hSw => ?_⟩) (by assumption) ?_
        · (try dsimp only at hSw); go_simp; try with_reducible rfl
        (try simp only [Act.put, List.setIfInBounds_toArray, List.set_cons_zero, List.set_cons_succ])
        refine wpAnyH_take (i := 3) (v := (.int .i64 (-1))) (op_at rfl) (by kernel_rfl) (by kernel_rfl) (by kernel_rfl) (fun _ _ _ h => h) (Or.inl ⟨rfl, fun w hSw => ?_⟩) (by assumption) ?_
        · (try dsimp only at hSw); go_simp; try with_reducible rfl
        (try simp only [Act.put, List.setIfInBounds_toArray, List.set_cons_zero, List.set_cons_succ])
        refine wpAnyH_take (i := 4) (v := (.bool false)) (op_at rfl) (by kernel_rfl) (by kernel_rfl) (by kernel_rfl) (fun _ _ _ h => h) (Or.inl ⟨rfl, fun w hSw => ?_⟩) (by assumption) ?_
        · (try dsimp only at hSw); go_simp; try with_reducible rfl
        (try simp only [Act.put, List.setIfInBounds_toArray, List.set_cons_zero, List.set_cons_succ])
        refine wpAnyH_take (i := 5) (v := (.bool false)) (op_at rfl) (by kernel_rfl) (by kernel_rfl) (by kernel_rfl) (fun _ _ _ h => h) (Or.inl ⟨rfl, fun w hSw => ?_⟩) (by assumption) ?_
        · (try dsimp only at hSw); go_simp; try with_reducible rfl
        (try simp only [Act.put, List.setIfInBounds_toArray, List.set_cons_zero, List.set_cons_succ])
        refine wpAnyH_take (i := 6) (v := undef) (op_at rfl) (by kernel_rfl) (by kernel_rfl) (by kernel_rfl) (fun _ _ _ h => h) (Or.inr ⟨rfl, rfl⟩) (by assumption) ?_
        (try simp only [Act.put, List.setIfInBounds_toArray, List.set_cons_zero, List.set_cons_succ])
        refine wpAnyH_take (i := 7) (v := undef) (op_at rfl) (by kernel_rfl) (by kernel_rfl) (by kernel_rfl) (fun _ _ _ h => h) (Or.inr ⟨rfl, rfl⟩) (by assumption) ?_
        (try simp only [Act.put, List.setIfInBounds_toArray, List.set_cons_zero, List.set_cons_succ])
        refine wpAnyH_take (i := 8) (v := undef) (op_at rfl) (by kernel_rfl) (by kernel_rfl) (by kernel_rfl) (fun _ _ _ h => h) (Or.inr ⟨rfl, rfl⟩) (by assumption) ?_
        (try simp only [Act.put, List.setIfInBounds_toArray, List.set_cons_zero, List.set_cons_succ])
        refine wpAnyH_take (i := 9) (v := undef) (op_at rfl) (by kernel_rfl) (by kernel_rfl) (by kernel_rfl) (fun _ _ _ h => h) (Or.inr ⟨rfl, rfl⟩) (by assumption) ?_
        (try simp only [Act.put, List.setIfInBounds_toArray, List.set_cons_zero, List.set_cons_succ])
        refine wpAnyH_take (i := 10) (v := undef) (op_at rfl) (by kernel_rfl) (by kernel_rfl) (by kernel_rfl) (fun _ _ _ h => h) (Or.inr ⟨rfl, rfl⟩) (by assumption) ?_
        (try simp only [Act.put, List.setIfInBounds_toArray, List.set_cons_zero, List.set_cons_succ])
        refine wpAnyH_take (i := 11) (v := undef) (op_at rfl) (by kernel_rfl) (by kernel_rfl) (by kernel_rfl) (fun _ _ _ h => h) (Or.inr ⟨rfl, rfl⟩) (by assumption) ?_
        (try simp only [Act.put, List.setIfInBounds_toArray, List.set_cons_zero, List.set_cons_succ])
        refine wpAnyH_take (i := 12) (v := undef) (op_at rfl) (by kernel_rfl) (by kernel_rfl) (by kernel_rfl) (fun _ _ _ h => h) (Or.inr ⟨rfl, rfl⟩) (by assumption) ?_
        (try simp only [Act.put, List.setIfInBounds_toArray, List.set_cons_zero, List.set_cons_succ])
        refine wpAnyH_take (i := 13) (v := undef) (op_at rfl) (by kernel_rfl) (by kernel_rfl) (by kernel_rfl) (fun _ _ _ h => h) (Or.inr ⟨rfl, rfl⟩) (by assumption) ?_
        (try simp only [Act.put, List.setIfInBounds_toArray, List.set_cons_zero, List.set_cons_succ])
        refine wpAnyH_take (i := 14) (v := (.bool false)) (op_at rfl) (by kernel_rfl) (by kernel_rfl) (by kernel_rfl) (fun _ _ _ h => h) (Or.inl ⟨rfl, fun w hSw => ?_⟩) (by assumption) ?_
        · (try dsimp only at hSw); go_simp; try with_reducible rfl
        (try simp only [Act.put, List.setIfInBounds_toArray, List.set_cons_zero, List.set_cons_succ])
        refine wpAnyH_done (by kernel_rfl) ?_ _
        go_wp2_with fail
        go_roundg (gk - 1)
        case measure => omega
        case rel => exact ⟨i + 1, by go_num, by omega, hg, a0, a1, by unfold Hid; rw [← HF2.out, HF.out]⟩
      · by_cases hz : noneE on o = 0
        · obtain ⟨j1, j2⟩ := HNN.out o hz
          obtain ⟨j, rfl⟩ : ∃ j : Nat, o = (j : Int) := ⟨o.toNat, by omega⟩
          have hjo : j < on := by omega
          obtain ⟨x, hx⟩ := HXO.out j hjo
          have ho' : outB (j : Int) (-1) ((on : Int) - 1) = false := by unfold outB; rw [decide_eq_false (by omega), decide_eq_false (by omega)]; rfl
          have HO := Lib.hid (fun W => refOutside_c (j : Int) (-1) ((on : Int) - 1) W)
          rw [ho'] at HO
          rw [HOFS.out i j x y hx hy] at hf
          have HM := Lib.hid (fun W (g : Gr w W) => HSRV.out i j x y W g hx hy)
          clear ho ho' hy hx hz j1 j2
          cases hb : mayB x y
          · rw [hb, if_neg (by decide), if_neg (by decide)] at hf
            rw [hb] at HM
            have HF2 := Lib.hid hf
            clear hf hb
            go_wp2_with fail
            have gd := (Gr.refl wr).drew
            replace a0 := gd.cell a0
            replace a1 := gd.cell a1
            replace cK := gd.cell cK
            replace hg := hg.trans gd
            clear gd
            refine wp_region_held_drew (S := (fun w' => w'.cell? ⟨Bx, 0, none⟩ = some (.slice po on co) ∧ w'.cell? ⟨Bx, 1, none⟩ = some (.slice pp an cp) ∧ w'.cell? ⟨ba, oa + i, none⟩ = some (.int .i64 (j : Int)))) (by kernel_rfl) ⟨a0, a1, cK⟩ (fun hHeld => ?_)
            generalize wr.drew = V at *
            refine wpAnyH_take (i := 0) (v := (.slice (some ⟨ba, oa, none⟩) an ca)) (op_at rfl) (by kernel_rfl) (by kernel_rfl) (by kernel_rfl) (fun _ _ _ h => h) (Or.inl ⟨rfl, fun w hSw => ?_⟩) (by assumption) ?_
            · (try dsimp only at hSw); go_simp; try with_reducible rfl
            (try simp only [Act.put, List.setIfInBounds_toArray, List.set_cons_zero, List.set_cons_succ])
            refine wpAnyH_take (i := 1) (v := (.int .i64 (i : Int))) (op_at rfl) (by kernel_rfl) (by kernel_rfl) (by kernel_rfl) (fun _ _ _ h => h) (Or.inl ⟨rfl, fun w hSw => ?_⟩) (by assumption) ?_
            · (try dsimp only at hSw); go_simp; try with_reducible rfl
            (try simp only [Act.put, List.setIfInBounds_toArray, List.set_cons_zero, List.set_cons_succ])
            refine wpAnyH_take (i := 2) (v := (.pointer (some ⟨ba, oa + i, none⟩))) (op_at rfl) (by kernel_rfl) (by kernel_rfl) (by kernel_rfl) (fun _ _ _ h => h) (Or.inl ⟨rfl, fun w hSw => ?_⟩) (by assumption) ?_
            · (try dsimp only at hSw); go_simp; try with_reducible rfl
            (try simp only [Act.put, List.setIfInBounds_toArray, List.set_cons_zero, List.set_cons_succ])
            refine wpAnyH_take (i := 3) (v := (.int .i64 (j : Int))) (op_at rfl) (by kernel_rfl) (by kernel_rfl) (by kernel_rfl) (fun _ _ _ h => h) (Or.inl ⟨rfl, fun w hSw => ?_⟩) (by assumption) ?_
            · (try dsimp only at hSw); go_simp; try with_reducible rfl
            (try simp only [Act.put, List.setIfInBounds_toArray, List.set_cons_zero, List.set_cons_succ])
            refine wpAnyH_take (i := 4) (v := (.pointer (some ⟨Bx, 0, none⟩))) (op_at rfl) (by kernel_rfl) (by kernel_rfl) (by kernel_rfl) (fun _ _ _ h => h) (Or.inl ⟨rfl, fun w hSw => ?_⟩) (by assumption) ?_
            · (try dsimp only at hSw); go_simp; try with_reducible rfl
            (try simp only [Act.put, List.setIfInBounds_toArray, List.set_cons_zero, List.set_cons_succ])
            refine wpAnyH_take (i := 5) (v := (.slice po on co)) (op_at rfl) (by kernel_rfl) (by kernel_rfl) (by kernel_rfl) (fun _ _ _ h => h) (Or.inl ⟨rfl, fun w hSw => ?_⟩) (by assumption) ?_
            · (try dsimp only at hSw); go_simp; try with_reducible rfl
            (try simp only [Act.put, List.setIfInBounds_toArray, List.set_cons_zero, List.set_cons_succ])
            refine wpAnyH_take (i := 6) (v := (.int .i64 (on : Int))) (op_at rfl) (by kernel_rfl) (by kernel_rfl) (by kernel_rfl) (fun _ _ _ h => h) (Or.inl ⟨rfl, fun w hSw => ?_⟩) (by assumption) ?_
            · (try dsimp only at hSw); go_simp; try with_reducible rfl
            (try simp only [Act.put, List.setIfInBounds_toArray, List.set_cons_zero, List.set_cons_succ])
            refine wpAnyH_take (i := 7) (v := (.int .i64 ((on : Int) - 1))) (op_at rfl) (by kernel_rfl) (by kernel_rfl) (by kernel_rfl) (fun _ _ _ h => h) (Or.inl ⟨rfl, fun w hSw => ?_⟩) (by assumption) ?_
            · (try dsimp only at hSw); go_simp; try with_reducible rfl
            (try simp only [Act.put, List.setIfInBounds_toArray, List.set_cons_zero, List.set_cons_succ])
            refine wpAnyH_ready (rs := [8]) (by kernel_rfl) (by simp) (AllReadyH.cons (op_at rfl) (fun K hK => ?_) AllReadyH.nil)
            go_simp
            (refine (HO.out _).mono ?_; rintro e w4 ⟨rfl, rfl⟩)
            go_wp2_with fail
            refine hK.out _ _ ⟨a0, a1, cK⟩ (fun hHeld => ?_)
            clear hK K
            (try simp only [Act.put, List.setIfInBounds_toArray, List.set_cons_zero, List.set_cons_succ])
            refine wpAnyH_done (by kernel_rfl) ?_ _
            go_wp2_with fail
            have gd := (Gr.refl V).drew
            replace a0 := gd.cell a0
            replace a1 := gd.cell a1
            replace cK := gd.cell cK
            replace hg := hg.trans gd
            clear gd
            refine wp_region_held_drew (S := (fun w' => w'.cell? ⟨Bx, 0, none⟩ = some (.slice po on co) ∧ w'.cell? ⟨Bx, 1, none⟩ = some (.slice pp an cp) ∧ w'.cell? ⟨ba, oa + i, none⟩ = some (.int .i64 (j : Int)))) (by kernel_rfl) ⟨a0, a1, cK⟩ (fun hHeld => ?_)
            generalize V.drew = V8 at *
            refine wpAnyH_take (i := 0) (v := (.slice (some ⟨ba, oa, none⟩) an ca)) (op_at rfl) (by kernel_rfl) (by kernel_rfl) (by kernel_rfl) (fun _ _ _ h => h) (Or.inl ⟨rfl, fun w hSw => ?_⟩) (by assumption) ?_
            · (try dsimp only at hSw); go_simp; try with_reducible rfl
            (try simp only [Act.put, List.setIfInBounds_toArray, List.set_cons_zero, List.set_cons_succ])
            refine wpAnyH_take (i := 1) (v := (.int .i64 (i : Int))) (op_at rfl) (by kernel_rfl) (by kernel_rfl) (by kernel_rfl) (fun _ _ _ h => h) (Or.inl ⟨rfl, fun w hSw => ?_⟩) (by assumption) ?_
            · (try dsimp only at hSw); go_simp; try with_reducible rfl
            (try simp only [Act.put, List.setIfInBounds_toArray, List.set_cons_zero, List.set_cons_succ])
            refine wpAnyH_take (i := 2) (v := (.pointer (some ⟨ba, oa + i, none⟩))) (op_at rfl) (by kernel_rfl) (by kernel_rfl) (by kernel_rfl) (fun _ _ _ h => h) (Or.inl ⟨rfl, fun w hSw => ?_⟩) (by assumption) ?_
            · (try dsimp only at hSw); go_simp; try with_reducible rfl
            (try simp only [Act.put, List.setIfInBounds_toArray, List.set_cons_zero, List.set_cons_succ])
            refine wpAnyH_take (i := 3) (v := (.int .i64 (j : Int))) (op_at rfl) (by kernel_rfl) (by kernel_rfl) (by kernel_rfl) (fun _ _ _ h => h) (Or.inl ⟨rfl, fun w hSw => ?_⟩) (by assumption) ?_
            · (try dsimp only at hSw); go_simp; try with_reducible rfl
            (try simp only [Act.put, List.setIfInBounds_toArray, List.set_cons_zero, List.set_cons_succ])
            refine wpAnyH_take (i := 4) (v := (.bool true)) (op_at rfl) (by kernel_rfl) (by kernel_rfl) (by kernel_rfl) (fun _ _ _ h => h) (Or.inl ⟨rfl, fun w hSw => ?_⟩) (by assumption) ?_
            · (try dsimp only at hSw); go_simp; try with_reducible rfl
            (try simp only [Act.put, List.setIfInBounds_toArray, List.set_cons_zero, List.set_cons_succ])
            refine wpAnyH_take (i := 5) (v := (.bool true)) (op_at rfl) (by kernel_rfl) (by kernel_rfl) (by kernel_rfl) (fun _ _ _ h => h) (Or.inl ⟨rfl, fun w hSw => ?_⟩) (by assumption) ?_
            · (try dsimp only at hSw); go_simp; try with_reducible rfl
            (try simp only [Act.put, List.setIfInBounds_toArray, List.set_cons_zero, List.set_cons_succ])
            refine wpAnyH_take (i := 6) (v := (.agg #[.slice po on co, .slice pp an cp])) (op_at rfl) (by kernel_rfl) (by kernel_rfl) (by kernel_rfl) (fun _ _ _ h => h) (Or.inl ⟨rfl, fun w hSw => ?_⟩) (by assumption) ?_
            · (try dsimp only at hSw); go_simp; try with_reducible rfl
            (try simp only [Act.put, List.setIfInBounds_toArray, List.set_cons_zero, List.set_cons_succ])
            refine wpAnyH_take (i := 7) (v := (.slice (some ⟨ba, oa, none⟩) an ca)) (op_at rfl) (by kernel_rfl) (by kernel_rfl) (by kernel_rfl) (fun _ _ _ h => h) (Or.inl ⟨rfl, fun w hSw => ?_⟩) (by assumption) ?_
            · (try dsimp only at hSw); go_simp; try with_reducible rfl
            (try simp only [Act.put, List.setIfInBounds_toArray, List.set_cons_zero, List.set_cons_succ])
            refine wpAnyH_take (i := 8) (v := (.int .i64 (i : Int))) (op_at rfl) (by kernel_rfl) (by kernel_rfl) (by kernel_rfl) (fun _ _ _ h => h) (Or.inl ⟨rfl, fun w hSw => ?_⟩) (by assumption) ?_
            · (try dsimp only at hSw); go_simp; try with_reducible rfl
            (try simp only [Act.put, List.setIfInBounds_toArray, List.set_cons_zero, List.set_cons_succ])
            refine wpAnyH_take (i := 9) (v := (.pointer (some ⟨ba, oa + i, none⟩))) (op_at rfl) (by kernel_rfl) (by kernel_rfl) (by kernel_rfl) (fun _ _ _ h => h) (Or.inl ⟨rfl, fun w hSw => ?_⟩) (by assumption) ?_
            · (try dsimp only at hSw); go_simp; try with_reducible rfl
            (try simp only [Act.put, List.setIfInBounds_toArray, List.set_cons_zero, List.set_cons_succ])
            refine wpAnyH_take (i := 10) (v := (.int .i64 (j : Int))) (op_at rfl) (by kernel_rfl) (by kernel_rfl) (by kernel_rfl) (fun _ _ _ h => h) (Or.inl ⟨rfl, fun w hSw => ?_⟩) (by assumption) ?_
            · (try dsimp only at hSw); go_simp; try with_reducible rfl
            (try simp only [Act.put, List.setIfInBounds_toArray, List.set_cons_zero, List.set_cons_succ])
            refine wpAnyH_take (i := 11) (v := (.int .i64 (i : Int))) (op_at rfl) (by kernel_rfl) (by kernel_rfl) (by kernel_rfl) (fun _ _ _ h => h) (Or.inl ⟨rfl, fun w hSw => ?_⟩) (by assumption) ?_
            · (try dsimp only at hSw); go_simp; try with_reducible rfl
            (try simp only [Act.put, List.setIfInBounds_toArray, List.set_cons_zero, List.set_cons_succ])
            refine wpAnyH_ready (rs := [12]) (by kernel_rfl) (by simp) (AllReadyH.cons (op_at rfl) (fun K hK => ?_) AllReadyH.nil)
            go_simp
            (refine (HM.out _ hg).mono ?_; rintro e W9 ⟨rfl, hg9⟩; replace a0 := hg9.cell a0; replace a1 := hg9.cell a1; replace cK := hg9.cell cK; replace hg := hg.trans hg9; clear hg9)
            go_wp2_with fail
            refine hK.out _ _ ⟨a0, a1, cK⟩ (fun hHeld => ?_)
            clear hK K
            (try simp only [Act.put, List.setIfInBounds_toArray, List.set_cons_zero, List.set_cons_succ])
            refine wpAnyH_take (i := 13) (v := (.bool true)) (op_at rfl) (by kernel_rfl) (by kernel_rfl) (by kernel_rfl) (fun _ _ _ h => h) (Or.inl ⟨rfl, fun w hSw => ?_⟩) (by assumption) ?_
            · (try dsimp only at hSw); go_simp; try with_reducible rfl
            (try simp only [Act.put, List.setIfInBounds_toArray, List.set_cons_zero, List.set_cons_succ])
            refine wpAnyH_take (i := 14) (v := (.bool true)) (op_at rfl) (by kernel_rfl) (by kernel_rfl) (by kernel_rfl) (fun _ _ _ h => h) (Or.inl ⟨rfl, fun w hSw => ?_⟩) (by assumption) ?_
            · (try dsimp only at hSw); go_simp; try with_reducible rfl
            (try simp only [Act.put, List.setIfInBounds_toArray, List.set_cons_zero, List.set_cons_succ])
            refine wpAnyH_done (by kernel_rfl) ?_ _
            go_wp2_with fail
            go_ret
            exact ⟨by rw [HJ1.out 18 (by rw [← HF.out, HF2.out]) (by decide)]; rfl, hg⟩
          · rw [hb, if_pos rfl, if_pos rfl] at hf
            rw [hb] at HM
            have HF2 := Lib.hid hf
            clear hf hb
            go_wp2_with fail
            have gd := (Gr.refl wr).drew
            replace a0 := gd.cell a0
            replace a1 := gd.cell a1
            replace cK := gd.cell cK
            replace hg := hg.trans gd
            clear gd
            refine wp_region_held_drew (S := (fun w' => w'.cell? ⟨Bx, 0, none⟩ = some (.slice po on co) ∧ w'.cell? ⟨Bx, 1, none⟩ = some (.slice pp an cp) ∧ w'.cell? ⟨ba, oa + i, none⟩ = some (.int .i64 (j : Int)))) (by kernel_rfl) ⟨a0, a1, cK⟩ (fun hHeld => ?_)
            generalize wr.drew = V at *
            refine wpAnyH_take (i := 0) (v := (.slice (some ⟨ba, oa, none⟩) an ca)) (op_at rfl) (by kernel_rfl) (by kernel_rfl) (by kernel_rfl) (fun _ _ _ h => h) (Or.inl ⟨rfl, fun w hSw => ?_⟩) (by assumption) ?_
            · (try dsimp only at hSw); go_simp; try with_reducible rfl
            (try simp only [Act.put, List.setIfInBounds_toArray, List.set_cons_zero, List.set_cons_succ])
            refine wpAnyH_take (i := 1) (v := (.int .i64 (i : Int))) (op_at rfl) (by kernel_rfl) (by kernel_rfl) (by kernel_rfl) (fun _ _ _ h => h) (Or.inl ⟨rfl, fun w hSw => ?_⟩) (by assumption) ?_
            · (try dsimp only at hSw); go_simp; try with_reducible rfl
            (try simp only [Act.put, List.setIfInBounds_toArray, List.set_cons_zero, List.set_cons_succ])
            refine wpAnyH_take (i := 2) (v := (.pointer (some ⟨ba, oa + i, none⟩))) (op_at rfl) (by kernel_rfl) (by kernel_rfl) (by kernel_rfl) (fun _ _ _ h => h) (Or.inl ⟨rfl, fun w hSw => ?_⟩) (by assumption) ?_
            · (try dsimp only at hSw); go_simp; try with_reducible rfl
            (try simp only [Act.put, List.setIfInBounds_toArray, List.set_cons_zero, List.set_cons_succ])
            refine wpAnyH_take (i := 3) (v := (.int .i64 (j : Int))) (op_at rfl) (by kernel_rfl) (by kernel_rfl) (by kernel_rfl) (fun _ _ _ h => h) (Or.inl ⟨rfl, fun w hSw => ?_⟩) (by assumption) ?_
            · (try dsimp only at hSw); go_simp; try with_reducible rfl
            (try simp only [Act.put, List.setIfInBounds_toArray, List.set_cons_zero, List.set_cons_succ])
            refine wpAnyH_take (i := 4) (v := (.pointer (some ⟨Bx, 0, none⟩))) (op_at rfl) (by kernel_rfl) (by kernel_rfl) (by kernel_rfl) (fun _ _ _ h => h) (Or.inl ⟨rfl, fun w hSw => ?_⟩) (by assumption) ?_
            · (try dsimp only at hSw); go_simp; try with_reducible rfl
            (try simp only [Act.put, List.setIfInBounds_toArray, List.set_cons_zero, List.set_cons_succ])
            refine wpAnyH_take (i := 5) (v := (.slice po on co)) (op_at rfl) (by kernel_rfl) (by kernel_rfl) (by kernel_rfl) (fun _ _ _ h => h) (Or.inl ⟨rfl, fun w hSw => ?_⟩) (by assumption) ?_
            · (try dsimp only at hSw); go_simp; try with_reducible rfl
            (try simp only [Act.put, List.setIfInBounds_toArray, List.set_cons_zero, List.set_cons_succ])
            refine wpAnyH_take (i := 6) (v := (.int .i64 (on : Int))) (op_at rfl) (by kernel_rfl) (by kernel_rfl) (by kernel_rfl) (fun _ _ _ h => h) (Or.inl ⟨rfl, fun w hSw => ?_⟩) (by assumption) ?_
            · (try dsimp only at hSw); go_simp; try with_reducible rfl
            (try simp only [Act.put, List.setIfInBounds_toArray, List.set_cons_zero, List.set_cons_succ])
            refine wpAnyH_take (i := 7) (v := (.int .i64 ((on : Int) - 1))) (op_at rfl) (by kernel_rfl) (by kernel_rfl) (by kernel_rfl) (fun _ _ _ h => h) (Or.inl ⟨rfl, fun w hSw => ?_⟩) (by assumption) ?_
            · (try dsimp only at hSw); go_simp; try with_reducible rfl
            (try simp only [Act.put, List.setIfInBounds_toArray, List.set_cons_zero, List.set_cons_succ])
            refine wpAnyH_ready (rs := [8]) (by kernel_rfl) (by simp) (AllReadyH.cons (op_at rfl) (fun K hK => ?_) AllReadyH.nil)
            go_simp
            (refine (HO.out _).mono ?_; rintro e w4 ⟨rfl, rfl⟩)
            go_wp2_with fail
            refine hK.out _ _ ⟨a0, a1, cK⟩ (fun hHeld => ?_)
            clear hK K
            (try simp only [Act.put, List.setIfInBounds_toArray, List.set_cons_zero, List.set_cons_succ])
            refine wpAnyH_done (by kernel_rfl) ?_ _
            go_wp2_with fail
            have gd := (Gr.refl V).drew
            replace a0 := gd.cell a0
            replace a1 := gd.cell a1
            replace cK := gd.cell cK
            replace hg := hg.trans gd
            clear gd
            refine wp_region_held_drew (S := (fun w' => w'.cell? ⟨Bx, 0, none⟩ = some (.slice po on co) ∧ w'.cell? ⟨Bx, 1, none⟩ = some (.slice pp an cp) ∧ w'.cell? ⟨ba, oa + i, none⟩ = some (.int .i64 (j : Int)))) (by kernel_rfl) ⟨a0, a1, cK⟩ (fun hHeld => ?_)
            generalize V.drew = V8 at *
            refine wpAnyH_take (i := 0) (v := (.slice (some ⟨ba, oa, none⟩) an ca)) (op_at rfl) (by kernel_rfl) (by kernel_rfl) (by kernel_rfl) (fun _ _ _ h => h) (Or.inl ⟨rfl, fun w hSw => ?_⟩) (by assumption) ?_
            · (try dsimp only at hSw); go_simp; try with_reducible rfl
            (try simp only [Act.put, List.setIfInBounds_toArray, List.set_cons_zero, List.set_cons_succ])
            refine wpAnyH_take (i := 1) (v := (.int .i64 (i : Int))) (op_at rfl) (by kernel_rfl) (by kernel_rfl) (by kernel_rfl) (fun _ _ _ h => h) (Or.inl ⟨rfl, fun w hSw => ?_⟩) (by assumption) ?_
            · (try dsimp only at hSw); go_simp; try with_reducible rfl
            (try simp only [Act.put, List.setIfInBounds_toArray, List.set_cons_zero, List.set_cons_succ])
            refine wpAnyH_take (i := 2) (v := (.pointer (some ⟨ba, oa + i, none⟩))) (op_at rfl) (by kernel_rfl) (by kernel_rfl) (by kernel_rfl) (fun _ _ _ h => h) (Or.inl ⟨rfl, fun w hSw => ?_⟩) (by assumption) ?_
            · (try dsimp only at hSw); go_simp; try with_reducible rfl
            (try simp only [Act.put, List.setIfInBounds_toArray, List.set_cons_zero, List.set_cons_succ])
            refine wpAnyH_take (i := 3) (v := (.int .i64 (j : Int))) (op_at rfl) (by kernel_rfl) (by kernel_rfl) (by kernel_rfl) (fun _ _ _ h => h) (Or.inl ⟨rfl, fun w hSw => ?_⟩) (by assumption) ?_
            · (try dsimp only at hSw); go_simp; try with_reducible rfl
            (try simp only [Act.put, List.setIfInBounds_toArray, List.set_cons_zero, List.set_cons_succ])
            refine wpAnyH_take (i := 4) (v := (.bool true)) (op_at rfl) (by kernel_rfl) (by kernel_rfl) (by kernel_rfl) (fun _ _ _ h => h) (Or.inl ⟨rfl, fun w hSw => ?_⟩) (by assumption) ?_
            · (try dsimp only at hSw); go_simp; try with_reducible rfl
            (try simp only [Act.put, List.setIfInBounds_toArray, List.set_cons_zero, List.set_cons_succ])
            refine wpAnyH_take (i := 5) (v := (.bool true)) (op_at rfl) (by kernel_rfl) (by kernel_rfl) (by kernel_rfl) (fun _ _ _ h => h) (Or.inl ⟨rfl, fun w hSw => ?_⟩) (by assumption) ?_
            · (try dsimp only at hSw); go_simp; try with_reducible rfl
            (try simp only [Act.put, List.setIfInBounds_toArray, List.set_cons_zero, List.set_cons_succ])
            refine wpAnyH_take (i := 6) (v := (.agg #[.slice po on co, .slice pp an cp])) (op_at rfl) (by kernel_rfl) (by kernel_rfl) (by kernel_rfl) (fun _ _ _ h => h) (Or.inl ⟨rfl, fun w hSw => ?_⟩) (by assumption) ?_
            · (try dsimp only at hSw); go_simp; try with_reducible rfl
            (try simp only [Act.put, List.setIfInBounds_toArray, List.set_cons_zero, List.set_cons_succ])
            refine wpAnyH_take (i := 7) (v := (.slice (some ⟨ba, oa, none⟩) an ca)) (op_at rfl) (by kernel_rfl) (by kernel_rfl) (by kernel_rfl) (fun _ _ _ h => h) (Or.inl ⟨rfl, fun w hSw => ?_⟩) (by assumption) ?_
            · (try dsimp only at hSw); go_simp; try with_reducible rfl
            (try simp only [Act.put, List.setIfInBounds_toArray, List.set_cons_zero, List.set_cons_succ])
            refine wpAnyH_take (i := 8) (v := (.int .i64 (i : Int))) (op_at rfl) (by kernel_rfl) (by kernel_rfl) (by kernel_rfl) (fun _ _ _ h => h) (Or.inl ⟨rfl, fun w hSw => ?_⟩) (by assumption) ?_
            · (try dsimp only at hSw); go_simp; try with_reducible rfl
            (try simp only [Act.put, List.setIfInBounds_toArray, List.set_cons_zero, List.set_cons_succ])
            refine wpAnyH_take (i := 9) (v := (.pointer (some ⟨ba, oa + i, none⟩))) (op_at rfl) (by kernel_rfl) (by kernel_rfl) (by kernel_rfl) (fun _ _ _ h => h) (Or.inl ⟨rfl, fun w hSw => ?_⟩) (by assumption) ?_
            · (try dsimp only at hSw); go_simp; try with_reducible rfl
            (try simp only [Act.put, List.setIfInBounds_toArray, List.set_cons_zero, List.set_cons_succ])
            refine wpAnyH_take (i := 10) (v := (.int .i64 (j : Int))) (op_at rfl) (by kernel_rfl) (by kernel_rfl) (by kernel_rfl) (fun _ _ _ h => h) (Or.inl ⟨rfl, fun w hSw => ?_⟩) (by assumption) ?_
            · (try dsimp only at hSw); go_simp; try with_reducible rfl
            (try simp only [Act.put, List.setIfInBounds_toArray, List.set_cons_zero, List.set_cons_succ])
            refine wpAnyH_take (i := 11) (v := (.int .i64 (i : Int))) (op_at rfl) (by kernel_rfl) (by kernel_rfl) (by kernel_rfl) (fun _ _ _ h => h) (Or.inl ⟨rfl, fun w hSw => ?_⟩) (by assumption) ?_
            · (try dsimp only at hSw); go_simp; try with_reducible rfl
            (try simp only [Act.put, List.setIfInBounds_toArray, List.set_cons_zero, List.set_cons_succ])
            refine wpAnyH_ready (rs := [12]) (by kernel_rfl) (by simp) (AllReadyH.cons (op_at rfl) (fun K hK => ?_) AllReadyH.nil)
            go_simp
            (refine (HM.out _ hg).mono ?_; rintro e W9 ⟨rfl, hg9⟩; replace a0 := hg9.cell a0; replace a1 := hg9.cell a1; replace cK := hg9.cell cK; replace hg := hg.trans hg9; clear hg9)
            go_wp2_with fail
            refine hK.out _ _ ⟨a0, a1, cK⟩ (fun hHeld => ?_)
            clear hK K
            (try simp only [Act.put, List.setIfInBounds_toArray, List.set_cons_zero, List.set_cons_succ])
            refine wpAnyH_take (i := 13) (v := (.bool false)) (op_at rfl) (by kernel_rfl) (by kernel_rfl) (by kernel_rfl) (fun _ _ _ h => h) (Or.inl ⟨rfl, fun w hSw => ?_⟩) (by assumption) ?_
            · (try dsimp only at hSw); go_simp; try with_reducible rfl
            (try simp only [Act.put, List.setIfInBounds_toArray, List.set_cons_zero, List.set_cons_succ])
            refine wpAnyH_take (i := 14) (v := (.bool false)) (op_at rfl) (by kernel_rfl) (by kernel_rfl) (by kernel_rfl) (fun _ _ _ h => h) (Or.inl ⟨rfl, fun w hSw => ?_⟩) (by assumption) ?_
            · (try dsimp only at hSw); go_simp; try with_reducible rfl
            (try simp only [Act.put, List.setIfInBounds_toArray, List.set_cons_zero, List.set_cons_succ])
            refine wpAnyH_done (by kernel_rfl) ?_ _
            go_wp2_with fail
            go_roundg (gk - 1)
            case measure => omega
            case rel => exact ⟨i + 1, by go_num, by omega, hg, a0, a1, by unfold Hid; rw [← HF2.out, HF.out]⟩
        · rw [HOFN.out i o hm hz, if_neg (by decide)] at hf
          have HF2 := Lib.hid hf
          have ho' : outB o (-1) ((on : Int) - 1) = true := by
            unfold outB
            rcases HNO.out o hz with h | h
            · rw [decide_eq_true (by omega)]; rfl
            · rw [decide_eq_true (show (on : Int) - 1 < o by omega), Bool.or_true]
          have HO := Lib.hid (fun W => refOutside_c o (-1) ((on : Int) - 1) W)
          rw [ho'] at HO
          clear hf ho ho' hy hm hz
          go_wp2_with fail
          have gd := (Gr.refl wr).drew
          replace a0 := gd.cell a0
          replace a1 := gd.cell a1
          replace cK := gd.cell cK
          replace hg := hg.trans gd
          clear gd
          refine wp_region_held_drew (S := (fun w' => w'.cell? ⟨Bx, 0, none⟩ = some (.slice po on co) ∧ w'.cell? ⟨Bx, 1, none⟩ = some (.slice pp an cp) ∧ w'.cell? ⟨ba, oa + i, none⟩ = some (.int .i64 o))) (by kernel_rfl) ⟨a0, a1, cK⟩ (fun hHeld => ?_)
          generalize wr.drew = V at *
          refine wpAnyH_take (i := 0) (v := (.slice (some ⟨ba, oa, none⟩) an ca)) (op_at rfl) (by kernel_rfl) (by kernel_rfl) (by kernel_rfl) (fun _ _ _ h => h) (Or.inl ⟨rfl, fun w hSw => ?_⟩) (by assumption) ?_
          · (try dsimp only at hSw); go_simp; try with_reducible rfl
          (try simp only [Act.put, List.setIfInBounds_toArray, List.set_cons_zero, List.set_cons_succ])
          refine wpAnyH_take (i := 1) (v := (.int .i64 (i : Int))) (op_at rfl) (by kernel_rfl) (by kernel_rfl) (by kernel_rfl) (fun _ _ _ h => h) (Or.inl ⟨rfl, fun w hSw => ?_⟩) (by assumption) ?_
          · (try dsimp only at hSw); go_simp; try with_reducible rfl
          (try simp only [Act.put, List.setIfInBounds_toArray, List.set_cons_zero, List.set_cons_succ])
          refine wpAnyH_take (i := 2) (v := (.pointer (some ⟨ba, oa + i, none⟩))) (op_at rfl) (by kernel_rfl) (by kernel_rfl) (by kernel_rfl) (fun _ _ _ h => h) (Or.inl ⟨rfl, fun w hSw => ?_⟩) (by assumption) ?_
          · (try dsimp only at hSw); go_simp; try with_reducible rfl
          (try simp only [Act.put, List.setIfInBounds_toArray, List.set_cons_zero, List.set_cons_succ])
          refine wpAnyH_take (i := 3) (v := (.int .i64 o)) (op_at rfl) (by kernel_rfl) (by kernel_rfl) (by kernel_rfl) (fun _ _ _ h => h) (Or.inl ⟨rfl, fun w hSw => ?_⟩) (by assumption) ?_
          · (try dsimp only at hSw); go_simp; try with_reducible rfl
          (try simp only [Act.put, List.setIfInBounds_toArray, List.set_cons_zero, List.set_cons_succ])
          refine wpAnyH_take (i := 4) (v := (.pointer (some ⟨Bx, 0, none⟩))) (op_at rfl) (by kernel_rfl) (by kernel_rfl) (by kernel_rfl) (fun _ _ _ h => h) (Or.inl ⟨rfl, fun w hSw => ?_⟩) (by assumption) ?_
          · (try dsimp only at hSw); go_simp; try with_reducible rfl
          (try simp only [Act.put, List.setIfInBounds_toArray, List.set_cons_zero, List.set_cons_succ])
          refine wpAnyH_take (i := 5) (v := (.slice po on co)) (op_at rfl) (by kernel_rfl) (by kernel_rfl) (by kernel_rfl) (fun _ _ _ h => h) (Or.inl ⟨rfl, fun w hSw => ?_⟩) (by assumption) ?_
          · (try dsimp only at hSw); go_simp; try with_reducible rfl
          (try simp only [Act.put, List.setIfInBounds_toArray, List.set_cons_zero, List.set_cons_succ])
          refine wpAnyH_take (i := 6) (v := (.int .i64 (on : Int))) (op_at rfl) (by kernel_rfl) (by kernel_rfl) (by kernel_rfl) (fun _ _ _ h => h) (Or.inl ⟨rfl, fun w hSw => ?_⟩) (by assumption) ?_
          · (try dsimp only at hSw); go_simp; try with_reducible rfl
          (try simp only [Act.put, List.setIfInBounds_toArray, List.set_cons_zero, List.set_cons_succ])
          refine wpAnyH_take (i := 7) (v := (.int .i64 ((on : Int) - 1))) (op_at rfl) (by kernel_rfl) (by kernel_rfl) (by kernel_rfl) (fun _ _ _ h => h) (Or.inl ⟨rfl, fun w hSw => ?_⟩) (by assumption) ?_
          · (try dsimp only at hSw); go_simp; try with_reducible rfl
          (try simp only [Act.put, List.setIfInBounds_toArray, List.set_cons_zero, List.set_cons_succ])
          refine wpAnyH_ready (rs := [8]) (by kernel_rfl) (by simp) (AllReadyH.cons (op_at rfl) (fun K hK => ?_) AllReadyH.nil)
          go_simp
          (refine (HO.out _).mono ?_; rintro e w4 ⟨rfl, rfl⟩)
          go_wp2_with fail
          refine hK.out _ _ ⟨a0, a1, cK⟩ (fun hHeld => ?_)
          clear hK K
          (try simp only [Act.put, List.setIfInBounds_toArray, List.set_cons_zero, List.set_cons_succ])
          refine wpAnyH_done (by kernel_rfl) ?_ _
          go_wp2_with fail
          go_ret
          exact ⟨by rw [HJ1.out 10 (by rw [← HF.out, HF2.out]) (by decide)]; rfl, hg⟩
    · obtain ⟨n2, hn2⟩ : ∃ z, z = an := ⟨_, rfl⟩
      have hin : i = an := by omega
      have HE1 : Hid (eachI (offE os ps) a 0 = 0) := by rw [Hid, ← HF.out, hin]; exact HEO.out
      have hi2 : (an : Int) ≤ i := by omega
      replace g := hg
      have HFT := Lib.hid (HFIT.out HE1.out)
      have HJ := Lib.hid (HJ2.out HE1.out)
      clear hin HF HFIT hn2
      go_wp2_with fail
      clear hi hi2 hlt hg
      go_loopg [6] an (fun gk s6 wr => ∃ i : Nat, s6 = .int .i64 i ∧ gk + i = an ∧ Gr w wr ∧ wr.cell? ⟨Bx, 0, none⟩ = some (.slice po on co) ∧ wr.cell? ⟨Bx, 1, none⟩ = some (.slice pp an cp) ∧ Hid (eachI (uptoE os ps a) (a.drop i) i = eachI (uptoE os ps a) a 0))
      case atStart => exact ⟨0, rfl, by omega, g, a0, a1, by rw [Hid, List.drop_zero]⟩
      case round =>
        obtain ⟨i, rfl, hi, hg, b0, b1, HF⟩ := hrel
        clear a0 a1
        obtain ⟨a0, a1⟩ := And.intro b0 b1
        clear b0 b1
        by_cases hlt : i < an
        · obtain ⟨o, ho⟩ := HXA.out i hlt
          obtain ⟨ba, oa, rfl, hqa⟩ := HCA.out (by omega)
          have cK := hg.cell (hqa i o ho)
          have hi2 : (i : Int) < an := by omega
          have hi3 : i + 1 ≤ ca := by omega
          have hi4 : (i : Int) + 1 ≤ ca := by omega
          have hi5 : (0 : Int) ≤ (i : Int) + 1 := by omega
          have htn : ((i : Int) + 1).toNat = i + 1 := by omega
          have hwi : IntKind.i64.wrap ((i : Int) + 1) = (i : Int) + 1 := by rw [IntKind.wrap_i64] <;> omega
          have hf := HUPT.out i o ho
          have hT := fun W (g : Gr w W) => HFT.out ba oa i o W g (fun j x hx => g.cell (hqa j x hx)) ho
          clear hqa ho
          generalize uptoE os ps a i o = z at hf hT
          have HT := Lib.hid hT
          clear hT
          by_cases hz : z = 0
          · subst hz
            rw [if_pos rfl] at hf
            have HF2 := Lib.hid hf
            clear hf
            go_wp2_with fail
            have gd := (Gr.refl wr).drew
            replace a0 := gd.cell a0
            replace a1 := gd.cell a1
            replace cK := gd.cell cK
            replace hg := hg.trans gd
            clear gd
            refine wp_region_held_drew (S := (fun w' => w'.cell? ⟨Bx, 0, none⟩ = some (.slice po on co) ∧ w'.cell? ⟨Bx, 1, none⟩ = some (.slice pp an cp) ∧ w'.cell? ⟨ba, oa + i, none⟩ = some (.int .i64 o))) (by kernel_rfl) ⟨a0, a1, cK⟩ (fun hHeld => ?_)
            generalize wr.drew = V at *
            refine wpAnyH_take (i := 0) (v := (.agg #[.slice po on co, .slice pp an cp])) (op_at rfl) (by kernel_rfl) (by kernel_rfl) (by kernel_rfl) (fun _ _ _ h => h) (Or.inl ⟨rfl, fun w hSw => ?_⟩) (by assumption) ?_
            · (try dsimp only at hSw); go_simp; try with_reducible rfl
            (try simp only [Act.put, List.setIfInBounds_toArray, List.set_cons_zero, List.set_cons_succ])
            refine wpAnyH_take (i := 1) (v := (.slice (some ⟨ba, oa, none⟩) an ca)) (op_at rfl) (by kernel_rfl) (by kernel_rfl) (by kernel_rfl) (fun _ _ _ h => h) (Or.inl ⟨rfl, fun w hSw => ?_⟩) (by assumption) ?_
            · (try dsimp only at hSw); go_simp; try with_reducible rfl
            (try simp only [Act.put, List.setIfInBounds_toArray, List.set_cons_zero, List.set_cons_succ])
            refine wpAnyH_take (i := 2) (v := (.int .i64 (i : Int))) (op_at rfl) (by kernel_rfl) (by kernel_rfl) (by kernel_rfl) (fun _ _ _ h => h) (Or.inl ⟨rfl, fun w hSw => ?_⟩) (by assumption) ?_
            · (try dsimp only at hSw); go_simp; try with_reducible rfl
            (try simp only [Act.put, List.setIfInBounds_toArray, List.set_cons_zero, List.set_cons_succ])
            refine wpAnyH_take (i := 3) (v := (.int .i64 ((i : Int) + 1))) (op_at rfl) (by kernel_rfl) (by kernel_rfl) (by kernel_rfl) (fun _ _ _ h => h) (Or.inl ⟨rfl, fun w hSw => ?_⟩) (by assumption) ?_
            · (try dsimp only at hSw); go_simp; try with_reducible rfl
            (try simp only [Act.put, List.setIfInBounds_toArray, List.set_cons_zero, List.set_cons_succ])
            refine wpAnyH_take (i := 4) (v := (.slice (some ⟨ba, oa, none⟩) (i + 1) ca)) (op_at rfl) (by kernel_rfl) (by kernel_rfl) (by kernel_rfl) (fun _ _ _ h => h) (Or.inl ⟨rfl, fun w hSw => ?_⟩) (by assumption) ?_
            · (try dsimp only at hSw); go_simp; try with_reducible rfl
            (try simp only [Act.put, List.setIfInBounds_toArray, List.set_cons_zero, List.set_cons_succ])
            refine wpAnyH_ready (rs := [5]) (by kernel_rfl) (by simp) (AllReadyH.cons (op_at rfl) (fun K hK => ?_) AllReadyH.nil)
            go_simp
            (refine (HT.out _ hg).mono ?_; rintro e W9 ⟨rfl, hg9⟩; replace a0 := hg9.cell a0; replace a1 := hg9.cell a1; replace cK := hg9.cell cK; replace hg := hg.trans hg9; clear hg9)
            go_wp2_with fail
            refine hK.out _ _ ⟨a0, a1, cK⟩ (fun hHeld => ?_)
            clear hK K
            (try simp only [Act.put, List.setIfInBounds_toArray, List.set_cons_zero, List.set_cons_succ])
            refine wpAnyH_take (i := 6) (v := (.int .i64 0)) (op_at rfl) (by kernel_rfl) (by kernel_rfl) (by kernel_rfl) (fun _ _ _ h => h) (Or.inl ⟨rfl, fun w hSw => ?_⟩) (by assumption) ?_
            · (try dsimp only at hSw); go_simp; try with_reducible rfl
            (try simp only [Act.put, List.setIfInBounds_toArray, List.set_cons_zero, List.set_cons_succ])
            refine wpAnyH_done (by kernel_rfl) ?_ _
            go_wp2_with fail
            go_roundg (gk - 1)
            case measure => omega
            case rel => exact ⟨i + 1, by go_num, by omega, hg, a0, a1, by unfold Hid; rw [← HF2.out, HF.out]⟩
          · rw [if_neg hz] at hf
            have HF2 := Lib.hid hf
            have q1 : (z == 0) = false := by simpa using hz
            have q2 : (z != 0) = true := by simpa [bne] using q1
            clear hf
            go_wp2_with fail
            have gd := (Gr.refl wr).drew
            replace a0 := gd.cell a0
            replace a1 := gd.cell a1
            replace cK := gd.cell cK
            replace hg := hg.trans gd
            clear gd
            refine wp_region_held_drew (S := (fun w' => w'.cell? ⟨Bx, 0, none⟩ = some (.slice po on co) ∧ w'.cell? ⟨Bx, 1, none⟩ = some (.slice pp an cp) ∧ w'.cell? ⟨ba, oa + i, none⟩ = some (.int .i64 o))) (by kernel_rfl) ⟨a0, a1, cK⟩ (fun hHeld => ?_)
            generalize wr.drew = V at *
            refine wpAnyH_take (i := 0) (v := (.agg #[.slice po on co, .slice pp an cp])) (op_at rfl) (by kernel_rfl) (by kernel_rfl) (by kernel_rfl) (fun _ _ _ h => h) (Or.inl ⟨rfl, fun w hSw => ?_⟩) (by assumption) ?_
            · (try dsimp only at hSw); go_simp; try with_reducible rfl
            (try simp only [Act.put, List.setIfInBounds_toArray, List.set_cons_zero, List.set_cons_succ])
            refine wpAnyH_take (i := 1) (v := (.slice (some ⟨ba, oa, none⟩) an ca)) (op_at rfl) (by kernel_rfl) (by kernel_rfl) (by kernel_rfl) (fun _ _ _ h => h) (Or.inl ⟨rfl, fun w hSw => ?_⟩) (by assumption) ?_
            · (try dsimp only at hSw); go_simp; try with_reducible rfl
            (try simp only [Act.put, List.setIfInBounds_toArray, List.set_cons_zero, List.set_cons_succ])
            refine wpAnyH_take (i := 2) (v := (.int .i64 (i : Int))) (op_at rfl) (by kernel_rfl) (by kernel_rfl) (by kernel_rfl) (fun _ _ _ h => h) (Or.inl ⟨rfl, fun w hSw => ?_⟩) (by assumption) ?_
            · (try dsimp only at hSw); go_simp; try with_reducible rfl
            (try simp only [Act.put, List.setIfInBounds_toArray, List.set_cons_zero, List.set_cons_succ])
            refine wpAnyH_take (i := 3) (v := (.int .i64 ((i : Int) + 1))) (op_at rfl) (by kernel_rfl) (by kernel_rfl) (by kernel_rfl) (fun _ _ _ h => h) (Or.inl ⟨rfl, fun w hSw => ?_⟩) (by assumption) ?_
            · (try dsimp only at hSw); go_simp; try with_reducible rfl
            (try simp only [Act.put, List.setIfInBounds_toArray, List.set_cons_zero, List.set_cons_succ])
            refine wpAnyH_take (i := 4) (v := (.slice (some ⟨ba, oa, none⟩) (i + 1) ca)) (op_at rfl) (by kernel_rfl) (by kernel_rfl) (by kernel_rfl) (fun _ _ _ h => h) (Or.inl ⟨rfl, fun w hSw => ?_⟩) (by assumption) ?_
            · (try dsimp only at hSw); go_simp; try with_reducible rfl
            (try simp only [Act.put, List.setIfInBounds_toArray, List.set_cons_zero, List.set_cons_succ])
            refine wpAnyH_ready (rs := [5]) (by kernel_rfl) (by simp) (AllReadyH.cons (op_at rfl) (fun K hK => ?_) AllReadyH.nil)
            go_simp
            (refine (HT.out _ hg).mono ?_; rintro e W9 ⟨rfl, hg9⟩; replace a0 := hg9.cell a0; replace a1 := hg9.cell a1; replace cK := hg9.cell cK; replace hg := hg.trans hg9; clear hg9)
            go_wp2_with fail
            refine hK.out _ _ ⟨a0, a1, cK⟩ (fun hHeld => ?_)
            clear hK K
            (try simp only [Act.put, List.setIfInBounds_toArray, List.set_cons_zero, List.set_cons_succ])
            refine wpAnyH_take (i := 6) (v := (.int .i64 z)) (op_at rfl) (by kernel_rfl) (by kernel_rfl) (by kernel_rfl) (fun _ _ _ h => h) (Or.inl ⟨rfl, fun w hSw => ?_⟩) (by assumption) ?_
            · (try dsimp only at hSw); go_simp; try with_reducible rfl
            (try simp only [Act.put, List.setIfInBounds_toArray, List.set_cons_zero, List.set_cons_succ])
            refine wpAnyH_done (by kernel_rfl) ?_ _
            go_wp2_with fail
            go_ret
            exact ⟨by rw [HJ.out z (by rw [← HF.out, HF2.out])]; rfl, hg⟩
        · have hin : i = an := by omega
          have HE2 : Hid (eachI (uptoE os ps a) a 0 = 0) := by rw [Hid, ← HF.out, hin]; exact HEU.out
          have hi2 : (an : Int) ≤ i := by omega
          clear hin HF
          go_wp2_with fail
          go_ret
          exact ⟨by rw [HJ.out 0 HE2.out]; rfl, hg⟩
end Go.Proofs.YtjojbcgppkfidaaGreat
