/- Numbers checked for two routes, and turned: the program. -/
import Derived.Test.YtcnpmebihdonoaaGreatDoorGSpNa
import Derived.Test.YtcnpmebihdonoaaGreatDoorGSpB
import Derived.BigQuiet
namespace Go.Proofs.YtcnpmebihdonoaaGreatDoor
open Go.RowKit Go.Lib
set_option linter.unusedSimpArgs false
set_option linter.unusedVariables false
/-- the error of a number of a route -/
def numE (a : List Int) (i : Nat) (x : Int) : Int := firstE [outE x 0 999999999, twE a i x]
set_option maxHeartbeats 1000000 in
set_option maxRecDepth 100000 in
theorem numOne_c (a : List Int) (n b off cap i B : Nat) (x : Int) (w : World) (hn : a.length = n) (h1 : n ≤ 1000) (hcap : n ≤ cap) (hc : ∀ (i : Nat) (z : Int), a[i]? = some z → w.cell? ⟨b, off + i, none⟩ = some (.int .i64 z)) (hx : a[i]? = some x)
    (hC : w.cell? ⟨B, 0, none⟩ = some (.slice (some ⟨b, off, none⟩) n cap)) :
    Calls Tryz.prog 75 #[.int .i64 (i : Int), .int .i64 x, .pointer (some ⟨B, 0, none⟩)] w fun e w' => e = .returned (.int .i64 (numE a i x)) ∧ Gr w w' := by
  have hR : firstE [outE x 0 999999999, twE a i x] = numE a i x := rfl
  have HT := Lib.hid (fun W (g : Gr w W) => twice_c a n b off cap i x W hn h1 hcap (fun i z hz => g.cell (hc i z hz)) hx)
  obtain ⟨e2, he2⟩ : ∃ z, z = twE a i x := ⟨_, rfl⟩
  rw [← he2] at HT hR
  obtain ⟨e1, he1, H1⟩ := range_e x 0 999999999
  rw [← he1] at hR
  have hF := first_pair e1 e2
  rw [hR] at hF
  generalize numE a i x = err at *
  have HF := Lib.hid hF
  replace H1 := Lib.hid H1
  have g := (Gr.refl w).drew
  have a0 := g.cell hC
  clear hc hx hR he1 he2 hF hC hn
  go_enter Tryz.func75, Tryz.ntmps75
  go_wp2_with fail
  refine wp_region_held_drew (S := (fun w' => w'.cell? ⟨B, 0, none⟩ = some (.slice (some ⟨b, off, none⟩) n cap))) (by kernel_rfl) a0 (fun hHeld => ?_)
  generalize w.drew = V at *
  refine wpAnyH_take (i := 0) (v := (.int .i64 x)) (op_at rfl) (by kernel_rfl) (by kernel_rfl) (by kernel_rfl) (fun _ _ _ h => h) (Or.inl ⟨rfl, fun w hSw => ?_⟩) (by assumption) ?_
  · (try dsimp only at hSw); go_simp; try with_reducible rfl
  (try simp only [Act.put, List.setIfInBounds_toArray, List.set_cons_zero, List.set_cons_succ])
  refine wpAnyH_take (i := 2) (v := (.slice (some ⟨b, off, none⟩) n cap)) (op_at rfl) (by kernel_rfl) (by kernel_rfl) (by kernel_rfl) (fun _ _ _ h => h) (Or.inl ⟨rfl, fun w hSw => ?_⟩) (by assumption) ?_
  · (try dsimp only at hSw); go_simp; try with_reducible rfl
  (try simp only [Act.put, List.setIfInBounds_toArray, List.set_cons_zero, List.set_cons_succ])
  refine wpAnyH_take (i := 3) (v := (.int .i64 (i : Int))) (op_at rfl) (by kernel_rfl) (by kernel_rfl) (by kernel_rfl) (fun _ _ _ h => h) (Or.inl ⟨rfl, fun w hSw => ?_⟩) (by assumption) ?_
  · (try dsimp only at hSw); go_simp; try with_reducible rfl
  (try simp only [Act.put, List.setIfInBounds_toArray, List.set_cons_zero, List.set_cons_succ])
  refine wpAnyH_ready (rs := [1]) (by kernel_rfl) (by simp) (AllReadyH.cons (op_at rfl) (fun K hK => ?_) AllReadyH.nil)
  go_simp
  (refine (H1.out _).mono ?_; rintro e w' ⟨rfl, rfl⟩)
  go_wp2_with fail
  refine hK.out _ _ a0 (fun hHeld => ?_)
  clear hK K
  (try simp only [Act.put, List.setIfInBounds_toArray, List.set_cons_zero, List.set_cons_succ])
  refine wpAnyH_ready (rs := [4]) (by kernel_rfl) (by simp) (AllReadyH.cons (op_at rfl) (fun K hK => ?_) AllReadyH.nil)
  go_simp
  (refine (HT.out _ g).mono ?_; rintro e W2 ⟨rfl, hg⟩; replace a0 := hg.cell a0; replace g := g.trans hg; clear hg)
  go_wp2_with fail
  refine hK.out _ _ a0 (fun hHeld => ?_)
  clear hK K
  (try simp only [Act.put, List.setIfInBounds_toArray, List.set_cons_zero, List.set_cons_succ])
  refine wpAnyH_ready (rs := [5]) (by kernel_rfl) (by simp) (AllReadyH.cons (op_at rfl) (fun K hK => ?_) AllReadyH.nil)
  go_simp
  obtain ⟨WW, hWW, gW, s0, s1⟩ := box2 W2 (.int .i64 e1) (.int .i64 e2) 28
  rw [hWW]
  clear hWW
  replace a0 := gW.cell a0
  replace g := g.trans gW
  refine hK.out _ _ a0 (fun hHeld => ?_)
  clear hK K
  (try simp only [Act.put, List.setIfInBounds_toArray, List.set_cons_zero, List.set_cons_succ])
  refine wpAnyH_ready (rs := [6]) (by kernel_rfl) (by simp) (AllReadyH.cons (op_at rfl) (fun K hK => ?_) AllReadyH.nil)
  go_simp
  (refine (HF.out _ _ WW s0 s1).mono ?_; rintro e w8 ⟨rfl, rfl⟩)
  go_wp2_with fail
  refine hK.out _ _ a0 (fun hHeld => ?_)
  clear hK K
  (try simp only [Act.put, List.setIfInBounds_toArray, List.set_cons_zero, List.set_cons_succ])
  refine wpAnyH_take (i := 7) (v := (.int .i64 err)) (op_at rfl) (by kernel_rfl) (by kernel_rfl) (by kernel_rfl) (fun _ _ _ h => h) (Or.inl ⟨rfl, fun w hSw => ?_⟩) (by assumption) ?_
  · (try dsimp only at hSw); go_simp; try with_reducible rfl
  (try simp only [Act.put, List.setIfInBounds_toArray, List.set_cons_zero, List.set_cons_succ])
  refine wpAnyH_done (by kernel_rfl) ?_ _
  go_wp2_with fail
  go_ret
  exact ⟨rfl, g⟩
set_option maxHeartbeats 1000000 in
set_option maxRecDepth 100000 in
theorem findNum_c (E : Nat → Int → Int) (xs : List Int) (n : Nat) (p : Option Addr) (cap : Nat) (B : Nat) (w : World) (hn : xs.length = n) (h1 : n ≤ 1000)
    (hd : 0 < n → ∃ b off, p = some ⟨b, off, none⟩ ∧ ∀ i y, xs[i]? = some y → w.cell? ⟨b, off + i, none⟩ = some (.int .i64 y))
    (hE : ∀ (i : Nat) (x : Int) W, xs[i]? = some x → Gr w W → Calls Tryz.prog 75 #[.int .i64 (i : Int), .int .i64 x, .pointer (some ⟨B, 0, none⟩)] W fun e w' => e = .returned (.int .i64 (E i x)) ∧ Gr W w') :
    Calls Tryz.prog 118 #[.slice p n cap, .func (.func 75) #[] #[.pointer (some ⟨B, 0, none⟩)]] w fun e w' => (∃ i : Int, e = .returned (.tuple #[.int .i64 i, .int .i64 (eachI E xs 0)])) ∧ Gr w w' := by
  have HN := Lib.hid hn
  have HD := Lib.hid hd
  have HO := Lib.hid hE
  clear hE hn hd
  go_enter Tryz.func118, Tryz.ntmps118
  go_wp2_with fail
  go_loopg [11] n (fun gk s11 wr => ∃ i : Nat, s11 = .int .i64 i ∧ gk + i = n ∧ Gr w wr ∧ Hid (eachI E (xs.drop i) i = eachI E xs 0))
  case atStart => exact ⟨0, rfl, by omega, Gr.refl _, by rw [Hid, List.drop_zero]⟩
  case round =>
    obtain ⟨i, rfl, hi, hg, HF⟩ := hrel
    by_cases hlt : i < n
    · obtain ⟨x, hx⟩ : ∃ x, xs[i]? = some x := ⟨xs[i]'(by have := HN.out; omega), List.getElem?_eq_getElem _⟩
      obtain ⟨b, off, rfl, hd⟩ := HD.out (by omega)
      have d0 := hg.cell (hd i x hx)
      have hi2 : (i : Int) < n := by omega
      have hf := eachI_step (E := E) hx
      have hT := fun W hg2 => HO.out i x W hx hg2
      clear hx hd
      by_cases h0 : E i x = 0
      · rw [h0] at hT hf
        rw [if_pos rfl] at hf
        have HT := Lib.hid hT
        have HF2 := Lib.hid hf
        clear hT hf h0
        go_wp2_with fail
        refine (HT.out _ hg).mono ?_
        rintro e w4 ⟨rfl, hg2⟩
        go_wp2_with fail
        go_roundg (gk - 1)
        case measure => omega
        case rel => exact ⟨i + 1, by go_num, by omega, hg.trans hg2, by unfold Hid; rw [← HF2.out, HF.out]⟩
      · rw [if_neg h0] at hf
        generalize E i x = z at *
        have q1 : (z == 0) = false := by simpa using h0
        have q2 : (z != 0) = true := by simpa [bne] using q1
        have HT := Lib.hid hT
        have HF2 := Lib.hid hf
        clear hT hf
        go_wp2_with fail
        refine (HT.out _ hg).mono ?_
        rintro e w4 ⟨rfl, hg2⟩
        go_wp2_with fail
        exact bodyPost_ret (v := .tuple #[.int .i64 i, .int .i64 z]) (by simp [results, Tryz.results118, go_sem]) rfl ⟨⟨i, by rw [← HF.out, HF2.out]⟩, hg.trans hg2⟩
    · have HE2 : Hid (eachI E (xs.drop i) i = 0) := eachI_end (by have := HN.out; omega)
      have hi2 : (n : Int) ≤ i := by omega
      go_wp2_with fail
      exact bodyPost_ret (v := .tuple #[.int .i64 0, .int .i64 0]) (by simp [results, Tryz.results118, go_sem]) rfl ⟨⟨0, by rw [← HF.out, HE2.out]⟩, hg⟩
set_option maxHeartbeats 1000000 in
set_option maxRecDepth 100000 in
theorem eachNum_c (E : Nat → Int → Int) (xs : List Int) (n : Nat) (p : Option Addr) (cap : Nat) (B : Nat) (w : World) (hn : xs.length = n) (h1 : n ≤ 1000)
    (hd : 0 < n → ∃ b off, p = some ⟨b, off, none⟩ ∧ ∀ i y, xs[i]? = some y → w.cell? ⟨b, off + i, none⟩ = some (.int .i64 y))
    (hE : ∀ (i : Nat) (x : Int) W, xs[i]? = some x → Gr w W → Calls Tryz.prog 75 #[.int .i64 (i : Int), .int .i64 x, .pointer (some ⟨B, 0, none⟩)] W fun e w' => e = .returned (.int .i64 (E i x)) ∧ Gr W w') :
    Calls Tryz.prog 74 #[.slice p n cap, .func (.func 75) #[] #[.pointer (some ⟨B, 0, none⟩)]] w fun e w' => e = .returned (.int .i64 (eachI E xs 0)) ∧ Gr w w' := by
  have HF := Lib.hid (findNum_c E xs n p cap B w hn h1 hd hE)
  generalize eachI E xs 0 = z at *
  clear hE hn hd
  go_enter Tryz.func74, Tryz.ntmps74
  go_wp2_with fail
  refine HF.out.mono ?_
  rintro e w4 ⟨⟨i, rfl⟩, hg⟩
  go_wp2_with fail
  go_ret
  exact ⟨rfl, hg⟩
/-- the error of the numbers of two routes -/
def numsE (a : List Int) : Int := if 160 < a.length then 5 else eachI (numE a) a 0
set_option maxHeartbeats 1000000 in
set_option maxRecDepth 100000 in
theorem checkNums_c (a : List Int) (m cap : Nat) (p : Option Addr) (w : World) (hcap : m ≤ cap) (hz : IntS w p m a) :
    Calls Tryz.prog 37 #[.slice p m cap] w fun e w' => e = .returned (.int .i64 (numsE a)) ∧ Gr w w' := by
  have hn := hz.len
  obtain ⟨W1, hW1, g1, a0⟩ := box1 w (.slice p m cap) 23
  have HW := Lib.hid hW1
  by_cases hm : 160 < m
  · have hm1 : (160 : Int) < (m : Int) := by omega
    have HE : Hid (numsE a = 5) := by unfold Hid numsE; rw [if_pos (by omega)]
    clear hz hW1
    go_enter Tryz.func37, Tryz.ntmps37
    go_wp2_with fail
    rw [HW.out]
    go_ret
    exact ⟨by rw [HE.out]; rfl, g1⟩
  · have hm1 : ¬ (160 : Int) < (m : Int) := by omega
    have HE : Hid (numsE a = eachI (numE a) a 0) := by unfold Hid numsE; rw [if_neg (by omega)]
    have HEE := Lib.hid (eachNum_c (numE a) a m p cap w.heap.size W1 hn (by omega) (hz.gr g1).out (fun i x W hx hg => by
      obtain ⟨b, off, rfl, hc⟩ := hz.out (by have := (List.getElem?_eq_some_iff.1 hx).1; omega)
      exact numOne_c a m b off cap i w.heap.size x W hn (by omega) hcap (fun i z hz => (g1.trans hg).cell (hc i z hz)) hx (hg.cell a0)))
    clear hz hW1
    go_enter Tryz.func37, Tryz.ntmps37
    go_wp2_with fail
    rw [HW.out]
    refine HEE.out.mono ?_
    rintro e W3 ⟨rfl, hg⟩
    go_wp2_with fail
    go_ret
    exact ⟨by rw [HE.out]; rfl, g1.trans hg⟩
theorem IntS.take {w : World} {q : Option Addr} {m h : Nat} {zs : List Int} (hz : IntS w q m zs) (hh : h ≤ m) : IntS w q h (zs.take h) := ⟨by rw [List.length_take, hz.len]; omega, fun h0 => by
  obtain ⟨b, off, e, hc⟩ := hz.out (by omega)
  exact ⟨b, off, e, fun i z hi => hc i z (by rw [List.getElem?_take] at hi; split at hi; exact hi; cases hi)⟩⟩
theorem IntS.drop {w : World} {q : Option Addr} {m h c : Nat} {zs : List Int} (hz : IntS w q m zs) (hh : h ≤ m) (hc : m ≤ c) : IntS w (if c = h then q else q.map (·.add h)) (m - h) (zs.drop h) := ⟨by rw [List.length_drop, hz.len], fun h0 => by
  obtain ⟨b, off, e, hcc⟩ := hz.out (by omega)
  subst e
  rw [if_neg (by omega)]
  refine ⟨b, off + h, by rw [Option.map_some, addr_add], fun i z hi => ?_⟩
  rw [List.getElem?_drop] at hi
  rw [Nat.add_assoc]
  exact hcc _ z hi⟩
set_option maxHeartbeats 1000000 in
set_option maxRecDepth 100000 in
theorem turnedI_c (q : Option Addr) (m c h : Nat) (zs : List Int) (w : World) (hz : IntS w q m zs) (hh : h ≤ m) (hc : m ≤ c) (h1 : m ≤ 400) :
    Calls Tryz.prog 39 #[.slice q m c, .int .i64 (h : Int)] w fun e w' => ∃ p cp, e = .returned (.slice p m cp) ∧ w'.ownsRow w.heap.size 3 1 (.slice p m cp) m (ints (zs.drop h ++ zs.take h)) ∧ Gr w w' := by
  obtain ⟨AQ, hAQ⟩ : ∃ A, A = (if c = h then q else q.map (·.add h)) := ⟨_, rfl⟩
  have hd := hz.drop hh hc
  rw [← hAQ] at hd
  have ht := hz.take hh
  have HAQ := Lib.hid hAQ
  have HCC0 := Lib.hid (fun (V WW : World) (g : Gr w V) (gW : Gr V WW) (s0 : WW.cell? ⟨V.heap.size, 0, none⟩ = some (.slice AQ (m - h) (c - h))) (s1 : WW.cell? ⟨V.heap.size, 1, none⟩ = some (.slice q h c)) => concatI_c (zs.drop h) (zs.take h) V.heap.size (m - h) h (c - h) c 2 AQ q WW (by omega) (by omega) s0 s1 ((hd.gr g).gr gW) ((ht.gr g).gr gW))
  have e1 : m - h + h = m := by omega
  rw [e1] at HCC0
  have HCC := Lib.hid (HCC0.out w.drew · ((Gr.refl w).drew))
  have i1 : (h : Int) ≤ m := by omega
  have i2 : (h : Int) ≤ c := by omega
  have i3 : (0 : Int) ≤ h := by omega
  have HSZ : Hid (w.heap.size ≤ w.drew.heap.size ∧ Gr w w.drew) := ⟨((Gr.refl w).drew).size, (Gr.refl w).drew⟩
  clear hz hd ht hAQ HCC0 e1
  go_enter Tryz.func39, Tryz.ntmps39
  go_wp2_with fail
  refine wp_region_held_drew (S := (fun w' => True)) (by kernel_rfl) trivial (fun hHeld => ?_)
  generalize hV : w.drew = V at *
  clear hV
  refine wpAnyH_take (i := 0) (v := (.slice q m c)) (op_at rfl) (by kernel_rfl) (by kernel_rfl) (by kernel_rfl) (fun _ _ _ h => h) (Or.inl ⟨rfl, fun w hSw => ?_⟩) (by assumption) ?_
  · (try dsimp only at hSw); go_simp; try with_reducible rfl
  (try simp only [Act.put, List.setIfInBounds_toArray, List.set_cons_zero, List.set_cons_succ])
  refine wpAnyH_take (i := 1) (v := (.int .i64 (h : Int))) (op_at rfl) (by kernel_rfl) (by kernel_rfl) (by kernel_rfl) (fun _ _ _ h => h) (Or.inl ⟨rfl, fun w hSw => ?_⟩) (by assumption) ?_
  · (try dsimp only at hSw); go_simp; try with_reducible rfl
  (try simp only [Act.put, List.setIfInBounds_toArray, List.set_cons_zero, List.set_cons_succ])
  refine wpAnyH_take (i := 2) (v := (.slice AQ (m - h) (c - h))) (op_at rfl) (by kernel_rfl) (by kernel_rfl) (by kernel_rfl) (fun _ _ _ h => h) (Or.inl ⟨rfl, fun w hSw => ?_⟩) (by assumption) ?_
  · (try dsimp only at hSw); go_simp; exact HAQ.out.symm
  (try simp only [Act.put, List.setIfInBounds_toArray, List.set_cons_zero, List.set_cons_succ])
  refine wpAnyH_take (i := 3) (v := (.slice q m c)) (op_at rfl) (by kernel_rfl) (by kernel_rfl) (by kernel_rfl) (fun _ _ _ h => h) (Or.inl ⟨rfl, fun w hSw => ?_⟩) (by assumption) ?_
  · (try dsimp only at hSw); go_simp; try with_reducible rfl
  (try simp only [Act.put, List.setIfInBounds_toArray, List.set_cons_zero, List.set_cons_succ])
  refine wpAnyH_take (i := 4) (v := (.int .i64 (h : Int))) (op_at rfl) (by kernel_rfl) (by kernel_rfl) (by kernel_rfl) (fun _ _ _ h => h) (Or.inl ⟨rfl, fun w hSw => ?_⟩) (by assumption) ?_
  · (try dsimp only at hSw); go_simp; try with_reducible rfl
  (try simp only [Act.put, List.setIfInBounds_toArray, List.set_cons_zero, List.set_cons_succ])
  refine wpAnyH_take (i := 5) (v := (.slice q h c)) (op_at rfl) (by kernel_rfl) (by kernel_rfl) (by kernel_rfl) (fun _ _ _ h => h) (Or.inl ⟨rfl, fun w hSw => ?_⟩) (by assumption) ?_
  · (try dsimp only at hSw); go_simp; try with_reducible rfl
  (try simp only [Act.put, List.setIfInBounds_toArray, List.set_cons_zero, List.set_cons_succ])
  refine wpAnyH_ready (rs := [6]) (by kernel_rfl) (by simp) (AllReadyH.cons (op_at rfl) (fun K hK => ?_) AllReadyH.nil)
  go_simp
  obtain ⟨WW, hWW, gW, s0, s1⟩ := box2 V (.slice AQ (m - h) (c - h)) (.slice q h c) 23
  rw [hWW]
  clear hWW
  refine hK.out _ _ trivial (fun hHeld => ?_)
  clear hK K
  (try simp only [Act.put, List.setIfInBounds_toArray, List.set_cons_zero, List.set_cons_succ])
  refine wpAnyH_ready (rs := [7]) (by kernel_rfl) (by simp) (AllReadyH.cons (op_at rfl) (fun K hK => ?_) AllReadyH.nil)
  go_simp
  (refine (HCC.out WW gW s0 s1).mono ?_; rintro e w8 ⟨p8, c8, rfl, ho8, hg8⟩; have HO8 := Lib.hid ho8; have HG8 := Lib.hid hg8; clear ho8 hg8)
  go_wp2_with fail
  refine hK.out _ _ trivial (fun hHeld => ?_)
  clear hK K
  (try simp only [Act.put, List.setIfInBounds_toArray, List.set_cons_zero, List.set_cons_succ])
  refine wpAnyH_take (i := 8) (v := (.slice p8 m c8)) (op_at rfl) (by kernel_rfl) (by kernel_rfl) (by kernel_rfl) (fun _ _ _ h => h) (Or.inl ⟨rfl, fun w hSw => ?_⟩) (by assumption) ?_
  · (try dsimp only at hSw); go_simp; try with_reducible rfl
  (try simp only [Act.put, List.setIfInBounds_toArray, List.set_cons_zero, List.set_cons_succ])
  refine wpAnyH_done (by kernel_rfl) ?_ _
  go_wp2_with fail
  go_ret
  refine ⟨p8, c8, rfl, own_low HO8.out ?_, (HSZ.out.2.trans gW).trans HG8.out⟩
  exact Nat.le_trans HSZ.out.1 gW.size
end Go.Proofs.YtcnpmebihdonoaaGreatDoor
namespace Go.Proofs.YtcnpmebihdonoaaGreatDoor
open Go.RowKit Go.Lib
set_option linter.unusedSimpArgs false
set_option linter.unusedVariables false
section
variable {α : Type} [DecidableEq α]
/-- how often -/
def cn (y : α) (l : List α) : Nat := l.count y
theorem cn_app (y : α) (a b : List α) : cn y (a ++ b) = cn y a + cn y b := List.count_append
theorem cn_perm (y : α) {a b : List α} (h : a.Perm b) : cn y a = cn y b := h.count_eq y
theorem cn_all {y : α} {l : List α} (h : ∀ z ∈ l, z = y) : cn y l = l.length := List.count_eq_length.2 fun z hz => (h z hz).symm
theorem cn_none {y : α} {l : List α} (h : y ∉ l) : cn y l = 0 := List.count_eq_zero.2 h
/-- the element at a place is one of the most that are left, as Greedy asks -/
def StepC (T q : List α) (i : Nat) : Prop := ∃ x, q[i]? = some x ∧ (((q.take i).getLast? ≠ some x ∧ ∀ y, (q.take i).getLast? ≠ some y → cn y T - cn y (q.take i) ≤ cn x T - cn x (q.take i)) ∨ ((q.take i).getLast? = some x ∧ ∀ y, y ≠ x → cn y T ≤ cn y (q.take i)))
theorem greedy_of {T q : List α} (hp : q.Perm T) (h : ∀ i, i < q.length → StepC T q i) : ∀ (suf pre : List α), q = pre ++ suf → Greedy pre.getLast? suf
  | [], _, _ => trivial
  | x :: s, pre, e => by
    obtain ⟨z, hz, hc⟩ := h pre.length (by rw [e]; simp)
    have ht : q.take pre.length = pre := by rw [e]; simp
    have hzx : z = x := by
      rw [e, List.getElem?_append_right (Nat.le_refl _), Nat.sub_self] at hz
      simpa using hz.symm
    subst hzx
    have hcnt : ∀ y, cn y T = cn y pre + cn y (z :: s) := fun y => by rw [← cn_perm y hp, e, cn_app]
    rw [ht] at hc
    refine ⟨?_, ?_⟩
    · rcases hc with ⟨h1, h2⟩ | ⟨h1, h2⟩
      · refine .inl ⟨h1, fun y hy => ?_⟩
        have := h2 y hy
        rw [hcnt, hcnt] at this
        unfold cn at this
        omega
      · refine .inr ⟨h1, fun y hy => ?_⟩
        by_cases hyz : y = z
        · exact hyz
        · have h3 := h2 y hyz
          rw [hcnt] at h3
          unfold cn at h3
          rw [List.count_cons] at h3
          have h4 := List.count_pos_iff.2 hy
          omega
    · have := greedy_of hp h s (pre ++ [z]) (by rw [e]; simp)
      rwa [List.getLast?_append, List.getLast?_singleton] at this
end
theorem flatten_tail {α : Type} (a : α) : ∀ (L : List (List α)) (j : Nat) (l : List α), L[j]? = some (a :: l) → L.flatten.Perm (a :: (L.set j l).flatten)
  | [], j, l, h => by simp at h
  | m :: L, 0, l, h => by
    simp at h
    subst h
    simp
  | m :: L, j + 1, l, h => by
    simp at h
    have := flatten_tail a L j l h
    simp only [List.set_cons_succ, List.flatten_cons]
    exact (List.Perm.append_left m this).trans List.perm_middle
theorem set_sub {α : Type} {L : List (List α)} {j : Nat} {a : α} {l : List α} (h : L[j]? = some (a :: l)) {i : Nat} {m : List α} (hm : (L.set j l)[i]? = some m) : ∃ m', L[i]? = some m' ∧ ∀ b ∈ m, b ∈ m' := by
  by_cases e : i = j
  · subst e
    rw [List.getElem?_set_self (List.getElem?_eq_some_iff.1 h).1] at hm
    cases hm
    exact ⟨_, h, fun b hb => by simp [hb]⟩
  · rw [List.getElem?_set_ne (Ne.symm e)] at hm
    exact ⟨m, hm, fun b hb => hb⟩
/-- how many are left of a nation -/
theorem count_left (xs : List EntR) (y : List UInt8) : ∀ (L : List (List Nat)), L.Pairwise (fun l m => ∀ a ∈ l, ∀ b ∈ m, natA xs a ≠ natA xs b) → (∀ l ∈ L, ∀ a ∈ l, ∀ b ∈ l, natA xs a = natA xs b) →
    (cn y (natO xs L.flatten) = 0 ∧ ∀ l ∈ L, ∀ b ∈ l, natA xs b ≠ y) ∨ ∃ l ∈ L, (∃ b ∈ l, natA xs b = y) ∧ cn y (natO xs L.flatten) = l.length
  | [], _, _ => .inl ⟨by simp [natO_eq, cn], fun l h => by simp at h⟩
  | m :: L, hp, hs => by
    obtain ⟨hp1, hp2⟩ := List.pairwise_cons.1 hp
    have ih := count_left xs y L hp2 fun l hl => hs l (by simp [hl])
    have e : natO xs (m :: L).flatten = m.map (natA xs) ++ natO xs L.flatten := by simp [natO_eq]
    rw [e, cn_app]
    by_cases hb : ∃ b ∈ m, natA xs b = y
    · obtain ⟨b, hbm, hby⟩ := hb
      have h1 : cn y (m.map (natA xs)) = m.length := by
        rw [cn_all (y := y) fun z hz => ?_, List.length_map]
        obtain ⟨c, hc, rfl⟩ := List.mem_map.1 hz
        rw [← hby]
        exact (hs m (by simp) b hbm c hc).symm
      have h2 : cn y (natO xs L.flatten) = 0 := by
        rcases ih with ⟨h, _⟩ | ⟨l, hl, ⟨c, hc, hcy⟩, _⟩
        · exact h
        · exact absurd (hby.trans hcy.symm) (hp1 l hl b hbm c hc)
      exact .inr ⟨m, by simp, ⟨b, hbm, hby⟩, by omega⟩
    · have h1 : cn y (m.map (natA xs)) = 0 := cn_none fun hy => by
        obtain ⟨c, hc, hcy⟩ := List.mem_map.1 hy
        exact hb ⟨c, hc, hcy⟩
      rcases ih with ⟨h, h'⟩ | ⟨l, hl, hc, h⟩
      · refine .inl ⟨by omega, fun l hl b hbl e9 => ?_⟩
        rcases List.mem_cons.1 hl with rfl | hl
        · exact hb ⟨b, hbl, e9⟩
        · exact h' l hl b hbl e9
      · exact .inr ⟨l, by simp [hl], hc, by omega⟩
theorem count_team (xs : List EntR) {L : List (List Nat)} (hp : L.Pairwise (fun l m => ∀ a ∈ l, ∀ b ∈ m, natA xs a ≠ natA xs b)) (hs : ∀ l ∈ L, ∀ a ∈ l, ∀ b ∈ l, natA xs a = natA xs b) {l : List Nat} {a : Nat} (hl : l ∈ L) (ha : a ∈ l) : cn (natA xs a) (natO xs L.flatten) = l.length := by
  rcases count_left xs (natA xs a) L hp hs with ⟨_, h⟩ | ⟨m, hm, ⟨b, hb, e⟩, h⟩
  · exact absurd rfl (h l hl a ha)
  · rw [h]
    obtain ⟨i, hi⟩ := List.mem_iff_getElem?.1 hl
    obtain ⟨j, hj⟩ := List.mem_iff_getElem?.1 hm
    have hpw := List.pairwise_iff_getElem.1 hp
    obtain ⟨hi1, hi2⟩ := List.getElem?_eq_some_iff.1 hi
    obtain ⟨hj1, hj2⟩ := List.getElem?_eq_some_iff.1 hj
    rcases Nat.lt_trichotomy i j with h1 | h1 | h1
    · exact absurd e.symm (hpw i j hi1 hj1 h1 a (by rw [hi2]; exact ha) b (by rw [hj2]; exact hb))
    · subst h1
      rw [hi] at hj
      cases hj
      rfl
    · exact absurd e (hpw j i hj1 hi1 h1 b (by rw [hj2]; exact hb) a (by rw [hi2]; exact ha))
/-- what has been listed, and what is left of the teams -/
structure ApI (xs : List EntR) (n : Nat) (p : List Nat) (L : List (List Nat)) : Prop where
  perm : (p ++ L.flatten).Perm (List.range n)
  pair : L.Pairwise fun l m => ∀ a ∈ l, ∀ b ∈ m, natA xs a ≠ natA xs b
  same : ∀ l ∈ L, ∀ a ∈ l, ∀ b ∈ l, natA xs a = natA xs b
  step : ∀ i, i < p.length → StepC (natO xs (List.range n)) (natO xs p) i
theorem ApI.start {xs : List EntR} {k : Nat} {ks : List (ByteArray × Nat)} {L : List (List Nat)} (h : TmF xs k ks L) : ApI xs k [] L := ⟨h.perm, h.parted.1, h.parted.2, fun i hi => by simp at hi⟩
theorem ApI.sort {xs : List EntR} {n : Nat} {p : List Nat} {L L' : List (List Nat)} (h : ApI xs n p L) (hL : L'.Perm L) : ApI xs n p L' :=
  ⟨(List.Perm.append_left p hL.flatten).trans h.perm, (hL.symm.pairwise_iff fun {l m} hlm a ha b hb e => hlm b hb a ha e.symm).1 h.pair, fun l hl => h.same l (hL.mem_iff.1 hl), h.step⟩
theorem ApI.count {xs : List EntR} {n : Nat} {p : List Nat} {L : List (List Nat)} (h : ApI xs n p L) (y : List UInt8) : cn y (natO xs (List.range n)) = cn y (natO xs p) + cn y (natO xs L.flatten) := by
  have := cn_perm y (natO_perm xs h.perm)
  rw [← this]
  simp [natO_eq, cn_app]
theorem step_more {α : Type} [DecidableEq α] {T q : List α} {x : α} (h : ∀ i, i < q.length → StepC T q i) (h2 : StepC T (q ++ [x]) q.length) : ∀ i, i < (q ++ [x]).length → StepC T (q ++ [x]) i := fun i hi => by
  rw [List.length_append, List.length_singleton] at hi
  by_cases e : i = q.length
  · subst e; exact h2
  · obtain ⟨z, hz, hc⟩ := h i (by omega)
    refine ⟨z, by rw [List.getElem?_append_left (by omega)]; exact hz, ?_⟩
    rw [List.take_append_of_le_length (by omega)]
    exact hc
theorem ApI.next {xs : List EntR} {n : Nat} {p : List Nat} {L : List (List Nat)} (h : ApI xs n p L) {j a : Nat} {l : List Nat} (hj : L[j]? = some (a :: l))
    (hs : ((natO xs p).getLast? ≠ some (natA xs a) ∧ ∀ l' ∈ L, (∃ b ∈ l', (natO xs p).getLast? ≠ some (natA xs b)) → l'.length ≤ (a :: l).length) ∨ (∀ l' ∈ L, ∀ b ∈ l', (natO xs p).getLast? = some (natA xs b))) : ApI xs n (p ++ [a]) (L.set j l) := by
  have hmem := List.mem_of_getElem? hj
  have hcnt : ∀ y, cn y (natO xs (List.range n)) - cn y (natO xs p) = cn y (natO xs L.flatten) := fun y => by rw [h.count y]; omega
  refine ⟨?_, ?_, fun m hm b hb c hc => ?_, ?_⟩
  · refine List.Perm.trans ?_ h.perm
    rw [List.append_assoc]
    exact List.Perm.append_left p (flatten_tail a L j l hj).symm
  · rw [List.pairwise_iff_getElem]
    intro i k hi hk hik b hb c hc
    obtain ⟨m, hm, hs1⟩ := set_sub hj (List.getElem?_eq_getElem hi)
    obtain ⟨m', hm', hs2⟩ := set_sub hj (List.getElem?_eq_getElem hk)
    obtain ⟨hi1, hi2⟩ := List.getElem?_eq_some_iff.1 hm
    obtain ⟨hk1, hk2⟩ := List.getElem?_eq_some_iff.1 hm'
    exact List.pairwise_iff_getElem.1 h.pair i k hi1 hk1 hik b (by rw [hi2]; exact hs1 b hb) c (by rw [hk2]; exact hs2 c hc)
  · obtain ⟨i, hi⟩ := List.mem_iff_getElem?.1 hm
    obtain ⟨m', hm', hs1⟩ := set_sub hj hi
    exact h.same m' (List.mem_of_getElem? hm') b (hs1 b hb) c (hs1 c hc)
  · have e : natO xs (p ++ [a]) = natO xs p ++ [natA xs a] := by simp [natO_eq]
    have hlen : (natO xs p).length = p.length := by simp [natO_eq]
    have hsm := step_more (T := natO xs (List.range n)) (q := natO xs p) (x := natA xs a) (fun i hi => h.step i (by omega)) ?_
    · intro i hi
      rw [e]
      exact hsm i (by simp at hi; simp [hlen]; omega)
    · refine ⟨natA xs a, by simp, ?_⟩
      rw [List.take_left]
      rcases hs with ⟨h1, h2⟩ | h1
      · refine .inl ⟨h1, fun y hy => ?_⟩
        rw [hcnt, hcnt, count_team xs h.pair h.same hmem (a := a) (by simp)]
        rcases count_left xs y L h.pair h.same with ⟨h3, _⟩ | ⟨l', hl', ⟨b, hb, hby⟩, h3⟩
        · omega
        · rw [h3]
          exact h2 l' hl' ⟨b, hb, by rw [hby]; exact hy⟩
      · refine .inr ⟨h1 _ hmem a (by simp), fun y hy => ?_⟩
        have := hcnt y
        rcases count_left xs y L h.pair h.same with ⟨h3, _⟩ | ⟨l', hl', ⟨b, hb, hby⟩, h3⟩
        · omega
        · have e1 := h1 l' hl' b hb
          have e2 := h1 _ hmem a (by simp)
          rw [e1, Option.some.injEq] at e2
          exact absurd (hby.symm.trans e2) hy
theorem ApI.len {xs : List EntR} {n : Nat} {p : List Nat} {L : List (List Nat)} (h : ApI xs n p L) : p.length + L.flatten.length = n := by
  have := h.perm.length_eq
  rwa [List.length_append, List.length_range] at this
theorem ApI.lt {xs : List EntR} {n : Nat} {p : List Nat} {L : List (List Nat)} (h : ApI xs n p L) : ∀ a ∈ p ++ L.flatten, a < n := fun a ha => List.mem_range.1 (h.perm.mem_iff.1 ha)
theorem ApI.done {xs : List EntR} {n : Nat} {p : List Nat} {L : List (List Nat)} (h : ApI xs n p L) (hn : n ≤ p.length) : p.Perm (List.range n) ∧ Greedy none (natO xs p) := by
  have h1 := h.len
  have h2 : L.flatten = [] := List.eq_nil_of_length_eq_zero (by omega)
  have h3 := h.perm
  rw [h2, List.append_nil] at h3
  refine ⟨h3, ?_⟩
  have := greedy_of (natO_perm xs h3) (fun i hi => h.step i (by simpa [natO_eq] using hi)) (natO xs p) [] (by simp)
  simpa using this
end Go.Proofs.YtcnpmebihdonoaaGreatDoor
namespace Go.Proofs.YtcnpmebihdonoaaGreatDoor
open Go.RowKit Go.Lib
set_option linter.unusedSimpArgs false
set_option linter.unusedVariables false
theorem twE_not {a : List Int} {i : Nat} {x : Int} (h : ∀ (j : Nat) (z : Int), j < i → a[j]? = some z → z ≠ x) : twE a i x = 0 := by
  unfold twE
  rw [if_neg]
  rw [Bool.not_eq_true, List.any_eq_false]
  intro z hz
  obtain ⟨j, hj⟩ := List.mem_iff_getElem?.1 hz
  rw [List.getElem?_take] at hj
  split at hj
  · rename_i hji
    have := h j z hji hj
    simp
    exact fun e => this e.symm
  · cases hj
theorem twE_yes {a : List Int} {i k : Nat} {x : Int} (hk : k < i) (h : a[k]? = some x) : twE a i x = 9 := by
  unfold twE
  rw [if_pos]
  rw [List.any_eq_true]
  exact ⟨x, List.mem_iff_getElem?.2 ⟨k, by rw [List.getElem?_take, if_pos hk]; exact h⟩, by simp⟩
theorem firstE_pair0 {z q : Int} (h : z = 0) : firstE [z, q] = q := by
  subst h
  by_cases h2 : q = 0 <;> simp [firstE, h2]
set_option maxHeartbeats 4000000 in
set_option maxRecDepth 100000 in
theorem refNums_c (a : List Int) (m c : Nat) (q : Option Addr) (w : World) (hz : IntS w q m a) :
    Calls Tryz.prog 9 #[.slice q m c] w fun e w' => e = .returned (.int .i64 (numsE a)) ∧ Gr w w' := by
  have hn := hz.len
  by_cases hm : 160 < m
  · have hm1 : (160 : Int) < (m : Int) := by omega
    have HE : Hid (numsE a = 5) := by unfold Hid numsE; rw [if_pos (by omega)]
    clear hz
    go_enter Tryz.func9, Tryz.ntmps9
    go_wp2_with fail
    go_ret
    exact ⟨by rw [HE.out]; rfl, Gr.refl _⟩
  have hm1 : ¬ (160 : Int) < (m : Int) := by omega
  have HE : Hid (numsE a = eachI (numE a) a 0) := by unfold Hid numsE; rw [if_neg (by omega)]
  have HL := Lib.hid hn
  have HZ := Lib.hid hz.out
  have HOut := Lib.hid (fun (x : Int) W => outside6_c x 0 999999999 W)
  clear hz hn hm
  go_enter Tryz.func9, Tryz.ntmps9
  go_wp2_with fail
  go_loopg [3, 4] m (fun gk s3 s4 wr => ∃ i : Nat, s3 = .int .i64 (i : Int) ∧ gk + i = m ∧ Hid (Gr w wr) ∧ Hid (eachI (numE a) (a.drop i) i = eachI (numE a) a 0))
  case atStart => exact ⟨0, rfl, by omega, Gr.refl _, rfl⟩
  case round =>
    obtain ⟨i, rfl, hgk, HG, HF⟩ := hrel
    obtain ⟨GK, rfl⟩ : ∃ G, G = gk := ⟨gk, rfl⟩
    by_cases hlt : i < m
    · obtain ⟨x, hx⟩ : ∃ x, a[i]? = some x := ⟨a[i]'(by have := HL.out; omega), List.getElem?_eq_getElem _⟩
      obtain ⟨b, off, rfl, hc⟩ := HZ.out (by omega)
      have c0 := HG.out.cell (hc i x hx)
      have hii : (i : Int) < m := by omega
      have hst := eachI_step (E := numE a) hx
      rw [HF.out] at hst
      have hO : ∀ W, Calls Tryz.prog 40 #[.int .i64 x, .int .i64 0, .int .i64 999999999] W fun e w' => e = .returned (.int .i64 (outE x 0 999999999)) ∧ W = w' := HOut.out x
      obtain ⟨z, hzz⟩ : ∃ z, z = outE x 0 999999999 := ⟨_, rfl⟩
      rw [← hzz] at hO
      have HO := Lib.hid hO
      have HC := Lib.hid hc
      have HX := Lib.hid hx
      by_cases hz0 : z = 0
      case neg =>
        have z1 : (z != 0) = true := bne_iff_ne.2 hz0
        have hz3 : z = 3 := by
          unfold outE at hzz
          split at hzz
          · exact hzz
          · exact absurd hzz hz0
        have HR : Hid (eachI (numE a) a 0 = 3) := by
          unfold Hid
          have e1 : numE a i x = 3 := by unfold numE; rw [← hzz, hz3]; rfl
          rw [hst, e1, if_neg (by decide)]
        clear hst hzz hO hc hx
        go_wp2_with fail
        refine (HO.out _).mono ?_
        rintro e w9 ⟨rfl, rfl⟩
        go_wp2_with fail
        go_ret
        exact ⟨by rw [HE.out, HR.out]; rfl, HG.out⟩
      have z1 : (z != 0) = false := by rw [hz0]; rfl
      have he1 : numE a i x = twE a i x := by unfold numE; exact firstE_pair0 (hzz.symm.trans hz0)
      rw [he1] at hst
      have HST := Lib.hid hst
      clear hst hzz hO hc hx he1 hz0
      go_wp2_with fail
      refine (HO.out _).mono ?_
      rintro e w9 ⟨rfl, rfl⟩
      go_wp2_with fail
      go_loopg [4] i (fun gk s4 wr => ∃ k : Nat, s4 = .int .i64 (k : Int) ∧ gk + k = i ∧ Hid (Gr w wr) ∧ Hid (∀ (j : Nat) (z : Int), j < k → a[j]? = some z → z ≠ x))
      case atStart => exact ⟨0, rfl, by omega, HG.out, fun j z h => absurd h (by omega)⟩
      case round =>
        clear c0 HG
        obtain ⟨k, rfl, hgk2, HG, HN⟩ := hrel
        by_cases hki : k < i
        · obtain ⟨y, hy⟩ : ∃ y, a[k]? = some y := ⟨a[k]'(by have := HL.out; omega), List.getElem?_eq_getElem _⟩
          have c0 := HG.out.cell (HC.out i x HX.out)
          have c1 := HG.out.cell (HC.out k y hy)
          have hkk : (k : Int) < i := by omega
          have hkm : (k : Int) < m := by omega
          by_cases hyx : y = x
          · have y1 : (y == x) = true := by simpa using hyx
            have HR : Hid (eachI (numE a) a 0 = 9) := by
              unfold Hid
              rw [HST.out, twE_yes hki (by rw [← hyx]; exact hy), if_neg (by decide)]
            subst hyx
            clear hy
            go_wp2_with fail
            go_big_quiet (fail)
            go_wp2_with fail
            go_ret
            exact ⟨by rw [HE.out, HR.out]; rfl, HG.out.drewN _⟩
          · have y1 : (y == x) = false := by simpa using hyx
            have HN2 : Hid (∀ (j : Nat) (z : Int), j < k + 1 → a[j]? = some z → z ≠ x) := fun j z hj hz => by
              by_cases e : j = k
              · subst e
                rw [hy] at hz
                cases hz
                exact hyx
              · exact HN.out j z (by omega) hz
            clear hy hyx
            go_wp2_with fail
            go_big_quiet (fail)
            go_wp2_with fail
            go_roundg (gk - 1)
            case measure => omega
            case rel => exact ⟨k + 1, by go_num, by omega, HG.out.drewN _, HN2.out⟩
        · obtain rfl : k = i := by omega
          have hkk : (k : Int) ≤ k := by omega
          have HF2 : Hid (eachI (numE a) (a.drop (k + 1)) (k + 1) = eachI (numE a) a 0) := by
            unfold Hid
            rw [HST.out, twE_not HN.out, if_pos rfl]
          go_wp2_with fail
          go_roundg (GK - 1)
          case measure => omega
          case rel => exact ⟨k + 1, by go_num, by omega, HG.out, HF2.out⟩
    · obtain rfl : i = m := by omega
      have hii : (i : Int) ≤ i := by omega
      have HR : Hid (eachI (numE a) a 0 = 0) := by
        unfold Hid
        rw [← HF.out]
        exact eachI_end (by have := HL.out; omega)
      go_wp2_with fail
      go_ret
      exact ⟨by rw [HE.out, HR.out]; rfl, HG.out⟩
set_option maxHeartbeats 4000000 in
set_option maxRecDepth 100000 in
theorem refNb_c (xs : List EntR) (v : Value) (p : List Nat) (q : Option Addr) (m c : Nat) (w : World) (hv : EntAts w v xs) (hm : p.length = m) (h1 : m ≤ 1000)
    (hq : IntS w q m (p.map fun (i : Nat) => (i : Int))) (hlt : ∀ a ∈ p, a < xs.length) :
    Calls Tryz.prog 20 #[v, .slice q m c] w fun e w' => e = .returned (.int .i64 (pairsF none (natO xs p) : Nat)) ∧ Gr w w' := by
  obtain ⟨⟨pv, cap, rfl, _, hh⟩⟩ := hv
  have HH := Lib.hid hh
  have HQ := Lib.hid hq.out
  have HM := Lib.hid hm
  have HLT := Lib.hid hlt
  clear hh hq hm hlt
  generalize hn : xs.length = n at *
  have HN := Lib.hid hn
  clear hn
  go_enter Tryz.func20, Tryz.ntmps20
  go_wp2_with fail
  go_loopg [5, 6] m (fun gk s5 s6 wr => ∃ k : Nat, s6 = .int .i64 ((k + 1 : Nat) : Int) ∧ gk + k = m ∧ s5 = .int .i64 (pairsF none (natO xs (p.take (k + 1))) : Nat) ∧ Hid (Gr w wr))
  case atStart =>
    refine ⟨0, rfl, by omega, ?_, Gr.refl _⟩
    cases p with
    | nil => rfl
    | cons a p => simp [natO_eq, pairsF]
  case round =>
    obtain ⟨k, rfl, hgk, rfl, HG⟩ := hrel
    have ek : IntKind.i64.wrap (((k + 1 : Nat) : Int) - 1) = (k : Int) := by rw [IntKind.wrap_i64] <;> omega
    by_cases hlt : k + 1 < m
    · obtain ⟨a, ha⟩ : ∃ a, p[k + 1]? = some a := ⟨p[k + 1]'(by have := HM.out; omega), List.getElem?_eq_getElem _⟩
      obtain ⟨z, hz⟩ : ∃ z, p[k]? = some z := ⟨p[k]'(by have := HM.out; omega), List.getElem?_eq_getElem _⟩
      have hal := HLT.out a (List.mem_of_getElem? ha)
      have hzl := HLT.out z (List.mem_of_getElem? hz)
      obtain ⟨x, hx⟩ : ∃ x, xs[a]? = some x := ⟨xs[a]'(by have := HN.out; omega), List.getElem?_eq_getElem _⟩
      obtain ⟨y, hy⟩ : ∃ y, xs[z]? = some y := ⟨xs[z]'(by have := HN.out; omega), List.getElem?_eq_getElem _⟩
      obtain ⟨bq, oq, rfl, hqc⟩ := HQ.out (by omega)
      obtain ⟨b, off, rfl, hc⟩ := HH.out (by omega)
      obtain ⟨c0, c1, c2⟩ := (hc a x hx).gr HG.out
      obtain ⟨d0, d1, d2⟩ := (hc z y hy).gr HG.out
      have e0 := HG.out.cell (hqc (k + 1) (a : Int) (by rw [List.getElem?_map, ha]; rfl))
      have e1 := HG.out.cell (hqc k (z : Int) (by rw [List.getElem?_map, hz]; rfl))
      have hki : ((k + 1 : Nat) : Int) < m := by omega
      have hki2 : (k : Int) < m := by omega
      have hle := pairsF_le (natO xs (p.take (k + 1))) none
      have hle2 : pairsF none (natO xs (p.take (k + 1))) ≤ 1000 := by
        unfold natO at hle
        rw [List.length_map, List.length_take] at hle
        unfold natO
        omega
      have hstep : pairsF none (natO xs (p.take (k + 1 + 1))) = pairsF none (natO xs (p.take (k + 1))) + if some y.na.toList = some x.na.toList then 1 else 0 := by
        rw [natO_take ha hx, pairsF_add, natO_last hz hy, Option.or_none]
      generalize pairsF none (natO xs (p.take (k + 1))) = cnt at *
      have hpos : (0 : Int) ≤ ((k + 1 : Nat) : Int) := by omega
      cases hb : (y.na.toList == x.na.toList)
      · have hb' : (x.na.toList == y.na.toList) = false := by rw [← hb]; exact Bool.beq_comm
        have hs2 : Hid (pairsF none (natO xs (p.take (k + 1 + 1))) = cnt) := by
          have : ¬ (some y.na.toList = some x.na.toList) := by simpa using hb
          rw [Hid, hstep, if_neg this]
          rfl
        clear hstep hle ha hx hqc hc hz hy
        go_wp2_with fail
        go_big_quiet (fail)
        go_wp2_with fail
        go_roundg (gk - 1)
        case measure => omega
        case rel => exact ⟨k + 1, by go_num, by omega, by rw [hs2.out], HG.out.drewN _⟩
      · have hb' : (x.na.toList == y.na.toList) = true := by rw [← hb]; exact Bool.beq_comm
        have hs2 : Hid (pairsF none (natO xs (p.take (k + 1 + 1))) = cnt + 1) := by
          have : some y.na.toList = some x.na.toList := by simpa using hb
          rw [Hid, hstep, if_pos this]
        clear hstep hle ha hx hqc hc hz hy
        go_wp2_with fail
        go_big_quiet (fail)
        go_wp2_with fail
        go_roundg (gk - 1)
        case measure => omega
        case rel => exact ⟨k + 1, by go_num, by omega, by rw [hs2.out]; go_num, HG.out.drewN _⟩
    · have hki : ¬ ((k + 1 : Nat) : Int) < m := by omega
      have HE : Hid (natO xs (p.take (k + 1)) = natO xs p) := by rw [Hid, List.take_of_length_le (by have := HM.out; omega)]
      go_wp2_with fail
      go_ret
      exact ⟨by rw [HE.out]; rfl, HG.out⟩
end Go.Proofs.YtcnpmebihdonoaaGreatDoor
