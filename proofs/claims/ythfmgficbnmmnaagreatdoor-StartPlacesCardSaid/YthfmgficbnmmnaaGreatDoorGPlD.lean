/- Places: rounds, as the program checks them. -/
import Derived.Test.YthfmgficbnmmnaaGreatDoorGPlA
namespace Go.Proofs.YthfmgficbnmmnaaGreatDoor
open Go.RowKit Go.Lib
set_option linter.unusedSimpArgs false
set_option linter.unusedVariables false
/-- a round: a slice of races -/
structure Rd where
  p : Option Addr
  n : Nat
  c : Nat
  l : List RaR
/-- a slice of races in memory -/
structure RdOk (w : World) (x : Rd) : Prop where
  len : x.l.length = x.n
  le : x.n ≤ x.c
  mx : x.c ≤ maxLen
  ra : RaS w x.p x.l
theorem RdOk.gr {w w' : World} {x : Rd} (h : RdOk w x) (k : Gr w w') : RdOk w' x := ⟨h.len, h.le, h.mx, h.ra.gr k⟩
theorem RdOk.rav {w : World} {x : Rd} (h : RdOk w x) : RaV w (.slice x.p x.n x.c) x.l := ⟨x.p, x.c, by rw [h.len], ⟨by rw [h.len]; exact h.le, h.mx⟩, h.ra⟩
structure RdAt (w : World) (b off : Nat) (x : Rd) : Prop where
  nm : w.cell? ⟨b, off, none⟩ = some (.slice x.p x.n x.c)
  ok : RdOk w x
theorem RdAt.gr {w w' : World} {b off : Nat} {x : Rd} (h : RdAt w b off x) (k : Gr w w') : RdAt w' b off x := ⟨k.cell h.nm, h.ok.gr k⟩
/-- the slice v reads as these rounds -/
structure RdAts (w : World) (v : Value) (xs : List Rd) : Prop where
  mk' ::
  out : ∃ p cap, v = .slice p xs.length cap ∧ (xs.length ≤ cap ∧ cap ≤ maxLen) ∧ (0 < xs.length → ∃ b off, p = some ⟨b, off, none⟩ ∧ ∀ i x, xs[i]? = some x → RdAt w b (off + i) x)
theorem RdAts.gr {w w' : World} {v : Value} {xs : List Rd} (h : RdAts w v xs) (k : Gr w w') : RdAts w' v xs := by
  obtain ⟨⟨p, cap, rfl, hcap, hh⟩⟩ := h
  refine ⟨p, cap, rfl, hcap, fun h0 => ?_⟩
  obtain ⟨b, off, h1, h2⟩ := hh h0
  exact ⟨b, off, h1, fun i x hx => (h2 i x hx).gr k⟩
/-- the error of a round behind another one -/
def behE (last l : List RaR) : Int := firstE [if ((2 * (l.length : Int)) != (last.length : Int)) then 2 else 0, if openR last then 24 else 0, if (!sameR l (pairR (last.map winR))) then 29 else 0]
/-- the error of a round -/
def rndE (ls : List (List RaR)) (i : Nat) (l : List RaR) : Int := if racesE l = 0 then (if i = 0 then 0 else behE (ls.getD (i - 1) []) l) else racesE l
theorem firstE_three (x y z : Int) : firstE [x, y, z] = if (if x = 0 then y else x) = 0 then z else (if x = 0 then y else x) := by
  unfold firstE firstE firstE firstE
  by_cases hx : x = 0 <;> by_cases hy : y = 0 <;> by_cases hz : z = 0 <;> simp [hx, hy, hz]
theorem pairR_walk (l : List ByteArray) : ∀ r ∈ pairR l, r.w = walkW r.a r.b := by
  induction l using pairR.induct with
  | case1 a b r ih =>
    intro x hx
    rw [pairR] at hx
    rcases List.mem_cons.1 hx with rfl | h
    · rfl
    · exact ih x h
  | case2 t h =>
    intro x hx
    rw [pairR] at hx
    · cases hx
    · exact h
theorem firstE_two (x y : Int) : firstE [x, y] = if x = 0 then y else x := by
  unfold firstE firstE firstE
  by_cases hx : x = 0 <;> by_cases hy : y = 0 <;> simp [hx, hy]
set_option maxHeartbeats 4000000 in
set_option maxRecDepth 100000 in
theorem behind_c (xs : List Rd) (i n b off cap : Nat) (x : Rd) (w : World) (hx : xs[i]? = some x) (hn : xs.length = n) (h1 : n ≤ 1000) (hcap : n ≤ cap) (hc : ∀ i x, xs[i]? = some x → RdAt w b (off + i) x) (hs : ∀ x ∈ xs, x.l.length ≤ 34) :
    Calls Tryz.prog 89 #[.slice (some ⟨b, off, none⟩) i cap, .slice x.p x.n x.c] w fun e w' => e = .returned (.int .i64 (rndE (xs.map Rd.l) i x.l)) ∧ Gr w w' := by
  have hin : i < n := by have := (List.getElem?_eq_some_iff.1 hx).1; omega
  have hxo := (hc i x hx).ok
  have hx34 := hs x (List.mem_of_getElem? hx)
  have HC := Lib.hid (checkRaces_c x.l _ w hxo.rav hx34)
  have hlen := hxo.len
  by_cases he : racesE x.l = 0
  · rw [he] at HC
    by_cases hi0 : i = 0
    · have HE : Hid (rndE (xs.map Rd.l) i x.l = 0) := by unfold Hid rndE; rw [if_pos he, if_pos hi0]
      rw [HE.out]
      subst hi0
      clear hc hs hx hxo
      go_enter Tryz.func89, Tryz.ntmps89
      go_wp2_with fail
      refine HC.out.mono ?_
      rintro e W1 ⟨rfl, g1⟩
      go_wp2_with fail
      go_ret
      exact ⟨rfl, g1⟩
    · obtain ⟨j, rfl⟩ : ∃ j, i = j + 1 := ⟨i - 1, by omega⟩
      obtain ⟨y, hy⟩ : ∃ y, xs[j]? = some y := ⟨xs[j]'(by omega), List.getElem?_eq_getElem _⟩
      have hya := hc j y hy
      have hyl := hya.ok.len
      have HE : rndE (xs.map Rd.l) (j + 1) x.l = behE y.l x.l := by
        unfold rndE
        rw [if_pos he, if_neg (by omega), Nat.add_sub_cancel, List.getD_eq_getElem?_getD, List.getElem?_map, hy]
        rfl
      have hbe : behE y.l x.l = firstE [if ((2 * (x.l.length : Int)) != (y.l.length : Int)) then 2 else 0, if openR y.l then 24 else 0, if (!sameR x.l (pairR (y.l.map winR))) then 29 else 0] := rfl
      rw [firstE_three] at hbe
      have HI := Lib.hid (fun V => if_c ((2 * (x.l.length : Int)) != (y.l.length : Int)) 2 V)
      have HD := Lib.hid (fun V (g : Gr w V) => checkDecided_c (hya.ok.gr g).rav)
      have hN : 1 ≤ x.l.length := by
        rcases (racesE_zero he).1 with h | ⟨N, h, h2, _⟩ <;> omega
      have HNX := Lib.hid (fun V (g : Gr w V) (h : y.l.length = 2 * x.l.length) => next_c x.l.length (hya.ok.gr g).rav h hN (by omega))
      have HEQ := Lib.hid (fun V (g : Gr w V) (q : Option Addr) (c2 : Nat) (hr : RaS V q (pairR (y.l.map winR))) (hl : (pairR (y.l.map winR)).length = x.l.length) => equalRa_c x.l (pairR (y.l.map winR)) x.p q x.n x.l.length x.c c2 V (hxo.ra.gr g) hr hlen hl (by omega) (pairR_walk _))
      have HI2 := Lib.hid (fun V => if_c (!sameR x.l (pairR (y.l.map winR))) 29 V)
      have cy := hya.nm
      rw [HE, hbe]
      obtain ⟨z1, hz1⟩ : ∃ z, z = (if ((2 * (x.l.length : Int)) != (y.l.length : Int)) then (2 : Int) else 0) := ⟨_, rfl⟩
      obtain ⟨z2, hz2⟩ : ∃ z, z = (if openR y.l then (24 : Int) else 0) := ⟨_, rfl⟩
      obtain ⟨z3, hz3⟩ : ∃ z, z = (if (!sameR x.l (pairR (y.l.map winR))) then (29 : Int) else 0) := ⟨_, rfl⟩
      obtain ⟨z, hz⟩ : ∃ z, z = (if z1 = 0 then z2 else z1) := ⟨_, rfl⟩
      rw [← hz1, ← hz2, ← hz3, ← hz]
      rw [← hz1] at HI
      rw [← hz2] at HD
      rw [← hz3] at HI2
      have HF : Hid (∀ b cap V, V.cell? ⟨b, 0, none⟩ = some (.int .i64 z1) → V.cell? ⟨b, 1, none⟩ = some (.int .i64 z2) → Calls Tryz.prog 41 #[.slice (some ⟨b, 0, none⟩) 2 cap] V fun e w' => e = .returned (.int .i64 z) ∧ V = w') := fun b cap V h0 h1 => by rw [hz]; exact first_two z1 z2 b cap V h0 h1
      have hz0 : z = 0 → y.l.length = 2 * x.l.length := fun h => by
        rw [h] at hz
        by_cases hq : z1 = 0
        · rw [hz1] at hq
          by_cases e : 2 * (x.l.length : Int) = (y.l.length : Int)
          · omega
          · rw [if_pos (bne_iff_ne.2 e)] at hq; cases hq
        · rw [if_neg hq] at hz; exact absurd hz.symm hq
      have HZ0 := Lib.hid hz0
      obtain ⟨zf, hzf⟩ : ∃ zf, zf = (if z = 0 then z3 else z) := ⟨_, rfl⟩
      rw [← hzf]
      have HZF := Lib.hid hzf
      clear hzf
      have hji : ((j + 1 : Nat) : Int) - 1 = (j : Int) := by omega
      have hjl : (j : Int) < ((j + 1 : Nat) : Int) := by omega
      rw [hlen] at HI HNX HEQ hx34
      rw [hyl] at HI
      generalize sameR x.l (pairR (y.l.map winR)) = sm at *
      generalize pairR (y.l.map winR) = res at *
      generalize openR y.l = oy at *
      have hj0 : ((((j + 1 : Nat) : Int)) == 0) = false := beq_eq_false_iff_ne.2 (by omega)
      clear hz1 hz2 hz3 hz hz0 HE hbe hc hs hx hy hya hxo he hi0 hN
      go_enter Tryz.func89, Tryz.ntmps89
      go_wp2_with fail
      refine HC.out.mono ?_
      rintro e W1 ⟨rfl, g1⟩
      have G1 := Lib.hid g1
      replace cy := g1.cell cy
      clear g1
      go_wp2_with fail
      refine (HI.out _).mono ?_
      rintro e W2 ⟨rfl, rfl⟩
      go_wp2_with fail
      refine (HD.out _ G1.out).mono ?_
      rintro e W3 ⟨rfl, g3⟩
      obtain ⟨W4, hW4, g4, s0, s1⟩ := box2 W3 (.int .i64 z1) (.int .i64 z2) 31
      have HF1 := Lib.hid (HF.out _ 2 W4 s0 s1)
      have HW4 := Lib.hid hW4
      have G4 := Lib.hid (G1.out.trans (g3.trans g4))
      clear hW4 g3 g4 s0 s1 cy
      go_wp2_with fail
      rw [HW4.out]
      refine HF1.out.mono ?_
      rintro e W5 ⟨rfl, rfl⟩
      clear HF1 HW4
      by_cases hz : z = 0
      · have hyx := HZ0.out hz
        rw [hlen] at hyx
        subst hz
        have HNX2 := Lib.hid (HNX.out _ G4.out hyx)
        clear HNX hyx
        go_wp2_with fail
        refine HNX2.out.mono ?_
        rintro e W6 ⟨q, c2, rfl, hr, hl, g6⟩
        have G6 := Lib.hid (G4.out.trans g6)
        have HEQ2 := Lib.hid (HEQ.out _ G6.out q c2 hr hl)
        clear hr hl g6 HEQ
        go_wp2_with fail
        refine HEQ2.out.mono ?_
        rintro e W7 ⟨rfl, g7⟩
        have G7 := Lib.hid (G6.out.trans g7)
        clear g7
        go_wp2_with fail
        refine (HI2.out _).mono ?_
        rintro e W8 ⟨rfl, rfl⟩
        go_wp2_with fail
        go_ret
        exact ⟨by rw [HZF.out]; first | rfl | simp, G7.out⟩
      · have q1 : (z != 0) = true := bne_iff_ne.2 hz
        go_wp2_with fail
        go_ret
        exact ⟨by rw [HZF.out, if_neg hz]; rfl, G4.out⟩
  · have HE : Hid (rndE (xs.map Rd.l) i x.l = racesE x.l) := by unfold Hid rndE; rw [if_neg he]
    rw [HE.out]
    have q1 : (racesE x.l != 0) = true := bne_iff_ne.2 he
    generalize racesE x.l = z at *
    clear hc hs hx hxo he
    go_enter Tryz.func89, Tryz.ntmps89
    go_wp2_with fail
    refine HC.out.mono ?_
    rintro e W1 ⟨rfl, g1⟩
    go_wp2_with fail
    go_ret
    exact ⟨rfl, g1⟩
set_option maxHeartbeats 1000000 in
set_option maxRecDepth 100000 in
theorem oneRd_c (xs : List Rd) (i n b off cap L : Nat) (x : Rd) (w : World) (hx : xs[i]? = some x) (hn : xs.length = n) (h1 : n ≤ 1000) (hcap : n ≤ cap) (hc : ∀ i x, xs[i]? = some x → RdAt w b (off + i) x) (hs : ∀ x ∈ xs, x.l.length ≤ 34) (hL : w.cell? ⟨L, 0, none⟩ = some (.slice (some ⟨b, off, none⟩) n cap)) :
    Calls Tryz.prog 88 #[.int .i64 i, .slice x.p x.n x.c, .pointer (some ⟨L, 0, none⟩)] w fun e w' => e = .returned (.int .i64 (rndE (xs.map Rd.l) i x.l)) ∧ Gr w w' := by
  have hin : i < n := by have := (List.getElem?_eq_some_iff.1 hx).1; omega
  have HB := Lib.hid (behind_c xs i n b off cap x w hx hn h1 hcap hc hs)
  have hi1 : (i : Int) ≤ cap := by omega
  have hi0 : (0 : Int) ≤ i := by omega
  generalize rndE (xs.map Rd.l) i x.l = z at *
  clear hc hs hx hn
  go_enter Tryz.func88, Tryz.ntmps88
  go_wp2_with fail
  refine HB.out.mono ?_
  rintro e W1 ⟨rfl, g1⟩
  go_wp2_with fail
  go_ret
  exact ⟨rfl, g1⟩
set_option maxHeartbeats 1000000 in
set_option maxRecDepth 100000 in
theorem findRd_pos (E : Nat → Rd → Int) (xs : List Rd) (n b off cap L : Nat) (w : World) (hn : xs.length = n) (h1 : n ≤ 1000) (hcap : n ≤ cap) (hmx : cap ≤ maxLen)
    (hc : ∀ i x, xs[i]? = some x → RdAt w b (off + i) x) (ho : ∀ (i : Nat) (x : Rd) (W : World), i < n → xs[i]? = some x → Gr w W → Calls Tryz.prog 88 #[.int .i64 i, .slice x.p x.n x.c, .pointer (some ⟨L, 0, none⟩)] W fun e w' => e = .returned (.int .i64 (E i x)) ∧ Gr W w') (hL : w.cell? ⟨L, 0, none⟩ = some (.slice (some ⟨b, off, none⟩) n cap)) :
    Calls Tryz.prog 128 #[.slice (some ⟨b, off, none⟩) n cap, .func (.func 88) #[] #[.pointer (some ⟨L, 0, none⟩)]] w fun e w' => (∃ i : Int, e = .returned (.tuple #[.int .i64 i, .int .i64 (errG E xs n 0)])) ∧ Gr w w' := by
  have HC := Lib.hid hc
  have HN := Lib.hid hn
  have HO := Lib.hid ho
  clear hc hL hn ho
  go_enter Tryz.func128, Tryz.ntmps128
  go_wp2_with fail
  go_loopg [11] n (fun gk s11 wr => ∃ i : Nat, s11 = .int .i64 i ∧ gk + i = n ∧ Gr w wr ∧ Hid (errG E xs (n - i) i = errG E xs n 0))
  case atStart => exact ⟨0, rfl, by omega, Gr.refl _, rfl⟩
  case round =>
    obtain ⟨i, rfl, hi, hg, HF⟩ := hrel
    by_cases hlt : i < n
    · obtain ⟨x, hx⟩ : ∃ x, xs[i]? = some x := ⟨xs[i]'(by have := HN.out; omega), List.getElem?_eq_getElem _⟩
      obtain ⟨c0, _⟩ := (HC.out i x hx).gr hg
      have hf := errG_step (E := E) hlt hx
      have hi2 : (i : Int) < n := by omega
      have hT := fun W hg2 => HO.out i x W hlt hx hg2
      clear hx
      have gW := hg
      by_cases h0 : E i x = 0
      · rw [h0] at hT hf
        rw [if_pos rfl] at hf
        have HT := Lib.hid hT
        have HF2 := Lib.hid hf
        clear hT hf h0
        go_wp2_with fail
        refine (HT.out _ gW).mono ?_
        rintro e w4 ⟨rfl, hg2⟩
        go_wp2_with fail
        go_roundg (gk - 1)
        case measure => omega
        case rel => exact ⟨i + 1, by go_num, by omega, gW.trans hg2, by unfold Hid; rw [← HF2.out, HF.out]⟩
      · rw [if_neg h0] at hf
        generalize E i x = z at *
        have q1 : (z == 0) = false := by simpa using h0
        have q2 : (z != 0) = true := by simpa [bne] using q1
        have HT := Lib.hid hT
        have HF2 := Lib.hid hf
        clear hT hf
        go_wp2_with fail
        refine (HT.out _ gW).mono ?_
        rintro e w4 ⟨rfl, hg2⟩
        go_wp2_with fail
        exact bodyPost_ret (v := .tuple #[.int .i64 i, .int .i64 z]) (by simp [results, Tryz.results128, go_sem]) rfl ⟨⟨i, by rw [← HF.out, HF2.out]⟩, gW.trans hg2⟩
    · have hin : i = n := by omega
      have HE2 : Hid (errG E xs (n - i) i = 0) := by unfold Hid; rw [hin, Nat.sub_self]; rfl
      have hi2 : (n : Int) ≤ i := by omega
      clear hin
      go_wp2_with fail
      exact bodyPost_ret (v := .tuple #[.int .i64 0, .int .i64 0]) (by simp [results, Tryz.results128, go_sem]) rfl ⟨⟨0, by rw [← HF.out, HE2.out]⟩, hg⟩
theorem eachRd_pos (E : Nat → Rd → Int) (xs : List Rd) (n b off cap L : Nat) (w : World) (hn : xs.length = n) (h1 : n ≤ 1000) (hcap : n ≤ cap) (hmx : cap ≤ maxLen)
    (hc : ∀ i x, xs[i]? = some x → RdAt w b (off + i) x) (ho : ∀ (i : Nat) (x : Rd) (W : World), i < n → xs[i]? = some x → Gr w W → Calls Tryz.prog 88 #[.int .i64 i, .slice x.p x.n x.c, .pointer (some ⟨L, 0, none⟩)] W fun e w' => e = .returned (.int .i64 (E i x)) ∧ Gr W w') (hL : w.cell? ⟨L, 0, none⟩ = some (.slice (some ⟨b, off, none⟩) n cap)) :
    Calls Tryz.prog 87 #[.slice (some ⟨b, off, none⟩) n cap, .func (.func 88) #[] #[.pointer (some ⟨L, 0, none⟩)]] w fun e w' => e = .returned (.int .i64 (errG E xs n 0)) ∧ Gr w w' := by
  have HF := Lib.hid (findRd_pos E xs n b off cap L w hn h1 hcap hmx hc ho hL)
  generalize errG E xs n 0 = z at *
  clear hc hL hn ho
  go_enter Tryz.func87, Tryz.ntmps87
  go_wp2_with fail
  refine HF.out.mono ?_
  rintro e w4 ⟨⟨i, rfl⟩, hg⟩
  go_wp2_with fail
  go_ret
  exact ⟨rfl, hg⟩
end Go.Proofs.YthfmgficbnmmnaaGreatDoor
namespace Go.Proofs.YthfmgficbnmmnaaGreatDoor
open Go.RowKit Go.Lib
set_option linter.unusedSimpArgs false
set_option linter.unusedVariables false
/-- the error of rounds -/
def roundsE (ls : List (List RaR)) : Int := if ls.length = 0 then 12 else if 6 < ls.length then 5 else
  firstE [errG (rndE ls) ls ls.length 0, if decide (1 < (ls.getLastD []).length) then 20 else 0, if openR (ls.getLastD []) then 24 else 0]
theorem errG_map {α β : Type} (f : α → β) (E : Nat → β → Int) (xs : List α) : ∀ (k i : Nat), errG E (xs.map f) k i = errG (fun i x => E i (f x)) xs k i
  | 0, _ => rfl
  | k + 1, i => by
    unfold errG
    rw [List.getElem?_map]
    cases h : xs[i]? with
    | none => rfl
    | some x =>
      simp only [Option.map_some]
      rw [errG_map f E xs k (i + 1)]
theorem last_of {xs : List Rd} {x : Rd} {n : Nat} (hn : xs.length = n + 1) (h : xs[n]? = some x) : (xs.map Rd.l).getLastD [] = x.l := by
  have e : xs ≠ [] := by intro h; rw [h] at hn; cases hn
  rw [List.getLastD_eq_getLast?, List.getLast?_map, List.getLast?_eq_getElem?, show xs.length - 1 = n by omega, h]
  rfl
set_option maxHeartbeats 4000000 in
set_option maxRecDepth 100000 in
theorem checkRounds_c (xs : List Rd) (v : Value) (w : World) (hv : RdAts w v xs) (hs : ∀ x ∈ xs, x.l.length ≤ 34) :
    Calls Tryz.prog 45 #[v] w fun e w' => e = .returned (.int .i64 (roundsE (xs.map Rd.l))) ∧ Gr w w' := by
  obtain ⟨⟨p, cap, rfl, ⟨hcap, hmx⟩, hh⟩⟩ := hv
  obtain ⟨W, hW, g, l0⟩ := box1 w (.slice p xs.length cap) 22
  have HW := Lib.hid hW
  have HML : Hid ((xs.map Rd.l).length = xs.length) := List.length_map ..
  rcases Nat.eq_zero_or_pos xs.length with h0 | h0
  · have HE : Hid (roundsE (xs.map Rd.l) = 12) := by unfold Hid roundsE; rw [HML.out, if_pos h0]
    rw [HE.out]
    have q0 : ((xs.length : Int) == 0) = true := by rw [h0]; rfl
    clear hW hh hs
    generalize xs.length = n at *
    go_enter Tryz.func45, Tryz.ntmps45
    go_wp2_with fail
    go_ret
    exact ⟨rfl, (Gr.refl _).alloc _⟩
  have q0 : ((xs.length : Int) == 0) = false := beq_eq_false_iff_ne.2 (by omega)
  by_cases h6 : 6 < xs.length
  · have HE : Hid (roundsE (xs.map Rd.l) = 5) := by unfold Hid roundsE; rw [HML.out, if_neg (by omega), if_pos h6]
    rw [HE.out]
    have q1 : (6 : Int) < (xs.length : Int) := by omega
    clear hW hh hs
    generalize xs.length = n at *
    go_enter Tryz.func45, Tryz.ntmps45
    go_wp2_with fail
    go_ret
    exact ⟨rfl, by rw [HW.out]; exact g⟩
  have q1 : ¬ (6 : Int) < (xs.length : Int) := by omega
  obtain ⟨n, hn⟩ : ∃ n, xs.length = n + 1 := ⟨xs.length - 1, by omega⟩
  obtain ⟨x, hx⟩ : ∃ x, xs[n]? = some x := ⟨xs[n]'(by omega), List.getElem?_eq_getElem _⟩
  obtain ⟨b, off, rfl, hc⟩ := hh h0
  have hla := last_of hn hx
  have hxa := hc n x hx
  have hE : roundsE (xs.map Rd.l) = firstE [errG (rndE (xs.map Rd.l)) (xs.map Rd.l) xs.length 0, if decide (1 < x.l.length) then 20 else 0, if openR x.l then 24 else 0] := by
    unfold roundsE; rw [HML.out, if_neg (by omega), if_neg h6, hla]
  rw [errG_map] at hE
  have HK : Hid (∀ W2, Gr W W2 → Calls Tryz.prog 87 #[.slice (some ⟨b, off, none⟩) xs.length cap, .func (.func 88) #[] #[.pointer (some ⟨w.heap.size, 0, none⟩)]] W2 fun e w' => e = .returned (.int .i64 (errG (fun i (x : Rd) => rndE (xs.map Rd.l) i x.l) xs xs.length 0)) ∧ Gr W2 w') := by
    intro W2 g2
    exact eachRd_pos (fun i (x : Rd) => rndE (xs.map Rd.l) i x.l) xs xs.length b off cap w.heap.size W2 rfl (by omega) hcap hmx (fun i x hx => (hc i x hx).gr (g.trans g2)) (fun i x W3 hi hx hg => oneRd_c xs i xs.length b off cap w.heap.size x W3 hx rfl (by omega) hcap (fun i x hx => (hc i x hx).gr ((g.trans g2).trans hg)) hs ((g2.trans hg).cell l0)) (g2.cell l0)
  have HI := Lib.hid (fun V => if_c (decide (1 < x.l.length)) 20 V)
  have HD := Lib.hid (fun V (g : Gr w V) => checkDecided_c (hxa.ok.gr g).rav)
  have cx := hxa.nm
  have hxl := hxa.ok.len
  obtain ⟨z1, hz1⟩ : ∃ z, z = errG (fun i (x : Rd) => rndE (xs.map Rd.l) i x.l) xs xs.length 0 := ⟨_, rfl⟩
  obtain ⟨z2, hz2⟩ : ∃ z, z = (if decide (1 < x.l.length) then (20 : Int) else 0) := ⟨_, rfl⟩
  obtain ⟨z3, hz3⟩ : ∃ z, z = (if openR x.l then (24 : Int) else 0) := ⟨_, rfl⟩
  rw [← hz1, ← hz2, ← hz3] at hE
  rw [← hz1] at HK
  rw [← hz2] at HI
  rw [← hz3] at HD
  obtain ⟨z, hz⟩ : ∃ z, z = roundsE (xs.map Rd.l) := ⟨_, rfl⟩
  rw [← hz] at hE ⊢
  have HF : Hid (∀ b cap V, V.cell? ⟨b, 0, none⟩ = some (.int .i64 z1) → V.cell? ⟨b, 1, none⟩ = some (.int .i64 z2) → V.cell? ⟨b, 2, none⟩ = some (.int .i64 z3) → Calls Tryz.prog 41 #[.slice (some ⟨b, 0, none⟩) 3 cap] V fun e w' => e = .returned (.int .i64 z) ∧ V = w') := fun b cap V h0 h1 h2 => by rw [hE]; exact first_three z1 z2 z3 b cap V h0 h1 h2
  have hdl : decide (1 < x.l.length) = decide ((1 : Int) < (x.n : Int)) := by rw [← hxl]; exact decide_eq_decide.2 (by omega)
  rw [hdl] at HI
  replace cx := g.cell cx
  rw [hn] at l0 HW HK h6 q0 q1 h0 ⊢
  have hnn : ((n + 1 : Nat) : Int) - 1 = (n : Int) := by omega
  have hn1 : (n : Int) < ((n + 1 : Nat) : Int) := by omega
  clear hz1 hz2 hz3 hz hE hc hh hs hx hla hxa hW hn hdl
  go_enter Tryz.func45, Tryz.ntmps45
  go_wp2_with fail
  rw [HW.out]
  refine (HK.out _ (Gr.refl _)).mono ?_
  rintro e W1 ⟨rfl, g1⟩
  have G1 := Lib.hid (g.trans g1)
  replace cx := g1.cell cx
  replace l0 := g1.cell l0
  clear g1
  go_wp2_with fail
  refine (HI.out _).mono ?_
  rintro e W2 ⟨rfl, rfl⟩
  go_wp2_with fail
  refine (HD.out _ G1.out).mono ?_
  rintro e W3 ⟨rfl, g3⟩
  obtain ⟨W4, hW4, g4, s0, s1, s2⟩ := box3 W3 (.int .i64 z1) (.int .i64 z2) (.int .i64 z3) 31
  have HF1 := Lib.hid (HF.out _ 3 W4 s0 s1 s2)
  have HW4 := Lib.hid hW4
  have G4 := Lib.hid (G1.out.trans (g3.trans g4))
  clear hW4 g3 g4 s0 s1 s2 cx
  go_wp2_with fail
  rw [HW4.out]
  refine HF1.out.mono ?_
  rintro e W5 ⟨rfl, rfl⟩
  go_wp2_with fail
  go_ret
  exact ⟨rfl, G4.out⟩
end Go.Proofs.YthfmgficbnmmnaaGreatDoor
namespace Go.Proofs.YthfmgficbnmmnaaGreatDoor
open Go.RowKit Go.Lib
set_option linter.unusedSimpArgs false
set_option linter.unusedVariables false
set_option maxHeartbeats 4000000 in
set_option maxRecDepth 100000 in
theorem refSameRa_c (l m : List RaR) (p q : Option Addr) (n k c c2 : Nat) (w : World) (hl : RaS w p l) (hm : RaS w q m) (hln : l.length = n) (hmk : m.length = k) (hn : n ≤ 1000) :
    Calls Tryz.prog 50 #[.slice p n c, .slice q k c2] w fun e w' => e = .returned (.bool (sameR l m)) ∧ Gr w w' := by
  have HL := Lib.hid hl.out
  have HM := Lib.hid hm.out
  have HLN := Lib.hid hln
  have HMK := Lib.hid hmk
  clear hl hm hln hmk
  by_cases hnk : n = k
  · subst hnk
    have HS : Hid (sameR l m = allR l m n) := by rw [Hid, sameR, HLN.out, HMK.out, beq_self_eq_true, Bool.true_and]
    have t0 : ((n : Int) != (n : Int)) = false := bne_self_eq_false _
    go_enter Tryz.func50, Tryz.ntmps50
    go_wp2_with fail
    go_loopg [5] n (fun gk s5 wr => ∃ i : Nat, s5 = .int .i64 (i : Int) ∧ gk + i = n ∧ Hid (Gr w wr) ∧ Hid (allR l m i = true))
    case atStart => exact ⟨0, rfl, by omega, Gr.refl _, rfl⟩
    case round =>
      obtain ⟨i, rfl, hgk, HG, HA⟩ := hrel
      by_cases hlt : i < n
      · obtain ⟨x, hx⟩ : ∃ x, l[i]? = some x := ⟨l[i]'(by have := HLN.out; omega), List.getElem?_eq_getElem _⟩
        obtain ⟨y, hy⟩ : ∃ y, m[i]? = some y := ⟨m[i]'(by have := HMK.out; omega), List.getElem?_eq_getElem _⟩
        obtain ⟨b, off, rfl, hc⟩ := HL.out (by have := HLN.out; omega)
        obtain ⟨b2, off2, rfl, hc2⟩ := HM.out (by have := HMK.out; omega)
        obtain ⟨a0, a1, _⟩ := hc i x hx
        obtain ⟨d0, d1, _⟩ := hc2 i y hy
        replace a0 := Gr.cell HG.out a0
        replace a1 := Gr.cell HG.out a1
        replace d0 := Gr.cell HG.out d0
        replace d1 := Gr.cell HG.out d1
        have hlt2 : (i : Int) < (n : Int) := by omega
        have HST := Lib.hid (allR_step hx hy)
        have HAL := Lib.hid (fun h => allR_false (n := n) (i := i) (l := l) (m := m) hlt h)
        obtain ⟨xa, xb, xw⟩ := x
        obtain ⟨ya, yb, yw⟩ := y
        simp only at a0 a1 d0 d1 HST
        clear hx hy hc hc2
        have hq : ((xa.toList == ya.toList) = false) ∨ ((xa.toList == ya.toList) = true ∧ (xb.toList == yb.toList) = false) ∨ ((xa.toList == ya.toList) = true ∧ (xb.toList == yb.toList) = true) := by
          cases (xa.toList == ya.toList) <;> cases (xb.toList == yb.toList) <;> simp
        rcases hq with q1 | ⟨q1, q2⟩ | ⟨q1, q2⟩
        · rw [q1, Bool.false_and, Bool.and_false] at HST
          have HF : Hid (allR l m n = false) := HAL.out HST.out
          go_wp2_with fail
          go_big_quiet (fail)
          go_wp2_with fail
          go_ret
          exact ⟨by rw [HS.out, HF.out]; rfl, HG.out.drewN _⟩
        · rw [q1, q2, Bool.and_false, Bool.and_false] at HST
          have HF : Hid (allR l m n = false) := HAL.out HST.out
          go_wp2_with fail
          go_big_quiet (fail)
          go_wp2_with fail
          go_ret
          exact ⟨by rw [HS.out, HF.out]; rfl, HG.out.drewN _⟩
        · rw [q1, q2, Bool.and_true, Bool.and_true] at HST
          have HT : Hid (allR l m (i + 1) = true) := by rw [Hid, HST.out, HA.out]
          go_wp2_with fail
          go_big_quiet (fail)
          go_wp2_with fail
          go_roundg (gk - 1)
          case measure => omega
          case rel => exact ⟨i + 1, by go_num, by omega, HG.out.drewN _, HT⟩
      · obtain rfl : n = i := by omega
        have hlt2 : ¬ (n : Int) < (n : Int) := by omega
        go_wp2_with fail
        go_ret
        exact ⟨by rw [HS.out, HA.out]; rfl, HG.out⟩
  · have HS : Hid (sameR l m = false) := by
      unfold Hid sameR
      rw [show (l.length == m.length) = false from beq_eq_false_iff_ne.2 (by rw [HLN.out, HMK.out]; exact hnk), Bool.false_and]
    have t0 : ((n : Int) != (k : Int)) = true := bne_iff_ne.2 (by omega)
    go_enter Tryz.func50, Tryz.ntmps50
    go_wp2_with fail
    go_ret
    exact ⟨by rw [HS.out]; rfl, Gr.refl _⟩
theorem behE_two {last l : List RaR} (h : ¬ 2 * l.length = last.length) : behE last l = 2 := by
  unfold behE
  rw [if_pos (bne_iff_ne.2 (by omega))]
  rfl
theorem behE_open {last l : List RaR} (h : 2 * l.length = last.length) (ho : openR last = true) : behE last l = 24 := by
  unfold behE
  rw [if_neg (by simp; omega), ho]
  rfl
theorem behE_same {last l : List RaR} (h : 2 * l.length = last.length) (ho : openR last = false) : behE last l = if sameR l (pairR (last.map winR)) then 0 else 29 := by
  unfold behE
  rw [if_neg (by simp; omega), ho]
  cases sameR l (pairR (last.map winR)) <;> rfl
set_option maxHeartbeats 4000000 in
set_option maxRecDepth 100000 in
theorem refCheckRounds_c (xs : List Rd) (v : Value) (w : World) (hv : RdAts w v xs) (hs : ∀ x ∈ xs, x.l.length ≤ 34) :
    Calls Tryz.prog 14 #[v] w fun e w' => e = .returned (.int .i64 (roundsE (xs.map Rd.l))) ∧ Gr w w' := by
  obtain ⟨⟨p, cap, rfl, ⟨hcap, hmx⟩, hh⟩⟩ := hv
  have HML : Hid ((xs.map Rd.l).length = xs.length) := List.length_map ..
  rcases Nat.eq_zero_or_pos xs.length with h0 | h0
  · have HE : Hid (roundsE (xs.map Rd.l) = 12) := by unfold Hid roundsE; rw [HML.out, if_pos h0]
    rw [HE.out]
    have q0 : ((xs.length : Int) == 0) = true := by rw [h0]; rfl
    clear hh hs
    generalize xs.length = n at *
    go_enter Tryz.func14, Tryz.ntmps14
    go_wp2_with fail
    go_ret
    exact ⟨rfl, Gr.refl _⟩
  have q0 : ((xs.length : Int) == 0) = false := beq_eq_false_iff_ne.2 (by omega)
  by_cases h6 : 6 < xs.length
  · have HE : Hid (roundsE (xs.map Rd.l) = 5) := by unfold Hid roundsE; rw [HML.out, if_neg (by omega), if_pos h6]
    rw [HE.out]
    have q1 : (6 : Int) < (xs.length : Int) := by omega
    clear hh hs
    generalize xs.length = n at *
    go_enter Tryz.func14, Tryz.ntmps14
    go_wp2_with fail
    go_ret
    exact ⟨rfl, Gr.refl _⟩
  have q1 : ¬ (6 : Int) < (xs.length : Int) := by omega
  obtain ⟨m, hm⟩ : ∃ m, xs.length = m + 1 := ⟨xs.length - 1, by omega⟩
  obtain ⟨xl, hxl⟩ : ∃ x, xs[m]? = some x := ⟨xs[m]'(by omega), List.getElem?_eq_getElem _⟩
  obtain ⟨b, off, rfl, hc⟩ := hh h0
  have hla := last_of hm hxl
  have hE : roundsE (xs.map Rd.l) = firstE [errG (fun i (x : Rd) => rndE (xs.map Rd.l) i x.l) xs xs.length 0, if decide (1 < xl.l.length) then 20 else 0, if openR xl.l then 24 else 0] := by
    unfold roundsE; rw [HML.out, if_neg (by omega), if_neg h6, hla, errG_map]
  have HE := Lib.hid hE
  have HC := Lib.hid hc
  have HSS := Lib.hid hs
  have HXL := Lib.hid hxl
  obtain ⟨n, hn⟩ : ∃ n, n = xs.length := ⟨_, rfl⟩
  rw [← hn] at HE h6 q0 q1 h0 hcap hm ⊢
  have HN := Lib.hid hn
  have HM := Lib.hid hm
  clear hE hc hs hn hh hxl hla HML hm
  go_enter Tryz.func14, Tryz.ntmps14
  go_wp2_with fail
  go_loopg [3] n (fun gk s3 wr => ∃ i : Nat, s3 = .int .i64 (i : Int) ∧ gk + i = n ∧ Hid (Gr w wr) ∧ Hid (errG (fun i (x : Rd) => rndE (xs.map Rd.l) i x.l) xs (n - i) i = errG (fun i (x : Rd) => rndE (xs.map Rd.l) i x.l) xs n 0))
  case atStart => exact ⟨0, rfl, by omega, Gr.refl _, rfl⟩
  case round =>
    obtain ⟨i, rfl, hgk, HG, HF⟩ := hrel
    by_cases hlt : i < n
    · obtain ⟨x, hx⟩ : ∃ x, xs[i]? = some x := ⟨xs[i]'(by have := HN.out; omega), List.getElem?_eq_getElem _⟩
      have hxa := (HC.out i x hx).gr HG.out
      have hx34 := HSS.out x (List.mem_of_getElem? hx)
      have cx := hxa.nm
      have hlt2 : (i : Int) < (n : Int) := by omega
      have HRC := Lib.hid (refCheckRaces_c x.l _ wr hxa.ok.rav hx34)
      have hstep := errG_step (E := fun i (x : Rd) => rndE (xs.map Rd.l) i x.l) hlt hx
      have HSTEP : Hid (∀ z, z ≠ 0 → rndE (xs.map Rd.l) i x.l = z → roundsE (xs.map Rd.l) = z) := fun z hz h => by
        rw [HE.out, ← HF.out, hstep, h, if_neg hz]
        unfold firstE
        rw [if_neg hz]
      have HNEXT : Hid (rndE (xs.map Rd.l) i x.l = 0 → errG (fun i (x : Rd) => rndE (xs.map Rd.l) i x.l) xs (n - (i + 1)) (i + 1) = errG (fun i (x : Rd) => rndE (xs.map Rd.l) i x.l) xs n 0) := fun h => by
        rw [← HF.out, hstep, h, if_pos rfl]
      have HXA := Lib.hid hxa
      have hxlen := hxa.ok.len
      clear hstep hxa
      by_cases he : racesE x.l = 0
      · rw [he] at HRC
        by_cases hi0 : i = 0
        · have HZ : Hid (rndE (xs.map Rd.l) i x.l = 0) := by unfold Hid rndE; rw [if_pos he, if_pos hi0]
          have HF2 := Lib.hid (HNEXT.out HZ.out)
          have hii : ((i : Int) == 0) = true := by rw [hi0]; rfl
          clear hx he
          subst hi0
          rw [Nat.add_zero] at cx
          go_wp2_with fail
          refine HRC.out.mono ?_
          rintro e W1 ⟨rfl, g1⟩
          have G1 := Lib.hid (HG.out.trans g1)
          clear g1
          go_wp2_with fail
          go_roundg (gk - 1)
          case measure => omega
          case rel => exact ⟨0 + 1, by go_num, by omega, G1.out, HF2⟩
        · obtain ⟨j, rfl⟩ : ∃ j, i = j + 1 := ⟨i - 1, by omega⟩
          obtain ⟨y, hy⟩ : ∃ y, xs[j]? = some y := ⟨xs[j]'(by have := HN.out; omega), List.getElem?_eq_getElem _⟩
          have hya := HC.out j y hy
          have cy := Gr.cell HG.out hya.nm
          have hyl := hya.ok.len
          have HR : rndE (xs.map Rd.l) (j + 1) x.l = behE y.l x.l := by
            unfold rndE
            rw [if_pos he, if_neg (by omega), Nat.add_sub_cancel, List.getD_eq_getElem?_getD, List.getElem?_map, hy]
            rfl
          rw [HR] at HSTEP HNEXT
          have hN : 1 ≤ x.l.length := by
            rcases (racesE_zero he).1 with h | ⟨N, h, h2, _⟩ <;> omega
          have HOP := Lib.hid (fun V (g : Gr w V) => refOpenR_c (hya.ok.gr g).rav)
          have HNX := Lib.hid (fun V (g : Gr w V) (h : y.l.length = 2 * x.l.length) => refNext_c x.l.length (hya.ok.gr g).rav h (by omega))
          have HSM := Lib.hid (fun V (g : Gr wr V) (q : Option Addr) (c2 : Nat) (hr : RaS V q (pairR (y.l.map winR))) (hl : (pairR (y.l.map winR)).length = x.l.length) => refSameRa_c x.l (pairR (y.l.map winR)) x.p q x.n x.l.length x.c c2 V (HXA.out.ok.ra.gr g) hr hxlen hl (by omega))
          have HB2 := Lib.hid (fun h => behE_two (last := y.l) (l := x.l) h)
          have HBO := Lib.hid (fun h ho => behE_open (last := y.l) (l := x.l) h ho)
          have HBS := Lib.hid (fun h ho => behE_same (last := y.l) (l := x.l) h ho)
          have hji : ((j + 1 : Nat) : Int) - 1 = (j : Int) := by omega
          have hjl : (j : Int) < (n : Int) := by omega
          have wj : IntKind.i64.wrap (j : Int) = (j : Int) := by rw [IntKind.wrap_i64]; omega
          have hj0 : ¬ ((j : Int) + 1 < 0) := by omega
          have hj00 : (0 : Int) ≤ (j : Int) + 1 := by omega
          have hii : (((j + 1 : Nat) : Int) == 0) = false := beq_eq_false_iff_ne.2 (by omega)
          have hpl : y.l.length = 2 * x.l.length → (pairR (y.l.map winR)).length = x.l.length := fun h => pairR_len _ _ (by rw [List.length_map]; exact h)
          have HPL := Lib.hid hpl
          rw [hxlen] at hx34 hN HSM HPL HNX HB2 HBO HBS
          rw [hyl] at HNX HPL HB2 HBO HBS
          generalize sameR x.l (pairR (y.l.map winR)) = sm at *
          generalize hres : pairR (y.l.map winR) = res at *
          generalize openR y.l = oy at *
          generalize behE y.l x.l = be at *
          clear hx hy hya he hi0 HR hpl hres
          go_wp2_with fail
          refine HRC.out.mono ?_
          rintro e W1 ⟨rfl, g1⟩
          have G1 := Lib.hid (HG.out.trans g1)
          replace cx := g1.cell cx
          replace cy := g1.cell cy
          have L1 := Lib.hid g1
          clear g1
          go_wp2_with fail
          go_big_quiet (fail)
          have gq : Gr W1 (W1.drewN nq) := (Gr.refl W1).drewN nq
          have cx := gq.cell cx
          have cy := gq.cell cy
          have G2 := Lib.hid (G1.out.trans gq)
          have L2 := Lib.hid (L1.out.trans gq)
          generalize W1.drewN nq = W2 at *
          clear gq G1 L1
          by_cases h2 : 2 * x.n = y.n
          · have t2 : ((2 * (x.n : Int)) != (y.n : Int)) = false := by rw [show 2 * (x.n : Int) = (y.n : Int) by omega]; exact bne_self_eq_false _
            have HNX2 : Hid (∀ V, Gr w V → _) := fun V g => HNX.out V g h2.symm
            have HLR : Hid (res.length = x.n) := HPL.out h2.symm
            have HBO2 := Lib.hid (fun ho => HBO.out h2 ho)
            have HBS2 := Lib.hid (fun ho => HBS.out h2 ho)
            clear HNX HPL HB2 HBO HBS h2
            cases oy
            · have HBE := HBS2.out rfl
              clear HBS2 HBO2
              go_wp2_with fail
              refine (HOP.out _ G2.out).mono ?_
              rintro e W3 ⟨rfl, rfl⟩
              go_wp2_with fail
              have gd := (Gr.refl W2).drew
              replace cx := gd.cell cx
              replace cy := gd.cell cy
              have GV := Lib.hid (G2.out.trans gd)
              have LV := Lib.hid (L2.out.trans gd)
              have HNX := HNX2
              cases sm
              · have HR := Lib.hid (HSTEP.out 29 (by decide) HBE)
                refine wp_region_held_drew (S := (fun w' => w'.cell? ⟨b, off + (j + 1), none⟩ = some (.slice x.p x.n x.c) ∧ w'.cell? ⟨b, off + j, none⟩ = some (.slice y.p y.n y.c))) (by kernel_rfl) ⟨cx, cy⟩ (fun hHeld => ?_)
                generalize W2.drew = V at *
                refine wpAnyH_take (i := 0) (v := (.slice (some ⟨b, off, none⟩) n cap)) (op_at rfl) (by kernel_rfl) (by kernel_rfl) (by kernel_rfl) (fun _ _ _ h => h) (Or.inl ⟨rfl, fun w hSw => ?_⟩) (by assumption) ?_
                · (try dsimp only at hSw); go_simp; try with_reducible rfl
                (try simp only [Act.put, List.setIfInBounds_toArray, List.set_cons_zero, List.set_cons_succ])
                refine wpAnyH_take (i := 1) (v := (.int .i64 ((j + 1 : Nat) : Int))) (op_at rfl) (by kernel_rfl) (by kernel_rfl) (by kernel_rfl) (fun _ _ _ h => h) (Or.inl ⟨rfl, fun w hSw => ?_⟩) (by assumption) ?_
                · (try dsimp only at hSw); go_simp; try with_reducible rfl
                (try simp only [Act.put, List.setIfInBounds_toArray, List.set_cons_zero, List.set_cons_succ])
                refine wpAnyH_take (i := 2) (v := (.pointer (some ⟨b, off + (j + 1), none⟩))) (op_at rfl) (by kernel_rfl) (by kernel_rfl) (by kernel_rfl) (fun _ _ _ h => h) (Or.inl ⟨rfl, fun w hSw => ?_⟩) (by assumption) ?_
                · (try dsimp only at hSw); go_simp; try with_reducible rfl
                (try simp only [Act.put, List.setIfInBounds_toArray, List.set_cons_zero, List.set_cons_succ])
                refine wpAnyH_take (i := 3) (v := (.slice x.p x.n x.c)) (op_at rfl) (by kernel_rfl) (by kernel_rfl) (by kernel_rfl) (fun _ _ _ h => h) (Or.inl ⟨rfl, fun w hSw => ?_⟩) (by assumption) ?_
                · (try dsimp only at hSw); go_simp; try with_reducible rfl
                (try simp only [Act.put, List.setIfInBounds_toArray, List.set_cons_zero, List.set_cons_succ])
                refine wpAnyH_take (i := 4) (v := (.slice (some ⟨b, off, none⟩) n cap)) (op_at rfl) (by kernel_rfl) (by kernel_rfl) (by kernel_rfl) (fun _ _ _ h => h) (Or.inl ⟨rfl, fun w hSw => ?_⟩) (by assumption) ?_
                · (try dsimp only at hSw); go_simp; try with_reducible rfl
                (try simp only [Act.put, List.setIfInBounds_toArray, List.set_cons_zero, List.set_cons_succ])
                refine wpAnyH_take (i := 5) (v := (.int .i64 ((j + 1 : Nat) : Int))) (op_at rfl) (by kernel_rfl) (by kernel_rfl) (by kernel_rfl) (fun _ _ _ h => h) (Or.inl ⟨rfl, fun w hSw => ?_⟩) (by assumption) ?_
                · (try dsimp only at hSw); go_simp; try with_reducible rfl
                (try simp only [Act.put, List.setIfInBounds_toArray, List.set_cons_zero, List.set_cons_succ])
                refine wpAnyH_take (i := 6) (v := (.int .i64 (j : Int))) (op_at rfl) (by kernel_rfl) (by kernel_rfl) (by kernel_rfl) (fun _ _ _ h => h) (Or.inl ⟨rfl, fun w hSw => ?_⟩) (by assumption) ?_
                · (try dsimp only at hSw); go_simp; try with_reducible rfl
                (try simp only [Act.put, List.setIfInBounds_toArray, List.set_cons_zero, List.set_cons_succ])
                refine wpAnyH_take (i := 7) (v := (.pointer (some ⟨b, off + j, none⟩))) (op_at rfl) (by kernel_rfl) (by kernel_rfl) (by kernel_rfl) (fun _ _ _ h => h) (Or.inl ⟨rfl, fun w hSw => ?_⟩) (by assumption) ?_
                · (try dsimp only at hSw); go_simp; try with_reducible rfl
                (try simp only [Act.put, List.setIfInBounds_toArray, List.set_cons_zero, List.set_cons_succ])
                refine wpAnyH_take (i := 8) (v := (.slice y.p y.n y.c)) (op_at rfl) (by kernel_rfl) (by kernel_rfl) (by kernel_rfl) (fun _ _ _ h => h) (Or.inl ⟨rfl, fun w hSw => ?_⟩) (by assumption) ?_
                · (try dsimp only at hSw); go_simp; try with_reducible rfl
                (try simp only [Act.put, List.setIfInBounds_toArray, List.set_cons_zero, List.set_cons_succ])
                refine wpAnyH_ready (rs := [9]) (by kernel_rfl) (by simp) (AllReadyH.cons (op_at rfl) (fun K hK => ?_) AllReadyH.nil)
                go_simp
                (refine (HNX.out _ GV.out).mono ?_; rintro e V1 ⟨u9, rfl, ho, hg⟩; obtain ⟨q9, c9, rfl, _, _⟩ := own_shape ho; have HRA := Lib.hid (RaS.of_own ho HLR.out); replace cx := Gr.cell hg cx; replace cy := Gr.cell hg cy; have GV1 := Lib.hid (GV.out.trans hg); have LV1 := Lib.hid (LV.out.trans hg); clear hg ho)
                go_wp2_with fail
                refine hK.out _ _ ⟨cx, cy⟩ (fun hHeld => ?_)
                clear hK K
                (try simp only [Act.put, List.setIfInBounds_toArray, List.set_cons_zero, List.set_cons_succ])
                refine wpAnyH_ready (rs := [10]) (by kernel_rfl) (by simp) (AllReadyH.cons (op_at rfl) (fun K hK => ?_) AllReadyH.nil)
                go_simp
                (refine (HSM.out _ LV1.out q9 c9 HRA.out HLR.out).mono ?_; rintro e V2 ⟨rfl, hg⟩; replace cx := Gr.cell hg cx; replace cy := Gr.cell hg cy; have GV2 := Lib.hid (GV1.out.trans hg); clear hg)
                go_wp2_with fail
                refine hK.out _ _ ⟨cx, cy⟩ (fun hHeld => ?_)
                clear hK K
                (try simp only [Act.put, List.setIfInBounds_toArray, List.set_cons_zero, List.set_cons_succ])
                refine wpAnyH_take (i := 11) (v := (.bool true)) (op_at rfl) (by kernel_rfl) (by kernel_rfl) (by kernel_rfl) (fun _ _ _ h => h) (Or.inl ⟨rfl, fun w hSw => ?_⟩) (by assumption) ?_
                · (try dsimp only at hSw); go_simp; try with_reducible rfl
                (try simp only [Act.put, List.setIfInBounds_toArray, List.set_cons_zero, List.set_cons_succ])
                refine wpAnyH_done (by kernel_rfl) ?_ _
                go_wp2_with fail
                go_ret
                exact ⟨by rw [HR.out]; rfl, GV2.out⟩
              · have HF2 := Lib.hid (HNEXT.out HBE)
                refine wp_region_held_drew (S := (fun w' => w'.cell? ⟨b, off + (j + 1), none⟩ = some (.slice x.p x.n x.c) ∧ w'.cell? ⟨b, off + j, none⟩ = some (.slice y.p y.n y.c))) (by kernel_rfl) ⟨cx, cy⟩ (fun hHeld => ?_)
                generalize W2.drew = V at *
                refine wpAnyH_take (i := 0) (v := (.slice (some ⟨b, off, none⟩) n cap)) (op_at rfl) (by kernel_rfl) (by kernel_rfl) (by kernel_rfl) (fun _ _ _ h => h) (Or.inl ⟨rfl, fun w hSw => ?_⟩) (by assumption) ?_
                · (try dsimp only at hSw); go_simp; try with_reducible rfl
                (try simp only [Act.put, List.setIfInBounds_toArray, List.set_cons_zero, List.set_cons_succ])
                refine wpAnyH_take (i := 1) (v := (.int .i64 ((j + 1 : Nat) : Int))) (op_at rfl) (by kernel_rfl) (by kernel_rfl) (by kernel_rfl) (fun _ _ _ h => h) (Or.inl ⟨rfl, fun w hSw => ?_⟩) (by assumption) ?_
                · (try dsimp only at hSw); go_simp; try with_reducible rfl
                (try simp only [Act.put, List.setIfInBounds_toArray, List.set_cons_zero, List.set_cons_succ])
                refine wpAnyH_take (i := 2) (v := (.pointer (some ⟨b, off + (j + 1), none⟩))) (op_at rfl) (by kernel_rfl) (by kernel_rfl) (by kernel_rfl) (fun _ _ _ h => h) (Or.inl ⟨rfl, fun w hSw => ?_⟩) (by assumption) ?_
                · (try dsimp only at hSw); go_simp; try with_reducible rfl
                (try simp only [Act.put, List.setIfInBounds_toArray, List.set_cons_zero, List.set_cons_succ])
                refine wpAnyH_take (i := 3) (v := (.slice x.p x.n x.c)) (op_at rfl) (by kernel_rfl) (by kernel_rfl) (by kernel_rfl) (fun _ _ _ h => h) (Or.inl ⟨rfl, fun w hSw => ?_⟩) (by assumption) ?_
                · (try dsimp only at hSw); go_simp; try with_reducible rfl
                (try simp only [Act.put, List.setIfInBounds_toArray, List.set_cons_zero, List.set_cons_succ])
                refine wpAnyH_take (i := 4) (v := (.slice (some ⟨b, off, none⟩) n cap)) (op_at rfl) (by kernel_rfl) (by kernel_rfl) (by kernel_rfl) (fun _ _ _ h => h) (Or.inl ⟨rfl, fun w hSw => ?_⟩) (by assumption) ?_
                · (try dsimp only at hSw); go_simp; try with_reducible rfl
                (try simp only [Act.put, List.setIfInBounds_toArray, List.set_cons_zero, List.set_cons_succ])
                refine wpAnyH_take (i := 5) (v := (.int .i64 ((j + 1 : Nat) : Int))) (op_at rfl) (by kernel_rfl) (by kernel_rfl) (by kernel_rfl) (fun _ _ _ h => h) (Or.inl ⟨rfl, fun w hSw => ?_⟩) (by assumption) ?_
                · (try dsimp only at hSw); go_simp; try with_reducible rfl
                (try simp only [Act.put, List.setIfInBounds_toArray, List.set_cons_zero, List.set_cons_succ])
                refine wpAnyH_take (i := 6) (v := (.int .i64 (j : Int))) (op_at rfl) (by kernel_rfl) (by kernel_rfl) (by kernel_rfl) (fun _ _ _ h => h) (Or.inl ⟨rfl, fun w hSw => ?_⟩) (by assumption) ?_
                · (try dsimp only at hSw); go_simp; try with_reducible rfl
                (try simp only [Act.put, List.setIfInBounds_toArray, List.set_cons_zero, List.set_cons_succ])
                refine wpAnyH_take (i := 7) (v := (.pointer (some ⟨b, off + j, none⟩))) (op_at rfl) (by kernel_rfl) (by kernel_rfl) (by kernel_rfl) (fun _ _ _ h => h) (Or.inl ⟨rfl, fun w hSw => ?_⟩) (by assumption) ?_
                · (try dsimp only at hSw); go_simp; try with_reducible rfl
                (try simp only [Act.put, List.setIfInBounds_toArray, List.set_cons_zero, List.set_cons_succ])
                refine wpAnyH_take (i := 8) (v := (.slice y.p y.n y.c)) (op_at rfl) (by kernel_rfl) (by kernel_rfl) (by kernel_rfl) (fun _ _ _ h => h) (Or.inl ⟨rfl, fun w hSw => ?_⟩) (by assumption) ?_
                · (try dsimp only at hSw); go_simp; try with_reducible rfl
                (try simp only [Act.put, List.setIfInBounds_toArray, List.set_cons_zero, List.set_cons_succ])
                refine wpAnyH_ready (rs := [9]) (by kernel_rfl) (by simp) (AllReadyH.cons (op_at rfl) (fun K hK => ?_) AllReadyH.nil)
                go_simp
                (refine (HNX.out _ GV.out).mono ?_; rintro e V1 ⟨u9, rfl, ho, hg⟩; obtain ⟨q9, c9, rfl, _, _⟩ := own_shape ho; have HRA := Lib.hid (RaS.of_own ho HLR.out); replace cx := Gr.cell hg cx; replace cy := Gr.cell hg cy; have GV1 := Lib.hid (GV.out.trans hg); have LV1 := Lib.hid (LV.out.trans hg); clear hg ho)
                go_wp2_with fail
                refine hK.out _ _ ⟨cx, cy⟩ (fun hHeld => ?_)
                clear hK K
                (try simp only [Act.put, List.setIfInBounds_toArray, List.set_cons_zero, List.set_cons_succ])
                refine wpAnyH_ready (rs := [10]) (by kernel_rfl) (by simp) (AllReadyH.cons (op_at rfl) (fun K hK => ?_) AllReadyH.nil)
                go_simp
                (refine (HSM.out _ LV1.out q9 c9 HRA.out HLR.out).mono ?_; rintro e V2 ⟨rfl, hg⟩; replace cx := Gr.cell hg cx; replace cy := Gr.cell hg cy; have GV2 := Lib.hid (GV1.out.trans hg); clear hg)
                go_wp2_with fail
                refine hK.out _ _ ⟨cx, cy⟩ (fun hHeld => ?_)
                clear hK K
                (try simp only [Act.put, List.setIfInBounds_toArray, List.set_cons_zero, List.set_cons_succ])
                refine wpAnyH_take (i := 11) (v := (.bool false)) (op_at rfl) (by kernel_rfl) (by kernel_rfl) (by kernel_rfl) (fun _ _ _ h => h) (Or.inl ⟨rfl, fun w hSw => ?_⟩) (by assumption) ?_
                · (try dsimp only at hSw); go_simp; try with_reducible rfl
                (try simp only [Act.put, List.setIfInBounds_toArray, List.set_cons_zero, List.set_cons_succ])
                refine wpAnyH_done (by kernel_rfl) ?_ _
                go_wp2_with fail
                go_roundg (gk - 1)
                case measure => omega
                case rel => exact ⟨j + 1 + 1, by go_num, by omega, GV2.out, HF2⟩
            · have HR := Lib.hid (HSTEP.out 24 (by decide) (HBO2.out rfl))
              go_wp2_with fail
              refine (HOP.out _ G2.out).mono ?_
              rintro e W3 ⟨rfl, rfl⟩
              go_wp2_with fail
              go_ret
              exact ⟨by rw [HR.out]; rfl, G2.out⟩
          · have t2 : ((2 * (x.n : Int)) != (y.n : Int)) = true := bne_iff_ne.2 (by omega)
            have HR := Lib.hid (HSTEP.out 2 (by decide) (HB2.out h2))
            clear h2
            go_wp2_with fail
            go_ret
            exact ⟨by rw [HR.out]; rfl, G2.out⟩
      · have HZ : Hid (rndE (xs.map Rd.l) i x.l = racesE x.l) := by unfold Hid rndE; rw [if_neg he]
        have HR := Lib.hid (HSTEP.out _ he HZ.out)
        have q2 : (racesE x.l != 0) = true := bne_iff_ne.2 he
        generalize racesE x.l = z at *
        clear hx he
        go_wp2_with fail
        refine HRC.out.mono ?_
        rintro e W1 ⟨rfl, g1⟩
        go_wp2_with fail
        go_ret
        exact ⟨by rw [HR.out]; rfl, HG.out.trans g1⟩
    · obtain rfl : n = i := by omega
      have hlt2 : ¬ (n : Int) < (n : Int) := by omega
      have hm := HM.out
      subst hm
      have hxa := (HC.out m xl HXL.out).gr HG.out
      have cx := hxa.nm
      have hOP := refOpenR_c hxa.ok.rav
      have hll := hxa.ok.len
      have hE2 : roundsE (xs.map Rd.l) = firstE [0, if decide (1 < xl.l.length) then 20 else 0, if openR xl.l then 24 else 0] := by
        rw [HE.out, ← HF.out, Nat.sub_self]; rfl
      have hnn : ((m + 1 : Nat) : Int) - 1 = (m : Int) := by omega
      have hn1 : (m : Int) < ((m + 1 : Nat) : Int) := by omega
      rw [hll] at hE2
      have HOP := Lib.hid hOP
      have HE2 := Lib.hid hE2
      clear hxa hOP hE2 hll
      by_cases h1 : 1 < xl.n
      · have h1i : (1 : Int) < (xl.n : Int) := by omega
        have HZ : Hid (roundsE (xs.map Rd.l) = 20) := by rw [Hid, HE2.out, decide_eq_true h1]; rfl
        go_wp2_with fail
        go_ret
        exact ⟨by rw [HZ.out]; rfl, HG.out⟩
      · have h1i : ¬ (1 : Int) < (xl.n : Int) := by omega
        cases ho : openR xl.l
        · have HZ : Hid (roundsE (xs.map Rd.l) = 0) := by rw [Hid, HE2.out, decide_eq_false h1, ho]; rfl
          rw [ho] at HOP
          go_wp2_with fail
          refine HOP.out.mono ?_
          rintro e W1 ⟨rfl, rfl⟩
          go_wp2_with fail
          go_ret
          exact ⟨by rw [HZ.out]; rfl, HG.out⟩
        · have HZ : Hid (roundsE (xs.map Rd.l) = 24) := by rw [Hid, HE2.out, decide_eq_false h1, ho]; rfl
          rw [ho] at HOP
          go_wp2_with fail
          refine HOP.out.mono ?_
          rintro e W1 ⟨rfl, rfl⟩
          go_wp2_with fail
          go_ret
          exact ⟨by rw [HZ.out]; rfl, HG.out⟩
end Go.Proofs.YthfmgficbnmmnaaGreatDoor
