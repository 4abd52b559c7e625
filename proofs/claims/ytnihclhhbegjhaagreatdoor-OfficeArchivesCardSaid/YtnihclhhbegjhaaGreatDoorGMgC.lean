/- Archives (chapter 10): the program's merged. -/
import Derived.Deep.CutBlock
import Derived.Test.YtnihclhhbegjhaaGreatDoorGOvU
import Derived.Shelf.SlSortCmp.InsertionK
namespace Go.Proofs.YtnihclhhbegjhaaGreatDoor
open Go.RowKit Go.Lib
set_option linter.unusedSimpArgs false
set_option linter.unusedVariables false
theorem en_none {w : World} {q : Option Addr} {l : List EnR} (h : EnS w q l) (hq : q = none) : l.length = 0 := by
  rcases Nat.eq_zero_or_pos l.length with h0 | h0
  · exact h0
  · obtain ⟨b, off, e, _⟩ := h.out h0
    rw [hq] at e; cases e
theorem en_news {w : World} {q : Option Addr} {l : List EnR} (h : EnS w q l) : ∀ ad, q = some ad → ∀ (j : Nat) (u : Value), (enCs l)[j]? = some u → w.cell? (ad.add j) = some u := fun ad e j u hu => by
  have h0 : 0 < l.length := by
    rcases Nat.eq_zero_or_pos l.length with h0 | h0
    · rw [List.eq_nil_of_length_eq_zero h0] at hu; simp [enCs] at hu
    · exact h0
  obtain ⟨b, off, e2, hc⟩ := h.out h0
  rw [e] at e2; cases e2
  exact en_cells hc j u hu
theorem en_tail {w : World} {b off c : Nat} {x : EnR} {l : List EnR} (h : EnS w (some ⟨b, off, none⟩) (x :: l)) (hc : l.length + 1 ≤ c) : EnS w (if c = 1 then some ⟨b, off, none⟩ else some ⟨b, off + 7, none⟩) l := ⟨fun h0 => by
  obtain ⟨b', off', e, hh⟩ := h.out (by simp)
  cases e
  refine ⟨b, off + 7, by rw [if_neg (by omega)], fun i e he => ?_⟩
  have := hh (i + 1) e (by simpa using he)
  rwa [show off + (i + 1) * 7 = off + 7 + i * 7 by omega] at this⟩
structure RetEq (e : Ending) (w' : World) (L : List EnR) : Prop where
  mk' ::
  out : ∃ q c, e = .returned (.slice q L.length c) ∧ (L.length ≤ c ∧ c ≤ maxLen) ∧ EnS w' q L
set_option maxHeartbeats 8000000 in
set_option maxRecDepth 100000 in
theorem merged_c {w : World} {pa pc : Option Addr} {a c : List EnR} {ma mc ka kc : Nat} (hma : ma = a.length) (hmc : mc = c.length) (h1 : ma ≤ 1000) (h2 : mc ≤ 1000) (hka : ma ≤ ka ∧ ka ≤ maxLen) (hkc : mc ≤ kc ∧ kc ≤ maxLen) (ha : EnS w pa a) (hc : EnS w pc c) :
    Calls Tryz.prog 106 #[.slice pa ma ka, .slice pc mc kc, .func (.func 97) #[] #[]] w fun e w' => RetEq e w' (mrgE a c) ∧ Gr w w' := by
  obtain ⟨i0, hi, hz0, hz1, hz2⟩ := info_parts infoEnP
  have HI0 := Lib.hid (And.intro hi (And.intro hz0 (And.intro hz1 hz2)))
  have HRA := Lib.hid ha.rowsX
  have HRC := Lib.hid hc.rowsX
  have HBM0 := Lib.hid (fun x y U => byMark_c x y U)
  have HA := Lib.hid ha
  have HC := Lib.hid hc
  have hlen0 := mrgE_len_le a c
  have HL0 : Hid ((mrgE a c).length ≤ 2000) := by rw [Hid]; omega
  have HMA := Lib.hid hma
  have HMC := Lib.hid hmc
  clear ha hc hi hz0 hz1 hz2 hlen0 hma hmc
  go_enter Tryz.func106, Tryz.ntmps106
  go_wp2_with fail
  go_loopg [0, 1, 7] (ma + mc) (fun gk s0 s1 s7 wr => ∃ (A' B' out : List EnR) (qa qb : Option Addr) (na nb ca cb k : Nat), s0 = .slice qa na ca ∧ s1 = .slice qb nb cb ∧ gk = na + nb ∧ na ≤ 1000 ∧ nb ≤ 1000 ∧ (na ≤ ca ∧ ca ≤ maxLen) ∧ (nb ≤ cb ∧ cb ≤ maxLen) ∧ Hid (na = A'.length) ∧ Hid (nb = B'.length) ∧ Hid (k = out.length) ∧ Hid (EnS w qa A') ∧ Hid (EnS w qb B') ∧ Hid (out ++ mrgE A' B' = mrgE a c) ∧ Hid (wr.ownsRow w.heap.size 77 7 s7 k (enCs out)) ∧ Hid (Gr w wr))
  case atStart => exact ⟨a, c, [], pa, pc, ma, mc, ka, kc, 0, rfl, rfl, rfl, h1, h2, hka, hkc, HMA, HMC, rfl, HA, HC, rfl, World.ownsRow_nil _ _ _ _, Gr.refl _⟩
  case round =>
    obtain ⟨A', B', out, qa, qb, na, nb, ca, cb, k, rfl, rfl, hgk, hna, hnb, ⟨hca1, hca2⟩, ⟨hcb1, hcb2⟩, HNA, HNB, HK, HEA, HEB, HMR, HOWN, HG⟩ := hrel
    have hk0 : k ≤ 2000 := by
      have := congrArg List.length HMR.out
      rw [List.length_append, ← HK.out] at this
      have := HL0.out
      omega
    have hszw := HG.out.size
    rcases Nat.eq_zero_or_pos na with h0 | h0
    · obtain rfl : A' = [] := List.eq_nil_of_length_eq_zero (by have := HNA.out; omega)
      subst h0
      have HALL : Hid (out ++ ([] : List EnR) ++ B' = mrgE a c) := by
        rw [Hid, ← HMR.out, List.append_assoc]
        congr 1
        rw [mrgE_nil]; rfl
      have hlen : (mrgE a c).length = k + 0 + nb := by rw [← HALL.out, List.length_append, List.length_append, ← HK.out, ← HNA.out, ← HNB.out]
      have HLE := Lib.hid hlen
      have hk2 : k + (0 + nb) ≤ 2000 := by have := HL0.out; omega
      clear hlen
      obtain ⟨hi, hz0, hz1, hz2⟩ := HI0.out
      have eA := HEA.out.gr HG.out
      have eB := HEB.out
      have hown := HOWN.out
      go_wp2_with (at_builtin; first | (refine wpList_append_any rfl _ _ 22 rfl w.heap.size 77 i0 (.agg #[.string ⟨#[]⟩, .int .i64 0, .int .i64 0, .string ⟨#[]⟩, .int .i64 0, .string ⟨#[]⟩, .slice none 0 0]) 7 96 Tryz.underlying22 hi hz0 hz1 hz2 rfl (by decide) _ k _ rfl hown qa 0 ca (fun h => by have := en_none eA h; have := HNA.out; omega) (enCs ([] : List EnR)) rfl (by rw [enCs_len, ← HNA.out]) (en_news eA) (one_enCs _) (by unfold maxLen; omega) (by omega) HG.out.size ?_; intro v1 W1 hown1 hgg1; have G1 := Lib.hid (hgg1 w HG.out (Nat.le_refl _)); have eB1 := eB.gr G1.out) | (refine wpList_append_any rfl _ _ 22 rfl w.heap.size 77 i0 (.agg #[.string ⟨#[]⟩, .int .i64 0, .int .i64 0, .string ⟨#[]⟩, .int .i64 0, .string ⟨#[]⟩, .slice none 0 0]) 7 96 Tryz.underlying22 hi hz0 hz1 hz2 rfl (by decide) _ (k + 0) _ rfl hown1 qb nb cb (fun h => by have := en_none eB1 h; have := HNB.out; omega) (enCs B') rfl (by rw [enCs_len, ← HNB.out]) (en_news eB1) (one_enCs _) (by unfold maxLen; omega) (by omega) G1.out.size ?_; intro v2 W2 hown2 hgg2))
      clear hgg1 hown HOWN
      have G2 := Lib.hid (hgg2 w G1.out (Nat.le_refl _))
      have hcs : enCs out ++ enCs ([] : List EnR) ++ enCs B' = enCs (mrgE a c) := by rw [← HALL.out]; simp [enCs]
      rw [hcs] at hown2
      obtain ⟨q3, c3, rfl, hc31, hc32⟩ := own_shape hown2
      have HEN : Hid (EnS W2 q3 (mrgE a c)) := EnS.of_own hown2 HLE.out (fun e he => by
        rcases mrgE_sub he with h | h
        · exact (HRA.out e h).gr G2.out
        · exact (HRC.out e h).gr G2.out)
      clear hown1 hown2 hgg2 hcs eA eB eB1 hi hz0 hz1 hz2
      go_wp2_with fail
      go_ret
      exact ⟨⟨q3, c3, by rw [HLE.out]; rfl, by rw [HLE.out]; exact ⟨hc31, hc32⟩, HEN.out⟩, G2.out⟩
    rcases Nat.eq_zero_or_pos nb with h3 | h3
    · obtain rfl : B' = [] := List.eq_nil_of_length_eq_zero (by have := HNB.out; omega)
      subst h3
      have hp1 : (0 : Int) < (na : Int) := by omega
      have HALL : Hid (out ++ A' ++ ([] : List EnR) = mrgE a c) := by
        rw [Hid, ← HMR.out, List.append_assoc]
        congr 1
        rw [mrgE_nil2, List.append_nil]
      have hlen : (mrgE a c).length = k + na + 0 := by rw [← HALL.out, List.length_append, List.length_append, ← HK.out, ← HNA.out, ← HNB.out]
      have HLE := Lib.hid hlen
      have hk2 : k + (na + 0) ≤ 2000 := by have := HL0.out; omega
      clear hlen
      obtain ⟨hi, hz0, hz1, hz2⟩ := HI0.out
      have eA := HEA.out.gr HG.out
      have eB := HEB.out
      have hown := HOWN.out
      go_wp2_with (at_builtin; first | (refine wpList_append_any rfl _ _ 22 rfl w.heap.size 77 i0 (.agg #[.string ⟨#[]⟩, .int .i64 0, .int .i64 0, .string ⟨#[]⟩, .int .i64 0, .string ⟨#[]⟩, .slice none 0 0]) 7 96 Tryz.underlying22 hi hz0 hz1 hz2 rfl (by decide) _ k _ rfl hown qa na ca (fun h => by have := en_none eA h; have := HNA.out; omega) (enCs A') rfl (by rw [enCs_len, ← HNA.out]) (en_news eA) (one_enCs _) (by unfold maxLen; omega) (by omega) HG.out.size ?_; intro v1 W1 hown1 hgg1; have G1 := Lib.hid (hgg1 w HG.out (Nat.le_refl _)); have eB1 := eB.gr G1.out) | (refine wpList_append_any rfl _ _ 22 rfl w.heap.size 77 i0 (.agg #[.string ⟨#[]⟩, .int .i64 0, .int .i64 0, .string ⟨#[]⟩, .int .i64 0, .string ⟨#[]⟩, .slice none 0 0]) 7 96 Tryz.underlying22 hi hz0 hz1 hz2 rfl (by decide) _ (k + na) _ rfl hown1 qb 0 cb (fun h => by have := en_none eB1 h; have := HNB.out; omega) (enCs ([] : List EnR)) rfl (by rw [enCs_len, ← HNB.out]) (en_news eB1) (one_enCs _) (by unfold maxLen; omega) (by omega) G1.out.size ?_; intro v2 W2 hown2 hgg2))
      clear hgg1 hown HOWN
      have G2 := Lib.hid (hgg2 w G1.out (Nat.le_refl _))
      have hcs : enCs out ++ enCs A' ++ enCs ([] : List EnR) = enCs (mrgE a c) := by rw [← HALL.out]; simp [enCs]
      rw [hcs] at hown2
      obtain ⟨q3, c3, rfl, hc31, hc32⟩ := own_shape hown2
      have HEN : Hid (EnS W2 q3 (mrgE a c)) := EnS.of_own hown2 HLE.out (fun e he => by
        rcases mrgE_sub he with h | h
        · exact (HRA.out e h).gr G2.out
        · exact (HRC.out e h).gr G2.out)
      clear hown1 hown2 hgg2 hcs eA eB eB1 hi hz0 hz1 hz2
      go_wp2_with fail
      go_ret
      exact ⟨⟨q3, c3, by rw [HLE.out]; rfl, by rw [HLE.out]; exact ⟨hc31, hc32⟩, HEN.out⟩, G2.out⟩
    obtain ⟨x, A2, rfl⟩ : ∃ x A2, A' = x :: A2 := by
      cases A' with
      | nil => have := HNA.out; simp at this; omega
      | cons x A2 => exact ⟨x, A2, rfl⟩
    obtain ⟨y, B2, rfl⟩ : ∃ y B2, B' = y :: B2 := by
      cases B' with
      | nil => have := HNB.out; simp at this; omega
      | cons y B2 => exact ⟨y, B2, rfl⟩
    obtain ⟨na, rfl⟩ : ∃ a, na = a + 1 := ⟨na - 1, by omega⟩
    obtain ⟨nb, rfl⟩ : ∃ a, nb = a + 1 := ⟨nb - 1, by omega⟩
    obtain ⟨b, off, rfl, hcx⟩ := HEA.out.out (by simp)
    obtain ⟨b2, o2, rfl, hcy⟩ := HEB.out.out (by simp)
    have hx := hcx 0 x rfl
    have hy := hcy 0 y rfl
    rw [Nat.zero_mul, Nat.add_zero] at hx hy
    have ATX := Lib.hid hx
    have ATY := Lib.hid hy
    have HBM := Lib.hid (fun U => HBM0.out x y U)
    unfold enV at HBM
    have hp1 : (0 : Int) < (na : Int) + 1 := by omega
    have hp2 : (0 : Int) < (nb : Int) + 1 := by omega
    have hlo1 : ¬ ((na : Int) + 1 < 1) := by omega
    have hlo2 : ¬ ((nb : Int) + 1 < 1) := by omega
    have gd := (Gr.refl wr).drew
    have g := HG.out.trans gd
    have gQ := gd
    obtain ⟨x0, x1, x2, x3, x4, x5, x6, _⟩ := hx.gr g
    obtain ⟨y0, y1, y2, y3, y4, y5, y6, _⟩ := hy.gr g
    obtain ⟨qq, hqq⟩ : ∃ qq, (if ca = 1 then some (⟨b, off, none⟩ : Addr) else some ⟨b, off + 7, none⟩) = some qq := by
      by_cases e : ca = 1
      · exact ⟨_, by rw [if_pos e]⟩
      · exact ⟨_, by rw [if_neg e]⟩
    obtain ⟨qr, hqr⟩ : ∃ qq, (if cb = 1 then some (⟨b2, o2, none⟩ : Addr) else some ⟨b2, o2 + 7, none⟩) = some qq := by
      by_cases e : cb = 1
      · exact ⟨_, by rw [if_pos e]⟩
      · exact ⟨_, by rw [if_neg e]⟩
    have HTA : Hid (EnS w (some qq) A2) := by rw [Hid, ← hqq]; exact en_tail HEA.out (by have := HNA.out; simp at this; omega)
    have HTB : Hid (EnS w (some qr) B2) := by rw [Hid, ← hqr]; exact en_tail HEB.out (by have := HNB.out; simp at this; omega)
    have HQA := Lib.hid hqq
    have HQB := Lib.hid hqr
    clear gd hcx hcy hx hy hqq hqr
    go_wp2_with fail
    refine wp_region_held_drew (S := (fun w' => w'.cell? ⟨b, off, none⟩ = some (.string x.de) ∧ w'.cell? ⟨b, off + 1, none⟩ = some (.int .i64 x.nu) ∧ w'.cell? ⟨b, off + 2, none⟩ = some (.int .i64 x.ck) ∧ w'.cell? ⟨b, off + 3, none⟩ = some (.string x.ro) ∧ w'.cell? ⟨b, off + 4, none⟩ = some (.int .i64 x.va) ∧ w'.cell? ⟨b, off + 5, none⟩ = some (.string x.st) ∧ w'.cell? ⟨b, off + 6, none⟩ = some (.slice x.p x.n x.cap) ∧ w'.cell? ⟨b2, o2, none⟩ = some (.string y.de) ∧ w'.cell? ⟨b2, o2 + 1, none⟩ = some (.int .i64 y.nu) ∧ w'.cell? ⟨b2, o2 + 2, none⟩ = some (.int .i64 y.ck) ∧ w'.cell? ⟨b2, o2 + 3, none⟩ = some (.string y.ro) ∧ w'.cell? ⟨b2, o2 + 4, none⟩ = some (.int .i64 y.va) ∧ w'.cell? ⟨b2, o2 + 5, none⟩ = some (.string y.st) ∧ w'.cell? ⟨b2, o2 + 6, none⟩ = some (.slice y.p y.n y.cap))) (by kernel_rfl) ⟨x0, x1, x2, x3, x4, x5, x6, y0, y1, y2, y3, y4, y5, y6⟩ (fun hHeld => ?_)
    generalize wr.drew = V at *
    refine wpAnyH_take (i := 0) (v := (.func (.func 97) #[] #[])) (op_at rfl) (by kernel_rfl) (by kernel_rfl) (by kernel_rfl) (fun _ _ _ h => h) (Or.inl ⟨rfl, fun w hSw => ?_⟩) (by assumption) ?_
    · (try dsimp only at hSw); go_simp; try with_reducible rfl
    (try simp only [Act.put, tz0, tz1, tz2])
    refine wpAnyH_take (i := 1) (v := (.slice (some ⟨b, off, none⟩) (na + 1) ca)) (op_at rfl) (by kernel_rfl) (by kernel_rfl) (by kernel_rfl) (fun _ _ _ h => h) (Or.inl ⟨rfl, fun w hSw => ?_⟩) (by assumption) ?_
    · (try dsimp only at hSw); go_simp; try with_reducible rfl
    (try simp only [Act.put, tz0, tz1, tz2])
    refine wpAnyH_take (i := 2) (v := (.pointer (some ⟨b, off, none⟩))) (op_at rfl) (by kernel_rfl) (by kernel_rfl) (by kernel_rfl) (fun _ _ _ h => h) (Or.inl ⟨rfl, fun w hSw => ?_⟩) (by assumption) ?_
    · (try dsimp only at hSw); go_simp; try with_reducible rfl
    (try simp only [Act.put, tz0, tz1, tz2])
    refine wpAnyH_take (i := 3) (v := (.agg #[.string x.de, .int .i64 x.nu, .int .i64 x.ck, .string x.ro, .int .i64 x.va, .string x.st, .slice x.p x.n x.cap])) (op_at rfl) (by kernel_rfl) (by kernel_rfl) (by kernel_rfl) (fun _ _ _ h => h) (Or.inl ⟨rfl, fun w hSw => ?_⟩) (by assumption) ?_
    · (try dsimp only at hSw); go_simp; try with_reducible rfl
    (try simp only [Act.put, tz0, tz1, tz2])
    refine wpAnyH_take (i := 4) (v := (.slice (some ⟨b2, o2, none⟩) (nb + 1) cb)) (op_at rfl) (by kernel_rfl) (by kernel_rfl) (by kernel_rfl) (fun _ _ _ h => h) (Or.inl ⟨rfl, fun w hSw => ?_⟩) (by assumption) ?_
    · (try dsimp only at hSw); go_simp; try with_reducible rfl
    (try simp only [Act.put, tz0, tz1, tz2])
    refine wpAnyH_take (i := 5) (v := (.pointer (some ⟨b2, o2, none⟩))) (op_at rfl) (by kernel_rfl) (by kernel_rfl) (by kernel_rfl) (fun _ _ _ h => h) (Or.inl ⟨rfl, fun w hSw => ?_⟩) (by assumption) ?_
    · (try dsimp only at hSw); go_simp; try with_reducible rfl
    (try simp only [Act.put, tz0, tz1, tz2])
    refine wpAnyH_take (i := 6) (v := (.agg #[.string y.de, .int .i64 y.nu, .int .i64 y.ck, .string y.ro, .int .i64 y.va, .string y.st, .slice y.p y.n y.cap])) (op_at rfl) (by kernel_rfl) (by kernel_rfl) (by kernel_rfl) (fun _ _ _ h => h) (Or.inl ⟨rfl, fun w hSw => ?_⟩) (by assumption) ?_
    · (try dsimp only at hSw); go_simp; try with_reducible rfl
    (try simp only [Act.put, tz0, tz1, tz2])
    refine wpAnyH_ready (rs := [7]) (by kernel_rfl) (by simp) (AllReadyH.cons (op_at rfl) (fun K hK => ?_) AllReadyH.nil)
    go_simp
    (refine (HBM.out _).mono ?_; rintro e W4 ⟨rfl, hg⟩; replace x0 := hg.cell x0; replace x1 := hg.cell x1; replace x2 := hg.cell x2; replace x3 := hg.cell x3; replace x4 := hg.cell x4; replace x5 := hg.cell x5; replace x6 := hg.cell x6; replace y0 := hg.cell y0; replace y1 := hg.cell y1; replace y2 := hg.cell y2; replace y3 := hg.cell y3; replace y4 := hg.cell y4; replace y5 := hg.cell y5; replace y6 := hg.cell y6; replace g := g.trans hg; replace gQ := gQ.trans hg; clear hg)
    go_wp2_with fail
    refine hK.out _ _ ⟨x0, x1, x2, x3, x4, x5, x6, y0, y1, y2, y3, y4, y5, y6⟩ (fun hHeld => ?_)
    clear hK K
    (try simp only [Act.put, tz0, tz1, tz2])
    refine wpAnyH_take (i := 8) (v := (.int .i64 (mkO x y))) (op_at rfl) (by kernel_rfl) (by kernel_rfl) (by kernel_rfl) (fun _ _ _ h => h) (Or.inl ⟨rfl, fun w hSw => ?_⟩) (by assumption) ?_
    · (try dsimp only at hSw); go_simp; try with_reducible rfl
    (try simp only [Act.put, tz0, tz1, tz2])
    refine wpAnyH_done (by kernel_rfl) ?_ _
    have HNA2 : Hid (na = A2.length) := by have := HNA.out; simp at this; rw [Hid]; omega
    have HNB2 : Hid (nb = B2.length) := by have := HNB.out; simp at this; rw [Hid]; omega
    rcases Int.lt_trichotomy (mkO x y) 0 with hm | hm | hm
    · have HM2 : Hid (out ++ [x] ++ mrgE A2 (y :: B2) = mrgE a c) := by rw [Hid, ← HMR.out, mrgE_lt hm]; simp
      generalize mkO x y = z at *
      have hz1 : z ≤ 0 := by omega
      clear HBM HBM0
      obtain ⟨ex0, ex1, ex2, ex3, ex4, ex5, ex6, _⟩ := ATX.out
      have hqq := HQA.out
      have gd := (Gr.refl W4).drew
      have hownV2 := own_kept (own_kept HOWN.out gQ) gd
      have G1d := Lib.hid (g.trans gd)
      replace x0 := gd.cell x0
      replace x1 := gd.cell x1
      replace x2 := gd.cell x2
      replace x3 := gd.cell x3
      replace x4 := gd.cell x4
      replace x5 := gd.cell x5
      replace x6 := gd.cell x6
      obtain ⟨hi, hz0, hz1, hz2⟩ := HI0.out
      clear gd y0 y1 y2 y3 y4 y5 y6 g gQ
      go_wp2_with fail
      refine wp_region_held_drew (S := (fun w' => w'.cell? ⟨b, off, none⟩ = some (.string x.de) ∧ w'.cell? ⟨b, off + 1, none⟩ = some (.int .i64 x.nu) ∧ w'.cell? ⟨b, off + 2, none⟩ = some (.int .i64 x.ck) ∧ w'.cell? ⟨b, off + 3, none⟩ = some (.string x.ro) ∧ w'.cell? ⟨b, off + 4, none⟩ = some (.int .i64 x.va) ∧ w'.cell? ⟨b, off + 5, none⟩ = some (.string x.st) ∧ w'.cell? ⟨b, off + 6, none⟩ = some (.slice x.p x.n x.cap))) (by kernel_rfl) ⟨x0, x1, x2, x3, x4, x5, x6⟩ (fun hHeld => ?_)
      generalize W4.drew = V2 at *
      refine wpAnyH_take (i := 0) (v := u7) (op_at rfl) (by kernel_rfl) (by kernel_rfl) (by kernel_rfl) (fun _ _ _ h => h) (Or.inl ⟨rfl, fun w hSw => ?_⟩) (by assumption) ?_
      · (try dsimp only at hSw); go_simp; try with_reducible rfl
      (try simp only [Act.put, tz0, tz1, tz2])
      refine wpAnyH_take (i := 1) (v := (.slice (some ⟨b, off, none⟩) (na + 1) ca)) (op_at rfl) (by kernel_rfl) (by kernel_rfl) (by kernel_rfl) (fun _ _ _ h => h) (Or.inl ⟨rfl, fun w hSw => ?_⟩) (by assumption) ?_
      · (try dsimp only at hSw); go_simp; try with_reducible rfl
      (try simp only [Act.put, tz0, tz1, tz2])
      refine wpAnyH_take (i := 2) (v := (.pointer (some ⟨b, off, none⟩))) (op_at rfl) (by kernel_rfl) (by kernel_rfl) (by kernel_rfl) (fun _ _ _ h => h) (Or.inl ⟨rfl, fun w hSw => ?_⟩) (by assumption) ?_
      · (try dsimp only at hSw); go_simp; try with_reducible rfl
      (try simp only [Act.put, tz0, tz1, tz2])
      refine wpAnyH_take (i := 3) (v := (.agg #[.string x.de, .int .i64 x.nu, .int .i64 x.ck, .string x.ro, .int .i64 x.va, .string x.st, .slice x.p x.n x.cap])) (op_at rfl) (by kernel_rfl) (by kernel_rfl) (by kernel_rfl) (fun _ _ _ h => h) (Or.inl ⟨rfl, fun w hSw => ?_⟩) (by assumption) ?_
      · (try dsimp only at hSw); go_simp; try with_reducible rfl
      (try simp only [Act.put, tz0, tz1, tz2])
      refine wpAnyH_take (i := 6) (v := (.slice (some ⟨b, off, none⟩) (na + 1) ca)) (op_at rfl) (by kernel_rfl) (by kernel_rfl) (by kernel_rfl) (fun _ _ _ h => h) (Or.inl ⟨rfl, fun w hSw => ?_⟩) (by assumption) ?_
      · (try dsimp only at hSw); go_simp; try with_reducible rfl
      (try simp only [Act.put, tz0, tz1, tz2])
      refine wpAnyH_take (i := 7) (v := (.slice (some qq) na (ca - 1))) (op_at rfl) (by kernel_rfl) (by kernel_rfl) (by kernel_rfl) (fun _ _ _ h => h) (Or.inl ⟨rfl, fun w hSw => ?_⟩) (by assumption) ?_
      · (try dsimp only at hSw); go_simp; try with_reducible rfl
      (try simp only [Act.put, tz0, tz1, tz2])
      refine wpAnyH_ready (rs := [4]) (by kernel_rfl) (by simp) (AllReadyH.cons (op_at rfl) (fun K hK => ?_) AllReadyH.nil)
      go_simp
      have gX := (Gr.refl V2).alloc (.cells #[.string x.de, .int .i64 x.nu, .int .i64 x.ck, .string x.ro, .int .i64 x.va, .string x.st, .slice x.p x.n x.cap] 77)
      have hXc := cell_seven V2 (.string x.de) (.int .i64 x.nu) (.int .i64 x.ck) (.string x.ro) (.int .i64 x.va) (.string x.st) (.slice x.p x.n x.cap) 77
      have hownV3 := own_kept hownV2 gX
      have G3 := Lib.hid (G1d.out.trans gX)
      replace x0 := gX.cell x0
      replace x1 := gX.cell x1
      replace x2 := gX.cell x2
      replace x3 := gX.cell x3
      replace x4 := gX.cell x4
      replace x5 := gX.cell x5
      replace x6 := gX.cell x6
      refine hK.out _ _ ⟨x0, x1, x2, x3, x4, x5, x6⟩ (fun hHeld => ?_)
      clear gX hownV2
      clear hK K
      (try simp only [Act.put, tz0, tz1, tz2])
      generalize V2.alloc (.cells #[.string x.de, .int .i64 x.nu, .int .i64 x.ck, .string x.ro, .int .i64 x.va, .string x.st, .slice x.p x.n x.cap] 77) = V3 at *
      refine wpAnyH_ready (rs := [5]) (by kernel_rfl) (by simp) (AllReadyH.cons (op_at rfl) (fun K hK => ?_) AllReadyH.nil)
      rw [if_pos (show Region.wanted _ _ = true from rfl)]
      refine step_append_any _ _ 22 rfl w.heap.size 77 i0 (.agg #[.string ⟨#[]⟩, .int .i64 0, .int .i64 0, .string ⟨#[]⟩, .int .i64 0, .string ⟨#[]⟩, .slice none 0 0]) 7 96 Tryz.underlying22 hi hz0 hz1 hz2 rfl (by decide) u7 k _ rfl hownV3 (some ⟨V2.heap.size, 0, none⟩) 1 1 (by intro h; cases h) [.string x.de, .int .i64 x.nu, .int .i64 x.ck, .string x.ro, .int .i64 x.va, .string x.st, .slice x.p x.n x.cap] rfl rfl (fun ad e j u hu => by cases e; exact hXc j u hu) (one_seven _ _ _ _ _ _ _ _ _) (by unfold maxLen; omega) (by omega) G3.out.size (fun v2 W5 hown2 hgg2 => ?_)
      have G2 := Lib.hid (hgg2 w G3.out (Nat.le_refl _))
      have hgw := G2.out
      replace x0 := hgw.cell ex0
      replace x1 := hgw.cell ex1
      replace x2 := hgw.cell ex2
      replace x3 := hgw.cell ex3
      replace x4 := hgw.cell ex4
      replace x5 := hgw.cell ex5
      replace x6 := hgw.cell ex6
      refine hK.out _ _ ⟨x0, x1, x2, x3, x4, x5, x6⟩ (fun hHeld => ?_)
      clear hownV3 hgg2 hXc
      clear hK K
      (try simp only [Act.put, tz0, tz1, tz2])
      refine wpAnyH_take (i := 8) (v := v2) (op_at rfl) (by kernel_rfl) (by kernel_rfl) (by kernel_rfl) (fun _ _ _ h => h) (Or.inl ⟨rfl, fun w hSw => ?_⟩) (by assumption) ?_
      · (try dsimp only at hSw); go_simp; try with_reducible rfl
      (try simp only [Act.put, tz0, tz1, tz2])
      refine wpAnyH_take (i := 9) (v := (.slice (some qq) na (ca - 1))) (op_at rfl) (by kernel_rfl) (by kernel_rfl) (by kernel_rfl) (fun _ _ _ h => h) (Or.inl ⟨rfl, fun w hSw => ?_⟩) (by assumption) ?_
      · (try dsimp only at hSw); go_simp; try with_reducible rfl
      (try simp only [Act.put, tz0, tz1, tz2])
      refine wpAnyH_done (by kernel_rfl) ?_ _
      have HEO : Hid (enCs out ++ [.string x.de, .int .i64 x.nu, .int .i64 x.ck, .string x.ro, .int .i64 x.va, .string x.st, .slice x.p x.n x.cap] = enCs (out ++ [x])) := by rw [Hid, enCs_add]; rfl
      rw [HEO.out] at hown2
      have HO2 := Lib.hid hown2
      clear hown2 hgw ex0 ex1 ex2 ex3 ex4 ex5 ex6 x0 x1 x2 x3 x4 x5 x6 hi hz0 hz1 hz2 hHeld
      go_wp2_with fail
      go_roundg (na + (nb + 1))
      case measure => omega
      case rel => exact ⟨A2, y :: B2, out ++ [x], some qq, some ⟨b2, o2, none⟩, na, nb + 1, ca - 1, cb, k + 1, rfl, rfl, rfl, by omega, by omega, by omega, by omega, HNA2, HNB, by rw [Hid, List.length_append, ← HK.out]; rfl, HTA, HEB, HM2, HO2, G2⟩
    · have HM2 : Hid (out ++ [x] ++ mrgE A2 B2 = mrgE a c) := by rw [Hid, ← HMR.out, mrgE_eq hm]; simp
      rw [hm]
      clear HBM HBM0 hm
      obtain ⟨ex0, ex1, ex2, ex3, ex4, ex5, ex6, _⟩ := ATX.out
      have hqq := HQA.out
      have gd := (Gr.refl W4).drew
      have hownV2 := own_kept (own_kept HOWN.out gQ) gd
      have G1d := Lib.hid (g.trans gd)
      replace x0 := gd.cell x0
      replace x1 := gd.cell x1
      replace x2 := gd.cell x2
      replace x3 := gd.cell x3
      replace x4 := gd.cell x4
      replace x5 := gd.cell x5
      replace x6 := gd.cell x6
      obtain ⟨hi, hz0, hz1, hz2⟩ := HI0.out
      clear gd y0 y1 y2 y3 y4 y5 y6 g gQ
      go_wp2_with fail
      refine wp_region_held_drew (S := (fun w' => w'.cell? ⟨b, off, none⟩ = some (.string x.de) ∧ w'.cell? ⟨b, off + 1, none⟩ = some (.int .i64 x.nu) ∧ w'.cell? ⟨b, off + 2, none⟩ = some (.int .i64 x.ck) ∧ w'.cell? ⟨b, off + 3, none⟩ = some (.string x.ro) ∧ w'.cell? ⟨b, off + 4, none⟩ = some (.int .i64 x.va) ∧ w'.cell? ⟨b, off + 5, none⟩ = some (.string x.st) ∧ w'.cell? ⟨b, off + 6, none⟩ = some (.slice x.p x.n x.cap))) (by kernel_rfl) ⟨x0, x1, x2, x3, x4, x5, x6⟩ (fun hHeld => ?_)
      generalize W4.drew = V2 at *
      refine wpAnyH_take (i := 0) (v := u7) (op_at rfl) (by kernel_rfl) (by kernel_rfl) (by kernel_rfl) (fun _ _ _ h => h) (Or.inl ⟨rfl, fun w hSw => ?_⟩) (by assumption) ?_
      · (try dsimp only at hSw); go_simp; try with_reducible rfl
      (try simp only [Act.put, tz0, tz1, tz2])
      refine wpAnyH_take (i := 1) (v := (.slice (some ⟨b, off, none⟩) (na + 1) ca)) (op_at rfl) (by kernel_rfl) (by kernel_rfl) (by kernel_rfl) (fun _ _ _ h => h) (Or.inl ⟨rfl, fun w hSw => ?_⟩) (by assumption) ?_
      · (try dsimp only at hSw); go_simp; try with_reducible rfl
      (try simp only [Act.put, tz0, tz1, tz2])
      refine wpAnyH_take (i := 2) (v := (.pointer (some ⟨b, off, none⟩))) (op_at rfl) (by kernel_rfl) (by kernel_rfl) (by kernel_rfl) (fun _ _ _ h => h) (Or.inl ⟨rfl, fun w hSw => ?_⟩) (by assumption) ?_
      · (try dsimp only at hSw); go_simp; try with_reducible rfl
      (try simp only [Act.put, tz0, tz1, tz2])
      refine wpAnyH_take (i := 3) (v := (.agg #[.string x.de, .int .i64 x.nu, .int .i64 x.ck, .string x.ro, .int .i64 x.va, .string x.st, .slice x.p x.n x.cap])) (op_at rfl) (by kernel_rfl) (by kernel_rfl) (by kernel_rfl) (fun _ _ _ h => h) (Or.inl ⟨rfl, fun w hSw => ?_⟩) (by assumption) ?_
      · (try dsimp only at hSw); go_simp; try with_reducible rfl
      (try simp only [Act.put, tz0, tz1, tz2])
      refine wpAnyH_take (i := 6) (v := (.slice (some ⟨b, off, none⟩) (na + 1) ca)) (op_at rfl) (by kernel_rfl) (by kernel_rfl) (by kernel_rfl) (fun _ _ _ h => h) (Or.inl ⟨rfl, fun w hSw => ?_⟩) (by assumption) ?_
      · (try dsimp only at hSw); go_simp; try with_reducible rfl
      (try simp only [Act.put, tz0, tz1, tz2])
      refine wpAnyH_take (i := 7) (v := (.slice (some qq) na (ca - 1))) (op_at rfl) (by kernel_rfl) (by kernel_rfl) (by kernel_rfl) (fun _ _ _ h => h) (Or.inl ⟨rfl, fun w hSw => ?_⟩) (by assumption) ?_
      · (try dsimp only at hSw); go_simp; try with_reducible rfl
      (try simp only [Act.put, tz0, tz1, tz2])
      refine wpAnyH_ready (rs := [4]) (by kernel_rfl) (by simp) (AllReadyH.cons (op_at rfl) (fun K hK => ?_) AllReadyH.nil)
      go_simp
      have gX := (Gr.refl V2).alloc (.cells #[.string x.de, .int .i64 x.nu, .int .i64 x.ck, .string x.ro, .int .i64 x.va, .string x.st, .slice x.p x.n x.cap] 77)
      have hXc := cell_seven V2 (.string x.de) (.int .i64 x.nu) (.int .i64 x.ck) (.string x.ro) (.int .i64 x.va) (.string x.st) (.slice x.p x.n x.cap) 77
      have hownV3 := own_kept hownV2 gX
      have G3 := Lib.hid (G1d.out.trans gX)
      replace x0 := gX.cell x0
      replace x1 := gX.cell x1
      replace x2 := gX.cell x2
      replace x3 := gX.cell x3
      replace x4 := gX.cell x4
      replace x5 := gX.cell x5
      replace x6 := gX.cell x6
      refine hK.out _ _ ⟨x0, x1, x2, x3, x4, x5, x6⟩ (fun hHeld => ?_)
      clear gX hownV2
      clear hK K
      (try simp only [Act.put, tz0, tz1, tz2])
      generalize V2.alloc (.cells #[.string x.de, .int .i64 x.nu, .int .i64 x.ck, .string x.ro, .int .i64 x.va, .string x.st, .slice x.p x.n x.cap] 77) = V3 at *
      refine wpAnyH_ready (rs := [5]) (by kernel_rfl) (by simp) (AllReadyH.cons (op_at rfl) (fun K hK => ?_) AllReadyH.nil)
      rw [if_pos (show Region.wanted _ _ = true from rfl)]
      refine step_append_any _ _ 22 rfl w.heap.size 77 i0 (.agg #[.string ⟨#[]⟩, .int .i64 0, .int .i64 0, .string ⟨#[]⟩, .int .i64 0, .string ⟨#[]⟩, .slice none 0 0]) 7 96 Tryz.underlying22 hi hz0 hz1 hz2 rfl (by decide) u7 k _ rfl hownV3 (some ⟨V2.heap.size, 0, none⟩) 1 1 (by intro h; cases h) [.string x.de, .int .i64 x.nu, .int .i64 x.ck, .string x.ro, .int .i64 x.va, .string x.st, .slice x.p x.n x.cap] rfl rfl (fun ad e j u hu => by cases e; exact hXc j u hu) (one_seven _ _ _ _ _ _ _ _ _) (by unfold maxLen; omega) (by omega) G3.out.size (fun v2 W5 hown2 hgg2 => ?_)
      have G2 := Lib.hid (hgg2 w G3.out (Nat.le_refl _))
      have hgw := G2.out
      replace x0 := hgw.cell ex0
      replace x1 := hgw.cell ex1
      replace x2 := hgw.cell ex2
      replace x3 := hgw.cell ex3
      replace x4 := hgw.cell ex4
      replace x5 := hgw.cell ex5
      replace x6 := hgw.cell ex6
      refine hK.out _ _ ⟨x0, x1, x2, x3, x4, x5, x6⟩ (fun hHeld => ?_)
      clear hownV3 hgg2 hXc
      clear hK K
      (try simp only [Act.put, tz0, tz1, tz2])
      refine wpAnyH_take (i := 8) (v := v2) (op_at rfl) (by kernel_rfl) (by kernel_rfl) (by kernel_rfl) (fun _ _ _ h => h) (Or.inl ⟨rfl, fun w hSw => ?_⟩) (by assumption) ?_
      · (try dsimp only at hSw); go_simp; try with_reducible rfl
      (try simp only [Act.put, tz0, tz1, tz2])
      refine wpAnyH_take (i := 9) (v := (.slice (some qq) na (ca - 1))) (op_at rfl) (by kernel_rfl) (by kernel_rfl) (by kernel_rfl) (fun _ _ _ h => h) (Or.inl ⟨rfl, fun w hSw => ?_⟩) (by assumption) ?_
      · (try dsimp only at hSw); go_simp; try with_reducible rfl
      (try simp only [Act.put, tz0, tz1, tz2])
      refine wpAnyH_done (by kernel_rfl) ?_ _
      have HEO : Hid (enCs out ++ [.string x.de, .int .i64 x.nu, .int .i64 x.ck, .string x.ro, .int .i64 x.va, .string x.st, .slice x.p x.n x.cap] = enCs (out ++ [x])) := by rw [Hid, enCs_add]; rfl
      rw [HEO.out] at hown2
      have HO2 := Lib.hid hown2
      clear hown2 hgw ex0 ex1 ex2 ex3 ex4 ex5 ex6 x0 x1 x2 x3 x4 x5 x6 hi hz0 hz1 hz2 hHeld
      have HTS : Hid ((cb = 1 → EnS w (some ⟨b2, o2, none⟩) B2) ∧ (¬ cb = 1 → EnS w (some ⟨b2, o2 + 7, none⟩) B2)) := by
        have h0 := HTB.out
        rw [← HQB.out] at h0
        exact ⟨fun h => by rwa [if_pos h] at h0, fun h => by rwa [if_neg h] at h0⟩
      clear HQB HTB
      go_wp2_with fail
      · go_roundg (na + nb)
        case measure => omega
        case rel => exact ⟨A2, B2, out ++ [x], some qq, some ⟨b2, o2, none⟩, na, nb, ca - 1, 0, k + 1, rfl, rfl, rfl, by omega, by omega, by omega, by omega, HNA2, HNB2, by rw [Hid, List.length_append, ← HK.out]; rfl, HTA, HTS.out.1 (by omega), HM2, HO2, G2⟩
      · go_roundg (na + nb)
        case measure => omega
        case rel => exact ⟨A2, B2, out ++ [x], some qq, some ⟨b2, o2 + 7, none⟩, na, nb, ca - 1, cb - 1, k + 1, rfl, rfl, rfl, by omega, by omega, by omega, by omega, HNA2, HNB2, by rw [Hid, List.length_append, ← HK.out]; rfl, HTA, HTS.out.2 (by omega), HM2, HO2, G2⟩
    · have HM2 : Hid (out ++ [y] ++ mrgE (x :: A2) B2 = mrgE a c) := by rw [Hid, ← HMR.out, mrgE_gt hm]; simp
      generalize mkO x y = z at *
      have hz1 : 0 ≤ z := by omega
      clear HBM HBM0
      have hownV := own_kept HOWN.out gQ
      have gA := (Gr.refl W4).alloc (.cells #[.string y.de, .int .i64 y.nu, .int .i64 y.ck, .string y.ro, .int .i64 y.va, .string y.st, .slice y.p y.n y.cap] 77)
      have hownA := own_kept hownV gA
      have HGA := Lib.hid (g.trans gA)
      have hszA := HGA.out.size
      obtain ⟨hi, hz0, hz1', hz2⟩ := HI0.out
      clear x0 x1 x2 x3 x4 x5 x6 hHeld gA
      go_upto_region 7 with (at_builtin; refine wpList_append_own _ rfl _ _ 22 rfl w.heap.size 77 i0 (.agg #[.string ⟨#[]⟩, .int .i64 0, .int .i64 0, .string ⟨#[]⟩, .int .i64 0, .string ⟨#[]⟩, .slice none 0 0]) 7 96 Tryz.underlying22 hi hz0 hz1' hz2 rfl (by decide) _ _ _ rfl (hownA) ⟨W4.heap.size, 0, none⟩ 1 1 [.string y.de, .int .i64 y.nu, .int .i64 y.ck, .string y.ro, .int .i64 y.va, .string y.st, .slice y.p y.n y.cap] rfl rfl (cell_seven _ _ _ _ _ _ _ _ _) (one_seven _ _ _ _ _ _ _ _ _) (by unfold maxLen; omega) (by omega) hszA ?_; intro v1 w1 hown1 hgrow1 hnil)
      have HGR : Hid (Gr w w1) := Below.grown HGA.out hgrow1 hszA (fun q hq => (own_in hownA hq).2)
      have HEO : Hid (enCs out ++ [.string y.de, .int .i64 y.nu, .int .i64 y.ck, .string y.ro, .int .i64 y.va, .string y.st, .slice y.p y.n y.cap] = enCs (out ++ [y])) := by rw [Hid, enCs_add]; rfl
      rw [HEO.out] at hown1
      have HO2 := Lib.hid hown1
      clear hown1 hgrow1 hownV hownA hnil hi hz0 hz1' hz2 y0 y1 y2 y3 y4 y5 y6
      have HTS : Hid ((cb = 1 → EnS w (some ⟨b2, o2, none⟩) B2) ∧ (¬ cb = 1 → EnS w (some ⟨b2, o2 + 7, none⟩) B2)) := by
        have h0 := HTB.out
        rw [← HQB.out] at h0
        exact ⟨fun h => by rwa [if_pos h] at h0, fun h => by rwa [if_neg h] at h0⟩
      clear HQB HTB
      go_wp2_with fail
      · go_roundg (na + 1 + nb)
        case measure => omega
        case rel => exact ⟨x :: A2, B2, out ++ [y], some ⟨b, off, none⟩, some ⟨b2, o2, none⟩, na + 1, nb, ca, 0, k + 1, rfl, rfl, rfl, by omega, by omega, by omega, by omega, HNA, HNB2, by rw [Hid, List.length_append, ← HK.out]; rfl, HEA, HTS.out.1 (by omega), HM2, HO2, HGR⟩
      · go_roundg (na + 1 + nb)
        case measure => omega
        case rel => exact ⟨x :: A2, B2, out ++ [y], some ⟨b, off, none⟩, some ⟨b2, o2 + 7, none⟩, na + 1, nb, ca, cb - 1, k + 1, rfl, rfl, rfl, by omega, by omega, by omega, by omega, HNA, HNB2, by rw [Hid, List.length_append, ← HK.out]; rfl, HEA, HTS.out.2 (by omega), HM2, HO2, HGR⟩
end Go.Proofs.YtnihclhhbegjhaaGreatDoor
namespace Go.Proofs.YtnihclhhbegjhaaGreatDoor
open Go.RowKit Go.Lib
set_option linter.unusedSimpArgs false
set_option linter.unusedVariables false
structure RetAr (base : Nat) (e : Ending) (w' : World) (L : List EnR) : Prop where
  mk' ::
  out : ∃ q n c es, e = .returned (.agg #[.slice q n c]) ∧ Hid (n = es.length) ∧ Hid (es.map ek = L.map ek) ∧ w'.ownsRow base 77 7 (.slice q n c) n (enCs es) ∧ (∀ f ∈ es, CpS w' base f.p f.n f.cap f.xs) ∧ (n ≤ c ∧ c ≤ maxLen)
theorem en_of_own {w : World} {base n c : Nat} {q : Option Addr} {es : List EnR} (h : w.ownsRow base 77 7 (.slice q n c) n (enCs es)) (hn : n = es.length) (hc : ∀ f ∈ es, CpS w base f.p f.n f.cap f.xs) : EnS w q es := EnS.of_own h hn.symm (fun f hf => (hc f hf).rows)
theorem set1O {w : World} {g T : Nat} {r0 : Value} (h : w.heap[g]? = some (.cells #[r0] T)) (a : Value) : (w.setCell ⟨g, 0, none⟩ a).heap[g]? = some (.cells #[a] T) := by
  simp [World.setCell, Array.getElem?_modify, h]
theorem cells1_ofO {w : World} {g : Nat} {a : Value} {T : TypeId} {z : Nat × Nat} (h : w.heap[g]? = some (.cells #[a] T z)) : w.cell? ⟨g, 0, none⟩ = some a := by
  simp [World.cell?, h]
def Fit (l : List EnR) : Prop := ∀ e ∈ l, e.n ≤ 1000 ∧ ∀ x ∈ e.xs, x.xs.length ≤ 1000
theorem own_low_e {w : World} {b b' n c : Nat} {q : Option Addr} {es : List EnR} (h : w.ownsRow b 77 7 (.slice q n c) n (enCs es)) (hb : b' ≤ b) : w.ownsRow b' 77 7 (.slice q n c) n (enCs es) := own_low h hb
set_option maxHeartbeats 4000000 in
set_option maxRecDepth 100000 in
theorem with_c {w : World} {pa pc : Option Addr} {a c : List EnR} {ma mc ka kc : Nat} (hma : ma = a.length) (hmc : mc = c.length) (h1 : ma + mc ≤ 1000) (hka : ma ≤ ka ∧ ka ≤ maxLen) (hkc : mc ≤ kc ∧ kc ≤ maxLen) (ha : EnS w pa a) (hc : EnS w pc c) (fa : Fit a) (fc : Fit c) :
    Calls Tryz.prog 60 #[.agg #[.slice pa ma ka], .slice pc mc kc] w fun e w' => RetAr w.heap.size e w' (mrgE a c) ∧ Gr w w' := by
  have HM := Lib.hid (fun V (g : Gr w V) => merged_c hma hmc (by omega) (by omega) hka hkc (ha.gr g) (hc.gr g))
  have HFL : Hid (Fit (mrgE a c)) := fun e he => by
    rcases mrgE_sub he with h | h
    · exact fa e h
    · exact fc e h
  have hlen := mrgE_len_le a c
  have HLN : Hid ((mrgE a c).length ≤ 1000) := by rw [Hid]; omega
  obtain ⟨W1, hW1, g1, a0⟩ := box1 w (.slice pa ma ka) 24
  have hs1 : W1.heap.size = w.heap.size + 1 := by rw [← hW1]; simp
  obtain ⟨W2, hW2, g2, z0⟩ := box1 W1 (.slice none 0 0) 24
  have hb2 : W2.heap[W1.heap.size]? = some (.cells #[.slice none 0 0] 24 (0, 0)) := by rw [← hW2]; exact heap_alloc_new W1 _
  have hs2 : W2.heap.size = w.heap.size + 2 := by rw [← hW2]; simp [hs1]
  replace a0 := g2.cell a0
  have HW := Lib.hid hW1
  have HW2 := Lib.hid hW2
  have HS2 := Lib.hid hs2
  obtain ⟨Sx, hSx⟩ : ∃ S, w.heap.size + 1 = S := ⟨_, rfl⟩
  rw [hs1, hSx] at hb2 z0
  have HSX := Lib.hid hSx
  clear hma hmc hka hkc ha hc fa fc hlen hs2
  generalize mrgE a c = L at *
  go_enter Tryz.func60, Tryz.ntmps60
  go_wp2_with fail
  try rw [HW.out]
  try rw [HW2.out]
  try rw [hs1]
  try rw [hSx]
  clear HW HW2 hW1 hW2 hs1 hSx
  go_wp2_with fail
  refine (HM.out _ (g1.trans g2)).mono ?_
  rintro e W3 ⟨⟨⟨q3, c3, rfl, _, hes⟩⟩, hg⟩
  have HCO := Lib.hid (copiedE_c (n := L.length) (cap := c3) rfl HLN.out hes (fun e he => (HFL.out e he).1) (fun e he => (HFL.out e he).2))
  replace hb2 := Gr.block hg hb2
  have hsz3 : Sx < W3.heap.size := (Array.getElem?_eq_some_iff.1 hb2).1
  have HSZ3 := Lib.hid hsz3
  have hgg := (g1.trans g2).trans hg
  clear g1 g2 hg HM hes z0 a0 hsz3
  go_wp2_with fail
  refine HCO.out.mono ?_
  rintro e W4 ⟨⟨⟨q4, c4, es, rfl, hel, hek, hown, hcp, hcc⟩⟩, hg⟩
  replace hb2 := Gr.block hg hb2
  have z0 := cells1_ofO hb2
  have f2 : ∀ o, W4.frozen? ⟨Sx, o, none⟩ = false := fun o => frozen_of_row _ _ o _ _ hb2
  have HBS := Lib.hid hb2
  have hsx : w.heap.size ≤ Sx := by have := HSX.out; omega
  have HGF := Lib.hid (hgg.trans hg)
  have HOW := Lib.hid hown
  have HCP := Lib.hid hcp
  have HEL := Lib.hid hel
  have HEK := Lib.hid hek
  clear hb2 hgg hg HCO hown hcp hel hek
  obtain ⟨m, hm⟩ : ∃ m, m = L.length := ⟨_, rfl⟩
  rw [← hm] at hcc HOW HEL ⊢
  clear hm
  go_wp2_with fail
  have y0 : (W4.setCell ⟨Sx, 0, none⟩ (.slice q4 m c4)).cell? ⟨Sx, 0, none⟩ = some (.slice q4 m c4) := by
    exact cells1_ofO (set1O HBS.out (.slice q4 m c4))
  have hW3 : w.heap.size ≤ W3.heap.size := by have := HSZ3.out; omega
  refine bodyPost_ret (v := .agg #[.slice q4 m c4]) (by simp [results, Tryz.results60, go_sem, y0]) rfl ⟨⟨q4, m, c4, es, rfl, HEL.out.symm, HEK.out, own_low_e (own_set_low HOW.out HSZ3.out) hW3, fun f hf => ((HCP.out f hf).set_low _ _ HSZ3.out).low hW3, hcc⟩, ?_⟩
  exact Below.setCell HGF.out (by show w.heap.size ≤ Sx; omega) _
end Go.Proofs.YtnihclhhbegjhaaGreatDoor
namespace Go.Proofs.YtnihclhhbegjhaaGreatDoor
open Go.RowKit Go.Lib
set_option linter.unusedSimpArgs false
set_option linter.unusedVariables false
instance inhEnS : Inhabited EnR := ⟨⟨⟨#[]⟩, 0, 0, ⟨#[]⟩, 0, ⟨#[]⟩, none, 0, 0, []⟩⟩
end Go.Proofs.YtnihclhhbegjhaaGreatDoor
namespace Go.Proofs.YtnihclhhbegjhaaGreatDoor
open Go.RowKit Go.Lib
set_option linter.unusedSimpArgs false
set_option linter.unusedVariables false
end Go.Proofs.YtnihclhhbegjhaaGreatDoor
namespace Go.Proofs.YtnihclhhbegjhaaGreatDoor
open Go.RowKit Go.Lib
set_option linter.unusedSimpArgs false
set_option linter.unusedVariables false
theorem rows_nil (w : World) : RowsX w none 0 0 [] := ⟨rfl, ⟨Nat.le_refl _, by unfold maxLen; omega⟩, fun h => absurd h (by omega)⟩
end Go.Proofs.YtnihclhhbegjhaaGreatDoor
namespace Go.Proofs.YtnihclhhbegjhaaGreatDoor
open Go.RowKit Go.Lib
set_option linter.unusedSimpArgs false
set_option linter.unusedVariables false
theorem mark_c (x : EnR) (w : World) :
    Calls Tryz.prog 72 #[enV x] w fun e w' => e = .returned (.agg #[.string x.de, .int .i64 x.nu]) ∧ Gr w w' := by
  unfold enV
  obtain ⟨W1, hW1, g, a0, a1, a2, a3, a4, a5, a6⟩ := bx7 w (.string x.de) (.int .i64 x.nu) (.int .i64 x.ck) (.string x.ro) (.int .i64 x.va) (.string x.st) (.slice x.p x.n x.cap) 77
  have HW := Lib.hid hW1
  have hs1 : W1.heap.size = w.heap.size + 1 := by rw [← hW1]; simp
  have HS1 := Lib.hid hs1
  clear hW1 hs1
  go_enter Tryz.func72, Tryz.ntmps72
  go_wp2_with fail
  try rw [HW.out]
  go_wp2_with fail
  have y0 := cell_new W1 #[.string x.de, .int .i64 x.nu] 84 0 (by simp)
  have y1 := cell_new W1 #[.string x.de, .int .i64 x.nu] 84 1 (by simp)
  rw [HS1.out] at y0 y1
  simp only [List.getElem_toArray, List.getElem_cons_zero, List.getElem_cons_succ] at y0 y1
  exact bodyPost_ret (v := .agg #[.string x.de, .int .i64 x.nu]) (by simp [results, Tryz.results72, go_sem, y0, y1]) rfl ⟨rfl, g.alloc _⟩
end Go.Proofs.YtnihclhhbegjhaaGreatDoor
namespace Go.Proofs.YtnihclhhbegjhaaGreatDoor
open Go.RowKit Go.Lib
set_option linter.unusedSimpArgs false
set_option linter.unusedVariables false
def zeroR : EnR := ⟨⟨#[]⟩, 0, 0, ⟨#[]⟩, 0, ⟨#[]⟩, none, 0, 0, []⟩
def conP (l : List EnR) (y : EnR) : Prop := ∃ x, lookM l y = some x ∧ ¬ (x.ck = y.ck ∧ shk x = shk y)
theorem mapM_lookZ {w : World} {g : Nat} {l : List EnR} (h : MapM w g l) (y : EnR) : (Instr.lookup 198 (.map (some g)) (.agg #[.string y.de, .int .i64 y.nu]) true).run Tryz.prog w = .ok (.tuple #[enV ((lookM l y).getD zeroR), .bool (lookM l y).isSome]) w := by
  have := mapM_look2 h y
  unfold mkV at this
  rw [this]
  cases lookM l y <;> rfl
theorem lookM_mem {l : List EnR} {y x : EnR} (h : lookM l y = some x) : x ∈ l ∧ y.de = x.de ∧ y.nu = x.nu := ⟨List.mem_of_find?_eq_some h, smk_iff.1 (List.find?_some h)⟩
set_option maxHeartbeats 4000000 in
set_option maxRecDepth 100000 in
theorem con1_c {w W : World} {l : List EnR} {g Bp : Nat} {y : EnR} (G : Gr w W) (hM : MapM w g l) (hB : w.cell? ⟨Bp, 0, none⟩ = some (.map (some g))) (hrl : ∀ x ∈ l, RowsX w x.p x.n x.cap x.xs) (fl : Fit l) (hy : RowsX w y.p y.n y.cap y.xs) :
    Calls Tryz.prog 108 #[enV y, .pointer (some ⟨Bp, 0, none⟩)] W fun e w' => RetB e (conP l y) ∧ Gr W w' := by
  obtain ⟨W1, hW1, g1, d0, d1, d2, d3, d4, d5, d6⟩ := bx7 W (.string y.de) (.int .i64 y.nu) (.int .i64 y.ck) (.string y.ro) (.int .i64 y.va) (.string y.st) (.slice y.p y.n y.cap) 77
  have HW := Lib.hid hW1
  have gW1 := G.trans g1
  have HBX := Lib.hid (gW1.cell hB)
  have HM1 := Lib.hid (hM.gr gW1)
  have HY := Lib.hid (hy.gr gW1)
  have HRL := Lib.hid (fun x (hx : x ∈ l) => (hrl x hx).gr gW1)
  have HG1 := Lib.hid g1
  obtain ⟨D, hD⟩ : ∃ D, W.heap.size = D := ⟨_, rfl⟩
  rw [hD] at d0 d1 d2 d3 d4 d5 d6
  have HDD := Lib.hid hD
  have HD := Lib.hid (fun U (k : Gr W1 U) => And.intro (k.cell d0) (And.intro (k.cell d1) (And.intro (k.cell d2) (And.intro (k.cell d3) (And.intro (k.cell d4) (And.intro (k.cell d5) (k.cell d6)))))))
  have HMK0 := Lib.hid (fun V => mark_c y V)
  have HMK := HMK0
  unfold enV at HMK
  have HLK0 := Lib.hid (fun U (k : Gr W1 U) => mapM_lookZ (HM1.out.gr k) y)
  obtain ⟨z, hz⟩ : ∃ z, (lookM l y).getD zeroR = z := ⟨_, rfl⟩
  obtain ⟨bb, hbb⟩ : ∃ b, (lookM l y).isSome = b := ⟨_, rfl⟩
  rw [hz, hbb] at HLK0
  have HLK := HLK0
  unfold enV at HLK
  have HZ : Hid (RowsX W1 z.p z.n z.cap z.xs ∧ z.n ≤ 1000 ∧ ∀ x ∈ z.xs, x.xs.length ≤ 1000) := by
    rw [← hz]
    cases hq : lookM l y with
    | none => exact ⟨rows_nil _, Nat.zero_le _, fun x hx => by cases hx⟩
    | some x => exact ⟨HRL.out x (lookM_mem hq).1, fl x (lookM_mem hq).1⟩
  have HP : Hid (conP l y ↔ (bb = true ∧ ¬ (z.ck = y.ck ∧ shk z = shk y))) := by
    rw [← hz, ← hbb]
    unfold conP
    cases hq : lookM l y with
    | none => exact ⟨(fun ⟨x, h, _⟩ => by cases h), fun h => by cases h.1⟩
    | some x => exact ⟨(fun ⟨x', h, h2⟩ => by cases h; exact ⟨rfl, h2⟩), fun h => ⟨x, rfl, h.2⟩⟩
  generalize conP l y = P at *
  clear hM hB hrl fl hy g1 gW1 hD hz hbb hW1 HMK0 HLK0 HM1 HRL d0 d1 d2 d3 d4 d5 d6 G
  unfold enV
  go_enter Tryz.func108, Tryz.ntmps108
  go_wp2_with fail
  rw [HW.out]
  try rw [HDD.out]
  clear HW HDD
  obtain ⟨WQ, hWQ⟩ : ∃ V, V = W1 := ⟨_, rfl⟩
  have gQ : Gr W1 WQ := by rw [hWQ]; exact Gr.refl _
  rw [← hWQ]
  clear hWQ
  go_upto_region 1 with fail
  go_cut [4, 5] from 6 (fun s4 s5 wx => ∃ Cx, s4 = .pointer (some ⟨Cx, 0, none⟩) ∧ s5 = .bool bb ∧ wx.heap[Cx]? = some (.cells #[.string z.de, .int .i64 z.nu, .int .i64 z.ck, .string z.ro, .int .i64 z.va, .string z.st, .slice z.p z.n z.cap] 77 (0, 0)) ∧ Gr W1 wx)
  case first =>
    refine wp_region_held_drew (S := fun U => Gr W1 U) (by kernel_rfl) (gQ.trans (Gr.refl _).drew) (fun hHeld => ?_)
    have gD := gQ.trans (Gr.refl WQ).drew
    generalize WQ.drew = VD at *
    refine wpAnyH_take (i := 0) (v := (.map (some g))) (op_at rfl) (by kernel_rfl) (by kernel_rfl) (by kernel_rfl) (fun _ _ _ h => h) (Or.inl ⟨rfl, fun U hSw => ?_⟩) (by assumption) ?_
    · have hs9 : Gr W1 U := hSw; have q0 := hs9.cell HBX.out; go_simp; try with_reducible rfl
    (try simp only [Act.put, tz0, tz1, tz2])
    refine wpAnyH_take (i := 1) (v := (.agg #[.string y.de, .int .i64 y.nu, .int .i64 y.ck, .string y.ro, .int .i64 y.va, .string y.st, .slice y.p y.n y.cap])) (op_at rfl) (by kernel_rfl) (by kernel_rfl) (by kernel_rfl) (fun _ _ _ h => h) (Or.inl ⟨rfl, fun U hSw => ?_⟩) (by assumption) ?_
    · obtain ⟨q0, q1, q2, q3, q4, q5, q6⟩ := HD.out U hSw; go_simp; try with_reducible rfl
    (try simp only [Act.put, tz0, tz1, tz2])
    refine wpAnyH_ready (rs := [2, 7]) (by kernel_rfl) (by simp) ((AllReadyH.cons (op_at rfl) (fun K hK => ?_) (AllReadyH.cons (op_at rfl) (fun K hK => ?_) AllReadyH.nil)))
    · go_simp
      refine (HMK.out _).mono ?_
      rintro e V2 ⟨rfl, hg⟩
      go_wp2_with fail
      have g2 := gD.trans hg
      clear hg
      refine hK.out _ _ g2 (fun hHeld => ?_)
      clear hK K
      (try simp only [Act.put, tz0, tz1, tz2])
      refine wpAnyH_take (i := 3) (v := (.tuple #[(.agg #[.string z.de, .int .i64 z.nu, .int .i64 z.ck, .string z.ro, .int .i64 z.va, .string z.st, .slice z.p z.n z.cap]), .bool bb])) (op_at rfl) (by kernel_rfl) (by kernel_rfl) (by kernel_rfl) (fun _ _ _ h => h) (Or.inl ⟨rfl, fun U hSw => ?_⟩) (by assumption) ?_
      · have qe := HLK.out U hSw; go_simp; try with_reducible rfl
      (try simp only [Act.put, tz0, tz1, tz2])
      refine wpAnyH_take (i := 4) (v := (.tuple #[(.agg #[.string z.de, .int .i64 z.nu, .int .i64 z.ck, .string z.ro, .int .i64 z.va, .string z.st, .slice z.p z.n z.cap]), .bool bb])) (op_at rfl) (by kernel_rfl) (by kernel_rfl) (by kernel_rfl) (fun _ _ _ h => h) (Or.inl ⟨rfl, fun U hSw => ?_⟩) (by assumption) ?_
      · go_simp; try with_reducible rfl
      (try simp only [Act.put, tz0, tz1, tz2])
      refine wpAnyH_take (i := 5) (v := (.agg #[.string z.de, .int .i64 z.nu, .int .i64 z.ck, .string z.ro, .int .i64 z.va, .string z.st, .slice z.p z.n z.cap])) (op_at rfl) (by kernel_rfl) (by kernel_rfl) (by kernel_rfl) (fun _ _ _ h => h) (Or.inl ⟨rfl, fun U hSw => ?_⟩) (by assumption) ?_
      · go_simp; try with_reducible rfl
      (try simp only [Act.put, tz0, tz1, tz2])
      refine wpAnyH_take (i := 6) (v := (.bool bb)) (op_at rfl) (by kernel_rfl) (by kernel_rfl) (by kernel_rfl) (fun _ _ _ h => h) (Or.inl ⟨rfl, fun U hSw => ?_⟩) (by assumption) ?_
      · go_simp; try with_reducible rfl
      (try simp only [Act.put, tz0, tz1, tz2])
      refine wpAnyH_ready (rs := [7]) (by kernel_rfl) (by simp) ((AllReadyH.cons (op_at rfl) (fun K hK => ?_) AllReadyH.nil))
      go_simp
      have gA := (Gr.refl V2).alloc (.cells #[.string ⟨#[]⟩, .int .i64 0, .int .i64 0, .string ⟨#[]⟩, .int .i64 0, .string ⟨#[]⟩, .slice none 0 0] 77)
      have hbA := heap_alloc_new V2 (.cells #[.string ⟨#[]⟩, .int .i64 0, .int .i64 0, .string ⟨#[]⟩, .int .i64 0, .string ⟨#[]⟩, .slice none 0 0] 77)
      have g3 := g2.trans gA
      have hCx : W1.heap.size ≤ (V2).heap.size := (g2).size
      generalize hCC : (V2).heap.size = Cx at *
      clear hCC
      refine hK.out _ _ g3 (fun hHeld => ?_)
      clear hK K gA
      (try simp only [Act.put, tz0, tz1, tz2])
      generalize (V2).alloc (.cells #[.string ⟨#[]⟩, .int .i64 0, .int .i64 0, .string ⟨#[]⟩, .int .i64 0, .string ⟨#[]⟩, .slice none 0 0] 77) = V3 at *
      have f2 : ∀ o, V3.frozen? ⟨Cx, o, none⟩ = false := fun o => frozen_of_row _ _ o _ _ hbA
      obtain ⟨z0, z1, z2, z3, z4, z5, z6⟩ := cells7_ofO hbA
      refine wpAnyH_ready (rs := [8]) (by kernel_rfl) (by simp) ((AllReadyH.cons (op_at rfl) (fun K hK => ?_) AllReadyH.nil))
      have hb9 := set7O hbA (.string z.de) (.int .i64 z.nu) (.int .i64 z.ck) (.string z.ro) (.int .i64 z.va) (.string z.st) (.slice z.p z.n z.cap)
      have g9 : Gr W1 (((((((V3.setCell ⟨Cx, 0, none⟩ (.string z.de)).setCell ⟨Cx, 1, none⟩ (.int .i64 z.nu)).setCell ⟨Cx, 2, none⟩ (.int .i64 z.ck)).setCell ⟨Cx, 3, none⟩ (.string z.ro)).setCell ⟨Cx, 4, none⟩ (.int .i64 z.va)).setCell ⟨Cx, 5, none⟩ (.string z.st)).setCell ⟨Cx, 6, none⟩ (.slice z.p z.n z.cap)) := (Below.setCell (Below.setCell (Below.setCell (Below.setCell (Below.setCell (Below.setCell (Below.setCell g3 hCx _) hCx _) hCx _) hCx _) hCx _) hCx _) hCx _)
      have HB9 := Lib.hid hb9
      clear hb9 hbA
      rw [if_pos (show Region.wanted _ _ = true from rfl)]
      go_simp
      refine hK.out _ _ g9 (fun hHeld => ?_)
      clear hK K f2 z0 z1 z2 z3 z4 z5 z6
      (try simp only [Act.put, tz0, tz1, tz2])
      refine wpAnyH_take (i := 9) (v := (.bool bb)) (op_at rfl) (by kernel_rfl) (by kernel_rfl) (by kernel_rfl) (fun _ _ _ h => h) (Or.inl ⟨rfl, fun U hSw => ?_⟩) (by assumption) ?_
      · go_simp; try with_reducible rfl
      (try simp only [Act.put, tz0, tz1, tz2])
      refine wpAnyH_done (by kernel_rfl) ?_ _
      go_wp2_with fail
      go_meet
      case rel => exact ⟨Cx, rfl, rfl, HB9.out, g9⟩
    · go_simp
      have gA := (Gr.refl VD).alloc (.cells #[.string ⟨#[]⟩, .int .i64 0, .int .i64 0, .string ⟨#[]⟩, .int .i64 0, .string ⟨#[]⟩, .slice none 0 0] 77)
      have hbA := heap_alloc_new VD (.cells #[.string ⟨#[]⟩, .int .i64 0, .int .i64 0, .string ⟨#[]⟩, .int .i64 0, .string ⟨#[]⟩, .slice none 0 0] 77)
      have g2 := gD.trans gA
      have hCx : W1.heap.size ≤ (VD).heap.size := (gD).size
      generalize hCC : (VD).heap.size = Cx at *
      clear hCC
      refine hK.out _ _ g2 (fun hHeld => ?_)
      clear hK K gA
      (try simp only [Act.put, tz0, tz1, tz2])
      generalize (VD).alloc (.cells #[.string ⟨#[]⟩, .int .i64 0, .int .i64 0, .string ⟨#[]⟩, .int .i64 0, .string ⟨#[]⟩, .slice none 0 0] 77) = V2 at *
      refine wpAnyH_ready (rs := [2]) (by kernel_rfl) (by simp) ((AllReadyH.cons (op_at rfl) (fun K hK => ?_) AllReadyH.nil))
      go_simp
      refine (HMK.out _).mono ?_
      rintro e V3 ⟨rfl, hg⟩
      go_wp2_with fail
      have g3 := g2.trans hg
      replace hbA := Gr.block hg hbA
      refine hK.out _ _ g3 (fun hHeld => ?_)
      clear hK K
      (try simp only [Act.put, tz0, tz1, tz2])
      refine wpAnyH_take (i := 3) (v := (.tuple #[(.agg #[.string z.de, .int .i64 z.nu, .int .i64 z.ck, .string z.ro, .int .i64 z.va, .string z.st, .slice z.p z.n z.cap]), .bool bb])) (op_at rfl) (by kernel_rfl) (by kernel_rfl) (by kernel_rfl) (fun _ _ _ h => h) (Or.inl ⟨rfl, fun U hSw => ?_⟩) (by assumption) ?_
      · have qe := HLK.out U hSw; go_simp; try with_reducible rfl
      (try simp only [Act.put, tz0, tz1, tz2])
      refine wpAnyH_take (i := 4) (v := (.tuple #[(.agg #[.string z.de, .int .i64 z.nu, .int .i64 z.ck, .string z.ro, .int .i64 z.va, .string z.st, .slice z.p z.n z.cap]), .bool bb])) (op_at rfl) (by kernel_rfl) (by kernel_rfl) (by kernel_rfl) (fun _ _ _ h => h) (Or.inl ⟨rfl, fun U hSw => ?_⟩) (by assumption) ?_
      · go_simp; try with_reducible rfl
      (try simp only [Act.put, tz0, tz1, tz2])
      refine wpAnyH_take (i := 5) (v := (.agg #[.string z.de, .int .i64 z.nu, .int .i64 z.ck, .string z.ro, .int .i64 z.va, .string z.st, .slice z.p z.n z.cap])) (op_at rfl) (by kernel_rfl) (by kernel_rfl) (by kernel_rfl) (fun _ _ _ h => h) (Or.inl ⟨rfl, fun U hSw => ?_⟩) (by assumption) ?_
      · go_simp; try with_reducible rfl
      (try simp only [Act.put, tz0, tz1, tz2])
      refine wpAnyH_take (i := 6) (v := (.bool bb)) (op_at rfl) (by kernel_rfl) (by kernel_rfl) (by kernel_rfl) (fun _ _ _ h => h) (Or.inl ⟨rfl, fun U hSw => ?_⟩) (by assumption) ?_
      · go_simp; try with_reducible rfl
      (try simp only [Act.put, tz0, tz1, tz2])
      have f2 : ∀ o, V3.frozen? ⟨Cx, o, none⟩ = false := fun o => frozen_of_row _ _ o _ _ hbA
      obtain ⟨z0, z1, z2, z3, z4, z5, z6⟩ := cells7_ofO hbA
      refine wpAnyH_ready (rs := [8]) (by kernel_rfl) (by simp) ((AllReadyH.cons (op_at rfl) (fun K hK => ?_) AllReadyH.nil))
      have hb9 := set7O hbA (.string z.de) (.int .i64 z.nu) (.int .i64 z.ck) (.string z.ro) (.int .i64 z.va) (.string z.st) (.slice z.p z.n z.cap)
      have g9 : Gr W1 (((((((V3.setCell ⟨Cx, 0, none⟩ (.string z.de)).setCell ⟨Cx, 1, none⟩ (.int .i64 z.nu)).setCell ⟨Cx, 2, none⟩ (.int .i64 z.ck)).setCell ⟨Cx, 3, none⟩ (.string z.ro)).setCell ⟨Cx, 4, none⟩ (.int .i64 z.va)).setCell ⟨Cx, 5, none⟩ (.string z.st)).setCell ⟨Cx, 6, none⟩ (.slice z.p z.n z.cap)) := (Below.setCell (Below.setCell (Below.setCell (Below.setCell (Below.setCell (Below.setCell (Below.setCell g3 hCx _) hCx _) hCx _) hCx _) hCx _) hCx _) hCx _)
      have HB9 := Lib.hid hb9
      clear hb9 hbA
      rw [if_pos (show Region.wanted _ _ = true from rfl)]
      go_simp
      refine hK.out _ _ g9 (fun hHeld => ?_)
      clear hK K f2 z0 z1 z2 z3 z4 z5 z6
      (try simp only [Act.put, tz0, tz1, tz2])
      refine wpAnyH_take (i := 9) (v := (.bool bb)) (op_at rfl) (by kernel_rfl) (by kernel_rfl) (by kernel_rfl) (fun _ _ _ h => h) (Or.inl ⟨rfl, fun U hSw => ?_⟩) (by assumption) ?_
      · go_simp; try with_reducible rfl
      (try simp only [Act.put, tz0, tz1, tz2])
      refine wpAnyH_done (by kernel_rfl) ?_ _
      go_wp2_with fail
      go_meet
      case rel => exact ⟨Cx, rfl, rfl, HB9.out, g9⟩
  case rest =>
    obtain ⟨Cx, rfl, rfl, hb, gw⟩ := hcut
    obtain ⟨z0, z1, z2, z3, z4, z5, z6⟩ := cells7_ofO hb
    obtain ⟨d0, d1, d2, d3, d4, d5, d6⟩ := HD.out wc gw
    have HS := Lib.hid (isSameS_c (x := z) (y := y) (HZ.out.1.gr gw) (HY.out.gr gw) HZ.out.2.1 HZ.out.2.2)
    have HGW := Lib.hid (HG1.out.trans gw)
    clear hb gw HD HLK HMK HBX HY HZ HG1
    cases bb
    · clear HS
      go_wp2_with fail
      go_ret
      exact ⟨⟨false, rfl, by rw [Hid, HP.out]; simp⟩, HGW.out⟩
    · by_cases hck : z.ck = y.ck
      · have hc1 : (z.ck == y.ck) = true := beq_iff_eq.2 hck
        have HCK := Lib.hid hck
        clear hck
        go_wp2_with fail
        refine HS.out.mono ?_
        rintro e V ⟨⟨b, rfl, hb⟩, hg⟩
        have HB := Lib.hid hb.out
        have HGV := Lib.hid (HGW.out.trans hg)
        clear hb hg HS
        cases b
        all_goals
          go_wp2_with fail
          go_ret
          exact ⟨⟨_, rfl, by rw [Hid, HP.out, ← HB.out]; simp [HCK.out]⟩, HGV.out⟩
      · have hc1 : (z.ck == y.ck) = false := beq_eq_false_iff_ne.2 hck
        have HCK := Lib.hid hck
        clear hck HS
        go_wp2_with fail
        go_ret
        exact ⟨⟨true, rfl, by rw [Hid, HP.out]; simp [HCK.out]⟩, HGW.out⟩
end Go.Proofs.YtnihclhhbegjhaaGreatDoor
