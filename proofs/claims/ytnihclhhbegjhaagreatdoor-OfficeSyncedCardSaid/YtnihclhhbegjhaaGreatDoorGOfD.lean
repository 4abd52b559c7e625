/- Sheets (chapter 10): CheckSheet, as the program has it: one result. -/
import Derived.Test.YtnihclhhbegjhaaGreatDoorGNames
namespace Go.Proofs.YtnihclhhbegjhaaGreatDoor
open Go.RowKit Go.Lib
set_option linter.unusedSimpArgs false
set_option linter.unusedVariables false
theorem uMapBO : Tryz.prog.underlying 85 = some (.map 9 4) := by kernel_rfl
theorem zeroBO (w : World) : (zeroValue 4).run Tryz.prog w = .ok (.bool false) w := by kernel_rfl
def evBO (b : Bool) : Value := .bool b
theorem lookG_putO {α : Type} (k : ByteArray) (v : α) (s : ByteArray) : ∀ ks : List (ByteArray × α), lookG (putG ks k v) s = if k.toList == s.toList then some v else lookG ks s
  | [] => by
    simp only [putG, lookG, List.find?_cons, List.find?_nil]
    cases k.toList == s.toList <;> simp
  | p :: r => by
    have ih := lookG_putO k v s r
    by_cases hp : (p.1.toList == k.toList) = true
    · have e : p.1.toList = k.toList := by simpa using hp
      simp only [putG, hp, if_true]
      unfold lookG
      rw [List.find?_cons, List.find?_cons]
      simp only [e]
      cases k.toList == s.toList <;> simp
    · have hp' : (p.1.toList == k.toList) = false := by simpa using hp
      simp only [putG, hp', Bool.false_eq_true, if_false]
      unfold lookG at *
      rw [List.find?_cons, List.find?_cons]
      by_cases hs : (p.1.toList == s.toList) = true
      · have e : p.1.toList = s.toList := by simpa using hs
        have hk : (k.toList == s.toList) = false := by
          rw [← e]
          cases h : k.toList == p.1.toList
          · rfl
          · have := eq_of_beq h; rw [this] at hp'; simp at hp'
        simp [hs, hk]
      · have hs' : (p.1.toList == s.toList) = false := by simpa using hs
        simp only [hs']
        exact ih
structure SeenO (ks : List (ByteArray × Bool)) (xs : List RowR) (j : Nat) : Prop where
  at_ : ∀ nm, ((lookG ks nm).map evBO).getD (.bool false) = .bool (dupR xs j nm)
theorem SeenO.put {ks : List (ByteArray × Bool)} {xs : List RowR} {j : Nat} {x : RowR} (h : SeenO ks xs j) (hx : xs[j]? = some x) : SeenO (putG ks x.nm true) xs (j + 1) := by
  refine ⟨fun nm => ?_⟩
  have hd : dupR xs (j + 1) nm = (dupR xs j nm || (x.nm.toList == nm.toList)) := by
    unfold dupR
    rw [List.take_add_one, hx]
    simp [List.any_append]
  rw [hd, lookG_putO]
  have := h.at_ nm
  cases hk : x.nm.toList == nm.toList
  · simpa using this
  · simp [evBO]
theorem SeenO.nil (xs : List RowR) : SeenO [] xs 0 := ⟨fun nm => by simp [lookG, dupR]⟩
theorem MapG.cellO {α : Type} {ev : α → Value} {w : World} {g : Nat} {ks : List (ByteArray × α)} (h : MapG ev w g ks) {b o : Nat} {v : Value} (hc : w.cell? ⟨b, o, none⟩ = some v) (ob : Obj) : (putGB w g ob).cell? ⟨b, o, none⟩ = some v := by
  obtain ⟨⟨es, clock, h1, _⟩⟩ := h
  have hne : ¬ g = b := by
    rintro rfl
    simp [World.cell?, h1] at hc
  rw [← hc]
  simp [World.cell?, putGB, hne]
def oneShE (va : Int) (xs : List RowR) (j : Nat) (x : RowR) : Int :=
  firstE [nmE x.nm, if dupR xs j x.nm then 9 else 0, if (!x.st.toList.isEmpty && gradeZ x.st.toList == -1) then 13 else 0, if (!fitO va x) then 2 else 0, valsE x.xs]
structure ShBox (w : World) (L : Nat) (ro : ByteArray) (va : Int) (st : ByteArray) (vs : Value) : Prop where
  c0 : w.cell? ⟨L, 0, none⟩ = some (.string ro)
  c1 : w.cell? ⟨L, 1, none⟩ = some (.int .i64 va)
  c2 : w.cell? ⟨L, 2, none⟩ = some (.string st)
  c3 : w.cell? ⟨L, 3, none⟩ = some vs
theorem ShBox.gr {w w' : World} {L : Nat} {ro : ByteArray} {va : Int} {st : ByteArray} {vs : Value} (h : ShBox w L ro va st vs) (k : Gr w w') : ShBox w' L ro va st vs := ⟨k.cell h.c0, k.cell h.c1, k.cell h.c2, k.cell h.c3⟩
set_option maxHeartbeats 4000000 in
set_option maxRecDepth 100000 in
theorem oneSh_c {w0 W : World} {xs : List RowR} {x : RowR} {j M L mg : Nat} {ks : List (ByteArray × Bool)} {ro st : ByteArray} {va : Int} {vs : Value} (G : Gr w0 W) (hx : xs[j]? = some x) (hv : IntsV w0 x.u x.xs) (hl : x.xs.length ≤ 1000)
    (hvs : ∃ p n c, vs = .slice p n c) (hM : W.cell? ⟨M, 0, none⟩ = some (.map (some mg))) (hL : ShBox W L ro va st vs) (hks : MapG evBO W mg ks) (hse : SeenO ks xs j) (hg : w0.heap.size ≤ mg) :
    Calls Tryz.prog 100 #[.int .i64 j, .agg #[.string x.nm, .string x.st, x.u], .pointer (some ⟨M, 0, none⟩), .pointer (some ⟨L, 0, none⟩)] W fun e w' => e = .returned (.int .i64 (oneShE va xs j x)) ∧ Gr w0 w' ∧ MapG evBO w' mg (putG ks x.nm true) ∧ w'.cell? ⟨M, 0, none⟩ = some (.map (some mg)) ∧ ShBox w' L ro va st vs := by
  obtain ⟨pvs, nvs, cvs, hvs⟩ := hvs
  obtain ⟨⟨pu, cu, hu, _⟩⟩ := id hv
  have hv2 : IntsV w0 (.slice pu x.xs.length cu) x.xs := by rw [← hu]; exact hv
  rw [hu]
  -- the world behind the box, with the map's answers
  have c0 := cell_new W #[.string x.nm, .string x.st, .slice pu x.xs.length cu] 91 0 (by simp)
  have c1 := cell_new W #[.string x.nm, .string x.st, .slice pu x.xs.length cu] 91 1 (by simp)
  have c2 := cell_new W #[.string x.nm, .string x.st, .slice pu x.xs.length cu] 91 2 (by simp)
  have g1 : Gr W (W.alloc (.cells #[.string x.nm, .string x.st, .slice pu x.xs.length cu] 91)) := (Gr.refl W).alloc _
  have mw := g1.cell hM
  have hks1 := hks.gr g1
  have hL1 := hL.gr g1
  have hlook := mapG_look uMapBO zeroBO hks1 x.nm
  rw [hse.at_ x.nm] at hlook
  obtain ⟨ob, hput, hks2⟩ := mapG_put uMapBO hks1 x.nm true
  have hput : (Instr.mapUpdate 85 (.map (some mg)) (.string x.nm) (.bool true)).run Tryz.prog _ = _ := hput
  have hG2 := gr_putG (ob := ob) (G.trans g1) hg
  have a0 := hks1.cellO c0 ob
  have a1 := hks1.cellO c1 ob
  have a2 := hks1.cellO c2 ob
  have m0 := hks1.cellO mw ob
  have s0 := hks1.cellO hL1.c0 ob
  have s1 := hks1.cellO hL1.c1 ob
  have s2 := hks1.cellO hL1.c2 ob
  have s3 := hks1.cellO hL1.c3 ob
  simp only [List.getElem_toArray, List.getElem_cons_zero, List.getElem_cons_succ] at c0 c1 c2 a0 a1 a2
  obtain ⟨V, hV⟩ : ∃ V, putGB (W.alloc (.cells #[.string x.nm, .string x.st, .slice pu x.xs.length cu] 91)) mg ob = V := ⟨_, rfl⟩
  rw [hV] at hks2 hG2 a0 a1 a2 m0 s0 s1 s2 s3
  have HV := Lib.hid hV
  have HM2 := Lib.hid hks2
  have HG2 := Lib.hid hG2
  -- what the calls return
  obtain ⟨e1, h1', H1⟩ := oname_e x.nm
  obtain ⟨e2, h2', H2⟩ := if_e (dupR xs j x.nm) 9
  obtain ⟨e3, h3', H3⟩ := if_e (!x.st.toList.isEmpty && gradeZ x.st.toList == -1) 13
  obtain ⟨e4, h4', H4⟩ := if_e (!fitO va x) 2
  obtain ⟨e5, h5'⟩ : ∃ z, z = valsE x.xs := ⟨_, rfl⟩
  have H5 := Lib.hid (fun W (g : Gr V W) => eachV_cO W (hv2.gr (hG2.trans g)) hl)
  rw [← h5'] at H5
  have H6 := Lib.hid (fun W (g : Gr V W) => fits_c ro va st vs x W (hv.gr (hG2.trans g)))
  rw [hu] at H6
  have HF := Lib.hid (fst5 e1 e2 e3 e4 e5)
  obtain ⟨err, hErr⟩ : ∃ z, z = oneShE va xs j x := ⟨_, rfl⟩
  rw [← hErr]
  unfold oneShE at hErr
  rw [← h1', ← h2', ← h3', ← h4', ← h5'] at hErr
  rw [← hErr] at HF
  replace H1 := Lib.hid (fun W (_ : Gr V W) => H1 W)
  replace H2 := Lib.hid H2
  replace H3 := Lib.hid H3
  replace H4 := Lib.hid H4
  have HSt := Lib.hid (fun W h => isState_c x.st W h)
  clear h1' h2' h3' h4' h5' hErr hks2 hG2 hV hks1 hL1 g1 hu hv hv2 hl hx hse hks hL hM G hvs hg
  generalize dupR xs j x.nm = dB at *
  generalize fitO va x = fB at *
  generalize x.xs.length = xn at *
  cases he : x.st.toList.isEmpty
  · have he2 : ¬ x.st.toList = [] := by intro q; rw [q] at he; cases he
    rw [he] at H3
    have hsb : (!false && gradeZ x.st.toList == -1) = !(!(gradeZ x.st.toList == -1)) := by simp
    rw [hsb] at H3
    replace HSt := Lib.hid (fun W => HSt.out W he)
    generalize (!(gradeZ x.st.toList == -1)) = sB at *
    go_enter Tryz.func100, Tryz.ntmps100
    go_wp2_with fail
    rw [HV.out]
    clear HV hlook hput c0 c1 c2 mw
    generalize W.heap.size = Bx at *
    have gd := (Gr.refl V).drew
    replace a0 := gd.cell a0
    replace a1 := gd.cell a1
    replace a2 := gd.cell a2
    replace s0 := gd.cell s0
    replace s1 := gd.cell s1
    replace s2 := gd.cell s2
    replace s3 := gd.cell s3
    replace m0 := gd.cell m0
    have g := gd
    clear gd
    refine wp_region_held_drew (S := (fun w' => w'.cell? ⟨Bx, 0, none⟩ = some (.string x.nm) ∧ w'.cell? ⟨Bx, 1, none⟩ = some (.string x.st) ∧ w'.cell? ⟨Bx, 2, none⟩ = some (.slice pu xn cu) ∧ w'.cell? ⟨L, 0, none⟩ = some (.string ro) ∧ w'.cell? ⟨L, 1, none⟩ = some (.int .i64 va) ∧ w'.cell? ⟨L, 2, none⟩ = some (.string st) ∧ w'.cell? ⟨L, 3, none⟩ = some vs ∧ w'.cell? ⟨M, 0, none⟩ = some (.map (some mg)))) (by kernel_rfl) ⟨a0, a1, a2, s0, s1, s2, s3, m0⟩ (fun hHeld => ?_)
    generalize V.drew = V2 at *
    refine wpAnyH_take (i := 0) (v := (.pointer (some ⟨Bx, 0, none⟩))) (op_at rfl) (by kernel_rfl) (by kernel_rfl) (by kernel_rfl) (fun _ _ _ h => h) (Or.inl ⟨rfl, fun w hSw => ?_⟩) (by assumption) ?_
    · (try dsimp only at hSw); go_simp; try with_reducible rfl
    (try simp only [Act.put, tz0, tz1, tz2])
    refine wpAnyH_take (i := 1) (v := (.string x.nm)) (op_at rfl) (by kernel_rfl) (by kernel_rfl) (by kernel_rfl) (fun _ _ _ h => h) (Or.inl ⟨rfl, fun w hSw => ?_⟩) (by assumption) ?_
    · (try dsimp only at hSw); go_simp; try with_reducible rfl
    (try simp only [Act.put, tz0, tz1, tz2])
    refine wpAnyH_take (i := 3) (v := (.bool dB)) (op_at rfl) (by kernel_rfl) (by kernel_rfl) (by kernel_rfl) (fun _ _ _ h => h) (Or.inl ⟨rfl, fun w hSw => ?_⟩) (by assumption) ?_
    · (try dsimp only at hSw); go_simp; try with_reducible rfl
    (try simp only [Act.put, tz0, tz1, tz2])
    refine wpAnyH_take (i := 5) (v := (.pointer (some ⟨Bx, 1, none⟩))) (op_at rfl) (by kernel_rfl) (by kernel_rfl) (by kernel_rfl) (fun _ _ _ h => h) (Or.inl ⟨rfl, fun w hSw => ?_⟩) (by assumption) ?_
    · (try dsimp only at hSw); go_simp; try with_reducible rfl
    (try simp only [Act.put, tz0, tz1, tz2])
    refine wpAnyH_take (i := 6) (v := (.string x.st)) (op_at rfl) (by kernel_rfl) (by kernel_rfl) (by kernel_rfl) (fun _ _ _ h => h) (Or.inl ⟨rfl, fun w hSw => ?_⟩) (by assumption) ?_
    · (try dsimp only at hSw); go_simp; try with_reducible rfl
    (try simp only [Act.put, tz0, tz1, tz2])
    refine wpAnyH_take (i := 7) (v := (.bool true)) (op_at rfl) (by kernel_rfl) (by kernel_rfl) (by kernel_rfl) (fun _ _ _ h => h) (Or.inl ⟨rfl, fun w hSw => ?_⟩) (by assumption) ?_
    · (try dsimp only at hSw); go_simp; try with_reducible rfl
    (try simp only [Act.put, tz0, tz1, tz2])
    refine wpAnyH_take (i := 15) (v := (.agg #[.string ro, .int .i64 va, .string st, vs])) (op_at rfl) (by kernel_rfl) (by kernel_rfl) (by kernel_rfl) (fun _ _ _ h => h) (Or.inl ⟨rfl, fun w hSw => ?_⟩) (by assumption) ?_
    · (try dsimp only at hSw); go_simp; try with_reducible rfl
    (try simp only [Act.put, tz0, tz1, tz2])
    refine wpAnyH_take (i := 16) (v := (.agg #[.string x.nm, .string x.st, .slice pu xn cu])) (op_at rfl) (by kernel_rfl) (by kernel_rfl) (by kernel_rfl) (fun _ _ _ h => h) (Or.inl ⟨rfl, fun w hSw => ?_⟩) (by assumption) ?_
    · (try dsimp only at hSw); go_simp; try with_reducible rfl
    (try simp only [Act.put, tz0, tz1, tz2])
    refine wpAnyH_take (i := 20) (v := (.pointer (some ⟨Bx, 2, none⟩))) (op_at rfl) (by kernel_rfl) (by kernel_rfl) (by kernel_rfl) (fun _ _ _ h => h) (Or.inl ⟨rfl, fun w hSw => ?_⟩) (by assumption) ?_
    · (try dsimp only at hSw); go_simp; try with_reducible rfl
    (try simp only [Act.put, tz0, tz1, tz2])
    refine wpAnyH_take (i := 21) (v := (.slice pu xn cu)) (op_at rfl) (by kernel_rfl) (by kernel_rfl) (by kernel_rfl) (fun _ _ _ h => h) (Or.inl ⟨rfl, fun w hSw => ?_⟩) (by assumption) ?_
    · (try dsimp only at hSw); go_simp; try with_reducible rfl
    (try simp only [Act.put, tz0, tz1, tz2])
    refine wpAnyH_ready (rs := [2]) (by kernel_rfl) (by simp) (AllReadyH.cons (op_at rfl) (fun K hK => ?_) AllReadyH.nil)
    go_simp
    (refine (H1.out _ g).mono ?_; rintro e W2 ⟨rfl, hg⟩; replace a0 := hg.cell a0; replace a1 := hg.cell a1; replace a2 := hg.cell a2; replace s0 := hg.cell s0; replace s1 := hg.cell s1; replace s2 := hg.cell s2; replace s3 := hg.cell s3; replace m0 := hg.cell m0; replace g := g.trans hg; clear hg)
    go_wp2_with fail
    refine hK.out _ _ ⟨a0, a1, a2, s0, s1, s2, s3, m0⟩ (fun hHeld => ?_)
    clear hK K
    (try simp only [Act.put, tz0, tz1, tz2])
    refine wpAnyH_ready (rs := [4]) (by kernel_rfl) (by simp) (AllReadyH.cons (op_at rfl) (fun K hK => ?_) AllReadyH.nil)
    go_simp
    (refine (H2.out _).mono ?_; rintro e w' ⟨rfl, rfl⟩)
    go_wp2_with fail
    refine hK.out _ _ ⟨a0, a1, a2, s0, s1, s2, s3, m0⟩ (fun hHeld => ?_)
    clear hK K
    (try simp only [Act.put, tz0, tz1, tz2])
    refine wpAnyH_take (i := 8) (v := (.bool true)) (op_at rfl) (by kernel_rfl) (by kernel_rfl) (by kernel_rfl) (fun _ _ _ h => h) (Or.inl ⟨rfl, fun w hSw => ?_⟩) (by assumption) ?_
    · (try dsimp only at hSw); go_simp; try with_reducible rfl
    (try simp only [Act.put, tz0, tz1, tz2])
    refine wpAnyH_take (i := 9) (v := (.pointer (some ⟨Bx, 1, none⟩))) (op_at rfl) (by kernel_rfl) (by kernel_rfl) (by kernel_rfl) (fun _ _ _ h => h) (Or.inl ⟨rfl, fun w hSw => ?_⟩) (by assumption) ?_
    · (try dsimp only at hSw); go_simp; try with_reducible rfl
    (try simp only [Act.put, tz0, tz1, tz2])
    refine wpAnyH_take (i := 10) (v := (.string x.st)) (op_at rfl) (by kernel_rfl) (by kernel_rfl) (by kernel_rfl) (fun _ _ _ h => h) (Or.inl ⟨rfl, fun w hSw => ?_⟩) (by assumption) ?_
    · (try dsimp only at hSw); go_simp; try with_reducible rfl
    (try simp only [Act.put, tz0, tz1, tz2])
    refine wpAnyH_ready (rs := [11]) (by kernel_rfl) (by simp) (AllReadyH.cons (op_at rfl) (fun K hK => ?_) AllReadyH.nil)
    go_simp
    (refine (HSt.out _).mono ?_; rintro e w' ⟨rfl, rfl⟩)
    go_wp2_with fail
    refine hK.out _ _ ⟨a0, a1, a2, s0, s1, s2, s3, m0⟩ (fun hHeld => ?_)
    clear hK K
    (try simp only [Act.put, tz0, tz1, tz2])
    refine wpAnyH_take (i := 12) (v := (.bool !sB)) (op_at rfl) (by kernel_rfl) (by kernel_rfl) (by kernel_rfl) (fun _ _ _ h => h) (Or.inl ⟨rfl, fun w hSw => ?_⟩) (by assumption) ?_
    · (try dsimp only at hSw); go_simp; try with_reducible rfl
    (try simp only [Act.put, tz0, tz1, tz2])
    refine wpAnyH_take (i := 13) (v := (.bool !sB)) (op_at rfl) (by kernel_rfl) (by kernel_rfl) (by kernel_rfl) (fun _ _ _ h => h) (Or.inl ⟨rfl, fun w hSw => ?_⟩) (by assumption) ?_
    · (try dsimp only at hSw); go_simp; try with_reducible rfl
    (try simp only [Act.put, tz0, tz1, tz2])
    refine wpAnyH_ready (rs := [14]) (by kernel_rfl) (by simp) (AllReadyH.cons (op_at rfl) (fun K hK => ?_) AllReadyH.nil)
    go_simp
    (refine (H3.out _).mono ?_; rintro e w' ⟨rfl, rfl⟩)
    go_wp2_with fail
    refine hK.out _ _ ⟨a0, a1, a2, s0, s1, s2, s3, m0⟩ (fun hHeld => ?_)
    clear hK K
    (try simp only [Act.put, tz0, tz1, tz2])
    refine wpAnyH_ready (rs := [17]) (by kernel_rfl) (by simp) (AllReadyH.cons (op_at rfl) (fun K hK => ?_) AllReadyH.nil)
    go_simp
    (refine (H6.out _ g).mono ?_; rintro e W4 ⟨rfl, hg⟩; replace a0 := hg.cell a0; replace a1 := hg.cell a1; replace a2 := hg.cell a2; replace s0 := hg.cell s0; replace s1 := hg.cell s1; replace s2 := hg.cell s2; replace s3 := hg.cell s3; replace m0 := hg.cell m0; replace g := g.trans hg; clear hg)
    go_wp2_with fail
    refine hK.out _ _ ⟨a0, a1, a2, s0, s1, s2, s3, m0⟩ (fun hHeld => ?_)
    clear hK K
    (try simp only [Act.put, tz0, tz1, tz2])
    refine wpAnyH_take (i := 18) (v := (.bool !fB)) (op_at rfl) (by kernel_rfl) (by kernel_rfl) (by kernel_rfl) (fun _ _ _ h => h) (Or.inl ⟨rfl, fun w hSw => ?_⟩) (by assumption) ?_
    · (try dsimp only at hSw); go_simp; try with_reducible rfl
    (try simp only [Act.put, tz0, tz1, tz2])
    refine wpAnyH_ready (rs := [19]) (by kernel_rfl) (by simp) (AllReadyH.cons (op_at rfl) (fun K hK => ?_) AllReadyH.nil)
    go_simp
    (refine (H4.out _).mono ?_; rintro e w' ⟨rfl, rfl⟩)
    go_wp2_with fail
    refine hK.out _ _ ⟨a0, a1, a2, s0, s1, s2, s3, m0⟩ (fun hHeld => ?_)
    clear hK K
    (try simp only [Act.put, tz0, tz1, tz2])
    refine wpAnyH_ready (rs := [22]) (by kernel_rfl) (by simp) (AllReadyH.cons (op_at rfl) (fun K hK => ?_) AllReadyH.nil)
    go_simp
    (refine (H5.out _ g).mono ?_; rintro e w' ⟨rfl, rfl⟩)
    go_wp2_with fail
    refine hK.out _ _ ⟨a0, a1, a2, s0, s1, s2, s3, m0⟩ (fun hHeld => ?_)
    clear hK K
    (try simp only [Act.put, tz0, tz1, tz2])
    refine wpAnyH_ready (rs := [23]) (by kernel_rfl) (by simp) (AllReadyH.cons (op_at rfl) (fun K hK => ?_) AllReadyH.nil)
    go_simp
    obtain ⟨WW, hWW, gW, q0, q1, q2, q3, q4⟩ := bx5 W4 (.int .i64 e1) (.int .i64 e2) (.int .i64 e3) (.int .i64 e4) (.int .i64 e5) 37
    rw [hWW]
    clear hWW
    replace a0 := gW.cell a0
    replace a1 := gW.cell a1
    replace a2 := gW.cell a2
    replace s0 := gW.cell s0
    replace s1 := gW.cell s1
    replace s2 := gW.cell s2
    replace s3 := gW.cell s3
    replace m0 := gW.cell m0
    replace g := g.trans gW
    refine hK.out _ _ ⟨a0, a1, a2, s0, s1, s2, s3, m0⟩ (fun hHeld => ?_)
    clear hK K
    (try simp only [Act.put, tz0, tz1, tz2])
    refine wpAnyH_ready (rs := [24]) (by kernel_rfl) (by simp) (AllReadyH.cons (op_at rfl) (fun K hK => ?_) AllReadyH.nil)
    go_simp
    (refine (HF.out _ _ WW q0 q1 q2 q3 q4).mono ?_; rintro e w8 ⟨rfl, rfl⟩)
    go_wp2_with fail
    refine hK.out _ _ ⟨a0, a1, a2, s0, s1, s2, s3, m0⟩ (fun hHeld => ?_)
    clear hK K
    (try simp only [Act.put, tz0, tz1, tz2])
    refine wpAnyH_take (i := 25) (v := (.int .i64 err)) (op_at rfl) (by kernel_rfl) (by kernel_rfl) (by kernel_rfl) (fun _ _ _ h => h) (Or.inl ⟨rfl, fun w hSw => ?_⟩) (by assumption) ?_
    · (try dsimp only at hSw); go_simp; try with_reducible rfl
    (try simp only [Act.put, tz0, tz1, tz2])
    refine wpAnyH_done (by kernel_rfl) ?_ _
    go_wp2_with fail
    go_ret
    exact ⟨rfl, HG2.out.trans g, HM2.out.gr g, m0, ⟨s0, s1, s2, s3⟩⟩
  · have he2 : x.st.toList = [] := by simpa using he
    rw [he] at H3
    have hsb : (!true && gradeZ x.st.toList == -1) = false := by simp
    rw [hsb] at H3
    clear HSt
    go_enter Tryz.func100, Tryz.ntmps100
    go_wp2_with fail
    rw [HV.out]
    clear HV hlook hput c0 c1 c2 mw
    generalize W.heap.size = Bx at *
    have gd := (Gr.refl V).drew
    replace a0 := gd.cell a0
    replace a1 := gd.cell a1
    replace a2 := gd.cell a2
    replace s0 := gd.cell s0
    replace s1 := gd.cell s1
    replace s2 := gd.cell s2
    replace s3 := gd.cell s3
    replace m0 := gd.cell m0
    have g := gd
    clear gd
    refine wp_region_held_drew (S := (fun w' => w'.cell? ⟨Bx, 0, none⟩ = some (.string x.nm) ∧ w'.cell? ⟨Bx, 1, none⟩ = some (.string x.st) ∧ w'.cell? ⟨Bx, 2, none⟩ = some (.slice pu xn cu) ∧ w'.cell? ⟨L, 0, none⟩ = some (.string ro) ∧ w'.cell? ⟨L, 1, none⟩ = some (.int .i64 va) ∧ w'.cell? ⟨L, 2, none⟩ = some (.string st) ∧ w'.cell? ⟨L, 3, none⟩ = some vs ∧ w'.cell? ⟨M, 0, none⟩ = some (.map (some mg)))) (by kernel_rfl) ⟨a0, a1, a2, s0, s1, s2, s3, m0⟩ (fun hHeld => ?_)
    generalize V.drew = V2 at *
    refine wpAnyH_take (i := 0) (v := (.pointer (some ⟨Bx, 0, none⟩))) (op_at rfl) (by kernel_rfl) (by kernel_rfl) (by kernel_rfl) (fun _ _ _ h => h) (Or.inl ⟨rfl, fun w hSw => ?_⟩) (by assumption) ?_
    · (try dsimp only at hSw); go_simp; try with_reducible rfl
    (try simp only [Act.put, tz0, tz1, tz2])
    refine wpAnyH_take (i := 1) (v := (.string x.nm)) (op_at rfl) (by kernel_rfl) (by kernel_rfl) (by kernel_rfl) (fun _ _ _ h => h) (Or.inl ⟨rfl, fun w hSw => ?_⟩) (by assumption) ?_
    · (try dsimp only at hSw); go_simp; try with_reducible rfl
    (try simp only [Act.put, tz0, tz1, tz2])
    refine wpAnyH_take (i := 3) (v := (.bool dB)) (op_at rfl) (by kernel_rfl) (by kernel_rfl) (by kernel_rfl) (fun _ _ _ h => h) (Or.inl ⟨rfl, fun w hSw => ?_⟩) (by assumption) ?_
    · (try dsimp only at hSw); go_simp; try with_reducible rfl
    (try simp only [Act.put, tz0, tz1, tz2])
    refine wpAnyH_take (i := 5) (v := (.pointer (some ⟨Bx, 1, none⟩))) (op_at rfl) (by kernel_rfl) (by kernel_rfl) (by kernel_rfl) (fun _ _ _ h => h) (Or.inl ⟨rfl, fun w hSw => ?_⟩) (by assumption) ?_
    · (try dsimp only at hSw); go_simp; try with_reducible rfl
    (try simp only [Act.put, tz0, tz1, tz2])
    refine wpAnyH_take (i := 6) (v := (.string x.st)) (op_at rfl) (by kernel_rfl) (by kernel_rfl) (by kernel_rfl) (fun _ _ _ h => h) (Or.inl ⟨rfl, fun w hSw => ?_⟩) (by assumption) ?_
    · (try dsimp only at hSw); go_simp; try with_reducible rfl
    (try simp only [Act.put, tz0, tz1, tz2])
    refine wpAnyH_take (i := 7) (v := (.bool false)) (op_at rfl) (by kernel_rfl) (by kernel_rfl) (by kernel_rfl) (fun _ _ _ h => h) (Or.inl ⟨rfl, fun w hSw => ?_⟩) (by assumption) ?_
    · (try dsimp only at hSw); go_simp; try with_reducible rfl
    (try simp only [Act.put, tz0, tz1, tz2])
    refine wpAnyH_take (i := 15) (v := (.agg #[.string ro, .int .i64 va, .string st, vs])) (op_at rfl) (by kernel_rfl) (by kernel_rfl) (by kernel_rfl) (fun _ _ _ h => h) (Or.inl ⟨rfl, fun w hSw => ?_⟩) (by assumption) ?_
    · (try dsimp only at hSw); go_simp; try with_reducible rfl
    (try simp only [Act.put, tz0, tz1, tz2])
    refine wpAnyH_take (i := 16) (v := (.agg #[.string x.nm, .string x.st, .slice pu xn cu])) (op_at rfl) (by kernel_rfl) (by kernel_rfl) (by kernel_rfl) (fun _ _ _ h => h) (Or.inl ⟨rfl, fun w hSw => ?_⟩) (by assumption) ?_
    · (try dsimp only at hSw); go_simp; try with_reducible rfl
    (try simp only [Act.put, tz0, tz1, tz2])
    refine wpAnyH_take (i := 20) (v := (.pointer (some ⟨Bx, 2, none⟩))) (op_at rfl) (by kernel_rfl) (by kernel_rfl) (by kernel_rfl) (fun _ _ _ h => h) (Or.inl ⟨rfl, fun w hSw => ?_⟩) (by assumption) ?_
    · (try dsimp only at hSw); go_simp; try with_reducible rfl
    (try simp only [Act.put, tz0, tz1, tz2])
    refine wpAnyH_take (i := 21) (v := (.slice pu xn cu)) (op_at rfl) (by kernel_rfl) (by kernel_rfl) (by kernel_rfl) (fun _ _ _ h => h) (Or.inl ⟨rfl, fun w hSw => ?_⟩) (by assumption) ?_
    · (try dsimp only at hSw); go_simp; try with_reducible rfl
    (try simp only [Act.put, tz0, tz1, tz2])
    refine wpAnyH_ready (rs := [2]) (by kernel_rfl) (by simp) (AllReadyH.cons (op_at rfl) (fun K hK => ?_) AllReadyH.nil)
    go_simp
    (refine (H1.out _ g).mono ?_; rintro e W2 ⟨rfl, hg⟩; replace a0 := hg.cell a0; replace a1 := hg.cell a1; replace a2 := hg.cell a2; replace s0 := hg.cell s0; replace s1 := hg.cell s1; replace s2 := hg.cell s2; replace s3 := hg.cell s3; replace m0 := hg.cell m0; replace g := g.trans hg; clear hg)
    go_wp2_with fail
    refine hK.out _ _ ⟨a0, a1, a2, s0, s1, s2, s3, m0⟩ (fun hHeld => ?_)
    clear hK K
    (try simp only [Act.put, tz0, tz1, tz2])
    refine wpAnyH_ready (rs := [4]) (by kernel_rfl) (by simp) (AllReadyH.cons (op_at rfl) (fun K hK => ?_) AllReadyH.nil)
    go_simp
    (refine (H2.out _).mono ?_; rintro e w' ⟨rfl, rfl⟩)
    go_wp2_with fail
    refine hK.out _ _ ⟨a0, a1, a2, s0, s1, s2, s3, m0⟩ (fun hHeld => ?_)
    clear hK K
    (try simp only [Act.put, tz0, tz1, tz2])
    refine wpAnyH_take (i := 8) (v := (.bool false)) (op_at rfl) (by kernel_rfl) (by kernel_rfl) (by kernel_rfl) (fun _ _ _ h => h) (Or.inl ⟨rfl, fun w hSw => ?_⟩) (by assumption) ?_
    · (try dsimp only at hSw); go_simp; try with_reducible rfl
    (try simp only [Act.put, tz0, tz1, tz2])
    refine wpAnyH_take (i := 9) (v := undef) (op_at rfl) (by kernel_rfl) (by kernel_rfl) (by kernel_rfl) (fun _ _ _ h => h) (Or.inr ⟨rfl, rfl⟩) (by assumption) ?_
    (try simp only [Act.put, tz0, tz1, tz2])
    refine wpAnyH_take (i := 10) (v := undef) (op_at rfl) (by kernel_rfl) (by kernel_rfl) (by kernel_rfl) (fun _ _ _ h => h) (Or.inr ⟨rfl, rfl⟩) (by assumption) ?_
    (try simp only [Act.put, tz0, tz1, tz2])
    refine wpAnyH_take (i := 11) (v := undef) (op_at rfl) (by kernel_rfl) (by kernel_rfl) (by kernel_rfl) (fun _ _ _ h => h) (Or.inr ⟨rfl, rfl⟩) (by assumption) ?_
    (try simp only [Act.put, tz0, tz1, tz2])
    refine wpAnyH_take (i := 12) (v := undef) (op_at rfl) (by kernel_rfl) (by kernel_rfl) (by kernel_rfl) (fun _ _ _ h => h) (Or.inr ⟨rfl, rfl⟩) (by assumption) ?_
    (try simp only [Act.put, tz0, tz1, tz2])
    refine wpAnyH_take (i := 13) (v := (.bool false)) (op_at rfl) (by kernel_rfl) (by kernel_rfl) (by kernel_rfl) (fun _ _ _ h => h) (Or.inl ⟨rfl, fun w hSw => ?_⟩) (by assumption) ?_
    · (try dsimp only at hSw); go_simp; try with_reducible rfl
    (try simp only [Act.put, tz0, tz1, tz2])
    refine wpAnyH_ready (rs := [14]) (by kernel_rfl) (by simp) (AllReadyH.cons (op_at rfl) (fun K hK => ?_) AllReadyH.nil)
    go_simp
    (refine (H3.out _).mono ?_; rintro e w' ⟨rfl, rfl⟩)
    go_wp2_with fail
    refine hK.out _ _ ⟨a0, a1, a2, s0, s1, s2, s3, m0⟩ (fun hHeld => ?_)
    clear hK K
    (try simp only [Act.put, tz0, tz1, tz2])
    refine wpAnyH_ready (rs := [17]) (by kernel_rfl) (by simp) (AllReadyH.cons (op_at rfl) (fun K hK => ?_) AllReadyH.nil)
    go_simp
    (refine (H6.out _ g).mono ?_; rintro e W4 ⟨rfl, hg⟩; replace a0 := hg.cell a0; replace a1 := hg.cell a1; replace a2 := hg.cell a2; replace s0 := hg.cell s0; replace s1 := hg.cell s1; replace s2 := hg.cell s2; replace s3 := hg.cell s3; replace m0 := hg.cell m0; replace g := g.trans hg; clear hg)
    go_wp2_with fail
    refine hK.out _ _ ⟨a0, a1, a2, s0, s1, s2, s3, m0⟩ (fun hHeld => ?_)
    clear hK K
    (try simp only [Act.put, tz0, tz1, tz2])
    refine wpAnyH_take (i := 18) (v := (.bool !fB)) (op_at rfl) (by kernel_rfl) (by kernel_rfl) (by kernel_rfl) (fun _ _ _ h => h) (Or.inl ⟨rfl, fun w hSw => ?_⟩) (by assumption) ?_
    · (try dsimp only at hSw); go_simp; try with_reducible rfl
    (try simp only [Act.put, tz0, tz1, tz2])
    refine wpAnyH_ready (rs := [19]) (by kernel_rfl) (by simp) (AllReadyH.cons (op_at rfl) (fun K hK => ?_) AllReadyH.nil)
    go_simp
    (refine (H4.out _).mono ?_; rintro e w' ⟨rfl, rfl⟩)
    go_wp2_with fail
    refine hK.out _ _ ⟨a0, a1, a2, s0, s1, s2, s3, m0⟩ (fun hHeld => ?_)
    clear hK K
    (try simp only [Act.put, tz0, tz1, tz2])
    refine wpAnyH_ready (rs := [22]) (by kernel_rfl) (by simp) (AllReadyH.cons (op_at rfl) (fun K hK => ?_) AllReadyH.nil)
    go_simp
    (refine (H5.out _ g).mono ?_; rintro e w' ⟨rfl, rfl⟩)
    go_wp2_with fail
    refine hK.out _ _ ⟨a0, a1, a2, s0, s1, s2, s3, m0⟩ (fun hHeld => ?_)
    clear hK K
    (try simp only [Act.put, tz0, tz1, tz2])
    refine wpAnyH_ready (rs := [23]) (by kernel_rfl) (by simp) (AllReadyH.cons (op_at rfl) (fun K hK => ?_) AllReadyH.nil)
    go_simp
    obtain ⟨WW, hWW, gW, q0, q1, q2, q3, q4⟩ := bx5 W4 (.int .i64 e1) (.int .i64 e2) (.int .i64 e3) (.int .i64 e4) (.int .i64 e5) 37
    rw [hWW]
    clear hWW
    replace a0 := gW.cell a0
    replace a1 := gW.cell a1
    replace a2 := gW.cell a2
    replace s0 := gW.cell s0
    replace s1 := gW.cell s1
    replace s2 := gW.cell s2
    replace s3 := gW.cell s3
    replace m0 := gW.cell m0
    replace g := g.trans gW
    refine hK.out _ _ ⟨a0, a1, a2, s0, s1, s2, s3, m0⟩ (fun hHeld => ?_)
    clear hK K
    (try simp only [Act.put, tz0, tz1, tz2])
    refine wpAnyH_ready (rs := [24]) (by kernel_rfl) (by simp) (AllReadyH.cons (op_at rfl) (fun K hK => ?_) AllReadyH.nil)
    go_simp
    (refine (HF.out _ _ WW q0 q1 q2 q3 q4).mono ?_; rintro e w8 ⟨rfl, rfl⟩)
    go_wp2_with fail
    refine hK.out _ _ ⟨a0, a1, a2, s0, s1, s2, s3, m0⟩ (fun hHeld => ?_)
    clear hK K
    (try simp only [Act.put, tz0, tz1, tz2])
    refine wpAnyH_take (i := 25) (v := (.int .i64 err)) (op_at rfl) (by kernel_rfl) (by kernel_rfl) (by kernel_rfl) (fun _ _ _ h => h) (Or.inl ⟨rfl, fun w hSw => ?_⟩) (by assumption) ?_
    · (try dsimp only at hSw); go_simp; try with_reducible rfl
    (try simp only [Act.put, tz0, tz1, tz2])
    refine wpAnyH_done (by kernel_rfl) ?_ _
    go_wp2_with fail
    go_ret
    exact ⟨rfl, HG2.out.trans g, HM2.out.gr g, m0, ⟨s0, s1, s2, s3⟩⟩
end Go.Proofs.YtnihclhhbegjhaaGreatDoor
namespace Go.Proofs.YtnihclhhbegjhaaGreatDoor
open Go.RowKit Go.Lib
set_option linter.unusedSimpArgs false
set_option linter.unusedVariables false
theorem bx7 (w : World) (a0 a1 a2 a3 a4 a5 a6 : Value) (T : Nat) : ∃ W, w.alloc (.cells #[a0, a1, a2, a3, a4, a5, a6] T) = W ∧ Gr w W ∧ W.cell? ⟨w.heap.size, 0, none⟩ = some a0 ∧ W.cell? ⟨w.heap.size, 1, none⟩ = some a1 ∧ W.cell? ⟨w.heap.size, 2, none⟩ = some a2 ∧ W.cell? ⟨w.heap.size, 3, none⟩ = some a3 ∧ W.cell? ⟨w.heap.size, 4, none⟩ = some a4 ∧ W.cell? ⟨w.heap.size, 5, none⟩ = some a5 ∧ W.cell? ⟨w.heap.size, 6, none⟩ = some a6 :=
  ⟨_, rfl, (Gr.refl w).alloc _, cell_new w #[a0, a1, a2, a3, a4, a5, a6] T 0 (by simp), cell_new w #[a0, a1, a2, a3, a4, a5, a6] T 1 (by simp), cell_new w #[a0, a1, a2, a3, a4, a5, a6] T 2 (by simp), cell_new w #[a0, a1, a2, a3, a4, a5, a6] T 3 (by simp), cell_new w #[a0, a1, a2, a3, a4, a5, a6] T 4 (by simp), cell_new w #[a0, a1, a2, a3, a4, a5, a6] T 5 (by simp), cell_new w #[a0, a1, a2, a3, a4, a5, a6] T 6 (by simp)⟩
structure ShKeep (w0 w : World) (M L mg : Nat) (ro : ByteArray) (va : Int) (st : ByteArray) (vs : Value) (xs : List RowR) (i : Nat) : Prop where
  gr : Gr w0 w
  mp : ∃ ks, MapG evBO w mg ks ∧ SeenO ks xs i
  m : w.cell? ⟨M, 0, none⟩ = some (.map (some mg))
  l : ShBox w L ro va st vs
set_option maxHeartbeats 4000000 in
set_option maxRecDepth 100000 in
theorem findSh_c {w0 w : World} {xs : List RowR} {n b off cap M L mg : Nat} {ro st : ByteArray} {va : Int} {vs : Value} (hn : xs.length = n) (h1 : n ≤ 160) (hcap : n ≤ cap) (hmx : cap ≤ maxLen) (hc : ∀ i x, xs[i]? = some x → RowAt w0 b (off + i * 3) x) (hvs : ∃ p n c, vs = .slice p n c) (hg : w0.heap.size ≤ mg) (hK : ShKeep w0 w M L mg ro va st vs xs 0) :
    Calls Tryz.prog 163 #[.slice (some ⟨b, off, none⟩) n cap, .func (.func 100) #[] #[.pointer (some ⟨M, 0, none⟩), .pointer (some ⟨L, 0, none⟩)]] w fun e w' => (∃ i : Int, e = .returned (.tuple #[.int .i64 i, .int .i64 (errG (oneShE va xs) xs n 0)])) ∧ Gr w0 w' := by
  have HX := Lib.hid (fun k (h : k < n) => (show ∃ x, xs[k]? = some x from ⟨xs[k]'(by omega), List.getElem?_eq_getElem _⟩))
  have HC := Lib.hid hc
  have HS := Lib.hid (fun i x (hi : i < n) (h : xs[i]? = some x) => errG_step (E := oneShE va xs) hi h)
  have HE : Hid (errG (oneShE va xs) xs 0 n = 0) := rfl
  have HO := Lib.hid (fun (j : Nat) (x : RowR) (W : World) (ks : List (ByteArray × Bool)) (G : Gr w0 W) (hx : xs[j]? = some x) hM hL hks hse => oneSh_c (W := W) (M := M) (L := L) (mg := mg) (ks := ks) (ro := ro) (st := st) (va := va) (vs := vs) G hx (hc j x hx).val (hc j x hx).len hvs hM hL hks hse hg)
  have HK := Lib.hid hK
  generalize errG (oneShE va xs) xs = R at *
  clear hc hn hK hvs hg
  go_enter Tryz.func163, Tryz.ntmps163
  go_wp2_with fail
  go_loopg [11] n (fun gk s11 wr => ∃ i : Nat, s11 = .int .i64 i ∧ gk + i = n ∧ ShKeep w0 wr M L mg ro va st vs xs i ∧ Hid (R (n - i) i = R n 0))
  case atStart => exact ⟨0, rfl, by omega, HK.out, by simp [Hid]⟩
  case round =>
    obtain ⟨i, rfl, hi, hk, HF⟩ := hrel
    by_cases hlt : i < n
    · obtain ⟨x, hx⟩ := HX.out i hlt
      obtain ⟨hg, ⟨ks, hmap, hseen⟩, hM, hL⟩ := hk
      obtain ⟨c0, c1, c2, hv, _⟩ := (HC.out i x hx).gr hg
      have hi2 : (i : Int) < n := by omega
      have hst := HS.out i x hlt hx
      have HP := Lib.hid (hseen.put hx)
      obtain ⟨⟨pu, cu, hu, _⟩⟩ := id hv
      rw [hu] at c2
      have g1 := (Gr.refl wr).alloc (.cells #[.string x.nm, .string x.st, .slice pu x.xs.length cu] 91)
      have HT := Lib.hid (HO.out i x _ ks (hg.trans g1) hx (g1.cell hM) (hL.gr g1) (hmap.gr g1) hseen)
      rw [hu] at HT
      clear hx hv hu hseen hmap hM hL hg g1
      generalize x.xs.length = xn at *
      by_cases h0 : oneShE va xs i x = 0
      · rw [h0] at HT
        rw [if_pos h0] at hst
        have HF2 := Lib.hid hst
        clear hst h0
        go_wp2_with (refine HT.out.mono ?_; rintro e w4 ⟨rfl, hA, hB, hC, hD⟩)
        go_roundg (gk - 1)
        case measure => omega
        case rel => exact ⟨i + 1, by go_num, by omega, ⟨hA, ⟨_, hB, HP.out⟩, hC, hD⟩, by unfold Hid; rw [← HF2.out, HF.out]⟩
      · rw [if_neg h0] at hst
        generalize oneShE va xs i x = z at *
        have q2 : (z != 0) = true := bne_iff_ne.2 h0
        have HQ : Hid (R n 0 = z) := by unfold Hid; rw [← HF.out, hst]
        clear hst h0
        go_wp2_with (refine HT.out.mono ?_; rintro e w4 ⟨rfl, hA, hB, hC, hD⟩)
        exact bodyPost_ret (v := .tuple #[.int .i64 i, .int .i64 z]) (by simp [results, Tryz.results163, go_sem]) rfl ⟨⟨i, by rw [HQ.out]⟩, hA⟩
    · have hin : i = n := by omega
      have hi2 : ¬ (i : Int) < n := by omega
      have HQ : Hid (R n 0 = 0) := by unfold Hid; rw [← HF.out, hin, Nat.sub_self]; exact HE.out
      have hgg := hk.gr
      clear hk
      go_wp2_with fail
      exact bodyPost_ret (v := .tuple #[.int .i64 0, .int .i64 0]) (by simp [results, Tryz.results163, go_sem]) rfl ⟨⟨0, by rw [HQ.out]⟩, hgg⟩
theorem eachSh_c {w0 w : World} {xs : List RowR} {n b off cap M L mg : Nat} {ro st : ByteArray} {va : Int} {vs : Value} (hn : xs.length = n) (h1 : n ≤ 160) (hcap : n ≤ cap) (hmx : cap ≤ maxLen) (hc : ∀ i x, xs[i]? = some x → RowAt w0 b (off + i * 3) x) (hvs : ∃ p n c, vs = .slice p n c) (hg : w0.heap.size ≤ mg) (hK : ShKeep w0 w M L mg ro va st vs xs 0) :
    Calls Tryz.prog 99 #[.slice (some ⟨b, off, none⟩) n cap, .func (.func 100) #[] #[.pointer (some ⟨M, 0, none⟩), .pointer (some ⟨L, 0, none⟩)]] w fun e w' => e = .returned (.int .i64 (errG (oneShE va xs) xs n 0)) ∧ Gr w0 w' := by
  have H := Lib.hid (findSh_c hn h1 hcap hmx hc hvs hg hK)
  clear hc hn hvs hK hg
  go_enter Tryz.func99, Tryz.ntmps99
  go_wp2_with (refine H.out.mono ?_; rintro e w4 ⟨⟨i, rfl⟩, hg⟩)
  go_ret
  exact ⟨rfl, hg⟩
theorem findSh_nil (p : Option Addr) (cap M L : Nat) (w : World) :
    Calls Tryz.prog 163 #[.slice p 0 cap, .func (.func 100) #[] #[.pointer (some ⟨M, 0, none⟩), .pointer (some ⟨L, 0, none⟩)]] w fun e w' => (∃ i : Int, e = .returned (.tuple #[.int .i64 i, .int .i64 0])) ∧ w = w' := by
  go_enter Tryz.func163, Tryz.ntmps163
  go_wp2_with fail
  refine wp_loop_rounds 1 ?_
  rw [rounds_succ]
  go_wp2_with fail
  exact bodyPost_ret (v := .tuple #[.int .i64 0, .int .i64 0]) (by simp [results, Tryz.results163, go_sem]) rfl ⟨⟨0, rfl⟩, rfl⟩
theorem eachSh_nil (p : Option Addr) (cap M L : Nat) (w : World) :
    Calls Tryz.prog 99 #[.slice p 0 cap, .func (.func 100) #[] #[.pointer (some ⟨M, 0, none⟩), .pointer (some ⟨L, 0, none⟩)]] w fun e w' => e = .returned (.int .i64 0) ∧ w = w' := by
  have H := Lib.hid (findSh_nil p cap M L w)
  go_enter Tryz.func99, Tryz.ntmps99
  go_wp2_with (refine H.out.mono ?_; rintro e w4 ⟨⟨i, rfl⟩, rfl⟩)
  go_ret
  exact ⟨rfl, rfl⟩
end Go.Proofs.YtnihclhhbegjhaaGreatDoor
