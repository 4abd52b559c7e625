/- Archives (chapter 10): an archive with further entries. -/
import Derived.Test.YtnihclhhbegjhaaGreatDoorGMgB
import Derived.Shelf.SlSortCmp.InsertionK
import Derived.Deep.CutBlock
import Derived.Test.YtnihclhhbegjhaaGreatDoorGOvY
namespace Go.Proofs.YtnihclhhbegjhaaGreatDoor
open Go.RowKit Go.Lib
set_option linter.unusedSimpArgs false
set_option linter.unusedVariables false
structure RetAr (base : Nat) (e : Ending) (w' : World) (L : List EnR) : Prop where
  mk' ::
  out : ∃ q n c es, e = .returned (.agg #[.slice q n c]) ∧ Hid (n = es.length) ∧ Hid (es.map ek = L.map ek) ∧ w'.ownsRow base 77 7 (.slice q n c) n (enCs es) ∧ (∀ f ∈ es, CpS w' base f.p f.n f.cap f.xs) ∧ (n ≤ c ∧ c ≤ maxLen)
theorem en_of_own {w : World} {base n c : Nat} {q : Option Addr} {es : List EnR} (h : w.ownsRow base 77 7 (.slice q n c) n (enCs es)) (hn : n = es.length) (hc : ∀ f ∈ es, CpS w base f.p f.n f.cap f.xs) : EnS w q es := EnS.of_own h hn.symm (fun f hf => (hc f hf).rows)
theorem set1O {w : World} {g T : Nat} {r0 : Value} (h : w.heap[g]? = some (.cells #[r0] T)) (a : Value) : (w.setCell ⟨g, 0, none⟩ a).heap[g]? = some (.cells #[a] T) := by
  simp [World.setCell, Array.getElem?_modify, h]
theorem cells1_ofO {w : World} {g : Nat} {a : Value} {T : TypeId} {z : Nat × Nat} (h : w.heap[g]? = some (.cells #[a] T z)) : w.cell? ⟨g, 0, none⟩ = some a := by
  simp [World.cell?, h]
def Fit (l : List EnR) : Prop := ∀ e ∈ l, e.n ≤ 1000 ∧ ∀ x ∈ e.xs, x.xs.length ≤ 1000
theorem own_low_e {w : World} {b b' n c : Nat} {q : Option Addr} {es : List EnR} (h : w.ownsRow b 77 7 (.slice q n c) n (enCs es)) (hb : b' ≤ b) : w.ownsRow b' 77 7 (.slice q n c) n (enCs es) := own_low h hb
set_option maxHeartbeats 4000000 in
set_option maxRecDepth 100000 in
theorem with_c {w : World} {pa pc : Option Addr} {a c : List EnR} {ma mc ka kc : Nat} (hma : ma = a.length) (hmc : mc = c.length) (h1 : ma + mc ≤ 1000) (hka : ma ≤ ka ∧ ka ≤ maxLen) (hkc : mc ≤ kc ∧ kc ≤ maxLen) (ha : EnS w pa a) (hc : EnS w pc c) (fa : Fit a) (fc : Fit c) :
    Calls Tryz.prog 60 #[.agg #[.slice pa ma ka], .slice pc mc kc] w fun e w' => RetAr w.heap.size e w' (mrgE a c) ∧ Gr w w' := by
  have HM := Lib.hid (fun V (g : Gr w V) => merged_c hma hmc (by omega) (by omega) hka hkc (ha.gr g) (hc.gr g))
  have HFL : Hid (Fit (mrgE a c)) := fun e he => by
    rcases mrgE_sub he with h | h
    · exact fa e h
    · exact fc e h
  have hlen := mrgE_len_le a c
  have HLN : Hid ((mrgE a c).length ≤ 1000) := by rw [Hid]; omega
  obtain ⟨W1, hW1, g1, a0⟩ := box1 w (.slice pa ma ka) 24
  have hs1 : W1.heap.size = w.heap.size + 1 := by rw [← hW1]; simp
  obtain ⟨W2, hW2, g2, z0⟩ := box1 W1 (.slice none 0 0) 24
  have hb2 : W2.heap[W1.heap.size]? = some (.cells #[.slice none 0 0] 24 (0, 0)) := by rw [← hW2]; exact heap_alloc_new W1 _
  have hs2 : W2.heap.size = w.heap.size + 2 := by rw [← hW2]; simp [hs1]
  replace a0 := g2.cell a0
  have HW := Lib.hid hW1
  have HW2 := Lib.hid hW2
  have HS2 := Lib.hid hs2
  obtain ⟨Sx, hSx⟩ : ∃ S, w.heap.size + 1 = S := ⟨_, rfl⟩
  rw [hs1, hSx] at hb2 z0
  have HSX := Lib.hid hSx
  clear hma hmc hka hkc ha hc fa fc hlen hs2
  generalize mrgE a c = L at *
  go_enter Tryz.func60, Tryz.ntmps60
  go_wp2_with fail
  try rw [HW.out]
  try rw [HW2.out]
  try rw [hs1]
  try rw [hSx]
  clear HW HW2 hW1 hW2 hs1 hSx
  go_wp2_with fail
  refine (HM.out _ (g1.trans g2)).mono ?_
  rintro e W3 ⟨⟨⟨q3, c3, rfl, _, hes⟩⟩, hg⟩
  have HCO := Lib.hid (copiedE_c (n := L.length) (cap := c3) rfl HLN.out hes (fun e he => (HFL.out e he).1) (fun e he => (HFL.out e he).2))
  replace hb2 := Gr.block hg hb2
  have hsz3 : Sx < W3.heap.size := (Array.getElem?_eq_some_iff.1 hb2).1
  have HSZ3 := Lib.hid hsz3
  have hgg := (g1.trans g2).trans hg
  clear g1 g2 hg HM hes z0 a0 hsz3
  go_wp2_with fail
  refine HCO.out.mono ?_
  rintro e W4 ⟨⟨⟨q4, c4, es, rfl, hel, hek, hown, hcp, hcc⟩⟩, hg⟩
  replace hb2 := Gr.block hg hb2
  have z0 := cells1_ofO hb2
  have f2 : ∀ o, W4.frozen? ⟨Sx, o, none⟩ = false := fun o => frozen_of_row _ _ o _ _ hb2
  have HBS := Lib.hid hb2
  have hsx : w.heap.size ≤ Sx := by have := HSX.out; omega
  have HGF := Lib.hid (hgg.trans hg)
  have HOW := Lib.hid hown
  have HCP := Lib.hid hcp
  have HEL := Lib.hid hel
  have HEK := Lib.hid hek
  clear hb2 hgg hg HCO hown hcp hel hek
  obtain ⟨m, hm⟩ : ∃ m, m = L.length := ⟨_, rfl⟩
  rw [← hm] at hcc HOW HEL ⊢
  clear hm
  go_wp2_with fail
  have y0 : (W4.setCell ⟨Sx, 0, none⟩ (.slice q4 m c4)).cell? ⟨Sx, 0, none⟩ = some (.slice q4 m c4) := by
    exact cells1_ofO (set1O HBS.out (.slice q4 m c4))
  have hW3 : w.heap.size ≤ W3.heap.size := by have := HSZ3.out; omega
  refine bodyPost_ret (v := .agg #[.slice q4 m c4]) (by simp [results, Tryz.results60, go_sem, y0]) rfl ⟨⟨q4, m, c4, es, rfl, HEL.out.symm, HEK.out, own_low_e (own_set_low HOW.out HSZ3.out) hW3, fun f hf => ((HCP.out f hf).set_low _ _ HSZ3.out).low hW3, hcc⟩, ?_⟩
  exact Below.setCell HGF.out (by show w.heap.size ≤ Sx; omega) _
end Go.Proofs.YtnihclhhbegjhaaGreatDoor
namespace Go.Proofs.YtnihclhhbegjhaaGreatDoor
open Go.RowKit Go.Lib
set_option linter.unusedSimpArgs false
set_option linter.unusedVariables false
instance inhEnS : Inhabited EnR := ⟨⟨⟨#[]⟩, 0, 0, ⟨#[]⟩, 0, ⟨#[]⟩, none, 0, 0, []⟩⟩
def bl (d : Int) : Int := if d < 1 then 0 else if d < 2 then 1 else if d < 4 then 2 else if d < 8 then 3 else if d < 16 then 4 else if d < 32 then 5 else 6
end Go.Proofs.YtnihclhhbegjhaaGreatDoor
namespace Go.Proofs.YtnihclhhbegjhaaGreatDoor
open Go.RowKit Go.Lib
set_option linter.unusedSimpArgs false
set_option linter.unusedVariables false
end Go.Proofs.YtnihclhhbegjhaaGreatDoor
namespace Go.Proofs.YtnihclhhbegjhaaGreatDoor
open Go.RowKit Go.Lib
set_option linter.unusedSimpArgs false
set_option linter.unusedVariables false
theorem rows_nil (w : World) : RowsX w none 0 0 [] := ⟨rfl, ⟨Nat.le_refl _, by unfold maxLen; omega⟩, fun h => absurd h (by omega)⟩
end Go.Proofs.YtnihclhhbegjhaaGreatDoor
namespace Go.Proofs.YtnihclhhbegjhaaGreatDoor
open Go.RowKit Go.Lib
set_option linter.unusedSimpArgs false
set_option linter.unusedVariables false
theorem mark_c (x : EnR) (w : World) :
    Calls Tryz.prog 72 #[enV x] w fun e w' => e = .returned (.agg #[.string x.de, .int .i64 x.nu]) ∧ Gr w w' := by
  unfold enV
  obtain ⟨W1, hW1, g, a0, a1, a2, a3, a4, a5, a6⟩ := bx7 w (.string x.de) (.int .i64 x.nu) (.int .i64 x.ck) (.string x.ro) (.int .i64 x.va) (.string x.st) (.slice x.p x.n x.cap) 77
  have HW := Lib.hid hW1
  have hs1 : W1.heap.size = w.heap.size + 1 := by rw [← hW1]; simp
  have HS1 := Lib.hid hs1
  clear hW1 hs1
  go_enter Tryz.func72, Tryz.ntmps72
  go_wp2_with fail
  try rw [HW.out]
  go_wp2_with fail
  have y0 := cell_new W1 #[.string x.de, .int .i64 x.nu] 84 0 (by simp)
  have y1 := cell_new W1 #[.string x.de, .int .i64 x.nu] 84 1 (by simp)
  rw [HS1.out] at y0 y1
  simp only [List.getElem_toArray, List.getElem_cons_zero, List.getElem_cons_succ] at y0 y1
  exact bodyPost_ret (v := .agg #[.string x.de, .int .i64 x.nu]) (by simp [results, Tryz.results72, go_sem, y0, y1]) rfl ⟨rfl, g.alloc _⟩
end Go.Proofs.YtnihclhhbegjhaaGreatDoor
namespace Go.Proofs.YtnihclhhbegjhaaGreatDoor
open Go.RowKit Go.Lib
set_option linter.unusedSimpArgs false
set_option linter.unusedVariables false
def zeroR : EnR := ⟨⟨#[]⟩, 0, 0, ⟨#[]⟩, 0, ⟨#[]⟩, none, 0, 0, []⟩
def conP (l : List EnR) (y : EnR) : Prop := ∃ x, lookM l y = some x ∧ ¬ (x.ck = y.ck ∧ shk x = shk y)
theorem mapM_lookZ {w : World} {g : Nat} {l : List EnR} (h : MapM w g l) (y : EnR) : (Instr.lookup 198 (.map (some g)) (.agg #[.string y.de, .int .i64 y.nu]) true).run Tryz.prog w = .ok (.tuple #[enV ((lookM l y).getD zeroR), .bool (lookM l y).isSome]) w := by
  have := mapM_look2 h y
  unfold mkV at this
  rw [this]
  cases lookM l y <;> rfl
theorem lookM_mem {l : List EnR} {y x : EnR} (h : lookM l y = some x) : x ∈ l ∧ y.de = x.de ∧ y.nu = x.nu := ⟨List.mem_of_find?_eq_some h, smk_iff.1 (List.find?_some h)⟩
set_option maxHeartbeats 4000000 in
set_option maxRecDepth 100000 in
theorem con1_c {w W : World} {l : List EnR} {g Bp : Nat} {y : EnR} (G : Gr w W) (hM : MapM w g l) (hB : w.cell? ⟨Bp, 0, none⟩ = some (.map (some g))) (hrl : ∀ x ∈ l, RowsX w x.p x.n x.cap x.xs) (fl : Fit l) (hy : RowsX w y.p y.n y.cap y.xs) :
    Calls Tryz.prog 108 #[enV y, .pointer (some ⟨Bp, 0, none⟩)] W fun e w' => RetB e (conP l y) ∧ Gr W w' := by
  obtain ⟨W1, hW1, g1, d0, d1, d2, d3, d4, d5, d6⟩ := bx7 W (.string y.de) (.int .i64 y.nu) (.int .i64 y.ck) (.string y.ro) (.int .i64 y.va) (.string y.st) (.slice y.p y.n y.cap) 77
  have HW := Lib.hid hW1
  have gW1 := G.trans g1
  have HBX := Lib.hid (gW1.cell hB)
  have HM1 := Lib.hid (hM.gr gW1)
  have HY := Lib.hid (hy.gr gW1)
  have HRL := Lib.hid (fun x (hx : x ∈ l) => (hrl x hx).gr gW1)
  have HG1 := Lib.hid g1
  obtain ⟨D, hD⟩ : ∃ D, W.heap.size = D := ⟨_, rfl⟩
  rw [hD] at d0 d1 d2 d3 d4 d5 d6
  have HDD := Lib.hid hD
  have HD := Lib.hid (fun U (k : Gr W1 U) => And.intro (k.cell d0) (And.intro (k.cell d1) (And.intro (k.cell d2) (And.intro (k.cell d3) (And.intro (k.cell d4) (And.intro (k.cell d5) (k.cell d6)))))))
  have HMK0 := Lib.hid (fun V => mark_c y V)
  have HMK := HMK0
  unfold enV at HMK
  have HLK0 := Lib.hid (fun U (k : Gr W1 U) => mapM_lookZ (HM1.out.gr k) y)
  obtain ⟨z, hz⟩ : ∃ z, (lookM l y).getD zeroR = z := ⟨_, rfl⟩
  obtain ⟨bb, hbb⟩ : ∃ b, (lookM l y).isSome = b := ⟨_, rfl⟩
  rw [hz, hbb] at HLK0
  have HLK := HLK0
  unfold enV at HLK
  have HZ : Hid (RowsX W1 z.p z.n z.cap z.xs ∧ z.n ≤ 1000 ∧ ∀ x ∈ z.xs, x.xs.length ≤ 1000) := by
    rw [← hz]
    cases hq : lookM l y with
    | none => exact ⟨rows_nil _, Nat.zero_le _, fun x hx => by cases hx⟩
    | some x => exact ⟨HRL.out x (lookM_mem hq).1, fl x (lookM_mem hq).1⟩
  have HP : Hid (conP l y ↔ (bb = true ∧ ¬ (z.ck = y.ck ∧ shk z = shk y))) := by
    rw [← hz, ← hbb]
    unfold conP
    cases hq : lookM l y with
    | none => exact ⟨(fun ⟨x, h, _⟩ => by cases h), fun h => by cases h.1⟩
    | some x => exact ⟨(fun ⟨x', h, h2⟩ => by cases h; exact ⟨rfl, h2⟩), fun h => ⟨x, rfl, h.2⟩⟩
  generalize conP l y = P at *
  clear hM hB hrl fl hy g1 gW1 hD hz hbb hW1 HMK0 HLK0 HM1 HRL d0 d1 d2 d3 d4 d5 d6 G
  unfold enV
  go_enter Tryz.func108, Tryz.ntmps108
  go_wp2_with fail
  rw [HW.out]
  try rw [HDD.out]
  clear HW HDD
  obtain ⟨WQ, hWQ⟩ : ∃ V, V = W1 := ⟨_, rfl⟩
  have gQ : Gr W1 WQ := by rw [hWQ]; exact Gr.refl _
  rw [← hWQ]
  clear hWQ
  go_upto_region 1 with fail
  go_cut [4, 5] from 6 (fun s4 s5 wx => ∃ Cx, s4 = .pointer (some ⟨Cx, 0, none⟩) ∧ s5 = .bool bb ∧ wx.heap[Cx]? = some (.cells #[.string z.de, .int .i64 z.nu, .int .i64 z.ck, .string z.ro, .int .i64 z.va, .string z.st, .slice z.p z.n z.cap] 77 (0, 0)) ∧ Gr W1 wx)
  case first =>
    refine wp_region_held_drew (S := fun U => Gr W1 U) (by kernel_rfl) (gQ.trans (Gr.refl _).drew) (fun hHeld => ?_)
    have gD := gQ.trans (Gr.refl WQ).drew
    generalize WQ.drew = VD at *
    refine wpAnyH_take (i := 0) (v := (.map (some g))) (op_at rfl) (by kernel_rfl) (by kernel_rfl) (by kernel_rfl) (fun _ _ _ h => h) (Or.inl ⟨rfl, fun U hSw => ?_⟩) (by assumption) ?_
    · have hs9 : Gr W1 U := hSw; have q0 := hs9.cell HBX.out; go_simp; try with_reducible rfl
    (try simp only [Act.put, tz0, tz1, tz2])
    refine wpAnyH_take (i := 1) (v := (.agg #[.string y.de, .int .i64 y.nu, .int .i64 y.ck, .string y.ro, .int .i64 y.va, .string y.st, .slice y.p y.n y.cap])) (op_at rfl) (by kernel_rfl) (by kernel_rfl) (by kernel_rfl) (fun _ _ _ h => h) (Or.inl ⟨rfl, fun U hSw => ?_⟩) (by assumption) ?_
    · obtain ⟨q0, q1, q2, q3, q4, q5, q6⟩ := HD.out U hSw; go_simp; try with_reducible rfl
    (try simp only [Act.put, tz0, tz1, tz2])
    refine wpAnyH_ready (rs := [2, 7]) (by kernel_rfl) (by simp) ((AllReadyH.cons (op_at rfl) (fun K hK => ?_) (AllReadyH.cons (op_at rfl) (fun K hK => ?_) AllReadyH.nil)))
    · go_simp
      refine (HMK.out _).mono ?_
      rintro e V2 ⟨rfl, hg⟩
      go_wp2_with fail
      have g2 := gD.trans hg
      clear hg
      refine hK.out _ _ g2 (fun hHeld => ?_)
      clear hK K
      (try simp only [Act.put, tz0, tz1, tz2])
      refine wpAnyH_take (i := 3) (v := (.tuple #[(.agg #[.string z.de, .int .i64 z.nu, .int .i64 z.ck, .string z.ro, .int .i64 z.va, .string z.st, .slice z.p z.n z.cap]), .bool bb])) (op_at rfl) (by kernel_rfl) (by kernel_rfl) (by kernel_rfl) (fun _ _ _ h => h) (Or.inl ⟨rfl, fun U hSw => ?_⟩) (by assumption) ?_
      · have qe := HLK.out U hSw; go_simp; try with_reducible rfl
      (try simp only [Act.put, tz0, tz1, tz2])
      refine wpAnyH_take (i := 4) (v := (.tuple #[(.agg #[.string z.de, .int .i64 z.nu, .int .i64 z.ck, .string z.ro, .int .i64 z.va, .string z.st, .slice z.p z.n z.cap]), .bool bb])) (op_at rfl) (by kernel_rfl) (by kernel_rfl) (by kernel_rfl) (fun _ _ _ h => h) (Or.inl ⟨rfl, fun U hSw => ?_⟩) (by assumption) ?_
      · go_simp; try with_reducible rfl
      (try simp only [Act.put, tz0, tz1, tz2])
      refine wpAnyH_take (i := 5) (v := (.agg #[.string z.de, .int .i64 z.nu, .int .i64 z.ck, .string z.ro, .int .i64 z.va, .string z.st, .slice z.p z.n z.cap])) (op_at rfl) (by kernel_rfl) (by kernel_rfl) (by kernel_rfl) (fun _ _ _ h => h) (Or.inl ⟨rfl, fun U hSw => ?_⟩) (by assumption) ?_
      · go_simp; try with_reducible rfl
      (try simp only [Act.put, tz0, tz1, tz2])
      refine wpAnyH_take (i := 6) (v := (.bool bb)) (op_at rfl) (by kernel_rfl) (by kernel_rfl) (by kernel_rfl) (fun _ _ _ h => h) (Or.inl ⟨rfl, fun U hSw => ?_⟩) (by assumption) ?_
      · go_simp; try with_reducible rfl
      (try simp only [Act.put, tz0, tz1, tz2])
      refine wpAnyH_ready (rs := [7]) (by kernel_rfl) (by simp) ((AllReadyH.cons (op_at rfl) (fun K hK => ?_) AllReadyH.nil))
      go_simp
      have gA := (Gr.refl V2).alloc (.cells #[.string ⟨#[]⟩, .int .i64 0, .int .i64 0, .string ⟨#[]⟩, .int .i64 0, .string ⟨#[]⟩, .slice none 0 0] 77)
      have hbA := heap_alloc_new V2 (.cells #[.string ⟨#[]⟩, .int .i64 0, .int .i64 0, .string ⟨#[]⟩, .int .i64 0, .string ⟨#[]⟩, .slice none 0 0] 77)
      have g3 := g2.trans gA
      have hCx : W1.heap.size ≤ (V2).heap.size := (g2).size
      generalize hCC : (V2).heap.size = Cx at *
      clear hCC
      refine hK.out _ _ g3 (fun hHeld => ?_)
      clear hK K gA
      (try simp only [Act.put, tz0, tz1, tz2])
      generalize (V2).alloc (.cells #[.string ⟨#[]⟩, .int .i64 0, .int .i64 0, .string ⟨#[]⟩, .int .i64 0, .string ⟨#[]⟩, .slice none 0 0] 77) = V3 at *
      have f2 : ∀ o, V3.frozen? ⟨Cx, o, none⟩ = false := fun o => frozen_of_row _ _ o _ _ hbA
      obtain ⟨z0, z1, z2, z3, z4, z5, z6⟩ := cells7_ofO hbA
      refine wpAnyH_ready (rs := [8]) (by kernel_rfl) (by simp) ((AllReadyH.cons (op_at rfl) (fun K hK => ?_) AllReadyH.nil))
      have hb9 := set7O hbA (.string z.de) (.int .i64 z.nu) (.int .i64 z.ck) (.string z.ro) (.int .i64 z.va) (.string z.st) (.slice z.p z.n z.cap)
      have g9 : Gr W1 (((((((V3.setCell ⟨Cx, 0, none⟩ (.string z.de)).setCell ⟨Cx, 1, none⟩ (.int .i64 z.nu)).setCell ⟨Cx, 2, none⟩ (.int .i64 z.ck)).setCell ⟨Cx, 3, none⟩ (.string z.ro)).setCell ⟨Cx, 4, none⟩ (.int .i64 z.va)).setCell ⟨Cx, 5, none⟩ (.string z.st)).setCell ⟨Cx, 6, none⟩ (.slice z.p z.n z.cap)) := (Below.setCell (Below.setCell (Below.setCell (Below.setCell (Below.setCell (Below.setCell (Below.setCell g3 hCx _) hCx _) hCx _) hCx _) hCx _) hCx _) hCx _)
      have HB9 := Lib.hid hb9
      clear hb9 hbA
      rw [if_pos (show Region.wanted _ _ = true from rfl)]
      go_simp
      refine hK.out _ _ g9 (fun hHeld => ?_)
      clear hK K f2 z0 z1 z2 z3 z4 z5 z6
      (try simp only [Act.put, tz0, tz1, tz2])
      refine wpAnyH_take (i := 9) (v := (.bool bb)) (op_at rfl) (by kernel_rfl) (by kernel_rfl) (by kernel_rfl) (fun _ _ _ h => h) (Or.inl ⟨rfl, fun U hSw => ?_⟩) (by assumption) ?_
      · go_simp; try with_reducible rfl
      (try simp only [Act.put, tz0, tz1, tz2])
      refine wpAnyH_done (by kernel_rfl) ?_ _
      go_wp2_with fail
      go_meet
      case rel => exact ⟨Cx, rfl, rfl, HB9.out, g9⟩
    · go_simp
      have gA := (Gr.refl VD).alloc (.cells #[.string ⟨#[]⟩, .int .i64 0, .int .i64 0, .string ⟨#[]⟩, .int .i64 0, .string ⟨#[]⟩, .slice none 0 0] 77)
      have hbA := heap_alloc_new VD (.cells #[.string ⟨#[]⟩, .int .i64 0, .int .i64 0, .string ⟨#[]⟩, .int .i64 0, .string ⟨#[]⟩, .slice none 0 0] 77)
      have g2 := gD.trans gA
      have hCx : W1.heap.size ≤ (VD).heap.size := (gD).size
      generalize hCC : (VD).heap.size = Cx at *
      clear hCC
      refine hK.out _ _ g2 (fun hHeld => ?_)
      clear hK K gA
      (try simp only [Act.put, tz0, tz1, tz2])
      generalize (VD).alloc (.cells #[.string ⟨#[]⟩, .int .i64 0, .int .i64 0, .string ⟨#[]⟩, .int .i64 0, .string ⟨#[]⟩, .slice none 0 0] 77) = V2 at *
      refine wpAnyH_ready (rs := [2]) (by kernel_rfl) (by simp) ((AllReadyH.cons (op_at rfl) (fun K hK => ?_) AllReadyH.nil))
      go_simp
      refine (HMK.out _).mono ?_
      rintro e V3 ⟨rfl, hg⟩
      go_wp2_with fail
      have g3 := g2.trans hg
      replace hbA := Gr.block hg hbA
      refine hK.out _ _ g3 (fun hHeld => ?_)
      clear hK K
      (try simp only [Act.put, tz0, tz1, tz2])
      refine wpAnyH_take (i := 3) (v := (.tuple #[(.agg #[.string z.de, .int .i64 z.nu, .int .i64 z.ck, .string z.ro, .int .i64 z.va, .string z.st, .slice z.p z.n z.cap]), .bool bb])) (op_at rfl) (by kernel_rfl) (by kernel_rfl) (by kernel_rfl) (fun _ _ _ h => h) (Or.inl ⟨rfl, fun U hSw => ?_⟩) (by assumption) ?_
      · have qe := HLK.out U hSw; go_simp; try with_reducible rfl
      (try simp only [Act.put, tz0, tz1, tz2])
      refine wpAnyH_take (i := 4) (v := (.tuple #[(.agg #[.string z.de, .int .i64 z.nu, .int .i64 z.ck, .string z.ro, .int .i64 z.va, .string z.st, .slice z.p z.n z.cap]), .bool bb])) (op_at rfl) (by kernel_rfl) (by kernel_rfl) (by kernel_rfl) (fun _ _ _ h => h) (Or.inl ⟨rfl, fun U hSw => ?_⟩) (by assumption) ?_
      · go_simp; try with_reducible rfl
      (try simp only [Act.put, tz0, tz1, tz2])
      refine wpAnyH_take (i := 5) (v := (.agg #[.string z.de, .int .i64 z.nu, .int .i64 z.ck, .string z.ro, .int .i64 z.va, .string z.st, .slice z.p z.n z.cap])) (op_at rfl) (by kernel_rfl) (by kernel_rfl) (by kernel_rfl) (fun _ _ _ h => h) (Or.inl ⟨rfl, fun U hSw => ?_⟩) (by assumption) ?_
      · go_simp; try with_reducible rfl
      (try simp only [Act.put, tz0, tz1, tz2])
      refine wpAnyH_take (i := 6) (v := (.bool bb)) (op_at rfl) (by kernel_rfl) (by kernel_rfl) (by kernel_rfl) (fun _ _ _ h => h) (Or.inl ⟨rfl, fun U hSw => ?_⟩) (by assumption) ?_
      · go_simp; try with_reducible rfl
      (try simp only [Act.put, tz0, tz1, tz2])
      have f2 : ∀ o, V3.frozen? ⟨Cx, o, none⟩ = false := fun o => frozen_of_row _ _ o _ _ hbA
      obtain ⟨z0, z1, z2, z3, z4, z5, z6⟩ := cells7_ofO hbA
      refine wpAnyH_ready (rs := [8]) (by kernel_rfl) (by simp) ((AllReadyH.cons (op_at rfl) (fun K hK => ?_) AllReadyH.nil))
      have hb9 := set7O hbA (.string z.de) (.int .i64 z.nu) (.int .i64 z.ck) (.string z.ro) (.int .i64 z.va) (.string z.st) (.slice z.p z.n z.cap)
      have g9 : Gr W1 (((((((V3.setCell ⟨Cx, 0, none⟩ (.string z.de)).setCell ⟨Cx, 1, none⟩ (.int .i64 z.nu)).setCell ⟨Cx, 2, none⟩ (.int .i64 z.ck)).setCell ⟨Cx, 3, none⟩ (.string z.ro)).setCell ⟨Cx, 4, none⟩ (.int .i64 z.va)).setCell ⟨Cx, 5, none⟩ (.string z.st)).setCell ⟨Cx, 6, none⟩ (.slice z.p z.n z.cap)) := (Below.setCell (Below.setCell (Below.setCell (Below.setCell (Below.setCell (Below.setCell (Below.setCell g3 hCx _) hCx _) hCx _) hCx _) hCx _) hCx _) hCx _)
      have HB9 := Lib.hid hb9
      clear hb9 hbA
      rw [if_pos (show Region.wanted _ _ = true from rfl)]
      go_simp
      refine hK.out _ _ g9 (fun hHeld => ?_)
      clear hK K f2 z0 z1 z2 z3 z4 z5 z6
      (try simp only [Act.put, tz0, tz1, tz2])
      refine wpAnyH_take (i := 9) (v := (.bool bb)) (op_at rfl) (by kernel_rfl) (by kernel_rfl) (by kernel_rfl) (fun _ _ _ h => h) (Or.inl ⟨rfl, fun U hSw => ?_⟩) (by assumption) ?_
      · go_simp; try with_reducible rfl
      (try simp only [Act.put, tz0, tz1, tz2])
      refine wpAnyH_done (by kernel_rfl) ?_ _
      go_wp2_with fail
      go_meet
      case rel => exact ⟨Cx, rfl, rfl, HB9.out, g9⟩
  case rest =>
    obtain ⟨Cx, rfl, rfl, hb, gw⟩ := hcut
    obtain ⟨z0, z1, z2, z3, z4, z5, z6⟩ := cells7_ofO hb
    obtain ⟨d0, d1, d2, d3, d4, d5, d6⟩ := HD.out wc gw
    have HS := Lib.hid (isSameS_c (x := z) (y := y) (HZ.out.1.gr gw) (HY.out.gr gw) HZ.out.2.1 HZ.out.2.2)
    have HGW := Lib.hid (HG1.out.trans gw)
    clear hb gw HD HLK HMK HBX HY HZ HG1
    cases bb
    · clear HS
      go_wp2_with fail
      go_ret
      exact ⟨⟨false, rfl, by rw [Hid, HP.out]; simp⟩, HGW.out⟩
    · by_cases hck : z.ck = y.ck
      · have hc1 : (z.ck == y.ck) = true := beq_iff_eq.2 hck
        have HCK := Lib.hid hck
        clear hck
        go_wp2_with fail
        refine HS.out.mono ?_
        rintro e V ⟨⟨b, rfl, hb⟩, hg⟩
        have HB := Lib.hid hb.out
        have HGV := Lib.hid (HGW.out.trans hg)
        clear hb hg HS
        cases b
        all_goals
          go_wp2_with fail
          go_ret
          exact ⟨⟨_, rfl, by rw [Hid, HP.out, ← HB.out]; simp [HCK.out]⟩, HGV.out⟩
      · have hc1 : (z.ck == y.ck) = false := beq_eq_false_iff_ne.2 hck
        have HCK := Lib.hid hck
        clear hck HS
        go_wp2_with fail
        go_ret
        exact ⟨⟨true, rfl, by rw [Hid, HP.out]; simp [HCK.out]⟩, HGW.out⟩
end Go.Proofs.YtnihclhhbegjhaaGreatDoor
namespace Go.Proofs.YtnihclhhbegjhaaGreatDoor
open Go.RowKit Go.Lib
set_option linter.unusedSimpArgs false
set_option linter.unusedVariables false
theorem cell_putM {w : World} {g b o : Nat} {l : List EnR} {ob : Obj} {v : Value} (h : MapM w g l) (hc : w.cell? ⟨b, o, none⟩ = some v) : (putGB w g ob).cell? ⟨b, o, none⟩ = some v := by
  have hne : ¬ g = b := fun e => by
    obtain ⟨⟨es, clock, h9, _⟩⟩ := h
    rw [← e] at hc
    simp [World.cell?, h9] at hc
  have h2 : (putGB w g ob).cell? ⟨b, o, none⟩ = w.cell? ⟨b, o, none⟩ := by simp [World.cell?, putGB, hne]
  rw [h2]; exact hc
theorem asc_new {a : List EnR} {i : Nat} {x : EnR} (h : AscE a) (hx : a[i]? = some x) : lookM (a.take i) x = none := by
  unfold lookM
  rw [List.find?_eq_none]
  intro y hy hs
  obtain ⟨h1, h2⟩ := smk_iff.1 hs
  obtain ⟨j, hj⟩ := List.mem_iff_getElem?.1 hy
  have hjl := (List.getElem?_eq_some_iff.1 hj).1
  rw [List.length_take] at hjl
  have hji : j < i := by omega
  rw [List.getElem?_take_of_lt hji] at hj
  obtain ⟨p1, p2⟩ := List.getElem?_eq_some_iff.1 hj
  obtain ⟨p3, p4⟩ := List.getElem?_eq_some_iff.1 hx
  have hb := List.pairwise_iff_getElem.1 h j i p1 p3 hji
  rw [p2, p4] at hb
  unfold befB at hb
  rw [h1, h2, ltS_irr] at hb
  simp at hb
set_option maxHeartbeats 4000000 in
set_option maxRecDepth 100000 in
theorem idxC_c {w : World} {l c : List EnR} {g Bp n k : Nat} {q : Option Addr} (hn : n = c.length) (h1 : n ≤ 1000) (hM : MapM w g l) (hB : w.cell? ⟨Bp, 0, none⟩ = some (.map (some g))) (hrl : ∀ x ∈ l, RowsX w x.p x.n x.cap x.xs) (fl : Fit l) (hc : EnS w q c) :
    Calls Tryz.prog 165 #[.slice q n k, .func (.func 108) #[] #[.pointer (some ⟨Bp, 0, none⟩)]] w fun e w' => (∃ i : Int, e = .returned (.int .i64 i) ∧ Hid (0 ≤ i ↔ ∃ y ∈ c, conP l y)) ∧ Gr w w' := by
  have HN := Lib.hid hn
  have HC := Lib.hid hc.out
  have HO := Lib.hid (fun W (y : EnR) (G : Gr w W) (hy : RowsX w y.p y.n y.cap y.xs) => con1_c G hM hB hrl fl hy)
  clear hn hM hB hrl fl hc
  generalize hP : conP l = P at *
  clear hP
  go_enter Tryz.func165, Tryz.ntmps165
  go_wp2_with fail
  go_loopg [5, 8] n (fun gk s5 s8 wr => ∃ i : Nat, s8 = .int .i64 (i : Int) ∧ gk + i = n ∧ Hid (∀ j y, j < i → c[j]? = some y → ¬ P y) ∧ Hid (Gr w wr))
  case atStart => exact ⟨0, rfl, by omega, fun j y hj => by omega, Gr.refl _⟩
  case round =>
    obtain ⟨i, rfl, hgk, HJ, HG⟩ := hrel
    by_cases hlt : i < n
    · obtain ⟨x, hx⟩ : ∃ x, c[i]? = some x := ⟨c[i]'(by have := HN.out; omega), List.getElem?_eq_getElem _⟩
      obtain ⟨b, off, rfl, hcc⟩ := HC.out (by have := HN.out; omega)
      have hat := hcc i x hx
      obtain ⟨a0, a1, a2, a3, a4, a5, a6, _⟩ := hat.gr HG.out
      have hi2 : (i : Int) < (n : Int) := by omega
      have HX := Lib.hid hx
      have HCL := Lib.hid (HO.out wr x HG.out hat.rows)
      unfold enV at HCL
      clear hx hcc hat
      go_wp2_with fail
      refine HCL.out.mono ?_
      rintro e V ⟨⟨bb, rfl, hb⟩, hg⟩
      have HB := Lib.hid hb.out
      have HGV := Lib.hid (HG.out.trans hg)
      clear hb hg HCL
      cases bb
      · have HJ2 : Hid (∀ j y, j < i + 1 → c[j]? = some y → ¬ P y) := fun j y hj hy hp => by
          rcases Nat.lt_or_ge j i with h | h
          · exact HJ.out j y h hy hp
          · obtain rfl : j = i := by omega
            rw [HX.out] at hy; cases hy
            have := HB.out.2 hp
            cases this
        go_wp2_with fail
        go_roundg (gk - 1)
        case measure => omega
        case rel => exact ⟨i + 1, by go_num, by omega, HJ2, HGV⟩
      · have HF : Hid (∃ y ∈ c, P y) := ⟨x, List.mem_of_getElem? HX.out, HB.out.1 rfl⟩
        go_wp2_with fail
        go_ret
        exact ⟨⟨i, rfl, ⟨fun _ => HF.out, fun _ => by omega⟩⟩, HGV.out⟩
    · have hi2 : ¬ (i : Int) < (n : Int) := by omega
      have HF : Hid (¬ ∃ y ∈ c, P y) := fun ⟨y, hy, hp⟩ => by
        obtain ⟨j, hj⟩ := List.mem_iff_getElem?.1 hy
        exact HJ.out j y (by have := (List.getElem?_eq_some_iff.1 hj).1; have := HN.out; omega) hj hp
      go_wp2_with fail
      go_ret
      exact ⟨⟨-1, rfl, ⟨fun h => by omega, fun h => absurd h HF.out⟩⟩, HG.out⟩
set_option maxHeartbeats 4000000 in
set_option maxRecDepth 100000 in
theorem hasC_c {w : World} {l c : List EnR} {g Bp n k : Nat} {q : Option Addr} (hn : n = c.length) (h1 : n ≤ 1000) (hM : MapM w g l) (hB : w.cell? ⟨Bp, 0, none⟩ = some (.map (some g))) (hrl : ∀ x ∈ l, RowsX w x.p x.n x.cap x.xs) (fl : Fit l) (hc : EnS w q c) :
    Calls Tryz.prog 107 #[.slice q n k, .func (.func 108) #[] #[.pointer (some ⟨Bp, 0, none⟩)]] w fun e w' => RetB e (∃ y ∈ c, conP l y) ∧ Gr w w' := by
  have HI := Lib.hid (idxC_c (k := k) hn h1 hM hB hrl fl hc)
  generalize (∃ y ∈ c, conP l y) = P at *
  clear hn hM hB hrl fl hc
  go_enter Tryz.func107, Tryz.ntmps107
  go_wp2_with fail
  refine HI.out.mono ?_
  rintro e V ⟨⟨i, rfl, hp⟩, hg⟩
  have HP := Lib.hid hp.out
  clear hp HI
  by_cases h0 : 0 ≤ i
  · have h2 : decide (i < 0) = false := decide_eq_false (by omega)
    have HQ := Lib.hid (HP.out.1 h0)
    clear HP
    go_wp2_with fail
    go_ret
    exact ⟨⟨true, by simp [h0], by rw [Hid]; simp [HQ.out]⟩, hg⟩
  · have h2 : i < 0 := by omega
    have HQ : Hid (¬ P) := fun h => h0 (HP.out.2 h)
    clear HP
    go_wp2_with fail
    go_ret
    exact ⟨⟨false, by simp [h0], by rw [Hid]; simp [HQ.out]⟩, hg⟩
set_option maxHeartbeats 4000000 in
set_option maxRecDepth 100000 in
theorem contra_c {w : World} {pa pc : Option Addr} {a c : List EnR} {ma mc ka kc : Nat} (hma : ma = a.length) (hmc : mc = c.length) (h1 : ma ≤ 1000) (h2 : mc ≤ 1000) (ha : EnS w pa a) (hc : EnS w pc c) (fa : Fit a) (asc : AscE a) :
    Calls Tryz.prog 61 #[.slice pa ma ka, .slice pc mc kc] w fun e w' => RetB e (∃ y ∈ c, conP a y) ∧ Gr w w' := by
  have HMA := Lib.hid hma
  have HR := Lib.hid ha.out
  have HRX := Lib.hid ha.rowsX
  have HASC := Lib.hid (fun i x (h : a[i]? = some x) => asc_new asc h)
  have HHAS := Lib.hid (fun W g Bp (k : Gr w W) (hM : MapM W g a) (hB : W.cell? ⟨Bp, 0, none⟩ = some (.map (some g))) => hasC_c (k := kc) hmc h2 hM hB (fun x hx => (HRX.out x hx).gr k) fa (hc.gr k))
  generalize hPP : (∃ y ∈ c, conP a y) = PP at *
  clear hPP hma hmc ha hc fa asc HRX
  have hmm := @run_makeMap Tryz.prog
  have gb : Gr w ((w.alloc (.map #[] 0)).alloc (.cells #[.map (some w.heap.size)] 198)) := ((Gr.refl w).alloc _).alloc _
  have esz : (w.alloc (.map #[] 0)).heap.size = w.heap.size + 1 := by simp
  have mb := cell_new (w.alloc (.map #[] 0)) #[.map (some w.heap.size)] 198 0 (by simp)
  simp only [List.getElem_toArray, List.getElem_cons_zero] at mb
  rw [esz] at mb
  have hm0 := (mapM_new w).gr ((Gr.refl (w.alloc (.map #[] 0))).alloc (.cells #[.map (some w.heap.size)] 198))
  obtain ⟨W0, hW0⟩ : ∃ W, W = (w.alloc (.map #[] 0)).alloc (.cells #[.map (some w.heap.size)] 198) := ⟨_, rfl⟩
  rw [← hW0] at gb mb hm0
  have HW0 := Lib.hid hW0.symm
  obtain ⟨mg, hmg⟩ : ∃ m, w.heap.size = m := ⟨_, rfl⟩
  obtain ⟨Bp, hBp⟩ : ∃ m, mg + 1 = m := ⟨_, rfl⟩
  have hwm : w.heap.size ≤ mg := by omega
  have HMG := Lib.hid hmg
  have HBP := Lib.hid hBp
  rw [hmg] at mb hm0
  rw [hBp] at mb
  have HM0 := Lib.hid hm0
  have HB0 := Lib.hid mb
  have HG0 := Lib.hid gb
  clear esz hW0 hmg hBp hm0 mb gb
  go_enter Tryz.func61, Tryz.ntmps61
  go_wp2_with fail
  clear hmm
  rw [HW0.out]
  try rw [HMG.out]
  try rw [HBP.out]
  clear HW0
  go_wp2_with fail
  go_loopg [11] ma (fun gk s11 wr => ∃ i : Nat, s11 = .int .i64 (i : Int) ∧ gk + i = ma ∧ Hid (MapM wr mg (a.take i)) ∧ Hid (wr.cell? ⟨Bp, 0, none⟩ = some (.map (some mg))) ∧ Hid (Gr w wr))
  case atStart => exact ⟨0, rfl, by omega, HM0, HB0, HG0⟩
  case round =>
    obtain ⟨i, rfl, hgk, HM, HB, HG⟩ := hrel
    by_cases hlt : i < ma
    · obtain ⟨x, hx⟩ : ∃ x, a[i]? = some x := ⟨a[i]'(by have := HMA.out; omega), List.getElem?_eq_getElem _⟩
      obtain ⟨b, off, rfl, hcc⟩ := HR.out (by have := HMA.out; omega)
      obtain ⟨a0, a1, a2, a3, a4, a5, a6, _⟩ := (hcc i x hx).gr HG.out
      have hi2 : (i : Int) < (ma : Int) := by omega
      have HNW := Lib.hid (HASC.out i x hx)
      have HTK : Hid (a.take i ++ [x] = a.take (i + 1)) := by rw [Hid, List.take_add_one, hx]; rfl
      have HMK := Lib.hid (fun V => mark_c x V)
      unfold enV at HMK
      obtain ⟨WB, hWB, gB, e0, e1, e2, e3, e4, e5, e6⟩ := bx7 wr (.string x.de) (.int .i64 x.nu) (.int .i64 x.ck) (.string x.ro) (.int .i64 x.va) (.string x.st) (.slice x.p x.n x.cap) 77
      have HWB := Lib.hid hWB
      have eb := gB.cell HB.out
      have gd := (Gr.refl WB).drew
      have gD := (HG.out.trans gB).trans gd
      have HM1 := Lib.hid ((HM.out.gr gB).gr gd)
      replace eb := gd.cell eb
      replace e0 := gd.cell e0
      replace e1 := gd.cell e1
      replace e2 := gd.cell e2
      replace e3 := gd.cell e3
      replace e4 := gd.cell e4
      replace e5 := gd.cell e5
      replace e6 := gd.cell e6
      obtain ⟨D, hD⟩ : ∃ D, wr.heap.size = D := ⟨_, rfl⟩
      rw [hD] at e0 e1 e2 e3 e4 e5 e6
      have HDD := Lib.hid hD
      clear hx hcc hWB gB gd hD
      go_wp2_with fail
      rw [HWB.out]
      rw [HDD.out]
      clear HWB HDD
      refine wp_region_held_drew (S := (fun w' => w'.cell? ⟨Bp, 0, none⟩ = some (.map (some mg)) ∧ w'.cell? ⟨D, 0, none⟩ = some (.string x.de) ∧ w'.cell? ⟨D, 1, none⟩ = some (.int .i64 x.nu) ∧ w'.cell? ⟨D, 2, none⟩ = some (.int .i64 x.ck) ∧ w'.cell? ⟨D, 3, none⟩ = some (.string x.ro) ∧ w'.cell? ⟨D, 4, none⟩ = some (.int .i64 x.va) ∧ w'.cell? ⟨D, 5, none⟩ = some (.string x.st) ∧ w'.cell? ⟨D, 6, none⟩ = some (.slice x.p x.n x.cap))) (by kernel_rfl) ⟨eb, e0, e1, e2, e3, e4, e5, e6⟩ (fun hHeld => ?_)
      generalize WB.drew = VD at *
      refine wpAnyH_take (i := 0) (v := (.map (some mg))) (op_at rfl) (by kernel_rfl) (by kernel_rfl) (by kernel_rfl) (fun _ _ _ h => h) (Or.inl ⟨rfl, fun U hSw => ?_⟩) (by assumption) ?_
      · (try dsimp only at hSw); go_simp; try with_reducible rfl
      (try simp only [Act.put, tz0, tz1, tz2])
      refine wpAnyH_take (i := 1) (v := (.agg #[.string x.de, .int .i64 x.nu, .int .i64 x.ck, .string x.ro, .int .i64 x.va, .string x.st, .slice x.p x.n x.cap])) (op_at rfl) (by kernel_rfl) (by kernel_rfl) (by kernel_rfl) (fun _ _ _ h => h) (Or.inl ⟨rfl, fun U hSw => ?_⟩) (by assumption) ?_
      · (try dsimp only at hSw); go_simp; try with_reducible rfl
      (try simp only [Act.put, tz0, tz1, tz2])
      refine wpAnyH_take (i := 3) (v := (.agg #[.string x.de, .int .i64 x.nu, .int .i64 x.ck, .string x.ro, .int .i64 x.va, .string x.st, .slice x.p x.n x.cap])) (op_at rfl) (by kernel_rfl) (by kernel_rfl) (by kernel_rfl) (fun _ _ _ h => h) (Or.inl ⟨rfl, fun U hSw => ?_⟩) (by assumption) ?_
      · (try dsimp only at hSw); go_simp; try with_reducible rfl
      (try simp only [Act.put, tz0, tz1, tz2])
      refine wpAnyH_ready (rs := [2]) (by kernel_rfl) (by simp) ((AllReadyH.cons (op_at rfl) (fun K hK => ?_) AllReadyH.nil))
      go_simp
      refine (HMK.out _).mono ?_
      rintro e V2 ⟨rfl, hg⟩
      go_wp2_with fail
      replace eb := hg.cell eb
      replace e0 := hg.cell e0
      replace e1 := hg.cell e1
      replace e2 := hg.cell e2
      replace e3 := hg.cell e3
      replace e4 := hg.cell e4
      replace e5 := hg.cell e5
      replace e6 := hg.cell e6
      have g2 := gD.trans hg
      have HM2 := Lib.hid (HM1.out.gr hg)
      clear hg
      refine hK.out _ _ ⟨eb, e0, e1, e2, e3, e4, e5, e6⟩ (fun hHeld => ?_)
      clear hK K
      (try simp only [Act.put, tz0, tz1, tz2])
      obtain ⟨ob, hput, hmn⟩ := mapM_put HM2.out x HNW.out
      unfold mkV enV at hput
      have eb2 := cell_putM (ob := ob) HM2.out eb
      have f0 := cell_putM (ob := ob) HM2.out e0
      have f1 := cell_putM (ob := ob) HM2.out e1
      have f2 := cell_putM (ob := ob) HM2.out e2
      have f3 := cell_putM (ob := ob) HM2.out e3
      have f4 := cell_putM (ob := ob) HM2.out e4
      have f5 := cell_putM (ob := ob) HM2.out e5
      have f6 := cell_putM (ob := ob) HM2.out e6
      have HMN := Lib.hid hmn
      have HG2 := Lib.hid (gr_putG (ob := ob) g2 hwm)
      clear hmn g2
      refine wpAnyH_ready (rs := [4]) (by kernel_rfl) (by simp) ((AllReadyH.cons (op_at rfl) (fun K hK => ?_) AllReadyH.nil))
      go_simp
      refine hK.out _ _ ⟨eb2, f0, f1, f2, f3, f4, f5, f6⟩ (fun hHeld => ?_)
      clear hK K hput
      (try simp only [Act.put, tz0, tz1, tz2])
      refine wpAnyH_done (by kernel_rfl) ?_ _
      have hmn2 := HMN.out
      rw [HTK.out] at hmn2
      have HMN2 := Lib.hid hmn2
      clear hmn2
      have HB2 := Lib.hid eb2
      clear HMN f0 f1 f2 f3 f4 f5 f6 eb2 e0 e1 e2 e3 e4 e5 e6 eb a0 a1 a2 a3 a4 a5 a6
      go_wp2_with fail
      go_roundg (gk - 1)
      case measure => omega
      case rel => exact ⟨i + 1, by go_num, by omega, HMN2, HB2, HG2⟩
    · obtain rfl : ma = i := by omega
      have hi2 : ¬ (ma : Int) < (ma : Int) := by omega
      have hm := HM.out
      rw [List.take_of_length_le (by have := HMA.out; omega)] at hm
      have HX := Lib.hid (HHAS.out wr mg Bp HG.out hm HB.out)
      clear hm
      go_wp2_with fail
      refine HX.out.mono ?_
      rintro e V ⟨hret, hg⟩
      obtain ⟨bb, rfl, hb⟩ := hret.out
      have HBB := Lib.hid hb.out
      clear hb hret
      go_wp2_with fail
      go_ret
      exact ⟨⟨bb, rfl, HBB⟩, HG.out.trans hg⟩
end Go.Proofs.YtnihclhhbegjhaaGreatDoor
namespace Go.Proofs.YtnihclhhbegjhaaGreatDoor
open Go.RowKit Go.Lib
set_option linter.unusedSimpArgs false
set_option linter.unusedVariables false
theorem errG_congr {α β : Type} {E : Nat → α → Int} {E' : Nat → β → Int} {xs : List α} {ys : List β} (h : ∀ i x y, xs[i]? = some x → ys[i]? = some y → E i x = E' i y) (hl : xs.length = ys.length) : ∀ k i, errG E xs k i = errG E' ys k i := by
  intro k
  induction k with
  | zero => intro i; rfl
  | succ k ih =>
    intro i
    unfold errG
    cases hx : xs[i]? with
    | none =>
      have : ys[i]? = none := by rw [List.getElem?_eq_none_iff] at hx ⊢; omega
      rw [this]
    | some x =>
      cases hy : ys[i]? with
      | none => rw [List.getElem?_eq_none_iff] at hy; have := (List.getElem?_eq_some_iff.1 hx).1; omega
      | some y => simp only; rw [h i x y hx hy, ih]
theorem map_at {α β : Type} {f : α → β} {xs ys : List α} (h : xs.map f = ys.map f) {i : Nat} {x y : α} (hx : xs[i]? = some x) (hy : ys[i]? = some y) : f x = f y := by
  have h1 := congrArg (fun z => z[i]?) h
  simp only [List.getElem?_map, hx, hy, Option.map_some, Option.some.injEq] at h1
  exact h1
theorem map_len {α β : Type} {f : α → β} {xs ys : List α} (h : xs.map f = ys.map f) : xs.length = ys.length := by have := congrArg List.length h; simpa using this
theorem dup_rk {xs ys : List RowR} (h : xs.map rk = ys.map rk) (i : Nat) (nm : ByteArray) : dupR xs i nm = dupR ys i nm := by
  have e : ∀ zs : List RowR, dupR zs i nm = ((zs.map rk).take i).any (fun y => y.1.toList == nm.toList) := fun zs => by
    unfold dupR
    rw [← List.map_take, List.any_map]
    rfl
  rw [e, e, h]
theorem oneSh_rk {xs ys : List RowR} (h : xs.map rk = ys.map rk) (va : Int) (i : Nat) {x y : RowR} (hk : rk x = rk y) : oneShE va xs i x = oneShE va ys i y := by
  obtain ⟨h1, h2, h3⟩ := rk_eq.1 hk
  unfold oneShE
  rw [dup_rk h i, h1]
  unfold fitO
  rw [h2, h3]
theorem sheetE_rk {xs ys : List RowR} (h : xs.map rk = ys.map rk) (ro : ByteArray) (va : Int) (st : ByteArray) : sheetE ro va st xs = sheetE ro va st ys := by
  unfold sheetE
  rw [map_len h, errG_congr (fun i x y hx hy => oneSh_rk h va i (map_at h hx hy)) (map_len h)]
theorem ek_parts {x y : EnR} : ek x = ek y ↔ x.de = y.de ∧ x.nu = y.nu ∧ x.ck = y.ck ∧ x.ro = y.ro ∧ x.va = y.va ∧ x.st = y.st ∧ x.xs.map rk = y.xs.map rk := by unfold ek; simp
theorem enErr_ek {x y : EnR} (h : ek x = ek y) : enErr x = enErr y := by
  obtain ⟨h1, h2, h3, h4, h5, h6, h7⟩ := ek_parts.1 h
  unfold enErr entryE
  rw [h1, h2, h3, h4, h5, h6, sheetE_rk h7]
theorem ordB_ek {x y x' y' : EnR} (h : ek x = ek x') (h' : ek y = ek y') : ordB x y = ordB x' y' := by
  obtain ⟨h1, h2, h3, _⟩ := ek_parts.1 h
  obtain ⟨g1, g2, g3, _⟩ := ek_parts.1 h'
  unfold ordB befB
  rw [h1, h2, h3, g1, g2, g3]
theorem archE_ek {l m : List EnR} (h : l.map ek = m.map ek) : archE l = archE m := by
  unfold archE
  rw [map_len h]
  refine errG_congr (fun i x y hx hy => ?_) (map_len h) _ _
  unfold enE
  rw [enErr_ek (map_at h hx hy)]
  have ho : ordE l i x = ordE m i y := by
    cases i with
    | zero => rfl
    | succ j =>
      unfold ordE
      obtain ⟨a, ha⟩ : ∃ a, l[j]? = some a := ⟨l[j]'(by have := (List.getElem?_eq_some_iff.1 hx).1; omega), List.getElem?_eq_getElem _⟩
      obtain ⟨b, hb⟩ : ∃ b, m[j]? = some b := ⟨m[j]'(by have := (List.getElem?_eq_some_iff.1 hy).1; omega), List.getElem?_eq_getElem _⟩
      simp only [ha, hb]
      exact ordB_ek (map_at h ha hb) (map_at h hx hy)
  rw [ho]
theorem errG_zeroM {α : Type} {E : Nat → α → Int} {xs : List α} (h : ∀ i x, xs[i]? = some x → E i x = 0) : ∀ k i, errG E xs k i = 0 := by
  intro k
  induction k with
  | zero => intro i; rfl
  | succ k ih =>
    intro i
    unfold errG
    cases hx : xs[i]? with
    | none => rfl
    | some x => simp only; rw [if_pos (h i x hx), ih]
theorem arch_of {l : List EnR} (h1 : ∀ e ∈ l, enErr e = 0) (h2 : l.Pairwise fun a b => befB a b = true ∧ (a.de.toList = b.de.toList → a.ck < b.ck)) : archE l = 0 := by
  unfold archE
  refine errG_zeroM (fun i x hx => ?_) _ _
  unfold enE
  rw [h1 x (List.mem_of_getElem? hx)]
  have ho : ordE l i x = false := by
    cases i with
    | zero => rfl
    | succ j =>
      unfold ordE
      obtain ⟨p3, p4⟩ := List.getElem?_eq_some_iff.1 hx
      have p1 : j < l.length := by omega
      simp only [List.getElem?_eq_getElem p1]
      have hb := List.pairwise_iff_getElem.1 h2 j (j + 1) p1 p3 (by omega)
      rw [p4] at hb
      unfold ordB
      rw [hb.1]
      by_cases hd : (l[j]).de.toList = x.de.toList
      · have := hb.2 hd
        have hz : decide (x.ck ≤ (l[j]).ck) = false := decide_eq_false (by omega)
        rw [hz]; simp
      · have hz : ((l[j]).de.toList == x.de.toList) = false := beq_eq_false_iff_ne.2 hd
        rw [hz]; simp
  rw [ho]; rfl
theorem arch_sub {l m : List EnR} (h : archE l = 0) (hs : m.Sublist l) : archE m = 0 :=
  arch_of (fun e he => (arch_ord h).2 e (hs.subset he)) ((arch_clocks h).sublist hs)
theorem no_con {a c : List EnR} (h : ∀ x ∈ a, ∀ y ∈ c, y.de = x.de → y.nu = x.nu → ek x = ek y) : ¬ ∃ y ∈ c, conP a y := fun ⟨y, hy, x, hx, hn⟩ => by
  obtain ⟨h1, h2, h3⟩ := lookM_mem hx
  obtain ⟨_, _, k3, k4, k5, k6, k7⟩ := ek_parts.1 (h x h1 y hy h2 h3)
  exact hn ⟨k3, shk_eq.2 ⟨k4, k5, k6, k7⟩⟩
theorem asc_inj {l : List EnR} (h : AscE l) {x y : EnR} (hx : x ∈ l) (hy : y ∈ l) (h1 : y.de = x.de) (h2 : y.nu = x.nu) : x = y := by
  obtain ⟨i, hi⟩ := List.mem_iff_getElem?.1 hx
  obtain ⟨j, hj⟩ := List.mem_iff_getElem?.1 hy
  obtain ⟨p1, p2⟩ := List.getElem?_eq_some_iff.1 hi
  obtain ⟨p3, p4⟩ := List.getElem?_eq_some_iff.1 hj
  have hf : ∀ a b : EnR, befB a b = true → a.de = b.de → a.nu = b.nu → False := fun a b h e1 e2 => by
    unfold befB at h
    rw [e1, e2, ltS_irr] at h
    simp at h
  rcases Nat.lt_trichotomy i j with hl | hl | hl
  · have hb := List.pairwise_iff_getElem.1 h i j p1 p3 hl
    rw [p2, p4] at hb
    exact (hf x y hb h1.symm h2.symm).elim
  · subst hl
    rw [p2] at p4; exact p4
  · have hb := List.pairwise_iff_getElem.1 h j i p3 p1 hl
    rw [p2, p4] at hb
    exact (hf y x hb h1 h2).elim
end Go.Proofs.YtnihclhhbegjhaaGreatDoor
namespace Go.Proofs.YtnihclhhbegjhaaGreatDoor
open Go.RowKit Go.Lib
set_option linter.unusedSimpArgs false
set_option linter.unusedVariables false
theorem noM {a : List EnR} {z : EnR} : lookM a z = none ↔ ∀ x ∈ a, ¬ (z.de = x.de ∧ z.nu = x.nu) := by
  unfold lookM
  rw [List.find?_eq_none]
  exact ⟨fun h x hx e => h x hx (smk_iff.2 e), fun h x hx e => h x hx (smk_iff.1 e)⟩
theorem mkO_anti (a b : EnR) : mkO a b = - mkO b a := by
  unfold mkO
  rw [firstE_two, firstE_two, cmpS_neg a.de b.de]
  have hz : cmpZ a.nu b.nu = - cmpZ b.nu a.nu := by
    unfold cmpZ
    by_cases h3 : a.nu < b.nu <;> by_cases h4 : b.nu < a.nu <;> simp [h3, h4] <;> omega
  rw [hz]
  by_cases h5 : cmpS b.de a.de = 0
  · rw [h5]; simp
    split <;> omega
  · rw [if_neg h5, if_neg (by omega)]
theorem mkO_zero {a b : EnR} (h : mkO a b = 0) : a.de = b.de ∧ a.nu = b.nu := by
  unfold mkO at h
  rw [firstE_two] at h
  by_cases h5 : cmpS a.de b.de = 0
  · rw [if_pos h5] at h
    have hd : a.de = b.de := by
      unfold cmpS at h5
      by_cases h1 : ltS a.de b.de = true
      · rw [if_pos h1] at h5; omega
      · rw [if_neg h1] at h5
        have h1' : ltS a.de b.de = false := by simpa using h1
        rw [h1'] at h5
        by_cases h2 : (a.de.toList == b.de.toList) = true
        · exact baI (beq_iff_eq.1 h2)
        · have h2' : (a.de.toList == b.de.toList) = false := by simpa using h2
          rw [h2'] at h5; simp at h5
    refine ⟨hd, cmpZ_zero ?_⟩
    split at h <;> assumption
  · rw [if_neg h5] at h; exact absurd h h5
theorem befB_mk {a b : EnR} : befB a b = true ↔ mkO a b < 0 := by
  rw [← mkO_neg]; simp
theorem befB_cong {x y z : EnR} (h : befB y z = true) (e : x.de = y.de ∧ x.nu = y.nu) : befB x z = true := by
  unfold befB at h ⊢
  rw [e.1, e.2]; exact h
theorem befB_ne {x z : EnR} (h : befB x z = true) : ¬ (z.de = x.de ∧ z.nu = x.nu) := fun ⟨h1, h2⟩ => by
  unfold befB at h
  rw [h1, h2, ltS_irr] at h
  simp at h
theorem asc_uniqE : ∀ (A B : List EnR), AscE A → AscE B → (∀ z, z ∈ A ↔ z ∈ B) → A = B
  | [], [], _, _, _ => rfl
  | [], b :: B, _, _, h => by have := (h b).2 (by simp); cases this
  | a :: A, [], _, _, h => by have := (h a).1 (by simp); cases this
  | a :: A, b :: B, hA, hB, h => by
    have pA := List.pairwise_cons.1 hA
    have pB := List.pairwise_cons.1 hB
    have irr : ∀ z : EnR, befB z z = true → False := fun z hz => befB_ne hz ⟨rfl, rfl⟩
    have e : a = b := by
      rcases List.mem_cons.1 ((h a).1 (by simp)) with e | e
      · exact e
      · rcases List.mem_cons.1 ((h b).2 (by simp)) with e2 | e2
        · exact e2.symm
        · exact (irr _ (befB_trans (pA.1 b e2) (pB.1 a e))).elim
    subst e
    congr 1
    refine asc_uniqE A B pA.2 pB.2 fun z => ⟨fun hz => ?_, fun hz => ?_⟩
    · rcases List.mem_cons.1 ((h z).1 (by simp [hz])) with e | e
      · subst e
        exact (irr _ (pA.1 z hz)).elim
      · exact e
    · rcases List.mem_cons.1 ((h z).2 (by simp [hz])) with e | e
      · subst e
        exact (irr _ (pB.1 z hz)).elim
      · exact e
theorem mrgE_facts : ∀ (n : Nat) (a c : List EnR), a.length + c.length ≤ n → AscE a → AscE c → AscE (mrgE a c) ∧ ∀ z, z ∈ mrgE a c ↔ z ∈ a ∨ (z ∈ c ∧ lookM a z = none) := by
  intro n
  induction n with
  | zero =>
    intro a c h ha hc
    have h1 : a = [] := List.eq_nil_of_length_eq_zero (by omega)
    subst h1
    rw [mrgE_nil]
    exact ⟨hc, fun z => by simp [lookM]⟩
  | succ n ih =>
    intro a c h ha hc
    cases a with
    | nil => rw [mrgE_nil]; exact ⟨hc, fun z => by simp [lookM]⟩
    | cons x a =>
      cases c with
      | nil => rw [mrgE_nil2]; exact ⟨ha, fun z => by simp⟩
      | cons y c =>
        simp only [List.length_cons] at h
        obtain ⟨pa, pa2⟩ := List.pairwise_cons.1 ha
        obtain ⟨pc, pc2⟩ := List.pairwise_cons.1 hc
        rcases Int.lt_trichotomy (mkO x y) 0 with h1 | h1 | h1
        · have hb := befB_mk.2 h1
          rw [mrgE_lt h1]
          obtain ⟨i1, i2⟩ := ih a (y :: c) (by simp only [List.length_cons]; omega) pa2 hc
          have hgt : ∀ z ∈ y :: c, befB x z = true := fun z hz => by
            rcases List.mem_cons.1 hz with rfl | hz
            · exact hb
            · exact befB_trans hb (pc z hz)
          refine ⟨List.pairwise_cons.2 ⟨fun z hz => ?_, i1⟩, fun z => ?_⟩
          · rcases (i2 z).1 hz with h | h
            · exact pa z h
            · exact hgt z h.1
          · rw [List.mem_cons, i2 z, List.mem_cons (a := z) (b := x) (l := a)]
            constructor
            · rintro (h | h | h)
              · exact .inl (.inl h)
              · exact .inl (.inr h)
              · refine .inr ⟨h.1, noM.2 fun w hw => ?_⟩
                rcases List.mem_cons.1 hw with rfl | hw
                · exact befB_ne (hgt z h.1)
                · exact noM.1 h.2 w hw
            · rintro ((h | h) | h)
              · exact .inl h
              · exact .inr (.inl h)
              · exact .inr (.inr ⟨h.1, noM.2 fun w hw => noM.1 h.2 w (List.mem_cons_of_mem _ hw)⟩)
        · have he := mkO_zero h1
          rw [mrgE_eq h1]
          obtain ⟨i1, i2⟩ := ih a c (by omega) pa2 pc2
          have hgt : ∀ z ∈ c, befB x z = true := fun z hz => befB_cong (pc z hz) he
          refine ⟨List.pairwise_cons.2 ⟨fun z hz => ?_, i1⟩, fun z => ?_⟩
          · rcases (i2 z).1 hz with h | h
            · exact pa z h
            · exact hgt z h.1
          · rw [List.mem_cons, i2 z, List.mem_cons (a := z) (b := x) (l := a)]
            constructor
            · rintro (h | h | h)
              · exact .inl (.inl h)
              · exact .inl (.inr h)
              · refine .inr ⟨List.mem_cons_of_mem _ h.1, noM.2 fun w hw => ?_⟩
                rcases List.mem_cons.1 hw with rfl | hw
                · exact befB_ne (hgt z h.1)
                · exact noM.1 h.2 w hw
            · rintro ((h | h) | h)
              · exact .inl h
              · exact .inr (.inl h)
              · rcases List.mem_cons.1 h.1 with rfl | h2
                · exact absurd ⟨he.1.symm, he.2.symm⟩ (noM.1 h.2 x (List.mem_cons_self ..))
                · exact .inr (.inr ⟨h2, noM.2 fun w hw => noM.1 h.2 w (List.mem_cons_of_mem _ hw)⟩)
        · have hb : befB y x = true := befB_mk.2 (by have := mkO_anti x y; omega)
          rw [mrgE_gt h1]
          obtain ⟨i1, i2⟩ := ih (x :: a) c (by simp only [List.length_cons]; omega) ha pc2
          have hgt : ∀ z ∈ x :: a, befB y z = true := fun z hz => by
            rcases List.mem_cons.1 hz with rfl | hz
            · exact hb
            · exact befB_trans hb (pa z hz)
          refine ⟨List.pairwise_cons.2 ⟨fun z hz => ?_, i1⟩, fun z => ?_⟩
          · rcases (i2 z).1 hz with h | h
            · exact hgt z h
            · exact pc z h.1
          · rw [List.mem_cons, i2 z, List.mem_cons (a := z) (l := c)]
            constructor
            · rintro (h | h | h)
              · subst h
                exact .inr ⟨.inl rfl, noM.2 fun w hw e => befB_ne (hgt w hw) ⟨e.1.symm, e.2.symm⟩⟩
              · exact .inl h
              · exact .inr ⟨.inr h.1, h.2⟩
            · rintro (h | ⟨h | h, h2⟩)
              · exact .inr (.inl h)
              · exact .inl h
              · exact .inr (.inr ⟨h, h2⟩)
end Go.Proofs.YtnihclhhbegjhaaGreatDoor
