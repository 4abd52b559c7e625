/- A map with names for keys, and any values, that the call makes: asked, written. -/
import Derived.Test.YtjkiidkacpffnaaGreatDoorGNat
import Derived.MapKept
import Derived.Test.YtjkiidkacpffnaaGreatDoorGRkD
namespace Go.Proofs.YtjkiidkacpffnaaGreatDoor
open Go.RowKit Go.Lib
set_option linter.unusedSimpArgs false
set_option linter.unusedVariables false
/-- a key's value in a list of pairs; the pairs with a key's value set -/
def lookG {α : Type} (ks : List (ByteArray × α)) (k : ByteArray) : Option α := (ks.find? fun p => p.1.toList == k.toList).map (·.2)
def putG {α : Type} : List (ByteArray × α) → ByteArray → α → List (ByteArray × α)
  | [], k, v => [(k, v)]
  | p :: r, k, v => if p.1.toList == k.toList then (k, v) :: r else p :: putG r k v
def pairG {α : Type} (ev : α → Value) (p : ByteArray × α) : Value × Value := (.string p.1, ev p.2)
section
variable {α : Type} {ev : α → Value}
/-- the block holds these pairs -/
structure MapG (ev : α → Value) (w : World) (g : Nat) (ks : List (ByteArray × α)) : Prop where
  mk' ::
  out : ∃ es clock, w.heap[g]? = some (.map ⟨es⟩ clock) ∧ es.map (fun e : MapEntry => (e.key, e.val)) = ks.map (pairG ev)
theorem MapG.gr {w w' : World} {g : Nat} {ks : List (ByteArray × α)} (h : MapG ev w g ks) (k : Gr w w') : MapG ev w' g ks := by
  obtain ⟨⟨es, clock, h1, h2⟩⟩ := h
  exact ⟨es, clock, k.block h1, h2⟩
theorem same_strG (a b : ByteArray) : Instr.sameNow .string (.string a) (.string b) = some (b.toList == a.toList) := by
  simp only [Instr.sameNow]
  rw [beq_toListBytes, Bool.beq_comm]
theorem mapG_find {k : ByteArray} : ∀ {es : List MapEntry} {ks : List (ByteArray × α)} (i : Nat), es.map (fun e : MapEntry => (e.key, e.val)) = ks.map (pairG ev) →
    match lookG ks k with
    | some v => ∃ j, Instr.findNow .string (.string k) es i = some (some (i + j, ev v)) ∧ j < es.length ∧ ∃ e s, es[j]? = some e ∧ e.key = .string s ∧ s.toList = k.toList ∧ e.val = ev v ∧ ∀ u, (es.modify j fun e => { e with key := .string k, val := ev u }).map (fun e : MapEntry => (e.key, e.val)) = (putG ks k u).map (pairG ev)
    | none => Instr.findNow .string (.string k) es i = some none ∧ ∀ u, putG ks k u = ks ++ [(k, u)]
  | [], [], i, _ => by simp [Instr.findNow, lookG, putG]
  | [], _ :: _, _, h => by simp at h
  | _ :: _, [], _, h => by simp at h
  | e :: es, z :: ks, i, h => by
    simp only [List.map_cons, List.cons.injEq, pairG, Prod.mk.injEq] at h
    obtain ⟨⟨h1, h2⟩, h3⟩ := h
    have ih := mapG_find (k := k) (i + 1) h3
    by_cases hz : (z.1.toList == k.toList) = true
    · have hl : lookG (z :: ks) k = some z.2 := by simp [lookG, List.find?_cons, hz]
      rw [hl]
      refine ⟨0, ?_, by simp, e, z.1, rfl, h1, by simpa using hz, h2, fun u => ?_⟩
      · simp [Instr.findNow, h1, h2, same_strG, hz]
      · simp [putG, hz, pairG, h3]
    · have hz' : (z.1.toList == k.toList) = false := by simpa using hz
      have hl : lookG (z :: ks) k = lookG ks k := by simp [lookG, List.find?_cons, hz']
      rw [hl]
      cases hq : lookG ks k with
      | some v =>
        rw [hq] at ih
        obtain ⟨j, h4, h5, e2, s, h6, h7, h8, h9, h10⟩ := ih
        refine ⟨j + 1, ?_, by simp; omega, e2, s, by simpa using h6, h7, h8, h9, fun u => ?_⟩
        · rw [show i + (j + 1) = i + 1 + j by omega, ← h4]
          simp [Instr.findNow, h1, same_strG, hz']
        · have := h10 u
          simp only [putG, hz', List.modify_succ_cons, List.map_cons, this, h1, h2]
          simp [pairG]
      | none =>
        rw [hq] at ih
        refine ⟨?_, fun u => by simp [putG, hz', ih.2 u]⟩
        rw [← ih.1]
        simp [Instr.findNow, h1, same_strG, hz']
theorem uStrG : Tryz.prog.underlying 9 = some .string := by kernel_rfl
theorem run_undG {t : TypeId} {d : TypeDesc} (h : Tryz.prog.underlying t = some d) (w : World) : (underlying t).run Tryz.prog w = .ok d w := run_underlying h w
theorem checkKeyG (e : Bool) (k : Value) (w : World) : (Instr.checkKey e 10000 9 k).run Tryz.prog w = .ok () w := by
  unfold Instr.checkKey
  simp only [Sem.run_bind, run_undG uStrG, Result.andThen_ok]
  rfl
/-- one block changed -/
def putGB (w : World) (g : Nat) (ob : Obj) : World := { w with heap := w.heap.setIfInBounds g ob }
/-- asked -/
theorem mapG_look {tm tv : TypeId} {z : Value} (hu : Tryz.prog.underlying tm = some (.map 9 tv)) (hz : ∀ w, (zeroValue tv).run Tryz.prog w = .ok z w) {w : World} {g : Nat} {ks : List (ByteArray × α)} (h : MapG ev w g ks) (k : ByteArray) : (Instr.lookup tm (.map (some g)) (.string k) false).run Tryz.prog w = .ok (((lookG ks k).map ev).getD z) w := by
  obtain ⟨⟨es, clock, h1, h2⟩⟩ := h
  have hg : (getObj g).run Tryz.prog w = .ok (.map ⟨es⟩ clock) w := by simp [getObj, Sem.run, h1]
  have hf := mapG_find (k := k) 0 h2
  unfold Instr.lookup
  cases hk : lookG ks k with
  | some v =>
    rw [hk] at hf
    obtain ⟨j, h3, _⟩ := hf
    have hfk := Go.MapKept.run_findKey (P := Tryz.prog) (w := w) uStrG h3
    simp only [Sem.run_bind, run_undG hu, Result.andThen_ok, Sem.run_pure, hg, checkKeyG, hfk]
    simp
  | none =>
    rw [hk] at hf
    have hfk := Go.MapKept.run_findKey (P := Tryz.prog) (w := w) uStrG hf.1
    simp only [Sem.run_bind, run_undG hu, Result.andThen_ok, Sem.run_pure, hg, checkKeyG, hfk]
    simp [hz]
/-- written -/
theorem mapG_put {tm tv : TypeId} (hu : Tryz.prog.underlying tm = some (.map 9 tv)) {w : World} {g : Nat} {ks : List (ByteArray × α)} (h : MapG ev w g ks) (k : ByteArray) (u : α) : ∃ ob, (Instr.mapUpdate tm (.map (some g)) (.string k) (ev u)).run Tryz.prog w = .ok () (putGB w g ob) ∧ MapG ev (putGB w g ob) g (putG ks k u) := by
  obtain ⟨⟨es, clock, h1, h2⟩⟩ := h
  have hg : (getObj g).run Tryz.prog w = .ok (.map ⟨es⟩ clock) w := by simp [getObj, Sem.run, h1]
  have hset : ∀ ob, (setObj g ob).run Tryz.prog w = .ok () (putGB w g ob) := fun ob => by simp [setObj, Sem.run, h1, putGB]
  have hlt := (Array.getElem?_eq_some_iff.1 h1).1
  have hput : ∀ ob, (putGB w g ob).heap[g]? = some ob := fun ob => by simp [putGB, hlt]
  have hf := mapG_find (k := k) 0 h2
  cases hk : lookG ks k with
  | some v =>
    rw [hk] at hf
    obtain ⟨j, h3, h4, e, s, h5, h6, h7, h8, h9⟩ := hf
    rw [Nat.zero_add] at h3
    have hfk := Go.MapKept.run_findKey (P := Tryz.prog) (w := w) uStrG h3
    have hsk : s = k := by
      rw [ByteArray.toList_eq, ByteArray.toList_eq] at h7
      exact ByteArray.ext (Array.toList_inj.1 h7)
    subst hsk
    have hss : (s == s) = true := by rw [beq_toListBytes]; simp
    refine ⟨.map ⟨es.modify j fun e => { e with key := .string s, val := ev u }⟩ clock, ?_, ?_⟩
    · simp [Instr.mapUpdate, run_undG hu, hg, checkKeyG, hfk, hset, h5, h6, Instr.keyThatStays, Instr.sameBits, hss]
    · exact ⟨_, _, hput _, h9 u⟩
  | none =>
    rw [hk] at hf
    have hfk := Go.MapKept.run_findKey (P := Tryz.prog) (w := w) uStrG hf.1
    refine ⟨.map ⟨es ++ [⟨.string k, ev u, clock⟩]⟩ (clock + 1), ?_, ?_⟩
    · simp [Instr.mapUpdate, run_undG hu, hg, checkKeyG, hfk, hset]
    · exact ⟨_, _, hput _, by rw [hf.2 u]; simp [h2, pairG]⟩
theorem mapG_new (w : World) : MapG ev (w.alloc (.map #[] 0)) w.heap.size [] := ⟨[], 0, heap_alloc_new _ _, rfl⟩
theorem gr_putG {w0 w : World} {g : Nat} {ob : Obj} (h : Gr w0 w) (hg : w0.heap.size ≤ g) : Gr w0 (putGB w g ob) := by
  have hsz : (putGB w g ob).heap.size = w.heap.size := by simp [putGB]
  refine ⟨h.os, h.tape, h.output, by rw [hsz]; exact h.size, fun k hk => ?_⟩
  have hne : ¬ g = k := by omega
  rw [← Below.block h k hk]
  simp [putGB, hne]
end
end Go.Proofs.YtjkiidkacpffnaaGreatDoor
namespace Go.Proofs.YtjkiidkacpffnaaGreatDoor
open Go.RowKit Go.Lib
set_option linter.unusedSimpArgs false
set_option linter.unusedVariables false
theorem uMapBO : Tryz.prog.underlying 89 = some (.map 9 4) := by kernel_rfl
theorem zeroBO (w : World) : (zeroValue 4).run Tryz.prog w = .ok (.bool false) w := by kernel_rfl
def evBO (b : Bool) : Value := .bool b
theorem lookG_putO {α : Type} (k : ByteArray) (v : α) (s : ByteArray) : ∀ ks : List (ByteArray × α), lookG (putG ks k v) s = if k.toList == s.toList then some v else lookG ks s
  | [] => by
    simp only [putG, lookG, List.find?_cons, List.find?_nil]
    cases k.toList == s.toList <;> simp
  | p :: r => by
    have ih := lookG_putO k v s r
    by_cases hp : (p.1.toList == k.toList) = true
    · have e : p.1.toList = k.toList := by simpa using hp
      simp only [putG, hp, if_true]
      unfold lookG
      rw [List.find?_cons, List.find?_cons]
      simp only [e]
      cases k.toList == s.toList <;> simp
    · have hp' : (p.1.toList == k.toList) = false := by simpa using hp
      simp only [putG, hp', Bool.false_eq_true, if_false]
      unfold lookG at *
      rw [List.find?_cons, List.find?_cons]
      by_cases hs : (p.1.toList == s.toList) = true
      · have e : p.1.toList = s.toList := by simpa using hs
        have hk : (k.toList == s.toList) = false := by
          rw [← e]
          cases h : k.toList == p.1.toList
          · rfl
          · have := eq_of_beq h; rw [this] at hp'; simp at hp'
        simp [hs, hk]
      · have hs' : (p.1.toList == s.toList) = false := by simpa using hs
        simp only [hs']
        exact ih
/-- who has been seen -/
structure SeenO (ks : List (ByteArray × Bool)) (xs : List RowR) (j : Nat) : Prop where
  at_ : ∀ nm, ((lookG ks nm).map evBO).getD (.bool false) = .bool (dupR xs j nm)
theorem SeenO.put {ks : List (ByteArray × Bool)} {xs : List RowR} {j : Nat} {x : RowR} (h : SeenO ks xs j) (hx : xs[j]? = some x) : SeenO (putG ks x.nm true) xs (j + 1) := by
  refine ⟨fun nm => ?_⟩
  have hd : dupR xs (j + 1) nm = (dupR xs j nm || (x.nm.toList == nm.toList)) := by
    unfold dupR
    rw [List.take_add_one, hx]
    simp [List.any_append]
  rw [hd, lookG_putO]
  have := h.at_ nm
  cases hk : x.nm.toList == nm.toList
  · simpa using this
  · simp [evBO]
theorem SeenO.nil (xs : List RowR) : SeenO [] xs 0 := ⟨fun nm => by simp [lookG, dupR]⟩
theorem MapG.cellO {α : Type} {ev : α → Value} {w : World} {g : Nat} {ks : List (ByteArray × α)} (h : MapG ev w g ks) {b o : Nat} {v : Value} (hc : w.cell? ⟨b, o, none⟩ = some v) (ob : Obj) : (putGB w g ob).cell? ⟨b, o, none⟩ = some v := by
  obtain ⟨⟨es, clock, h1, _⟩⟩ := h
  have hne : ¬ g = b := by
    rintro rfl
    simp [World.cell?, h1] at hc
  rw [← hc]
  simp [World.cell?, putGB, hne]
/-- the error of a result -/
def oneShE (va : Int) (xs : List RowR) (j : Nat) (x : RowR) : Int :=
  firstE [nmE x.nm, if dupR xs j x.nm then 9 else 0, if (!x.st.toList.isEmpty && gradeZ x.st.toList == -1) then 13 else 0, if (!fitO va x) then 2 else 0, valsE x.xs]
/-- the sheet's box -/
structure ShBox (w : World) (L : Nat) (ro : ByteArray) (va : Int) (st : ByteArray) (vs : Value) : Prop where
  c0 : w.cell? ⟨L, 0, none⟩ = some (.string ro)
  c1 : w.cell? ⟨L, 1, none⟩ = some (.int .i64 va)
  c2 : w.cell? ⟨L, 2, none⟩ = some (.string st)
  c3 : w.cell? ⟨L, 3, none⟩ = some vs
theorem ShBox.gr {w w' : World} {L : Nat} {ro : ByteArray} {va : Int} {st : ByteArray} {vs : Value} (h : ShBox w L ro va st vs) (k : Gr w w') : ShBox w' L ro va st vs := ⟨k.cell h.c0, k.cell h.c1, k.cell h.c2, k.cell h.c3⟩
set_option maxHeartbeats 4000000 in
set_option maxRecDepth 100000 in
theorem oneSh_c {w0 W : World} {xs : List RowR} {x : RowR} {j M L mg : Nat} {ks : List (ByteArray × Bool)} {ro st : ByteArray} {va : Int} {vs : Value} (G : Gr w0 W) (hx : xs[j]? = some x) (hv : IntsV w0 x.u x.xs) (hl : x.xs.length ≤ 1000)
    (hvs : ∃ p n c, vs = .slice p n c) (hM : W.cell? ⟨M, 0, none⟩ = some (.map (some mg))) (hL : ShBox W L ro va st vs) (hks : MapG evBO W mg ks) (hse : SeenO ks xs j) (hg : w0.heap.size ≤ mg) :
    Calls Tryz.prog 41 #[.int .i64 j, .agg #[.string x.nm, .string x.st, x.u], .pointer (some ⟨M, 0, none⟩), .pointer (some ⟨L, 0, none⟩)] W fun e w' => e = .returned (.int .i64 (oneShE va xs j x)) ∧ Gr w0 w' ∧ MapG evBO w' mg (putG ks x.nm true) ∧ w'.cell? ⟨M, 0, none⟩ = some (.map (some mg)) ∧ ShBox w' L ro va st vs := by
  obtain ⟨pvs, nvs, cvs, hvs⟩ := hvs
  obtain ⟨⟨pu, cu, hu, _⟩⟩ := id hv
  have hv2 : IntsV w0 (.slice pu x.xs.length cu) x.xs := by rw [← hu]; exact hv
  rw [hu]
  -- the world behind the box, with the map's answers
  have c0 := cell_new W #[.string x.nm, .string x.st, .slice pu x.xs.length cu] 46 0 (by simp)
  have c1 := cell_new W #[.string x.nm, .string x.st, .slice pu x.xs.length cu] 46 1 (by simp)
  have c2 := cell_new W #[.string x.nm, .string x.st, .slice pu x.xs.length cu] 46 2 (by simp)
  have g1 : Gr W (W.alloc (.cells #[.string x.nm, .string x.st, .slice pu x.xs.length cu] 46)) := (Gr.refl W).alloc _
  have mw := g1.cell hM
  have hks1 := hks.gr g1
  have hL1 := hL.gr g1
  have hlook := mapG_look uMapBO zeroBO hks1 x.nm
  rw [hse.at_ x.nm] at hlook
  obtain ⟨ob, hput, hks2⟩ := mapG_put uMapBO hks1 x.nm true
  have hput : (Instr.mapUpdate 89 (.map (some mg)) (.string x.nm) (.bool true)).run Tryz.prog _ = _ := hput
  have hG2 := gr_putG (ob := ob) (G.trans g1) hg
  have a0 := hks1.cellO c0 ob
  have a1 := hks1.cellO c1 ob
  have a2 := hks1.cellO c2 ob
  have m0 := hks1.cellO mw ob
  have s0 := hks1.cellO hL1.c0 ob
  have s1 := hks1.cellO hL1.c1 ob
  have s2 := hks1.cellO hL1.c2 ob
  have s3 := hks1.cellO hL1.c3 ob
  simp only [List.getElem_toArray, List.getElem_cons_zero, List.getElem_cons_succ] at c0 c1 c2 a0 a1 a2
  obtain ⟨V, hV⟩ : ∃ V, putGB (W.alloc (.cells #[.string x.nm, .string x.st, .slice pu x.xs.length cu] 46)) mg ob = V := ⟨_, rfl⟩
  rw [hV] at hks2 hG2 a0 a1 a2 m0 s0 s1 s2 s3
  have HV := Lib.hid hV
  have HM2 := Lib.hid hks2
  have HG2 := Lib.hid hG2
  -- what the calls return
  obtain ⟨e1, h1', H1⟩ := oname_e x.nm
  obtain ⟨e2, h2', H2⟩ := if_e (dupR xs j x.nm) 9
  obtain ⟨e3, h3', H3⟩ := if_e (!x.st.toList.isEmpty && gradeZ x.st.toList == -1) 13
  obtain ⟨e4, h4', H4⟩ := if_e (!fitO va x) 2
  obtain ⟨e5, h5'⟩ : ∃ z, z = valsE x.xs := ⟨_, rfl⟩
  have H5 := Lib.hid (fun W (g : Gr V W) => eachV_cO W (hv2.gr (hG2.trans g)) hl)
  rw [← h5'] at H5
  have H6 := Lib.hid (fun W (g : Gr V W) => fits_c ro va st vs x W (hv.gr (hG2.trans g)))
  rw [hu] at H6
  have HF := Lib.hid (fst5 e1 e2 e3 e4 e5)
  obtain ⟨err, hErr⟩ : ∃ z, z = oneShE va xs j x := ⟨_, rfl⟩
  rw [← hErr]
  unfold oneShE at hErr
  rw [← h1', ← h2', ← h3', ← h4', ← h5'] at hErr
  rw [← hErr] at HF
  replace H1 := Lib.hid (fun W (_ : Gr V W) => H1 W)
  replace H2 := Lib.hid H2
  replace H3 := Lib.hid H3
  replace H4 := Lib.hid H4
  have HSt := Lib.hid (fun W h => isState_c x.st W h)
  clear h1' h2' h3' h4' h5' hErr hks2 hG2 hV hks1 hL1 g1 hu hv hv2 hl hx hse hks hL hM G hvs hg
  generalize dupR xs j x.nm = dB at *
  generalize fitO va x = fB at *
  generalize x.xs.length = xn at *
  cases he : x.st.toList.isEmpty
  · have he2 : ¬ x.st.toList = [] := by intro q; rw [q] at he; cases he
    rw [he] at H3
    have hsb : (!false && gradeZ x.st.toList == -1) = !(!(gradeZ x.st.toList == -1)) := by simp
    rw [hsb] at H3
    replace HSt := Lib.hid (fun W => HSt.out W he)
    generalize (!(gradeZ x.st.toList == -1)) = sB at *
    go_enter Tryz.func41, Tryz.ntmps41
    go_wp2_with fail
    rw [HV.out]
    clear HV hlook hput c0 c1 c2 mw
    generalize W.heap.size = Bx at *
    have gd := (Gr.refl V).drew
    replace a0 := gd.cell a0
    replace a1 := gd.cell a1
    replace a2 := gd.cell a2
    replace s0 := gd.cell s0
    replace s1 := gd.cell s1
    replace s2 := gd.cell s2
    replace s3 := gd.cell s3
    replace m0 := gd.cell m0
    have g := gd
    clear gd
    refine wp_region_held_drew (S := (fun w' => w'.cell? ⟨Bx, 0, none⟩ = some (.string x.nm) ∧ w'.cell? ⟨Bx, 1, none⟩ = some (.string x.st) ∧ w'.cell? ⟨Bx, 2, none⟩ = some (.slice pu xn cu) ∧ w'.cell? ⟨L, 0, none⟩ = some (.string ro) ∧ w'.cell? ⟨L, 1, none⟩ = some (.int .i64 va) ∧ w'.cell? ⟨L, 2, none⟩ = some (.string st) ∧ w'.cell? ⟨L, 3, none⟩ = some vs ∧ w'.cell? ⟨M, 0, none⟩ = some (.map (some mg)))) (by kernel_rfl) ⟨a0, a1, a2, s0, s1, s2, s3, m0⟩ (fun hHeld => ?_)
    generalize V.drew = V2 at *
    refine wpAnyH_take (i := 0) (v := (.pointer (some ⟨Bx, 0, none⟩))) (op_at rfl) (by kernel_rfl) (by kernel_rfl) (by kernel_rfl) (fun _ _ _ h => h) (Or.inl ⟨rfl, fun w hSw => ?_⟩) (by assumption) ?_
    · (try dsimp only at hSw); go_simp; try with_reducible rfl
    (try simp only [Act.put, List.setIfInBounds_toArray, List.set_cons_zero, List.set_cons_succ])
    refine wpAnyH_take (i := 1) (v := (.string x.nm)) (op_at rfl) (by kernel_rfl) (by kernel_rfl) (by kernel_rfl) (fun _ _ _ h => h) (Or.inl ⟨rfl, fun w hSw => ?_⟩) (by assumption) ?_
    · (try dsimp only at hSw); go_simp; try with_reducible rfl
    (try simp only [Act.put, List.setIfInBounds_toArray, List.set_cons_zero, List.set_cons_succ])
    refine wpAnyH_take (i := 3) (v := (.bool dB)) (op_at rfl) (by kernel_rfl) (by kernel_rfl) (by kernel_rfl) (fun _ _ _ h => h) (Or.inl ⟨rfl, fun w hSw => ?_⟩) (by assumption) ?_
    · (try dsimp only at hSw); go_simp; try with_reducible rfl
    (try simp only [Act.put, List.setIfInBounds_toArray, List.set_cons_zero, List.set_cons_succ])
    refine wpAnyH_take (i := 5) (v := (.pointer (some ⟨Bx, 1, none⟩))) (op_at rfl) (by kernel_rfl) (by kernel_rfl) (by kernel_rfl) (fun _ _ _ h => h) (Or.inl ⟨rfl, fun w hSw => ?_⟩) (by assumption) ?_
    · (try dsimp only at hSw); go_simp; try with_reducible rfl
    (try simp only [Act.put, List.setIfInBounds_toArray, List.set_cons_zero, List.set_cons_succ])
    refine wpAnyH_take (i := 6) (v := (.string x.st)) (op_at rfl) (by kernel_rfl) (by kernel_rfl) (by kernel_rfl) (fun _ _ _ h => h) (Or.inl ⟨rfl, fun w hSw => ?_⟩) (by assumption) ?_
    · (try dsimp only at hSw); go_simp; try with_reducible rfl
    (try simp only [Act.put, List.setIfInBounds_toArray, List.set_cons_zero, List.set_cons_succ])
    refine wpAnyH_take (i := 7) (v := (.bool true)) (op_at rfl) (by kernel_rfl) (by kernel_rfl) (by kernel_rfl) (fun _ _ _ h => h) (Or.inl ⟨rfl, fun w hSw => ?_⟩) (by assumption) ?_
    · (try dsimp only at hSw); go_simp; try with_reducible rfl
    (try simp only [Act.put, List.setIfInBounds_toArray, List.set_cons_zero, List.set_cons_succ])
    refine wpAnyH_take (i := 15) (v := (.agg #[.string ro, .int .i64 va, .string st, vs])) (op_at rfl) (by kernel_rfl) (by kernel_rfl) (by kernel_rfl) (fun _ _ _ h => h) (Or.inl ⟨rfl, fun w hSw => ?_⟩) (by assumption) ?_
    · (try dsimp only at hSw); go_simp; try with_reducible rfl
    (try simp only [Act.put, List.setIfInBounds_toArray, List.set_cons_zero, List.set_cons_succ])
    refine wpAnyH_take (i := 16) (v := (.agg #[.string x.nm, .string x.st, .slice pu xn cu])) (op_at rfl) (by kernel_rfl) (by kernel_rfl) (by kernel_rfl) (fun _ _ _ h => h) (Or.inl ⟨rfl, fun w hSw => ?_⟩) (by assumption) ?_
    · (try dsimp only at hSw); go_simp; try with_reducible rfl
    (try simp only [Act.put, List.setIfInBounds_toArray, List.set_cons_zero, List.set_cons_succ])
    refine wpAnyH_take (i := 20) (v := (.pointer (some ⟨Bx, 2, none⟩))) (op_at rfl) (by kernel_rfl) (by kernel_rfl) (by kernel_rfl) (fun _ _ _ h => h) (Or.inl ⟨rfl, fun w hSw => ?_⟩) (by assumption) ?_
    · (try dsimp only at hSw); go_simp; try with_reducible rfl
    (try simp only [Act.put, List.setIfInBounds_toArray, List.set_cons_zero, List.set_cons_succ])
    refine wpAnyH_take (i := 21) (v := (.slice pu xn cu)) (op_at rfl) (by kernel_rfl) (by kernel_rfl) (by kernel_rfl) (fun _ _ _ h => h) (Or.inl ⟨rfl, fun w hSw => ?_⟩) (by assumption) ?_
    · (try dsimp only at hSw); go_simp; try with_reducible rfl
    (try simp only [Act.put, List.setIfInBounds_toArray, List.set_cons_zero, List.set_cons_succ])
    refine wpAnyH_ready (rs := [2]) (by kernel_rfl) (by simp) (AllReadyH.cons (op_at rfl) (fun K hK => ?_) AllReadyH.nil)
    go_simp
    (refine (H1.out _ g).mono ?_; rintro e W2 ⟨rfl, hg⟩; replace a0 := hg.cell a0; replace a1 := hg.cell a1; replace a2 := hg.cell a2; replace s0 := hg.cell s0; replace s1 := hg.cell s1; replace s2 := hg.cell s2; replace s3 := hg.cell s3; replace m0 := hg.cell m0; replace g := g.trans hg; clear hg)
    go_wp2_with fail
    refine hK.out _ _ ⟨a0, a1, a2, s0, s1, s2, s3, m0⟩ (fun hHeld => ?_)
    clear hK K
    (try simp only [Act.put, List.setIfInBounds_toArray, List.set_cons_zero, List.set_cons_succ])
    refine wpAnyH_ready (rs := [4]) (by kernel_rfl) (by simp) (AllReadyH.cons (op_at rfl) (fun K hK => ?_) AllReadyH.nil)
    go_simp
    (refine (H2.out _).mono ?_; rintro e w' ⟨rfl, rfl⟩)
    go_wp2_with fail
    refine hK.out _ _ ⟨a0, a1, a2, s0, s1, s2, s3, m0⟩ (fun hHeld => ?_)
    clear hK K
    (try simp only [Act.put, List.setIfInBounds_toArray, List.set_cons_zero, List.set_cons_succ])
    refine wpAnyH_take (i := 8) (v := (.bool true)) (op_at rfl) (by kernel_rfl) (by kernel_rfl) (by kernel_rfl) (fun _ _ _ h => h) (Or.inl ⟨rfl, fun w hSw => ?_⟩) (by assumption) ?_
    · (try dsimp only at hSw); go_simp; try with_reducible rfl
    (try simp only [Act.put, List.setIfInBounds_toArray, List.set_cons_zero, List.set_cons_succ])
    refine wpAnyH_take (i := 9) (v := (.pointer (some ⟨Bx, 1, none⟩))) (op_at rfl) (by kernel_rfl) (by kernel_rfl) (by kernel_rfl) (fun _ _ _ h => h) (Or.inl ⟨rfl, fun w hSw => ?_⟩) (by assumption) ?_
    · (try dsimp only at hSw); go_simp; try with_reducible rfl
    (try simp only [Act.put, List.setIfInBounds_toArray, List.set_cons_zero, List.set_cons_succ])
    refine wpAnyH_take (i := 10) (v := (.string x.st)) (op_at rfl) (by kernel_rfl) (by kernel_rfl) (by kernel_rfl) (fun _ _ _ h => h) (Or.inl ⟨rfl, fun w hSw => ?_⟩) (by assumption) ?_
    · (try dsimp only at hSw); go_simp; try with_reducible rfl
    (try simp only [Act.put, List.setIfInBounds_toArray, List.set_cons_zero, List.set_cons_succ])
    refine wpAnyH_ready (rs := [11]) (by kernel_rfl) (by simp) (AllReadyH.cons (op_at rfl) (fun K hK => ?_) AllReadyH.nil)
    go_simp
    (refine (HSt.out _).mono ?_; rintro e w' ⟨rfl, rfl⟩)
    go_wp2_with fail
    refine hK.out _ _ ⟨a0, a1, a2, s0, s1, s2, s3, m0⟩ (fun hHeld => ?_)
    clear hK K
    (try simp only [Act.put, List.setIfInBounds_toArray, List.set_cons_zero, List.set_cons_succ])
    refine wpAnyH_take (i := 12) (v := (.bool !sB)) (op_at rfl) (by kernel_rfl) (by kernel_rfl) (by kernel_rfl) (fun _ _ _ h => h) (Or.inl ⟨rfl, fun w hSw => ?_⟩) (by assumption) ?_
    · (try dsimp only at hSw); go_simp; try with_reducible rfl
    (try simp only [Act.put, List.setIfInBounds_toArray, List.set_cons_zero, List.set_cons_succ])
    refine wpAnyH_take (i := 13) (v := (.bool !sB)) (op_at rfl) (by kernel_rfl) (by kernel_rfl) (by kernel_rfl) (fun _ _ _ h => h) (Or.inl ⟨rfl, fun w hSw => ?_⟩) (by assumption) ?_
    · (try dsimp only at hSw); go_simp; try with_reducible rfl
    (try simp only [Act.put, List.setIfInBounds_toArray, List.set_cons_zero, List.set_cons_succ])
    refine wpAnyH_ready (rs := [14]) (by kernel_rfl) (by simp) (AllReadyH.cons (op_at rfl) (fun K hK => ?_) AllReadyH.nil)
    go_simp
    (refine (H3.out _).mono ?_; rintro e w' ⟨rfl, rfl⟩)
    go_wp2_with fail
    refine hK.out _ _ ⟨a0, a1, a2, s0, s1, s2, s3, m0⟩ (fun hHeld => ?_)
    clear hK K
    (try simp only [Act.put, List.setIfInBounds_toArray, List.set_cons_zero, List.set_cons_succ])
    refine wpAnyH_ready (rs := [17]) (by kernel_rfl) (by simp) (AllReadyH.cons (op_at rfl) (fun K hK => ?_) AllReadyH.nil)
    go_simp
    (refine (H6.out _ g).mono ?_; rintro e W4 ⟨rfl, hg⟩; replace a0 := hg.cell a0; replace a1 := hg.cell a1; replace a2 := hg.cell a2; replace s0 := hg.cell s0; replace s1 := hg.cell s1; replace s2 := hg.cell s2; replace s3 := hg.cell s3; replace m0 := hg.cell m0; replace g := g.trans hg; clear hg)
    go_wp2_with fail
    refine hK.out _ _ ⟨a0, a1, a2, s0, s1, s2, s3, m0⟩ (fun hHeld => ?_)
    clear hK K
    (try simp only [Act.put, List.setIfInBounds_toArray, List.set_cons_zero, List.set_cons_succ])
    refine wpAnyH_take (i := 18) (v := (.bool !fB)) (op_at rfl) (by kernel_rfl) (by kernel_rfl) (by kernel_rfl) (fun _ _ _ h => h) (Or.inl ⟨rfl, fun w hSw => ?_⟩) (by assumption) ?_
    · (try dsimp only at hSw); go_simp; try with_reducible rfl
    (try simp only [Act.put, List.setIfInBounds_toArray, List.set_cons_zero, List.set_cons_succ])
    refine wpAnyH_ready (rs := [19]) (by kernel_rfl) (by simp) (AllReadyH.cons (op_at rfl) (fun K hK => ?_) AllReadyH.nil)
    go_simp
    (refine (H4.out _).mono ?_; rintro e w' ⟨rfl, rfl⟩)
    go_wp2_with fail
    refine hK.out _ _ ⟨a0, a1, a2, s0, s1, s2, s3, m0⟩ (fun hHeld => ?_)
    clear hK K
    (try simp only [Act.put, List.setIfInBounds_toArray, List.set_cons_zero, List.set_cons_succ])
    refine wpAnyH_ready (rs := [22]) (by kernel_rfl) (by simp) (AllReadyH.cons (op_at rfl) (fun K hK => ?_) AllReadyH.nil)
    go_simp
    (refine (H5.out _ g).mono ?_; rintro e w' ⟨rfl, rfl⟩)
    go_wp2_with fail
    refine hK.out _ _ ⟨a0, a1, a2, s0, s1, s2, s3, m0⟩ (fun hHeld => ?_)
    clear hK K
    (try simp only [Act.put, List.setIfInBounds_toArray, List.set_cons_zero, List.set_cons_succ])
    refine wpAnyH_ready (rs := [23]) (by kernel_rfl) (by simp) (AllReadyH.cons (op_at rfl) (fun K hK => ?_) AllReadyH.nil)
    go_simp
    obtain ⟨WW, hWW, gW, q0, q1, q2, q3, q4⟩ := bx5 W4 (.int .i64 e1) (.int .i64 e2) (.int .i64 e3) (.int .i64 e4) (.int .i64 e5) 35
    rw [hWW]
    clear hWW
    replace a0 := gW.cell a0
    replace a1 := gW.cell a1
    replace a2 := gW.cell a2
    replace s0 := gW.cell s0
    replace s1 := gW.cell s1
    replace s2 := gW.cell s2
    replace s3 := gW.cell s3
    replace m0 := gW.cell m0
    replace g := g.trans gW
    refine hK.out _ _ ⟨a0, a1, a2, s0, s1, s2, s3, m0⟩ (fun hHeld => ?_)
    clear hK K
    (try simp only [Act.put, List.setIfInBounds_toArray, List.set_cons_zero, List.set_cons_succ])
    refine wpAnyH_ready (rs := [24]) (by kernel_rfl) (by simp) (AllReadyH.cons (op_at rfl) (fun K hK => ?_) AllReadyH.nil)
    go_simp
    (refine (HF.out _ _ WW q0 q1 q2 q3 q4).mono ?_; rintro e w8 ⟨rfl, rfl⟩)
    go_wp2_with fail
    refine hK.out _ _ ⟨a0, a1, a2, s0, s1, s2, s3, m0⟩ (fun hHeld => ?_)
    clear hK K
    (try simp only [Act.put, List.setIfInBounds_toArray, List.set_cons_zero, List.set_cons_succ])
    refine wpAnyH_take (i := 25) (v := (.int .i64 err)) (op_at rfl) (by kernel_rfl) (by kernel_rfl) (by kernel_rfl) (fun _ _ _ h => h) (Or.inl ⟨rfl, fun w hSw => ?_⟩) (by assumption) ?_
    · (try dsimp only at hSw); go_simp; try with_reducible rfl
    (try simp only [Act.put, List.setIfInBounds_toArray, List.set_cons_zero, List.set_cons_succ])
    refine wpAnyH_done (by kernel_rfl) ?_ _
    go_wp2_with fail
    go_ret
    exact ⟨rfl, HG2.out.trans g, HM2.out.gr g, m0, ⟨s0, s1, s2, s3⟩⟩
  · have he2 : x.st.toList = [] := by simpa using he
    rw [he] at H3
    have hsb : (!true && gradeZ x.st.toList == -1) = false := by simp
    rw [hsb] at H3
    clear HSt
    go_enter Tryz.func41, Tryz.ntmps41
    go_wp2_with fail
    rw [HV.out]
    clear HV hlook hput c0 c1 c2 mw
    generalize W.heap.size = Bx at *
    have gd := (Gr.refl V).drew
    replace a0 := gd.cell a0
    replace a1 := gd.cell a1
    replace a2 := gd.cell a2
    replace s0 := gd.cell s0
    replace s1 := gd.cell s1
    replace s2 := gd.cell s2
    replace s3 := gd.cell s3
    replace m0 := gd.cell m0
    have g := gd
    clear gd
    refine wp_region_held_drew (S := (fun w' => w'.cell? ⟨Bx, 0, none⟩ = some (.string x.nm) ∧ w'.cell? ⟨Bx, 1, none⟩ = some (.string x.st) ∧ w'.cell? ⟨Bx, 2, none⟩ = some (.slice pu xn cu) ∧ w'.cell? ⟨L, 0, none⟩ = some (.string ro) ∧ w'.cell? ⟨L, 1, none⟩ = some (.int .i64 va) ∧ w'.cell? ⟨L, 2, none⟩ = some (.string st) ∧ w'.cell? ⟨L, 3, none⟩ = some vs ∧ w'.cell? ⟨M, 0, none⟩ = some (.map (some mg)))) (by kernel_rfl) ⟨a0, a1, a2, s0, s1, s2, s3, m0⟩ (fun hHeld => ?_)
    generalize V.drew = V2 at *
    refine wpAnyH_take (i := 0) (v := (.pointer (some ⟨Bx, 0, none⟩))) (op_at rfl) (by kernel_rfl) (by kernel_rfl) (by kernel_rfl) (fun _ _ _ h => h) (Or.inl ⟨rfl, fun w hSw => ?_⟩) (by assumption) ?_
    · (try dsimp only at hSw); go_simp; try with_reducible rfl
    (try simp only [Act.put, List.setIfInBounds_toArray, List.set_cons_zero, List.set_cons_succ])
    refine wpAnyH_take (i := 1) (v := (.string x.nm)) (op_at rfl) (by kernel_rfl) (by kernel_rfl) (by kernel_rfl) (fun _ _ _ h => h) (Or.inl ⟨rfl, fun w hSw => ?_⟩) (by assumption) ?_
    · (try dsimp only at hSw); go_simp; try with_reducible rfl
    (try simp only [Act.put, List.setIfInBounds_toArray, List.set_cons_zero, List.set_cons_succ])
    refine wpAnyH_take (i := 3) (v := (.bool dB)) (op_at rfl) (by kernel_rfl) (by kernel_rfl) (by kernel_rfl) (fun _ _ _ h => h) (Or.inl ⟨rfl, fun w hSw => ?_⟩) (by assumption) ?_
    · (try dsimp only at hSw); go_simp; try with_reducible rfl
    (try simp only [Act.put, List.setIfInBounds_toArray, List.set_cons_zero, List.set_cons_succ])
    refine wpAnyH_take (i := 5) (v := (.pointer (some ⟨Bx, 1, none⟩))) (op_at rfl) (by kernel_rfl) (by kernel_rfl) (by kernel_rfl) (fun _ _ _ h => h) (Or.inl ⟨rfl, fun w hSw => ?_⟩) (by assumption) ?_
    · (try dsimp only at hSw); go_simp; try with_reducible rfl
    (try simp only [Act.put, List.setIfInBounds_toArray, List.set_cons_zero, List.set_cons_succ])
    refine wpAnyH_take (i := 6) (v := (.string x.st)) (op_at rfl) (by kernel_rfl) (by kernel_rfl) (by kernel_rfl) (fun _ _ _ h => h) (Or.inl ⟨rfl, fun w hSw => ?_⟩) (by assumption) ?_
    · (try dsimp only at hSw); go_simp; try with_reducible rfl
    (try simp only [Act.put, List.setIfInBounds_toArray, List.set_cons_zero, List.set_cons_succ])
    refine wpAnyH_take (i := 7) (v := (.bool false)) (op_at rfl) (by kernel_rfl) (by kernel_rfl) (by kernel_rfl) (fun _ _ _ h => h) (Or.inl ⟨rfl, fun w hSw => ?_⟩) (by assumption) ?_
    · (try dsimp only at hSw); go_simp; try with_reducible rfl
    (try simp only [Act.put, List.setIfInBounds_toArray, List.set_cons_zero, List.set_cons_succ])
    refine wpAnyH_take (i := 15) (v := (.agg #[.string ro, .int .i64 va, .string st, vs])) (op_at rfl) (by kernel_rfl) (by kernel_rfl) (by kernel_rfl) (fun _ _ _ h => h) (Or.inl ⟨rfl, fun w hSw => ?_⟩) (by assumption) ?_
    · (try dsimp only at hSw); go_simp; try with_reducible rfl
    (try simp only [Act.put, List.setIfInBounds_toArray, List.set_cons_zero, List.set_cons_succ])
    refine wpAnyH_take (i := 16) (v := (.agg #[.string x.nm, .string x.st, .slice pu xn cu])) (op_at rfl) (by kernel_rfl) (by kernel_rfl) (by kernel_rfl) (fun _ _ _ h => h) (Or.inl ⟨rfl, fun w hSw => ?_⟩) (by assumption) ?_
    · (try dsimp only at hSw); go_simp; try with_reducible rfl
    (try simp only [Act.put, List.setIfInBounds_toArray, List.set_cons_zero, List.set_cons_succ])
    refine wpAnyH_take (i := 20) (v := (.pointer (some ⟨Bx, 2, none⟩))) (op_at rfl) (by kernel_rfl) (by kernel_rfl) (by kernel_rfl) (fun _ _ _ h => h) (Or.inl ⟨rfl, fun w hSw => ?_⟩) (by assumption) ?_
    · (try dsimp only at hSw); go_simp; try with_reducible rfl
    (try simp only [Act.put, List.setIfInBounds_toArray, List.set_cons_zero, List.set_cons_succ])
    refine wpAnyH_take (i := 21) (v := (.slice pu xn cu)) (op_at rfl) (by kernel_rfl) (by kernel_rfl) (by kernel_rfl) (fun _ _ _ h => h) (Or.inl ⟨rfl, fun w hSw => ?_⟩) (by assumption) ?_
    · (try dsimp only at hSw); go_simp; try with_reducible rfl
    (try simp only [Act.put, List.setIfInBounds_toArray, List.set_cons_zero, List.set_cons_succ])
    refine wpAnyH_ready (rs := [2]) (by kernel_rfl) (by simp) (AllReadyH.cons (op_at rfl) (fun K hK => ?_) AllReadyH.nil)
    go_simp
    (refine (H1.out _ g).mono ?_; rintro e W2 ⟨rfl, hg⟩; replace a0 := hg.cell a0; replace a1 := hg.cell a1; replace a2 := hg.cell a2; replace s0 := hg.cell s0; replace s1 := hg.cell s1; replace s2 := hg.cell s2; replace s3 := hg.cell s3; replace m0 := hg.cell m0; replace g := g.trans hg; clear hg)
    go_wp2_with fail
    refine hK.out _ _ ⟨a0, a1, a2, s0, s1, s2, s3, m0⟩ (fun hHeld => ?_)
    clear hK K
    (try simp only [Act.put, List.setIfInBounds_toArray, List.set_cons_zero, List.set_cons_succ])
    refine wpAnyH_ready (rs := [4]) (by kernel_rfl) (by simp) (AllReadyH.cons (op_at rfl) (fun K hK => ?_) AllReadyH.nil)
    go_simp
    (refine (H2.out _).mono ?_; rintro e w' ⟨rfl, rfl⟩)
    go_wp2_with fail
    refine hK.out _ _ ⟨a0, a1, a2, s0, s1, s2, s3, m0⟩ (fun hHeld => ?_)
    clear hK K
    (try simp only [Act.put, List.setIfInBounds_toArray, List.set_cons_zero, List.set_cons_succ])
    refine wpAnyH_take (i := 8) (v := (.bool false)) (op_at rfl) (by kernel_rfl) (by kernel_rfl) (by kernel_rfl) (fun _ _ _ h => h) (Or.inl ⟨rfl, fun w hSw => ?_⟩) (by assumption) ?_
    · (try dsimp only at hSw); go_simp; try with_reducible rfl
    (try simp only [Act.put, List.setIfInBounds_toArray, List.set_cons_zero, List.set_cons_succ])
    refine wpAnyH_take (i := 9) (v := undef) (op_at rfl) (by kernel_rfl) (by kernel_rfl) (by kernel_rfl) (fun _ _ _ h => h) (Or.inr ⟨rfl, rfl⟩) (by assumption) ?_
    (try simp only [Act.put, List.setIfInBounds_toArray, List.set_cons_zero, List.set_cons_succ])
    refine wpAnyH_take (i := 10) (v := undef) (op_at rfl) (by kernel_rfl) (by kernel_rfl) (by kernel_rfl) (fun _ _ _ h => h) (Or.inr ⟨rfl, rfl⟩) (by assumption) ?_
    (try simp only [Act.put, List.setIfInBounds_toArray, List.set_cons_zero, List.set_cons_succ])
    refine wpAnyH_take (i := 11) (v := undef) (op_at rfl) (by kernel_rfl) (by kernel_rfl) (by kernel_rfl) (fun _ _ _ h => h) (Or.inr ⟨rfl, rfl⟩) (by assumption) ?_
    (try simp only [Act.put, List.setIfInBounds_toArray, List.set_cons_zero, List.set_cons_succ])
    refine wpAnyH_take (i := 12) (v := undef) (op_at rfl) (by kernel_rfl) (by kernel_rfl) (by kernel_rfl) (fun _ _ _ h => h) (Or.inr ⟨rfl, rfl⟩) (by assumption) ?_
    (try simp only [Act.put, List.setIfInBounds_toArray, List.set_cons_zero, List.set_cons_succ])
    refine wpAnyH_take (i := 13) (v := (.bool false)) (op_at rfl) (by kernel_rfl) (by kernel_rfl) (by kernel_rfl) (fun _ _ _ h => h) (Or.inl ⟨rfl, fun w hSw => ?_⟩) (by assumption) ?_
    · (try dsimp only at hSw); go_simp; try with_reducible rfl
    (try simp only [Act.put, List.setIfInBounds_toArray, List.set_cons_zero, List.set_cons_succ])
    refine wpAnyH_ready (rs := [14]) (by kernel_rfl) (by simp) (AllReadyH.cons (op_at rfl) (fun K hK => ?_) AllReadyH.nil)
    go_simp
    (refine (H3.out _).mono ?_; rintro e w' ⟨rfl, rfl⟩)
    go_wp2_with fail
    refine hK.out _ _ ⟨a0, a1, a2, s0, s1, s2, s3, m0⟩ (fun hHeld => ?_)
    clear hK K
    (try simp only [Act.put, List.setIfInBounds_toArray, List.set_cons_zero, List.set_cons_succ])
    refine wpAnyH_ready (rs := [17]) (by kernel_rfl) (by simp) (AllReadyH.cons (op_at rfl) (fun K hK => ?_) AllReadyH.nil)
    go_simp
    (refine (H6.out _ g).mono ?_; rintro e W4 ⟨rfl, hg⟩; replace a0 := hg.cell a0; replace a1 := hg.cell a1; replace a2 := hg.cell a2; replace s0 := hg.cell s0; replace s1 := hg.cell s1; replace s2 := hg.cell s2; replace s3 := hg.cell s3; replace m0 := hg.cell m0; replace g := g.trans hg; clear hg)
    go_wp2_with fail
    refine hK.out _ _ ⟨a0, a1, a2, s0, s1, s2, s3, m0⟩ (fun hHeld => ?_)
    clear hK K
    (try simp only [Act.put, List.setIfInBounds_toArray, List.set_cons_zero, List.set_cons_succ])
    refine wpAnyH_take (i := 18) (v := (.bool !fB)) (op_at rfl) (by kernel_rfl) (by kernel_rfl) (by kernel_rfl) (fun _ _ _ h => h) (Or.inl ⟨rfl, fun w hSw => ?_⟩) (by assumption) ?_
    · (try dsimp only at hSw); go_simp; try with_reducible rfl
    (try simp only [Act.put, List.setIfInBounds_toArray, List.set_cons_zero, List.set_cons_succ])
    refine wpAnyH_ready (rs := [19]) (by kernel_rfl) (by simp) (AllReadyH.cons (op_at rfl) (fun K hK => ?_) AllReadyH.nil)
    go_simp
    (refine (H4.out _).mono ?_; rintro e w' ⟨rfl, rfl⟩)
    go_wp2_with fail
    refine hK.out _ _ ⟨a0, a1, a2, s0, s1, s2, s3, m0⟩ (fun hHeld => ?_)
    clear hK K
    (try simp only [Act.put, List.setIfInBounds_toArray, List.set_cons_zero, List.set_cons_succ])
    refine wpAnyH_ready (rs := [22]) (by kernel_rfl) (by simp) (AllReadyH.cons (op_at rfl) (fun K hK => ?_) AllReadyH.nil)
    go_simp
    (refine (H5.out _ g).mono ?_; rintro e w' ⟨rfl, rfl⟩)
    go_wp2_with fail
    refine hK.out _ _ ⟨a0, a1, a2, s0, s1, s2, s3, m0⟩ (fun hHeld => ?_)
    clear hK K
    (try simp only [Act.put, List.setIfInBounds_toArray, List.set_cons_zero, List.set_cons_succ])
    refine wpAnyH_ready (rs := [23]) (by kernel_rfl) (by simp) (AllReadyH.cons (op_at rfl) (fun K hK => ?_) AllReadyH.nil)
    go_simp
    obtain ⟨WW, hWW, gW, q0, q1, q2, q3, q4⟩ := bx5 W4 (.int .i64 e1) (.int .i64 e2) (.int .i64 e3) (.int .i64 e4) (.int .i64 e5) 35
    rw [hWW]
    clear hWW
    replace a0 := gW.cell a0
    replace a1 := gW.cell a1
    replace a2 := gW.cell a2
    replace s0 := gW.cell s0
    replace s1 := gW.cell s1
    replace s2 := gW.cell s2
    replace s3 := gW.cell s3
    replace m0 := gW.cell m0
    replace g := g.trans gW
    refine hK.out _ _ ⟨a0, a1, a2, s0, s1, s2, s3, m0⟩ (fun hHeld => ?_)
    clear hK K
    (try simp only [Act.put, List.setIfInBounds_toArray, List.set_cons_zero, List.set_cons_succ])
    refine wpAnyH_ready (rs := [24]) (by kernel_rfl) (by simp) (AllReadyH.cons (op_at rfl) (fun K hK => ?_) AllReadyH.nil)
    go_simp
    (refine (HF.out _ _ WW q0 q1 q2 q3 q4).mono ?_; rintro e w8 ⟨rfl, rfl⟩)
    go_wp2_with fail
    refine hK.out _ _ ⟨a0, a1, a2, s0, s1, s2, s3, m0⟩ (fun hHeld => ?_)
    clear hK K
    (try simp only [Act.put, List.setIfInBounds_toArray, List.set_cons_zero, List.set_cons_succ])
    refine wpAnyH_take (i := 25) (v := (.int .i64 err)) (op_at rfl) (by kernel_rfl) (by kernel_rfl) (by kernel_rfl) (fun _ _ _ h => h) (Or.inl ⟨rfl, fun w hSw => ?_⟩) (by assumption) ?_
    · (try dsimp only at hSw); go_simp; try with_reducible rfl
    (try simp only [Act.put, List.setIfInBounds_toArray, List.set_cons_zero, List.set_cons_succ])
    refine wpAnyH_done (by kernel_rfl) ?_ _
    go_wp2_with fail
    go_ret
    exact ⟨rfl, HG2.out.trans g, HM2.out.gr g, m0, ⟨s0, s1, s2, s3⟩⟩
end Go.Proofs.YtjkiidkacpffnaaGreatDoor
