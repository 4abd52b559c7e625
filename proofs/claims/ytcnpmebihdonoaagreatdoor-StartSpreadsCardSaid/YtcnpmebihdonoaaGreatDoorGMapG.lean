/- A map with names for keys, and any values, that the call makes: asked, written. -/
import Derived.Test.YtcnpmebihdonoaaGreatDoorGNat
import Derived.MapKept
import Derived.Test.YtcnpmebihdonoaaGreatDoorGLsH
import Derived.Test.YtcnpmebihdonoaaGreatDoorGOpN
namespace Go.Proofs.YtcnpmebihdonoaaGreatDoor
open Go.RowKit Go.Lib
set_option linter.unusedSimpArgs false
set_option linter.unusedVariables false
/-- a key's value in a list of pairs; the pairs with a key's value set -/
def lookG {α : Type} (ks : List (ByteArray × α)) (k : ByteArray) : Option α := (ks.find? fun p => p.1.toList == k.toList).map (·.2)
def putG {α : Type} : List (ByteArray × α) → ByteArray → α → List (ByteArray × α)
  | [], k, v => [(k, v)]
  | p :: r, k, v => if p.1.toList == k.toList then (k, v) :: r else p :: putG r k v
def pairG {α : Type} (ev : α → Value) (p : ByteArray × α) : Value × Value := (.string p.1, ev p.2)
section
variable {α : Type} {ev : α → Value}
/-- the block holds these pairs -/
structure MapG (ev : α → Value) (w : World) (g : Nat) (ks : List (ByteArray × α)) : Prop where
  mk' ::
  out : ∃ es clock, w.heap[g]? = some (.map ⟨es⟩ clock) ∧ es.map (fun e : MapEntry => (e.key, e.val)) = ks.map (pairG ev)
theorem MapG.gr {w w' : World} {g : Nat} {ks : List (ByteArray × α)} (h : MapG ev w g ks) (k : Gr w w') : MapG ev w' g ks := by
  obtain ⟨⟨es, clock, h1, h2⟩⟩ := h
  exact ⟨es, clock, k.block h1, h2⟩
theorem same_strG (a b : ByteArray) : Instr.sameNow .string (.string a) (.string b) = some (b.toList == a.toList) := by
  simp only [Instr.sameNow]
  rw [beq_toListBytes, Bool.beq_comm]
theorem mapG_find {k : ByteArray} : ∀ {es : List MapEntry} {ks : List (ByteArray × α)} (i : Nat), es.map (fun e : MapEntry => (e.key, e.val)) = ks.map (pairG ev) →
    match lookG ks k with
    | some v => ∃ j, Instr.findNow .string (.string k) es i = some (some (i + j, ev v)) ∧ j < es.length ∧ ∃ e s, es[j]? = some e ∧ e.key = .string s ∧ s.toList = k.toList ∧ e.val = ev v ∧ ∀ u, (es.modify j fun e => { e with key := .string k, val := ev u }).map (fun e : MapEntry => (e.key, e.val)) = (putG ks k u).map (pairG ev)
    | none => Instr.findNow .string (.string k) es i = some none ∧ ∀ u, putG ks k u = ks ++ [(k, u)]
  | [], [], i, _ => by simp [Instr.findNow, lookG, putG]
  | [], _ :: _, _, h => by simp at h
  | _ :: _, [], _, h => by simp at h
  | e :: es, z :: ks, i, h => by
    simp only [List.map_cons, List.cons.injEq, pairG, Prod.mk.injEq] at h
    obtain ⟨⟨h1, h2⟩, h3⟩ := h
    have ih := mapG_find (k := k) (i + 1) h3
    by_cases hz : (z.1.toList == k.toList) = true
    · have hl : lookG (z :: ks) k = some z.2 := by simp [lookG, List.find?_cons, hz]
      rw [hl]
      refine ⟨0, ?_, by simp, e, z.1, rfl, h1, by simpa using hz, h2, fun u => ?_⟩
      · simp [Instr.findNow, h1, h2, same_strG, hz]
      · simp [putG, hz, pairG, h3]
    · have hz' : (z.1.toList == k.toList) = false := by simpa using hz
      have hl : lookG (z :: ks) k = lookG ks k := by simp [lookG, List.find?_cons, hz']
      rw [hl]
      cases hq : lookG ks k with
      | some v =>
        rw [hq] at ih
        obtain ⟨j, h4, h5, e2, s, h6, h7, h8, h9, h10⟩ := ih
        refine ⟨j + 1, ?_, by simp; omega, e2, s, by simpa using h6, h7, h8, h9, fun u => ?_⟩
        · rw [show i + (j + 1) = i + 1 + j by omega, ← h4]
          simp [Instr.findNow, h1, same_strG, hz']
        · have := h10 u
          simp only [putG, hz', List.modify_succ_cons, List.map_cons, this, h1, h2]
          simp [pairG]
      | none =>
        rw [hq] at ih
        refine ⟨?_, fun u => by simp [putG, hz', ih.2 u]⟩
        rw [← ih.1]
        simp [Instr.findNow, h1, same_strG, hz']
theorem uStrG : Tryz.prog.underlying 9 = some .string := by kernel_rfl
theorem run_undG {t : TypeId} {d : TypeDesc} (h : Tryz.prog.underlying t = some d) (w : World) : (underlying t).run Tryz.prog w = .ok d w := run_underlying h w
theorem checkKeyG (e : Bool) (k : Value) (w : World) : (Instr.checkKey e 10000 9 k).run Tryz.prog w = .ok () w := by
  unfold Instr.checkKey
  simp only [Sem.run_bind, run_undG uStrG, Result.andThen_ok]
  rfl
/-- one block changed -/
def putGB (w : World) (g : Nat) (ob : Obj) : World := { w with heap := w.heap.setIfInBounds g ob }
/-- asked -/
theorem mapG_look {tm tv : TypeId} {z : Value} (hu : Tryz.prog.underlying tm = some (.map 9 tv)) (hz : ∀ w, (zeroValue tv).run Tryz.prog w = .ok z w) {w : World} {g : Nat} {ks : List (ByteArray × α)} (h : MapG ev w g ks) (k : ByteArray) : (Instr.lookup tm (.map (some g)) (.string k) false).run Tryz.prog w = .ok (((lookG ks k).map ev).getD z) w := by
  obtain ⟨⟨es, clock, h1, h2⟩⟩ := h
  have hg : (getObj g).run Tryz.prog w = .ok (.map ⟨es⟩ clock) w := by simp [getObj, Sem.run, h1]
  have hf := mapG_find (k := k) 0 h2
  unfold Instr.lookup
  cases hk : lookG ks k with
  | some v =>
    rw [hk] at hf
    obtain ⟨j, h3, _⟩ := hf
    have hfk := Go.MapKept.run_findKey (P := Tryz.prog) (w := w) uStrG h3
    simp only [Sem.run_bind, run_undG hu, Result.andThen_ok, Sem.run_pure, hg, checkKeyG, hfk]
    simp
  | none =>
    rw [hk] at hf
    have hfk := Go.MapKept.run_findKey (P := Tryz.prog) (w := w) uStrG hf.1
    simp only [Sem.run_bind, run_undG hu, Result.andThen_ok, Sem.run_pure, hg, checkKeyG, hfk]
    simp [hz]
/-- asked, with whether it is there -/
theorem mapG_look2 {tm tv : TypeId} {z : Value} (hu : Tryz.prog.underlying tm = some (.map 9 tv)) (hz : ∀ w, (zeroValue tv).run Tryz.prog w = .ok z w) {w : World} {g : Nat} {ks : List (ByteArray × α)} (h : MapG ev w g ks) (k : ByteArray) : (Instr.lookup tm (.map (some g)) (.string k) true).run Tryz.prog w = .ok (.tuple #[((lookG ks k).map ev).getD z, .bool (lookG ks k).isSome]) w := by
  obtain ⟨⟨es, clock, h1, h2⟩⟩ := h
  have hg : (getObj g).run Tryz.prog w = .ok (.map ⟨es⟩ clock) w := by simp [getObj, Sem.run, h1]
  have hf := mapG_find (k := k) 0 h2
  unfold Instr.lookup
  cases hk : lookG ks k with
  | some v =>
    rw [hk] at hf
    obtain ⟨j, h3, _⟩ := hf
    have hfk := Go.MapKept.run_findKey (P := Tryz.prog) (w := w) uStrG h3
    simp only [Sem.run_bind, run_undG hu, Result.andThen_ok, Sem.run_pure, hg, checkKeyG, hfk]
    simp
  | none =>
    rw [hk] at hf
    have hfk := Go.MapKept.run_findKey (P := Tryz.prog) (w := w) uStrG hf.1
    simp only [Sem.run_bind, run_undG hu, Result.andThen_ok, Sem.run_pure, hg, checkKeyG, hfk]
    simp [hz]
/-- written -/
theorem mapG_put {tm tv : TypeId} (hu : Tryz.prog.underlying tm = some (.map 9 tv)) {w : World} {g : Nat} {ks : List (ByteArray × α)} (h : MapG ev w g ks) (k : ByteArray) (u : α) : ∃ ob, (Instr.mapUpdate tm (.map (some g)) (.string k) (ev u)).run Tryz.prog w = .ok () (putGB w g ob) ∧ MapG ev (putGB w g ob) g (putG ks k u) := by
  obtain ⟨⟨es, clock, h1, h2⟩⟩ := h
  have hg : (getObj g).run Tryz.prog w = .ok (.map ⟨es⟩ clock) w := by simp [getObj, Sem.run, h1]
  have hset : ∀ ob, (setObj g ob).run Tryz.prog w = .ok () (putGB w g ob) := fun ob => by simp [setObj, Sem.run, h1, putGB]
  have hlt := (Array.getElem?_eq_some_iff.1 h1).1
  have hput : ∀ ob, (putGB w g ob).heap[g]? = some ob := fun ob => by simp [putGB, hlt]
  have hf := mapG_find (k := k) 0 h2
  cases hk : lookG ks k with
  | some v =>
    rw [hk] at hf
    obtain ⟨j, h3, h4, e, s, h5, h6, h7, h8, h9⟩ := hf
    rw [Nat.zero_add] at h3
    have hfk := Go.MapKept.run_findKey (P := Tryz.prog) (w := w) uStrG h3
    have hsk : s = k := by
      rw [ByteArray.toList_eq, ByteArray.toList_eq] at h7
      exact ByteArray.ext (Array.toList_inj.1 h7)
    subst hsk
    have hss : (s == s) = true := by rw [beq_toListBytes]; simp
    refine ⟨.map ⟨es.modify j fun e => { e with key := .string s, val := ev u }⟩ clock, ?_, ?_⟩
    · simp [Instr.mapUpdate, run_undG hu, hg, checkKeyG, hfk, hset, h5, h6, Instr.keyThatStays, Instr.sameBits, hss]
    · exact ⟨_, _, hput _, h9 u⟩
  | none =>
    rw [hk] at hf
    have hfk := Go.MapKept.run_findKey (P := Tryz.prog) (w := w) uStrG hf.1
    refine ⟨.map ⟨es ++ [⟨.string k, ev u, clock⟩]⟩ (clock + 1), ?_, ?_⟩
    · simp [Instr.mapUpdate, run_undG hu, hg, checkKeyG, hfk, hset]
    · exact ⟨_, _, hput _, by rw [hf.2 u]; simp [h2, pairG]⟩
theorem mapG_new (w : World) : MapG ev (w.alloc (.map #[] 0)) w.heap.size [] := ⟨[], 0, heap_alloc_new _ _, rfl⟩
theorem gr_putG {w0 w : World} {g : Nat} {ob : Obj} (h : Gr w0 w) (hg : w0.heap.size ≤ g) : Gr w0 (putGB w g ob) := by
  have hsz : (putGB w g ob).heap.size = w.heap.size := by simp [putGB]
  refine ⟨h.os, h.tape, h.output, by rw [hsz]; exact h.size, fun k hk => ?_⟩
  have hne : ¬ g = k := by omega
  rw [← Below.block h k hk]
  simp [putGB, hne]
end
end Go.Proofs.YtcnpmebihdonoaaGreatDoor
namespace Go.Proofs.YtcnpmebihdonoaaGreatDoor
open Go.RowKit Go.Lib
set_option linter.unusedSimpArgs false
set_option linter.unusedVariables false
/-- a number of a team, as the map holds it -/
def evT (j : Nat) : Value := .int .i64 (j : Int)
/-- the map, the row of rows, and each row -/
structure Tms (w : World) (base mg : Nat) (v : Value) (vs : List Value) (ks : List (ByteArray × Nat)) (L : List (List Nat)) : Prop where
  map : MapG evT w mg ks
  mlo : base ≤ mg
  own : w.ownsRow base 23 1 v vs.length vs
  len : vs.length = L.length
  row : ∀ (i : Nat) (u : Value) (l : List Nat), vs[i]? = some u → L[i]? = some l → w.ownsRow base 3 1 u l.length (nats l)
  apart : ∀ (i j : Nat) (u u' : Value) (g : Nat), vs[i]? = some u → vs[j]? = some u' → u.ownBlock = some g → u'.ownBlock = some g → i = j
  ng : ∀ (i : Nat) (u : Value) (g : Nat), vs[i]? = some u → u.ownBlock = some g → v.ownBlock ≠ some g
theorem MapG.same {α : Type} {ev : α → Value} {w w' : World} {g : Nat} {ks : List (ByteArray × α)} (h : MapG ev w g ks) (k : w'.heap[g]? = w.heap[g]?) : MapG ev w' g ks := by
  obtain ⟨⟨es, clock, h1, h2⟩⟩ := h
  exact ⟨es, clock, k.trans h1, h2⟩
theorem own_not_map {α : Type} {ev : α → Value} {w : World} {g : Nat} {ks : List (ByteArray × α)} (h : MapG ev w g ks) {b s n : Nat} {T : TypeId} {v : Value} {l : List Value} (ho : w.ownsRow b T s v n l) : v.ownBlock ≠ some g := by
  intro e
  obtain ⟨⟨es, clock, h1, h2⟩⟩ := h
  rcases ho.2 with ⟨rfl, _⟩ | ⟨g', cap, cur, rfl, hb, hgg, _⟩
  · cases e
  · cases e
    rw [h1] at hgg
    cases hgg
theorem MapG.lt {α : Type} {ev : α → Value} {w : World} {g : Nat} {ks : List (ByteArray × α)} (h : MapG ev w g ks) : g < w.heap.size := by
  obtain ⟨⟨es, clock, h1, h2⟩⟩ := h
  exact (Array.getElem?_eq_some_iff.1 h1).1
theorem putG_other (w : World) (g k : Nat) (ob : Obj) (h : k ≠ g) : (putGB w g ob).heap[k]? = w.heap[k]? := by
  have : ¬ g = k := fun e => h e.symm
  simp [putGB, this]
theorem Tms.gr {w w' : World} {base mg : Nat} {v : Value} {vs : List Value} {ks : List (ByteArray × Nat)} {L : List (List Nat)} (h : Tms w base mg v vs ks L) (k : Gr w w') : Tms w' base mg v vs ks L :=
  ⟨h.map.gr k, h.mlo, own_kept h.own k, h.len, fun i u l hu hl => own_kept (h.row i u l hu hl) k, h.apart, h.ng⟩
theorem Tms.put {w : World} {base mg : Nat} {v : Value} {vs : List Value} {ks ks' : List (ByteArray × Nat)} {L : List (List Nat)} (h : Tms w base mg v vs ks L) {ob : Obj} (hm : MapG evT (putGB w mg ob) mg ks') : Tms (putGB w mg ob) base mg v vs ks' L :=
  ⟨hm, h.mlo, own_same h.own fun g e => putG_other w mg g ob (fun q => own_not_map h.map h.own (by rw [e, q])), h.len,
    fun i u l hu hl => own_same (h.row i u l hu hl) fun g e => putG_other w mg g ob (fun q => own_not_map h.map (h.row i u l hu hl) (by rw [e, q])), h.apart, h.ng⟩
theorem Tms.at_ {w : World} {base mg : Nat} {v : Value} {vs : List Value} {ks : List (ByteArray × Nat)} {L : List (List Nat)} (h : Tms w base mg v vs ks L) {i : Nat} {u : Value} (hu : vs[i]? = some u) : ∃ l, L[i]? = some l :=
  ⟨L[i]'(by rw [← h.len]; exact (List.getElem?_eq_some_iff.1 hu).1), List.getElem?_eq_getElem _⟩
/-- one more team, without anybody -/
theorem Tms.more {w w' : World} {base mg : Nat} {v v' : Value} {vs : List Value} {ks : List (ByteArray × Nat)} {L : List (List Nat)} (h : Tms w base mg v vs ks L) (hown : w'.ownsRow base 23 1 v' (vs.length + 1) (vs ++ [.slice none 0 0])) (hg : w.grownBy w' v.ownBlock) (hat : v'.ownBlock = v.ownBlock ∨ v'.ownBlock = some w.heap.size) :
    Tms w' base mg v' (vs ++ [.slice none 0 0]) ks (L ++ [[]]) := by
  have hnew : ∀ (i : Nat) (u : Value), (vs ++ [Value.slice none 0 0])[i]? = some u → vs[i]? = some u ∨ i = vs.length ∧ u = .slice none 0 0 := fun i u hu => by
    rcases Nat.lt_or_ge i vs.length with h1 | h1
    · rw [List.getElem?_append_left h1] at hu; exact .inl hu
    · rw [List.getElem?_append_right h1] at hu
      have h2 := (List.getElem?_eq_some_iff.1 hu).1
      simp at h2
      have h3 : i - vs.length = 0 := by omega
      rw [h3] at hu
      simp at hu
      exact .inr ⟨by omega, hu.symm⟩
  refine ⟨h.map.same (hg.block mg h.map.lt (fun e => own_not_map h.map h.own e.symm)), h.mlo, by rw [List.length_append]; exact hown, by simp [h.len], fun i u l hu hl => ?_, fun i j u u' g hu hu' hug hug' => ?_, fun i u g hu hug => ?_⟩
  · rcases hnew i u hu with h1 | ⟨rfl, rfl⟩
    · have hi := (List.getElem?_eq_some_iff.1 h1).1
      rw [List.getElem?_append_left (by rw [← h.len]; exact hi)] at hl
      refine own_same (h.row i u l h1 hl) fun g e => ?_
      exact hg.block g (own_in (h.row i u l h1 hl) e).1 (fun q => h.ng i u g h1 e q.symm)
    · rw [h.len, List.getElem?_append_right (Nat.le_refl _)] at hl
      simp at hl
      subst hl
      exact World.ownsRow_nil _ _ _ _
  · rcases hnew i u hu with h1 | ⟨rfl, rfl⟩
    · rcases hnew j u' hu' with h2 | ⟨rfl, rfl⟩
      · exact h.apart i j u u' g h1 h2 hug hug'
      · cases hug'
    · cases hug
  · rcases hnew i u hu with h1 | ⟨rfl, rfl⟩
    · rcases hat with e | e
      · rw [e]; exact h.ng i u g h1 hug
      · rw [e]
        intro q
        cases q
        obtain ⟨l, hl⟩ := h.at_ h1
        have := (own_in (h.row i u l h1 hl) hug).1
        omega
    · cases hug
/-- one more of a team -/
theorem Tms.grow {w w' : World} {base mg G n cap : Nat} {vs : List Value} {ks : List (ByteArray × Nat)} {L : List (List Nat)} (h : Tms w base mg (.slice (some ⟨G, 0, none⟩) n cap) vs ks L) {i : Nat} {u u' : Value} {l : List Nat} (hu : vs[i]? = some u) (hl : L[i]? = some l) (hg : w.grownBy w' u.ownBlock) (l' : List Nat)
    (hown : w'.ownsRow base 3 1 u' l'.length (nats l')) (hat : u'.ownBlock = u.ownBlock ∨ u'.ownBlock = some w.heap.size) :
    Tms (w'.setCell ⟨G, i, none⟩ u') base mg (.slice (some ⟨G, 0, none⟩) n cap) (vs.set i u') ks (L.set i l') ∧ w'.cell? ⟨G, i, none⟩ = some u ∧ w'.frozen? ⟨G, i, none⟩ = false := by
  have hG := (own_in h.own (g := G) rfl).1
  have hnG : u.ownBlock ≠ some G := fun e => h.ng i u G hu e rfl
  have hnG' : u'.ownBlock ≠ some G := by
    rcases hat with e | e
    · rw [e]; exact hnG
    · rw [e]; intro q; cases q; omega
  have hb : w'.heap[G]? = w.heap[G]? := hg.block G hG (fun e => hnG e.symm)
  have hown1 : w'.ownsRow base 23 1 (.slice (some ⟨G, 0, none⟩) n cap) vs.length vs := own_same h.own fun g e => by cases e; exact hb
  have hn : n = vs.length := by
    rcases h.own.2 with ⟨e, _⟩ | ⟨g', cap', cur, e, _⟩
    · cases e
    · simp only [Value.slice.injEq] at e; exact e.2.1
  subst hn
  have hset := hown1.stored i u'
  have hlt := (List.getElem?_eq_some_iff.1 hu).1
  have hmG : mg ≠ G := fun e => own_not_map h.map h.own (by rw [e]; rfl)
  have hother : ∀ (j : Nat) (x : Value) (l2 : List Nat), j ≠ i → vs[j]? = some x → L[j]? = some l2 → ∀ g, x.ownBlock = some g → (w'.setCell ⟨G, i, none⟩ u').heap[g]? = w.heap[g]? := fun j x l2 hj hx hl2 g hxg => by
    rw [heap_setCell_other _ _ _ _ (show g ≠ G from fun r => h.ng j x g hx hxg (by rw [r]; rfl))]
    exact hg.block g (own_in (h.row j x l2 hx hl2) hxg).1 (fun r => hj (h.apart j i x u g hx hu hxg r.symm))
  have hfresh : ∀ (j : Nat) (x : Value) (g : Nat), j ≠ i → vs[j]? = some x → x.ownBlock = some g → u'.ownBlock ≠ some g := fun j x g hj hx hxg => by
    rcases hat with e | e
    · rw [e]; intro q; exact hj (h.apart j i x u g hx hu hxg q)
    · rw [e]; intro q; cases q
      obtain ⟨l2, hl2⟩ := h.at_ hx
      have := (own_in (h.row j x l2 hx hl2) hxg).1
      omega
  refine ⟨⟨?_, h.mlo, ?_, by simp [h.len], fun j x l2 hx hl2 => ?_, fun j k x x' g hx hx' hxg hxg' => ?_, fun j x g hx hxg => ?_⟩, ?_, hown1.frozenAt i⟩
  · refine h.map.same ?_
    rw [heap_setCell_other _ _ _ _ hmG]
    exact hg.block mg h.map.lt (fun e => own_not_map h.map (h.row i u l hu hl) e.symm)
  · rw [List.length_set]; exact hset.1
  · by_cases e : j = i
    · subst e
      rw [List.getElem?_set_self hlt] at hx
      rw [List.getElem?_set_self (List.getElem?_eq_some_iff.1 hl).1] at hl2
      cases hx
      cases hl2
      exact own_same hown fun g q => heap_setCell_other _ _ _ _ (fun r => hnG' (by rw [q]; exact congrArg some r))
    · rw [List.getElem?_set_ne (Ne.symm e)] at hx hl2
      exact own_same (h.row j x l2 hx hl2) (hother j x l2 e hx hl2)
  · by_cases e : j = i
    · by_cases e' : k = i
      · rw [e, e']
      · subst e
        rw [List.getElem?_set_self hlt] at hx
        rw [List.getElem?_set_ne (Ne.symm e')] at hx'
        cases hx
        exact absurd hxg (hfresh k x' g e' hx' hxg')
    · rw [List.getElem?_set_ne (Ne.symm e)] at hx
      by_cases e' : k = i
      · subst e'
        rw [List.getElem?_set_self hlt] at hx'
        cases hx'
        exact absurd hxg' (hfresh j x g e hx hxg)
      · rw [List.getElem?_set_ne (Ne.symm e')] at hx'
        exact h.apart j k x x' g hx hx' hxg hxg'
  · by_cases e : j = i
    · subst e
      rw [List.getElem?_set_self hlt] at hx
      cases hx
      intro q
      cases q
      exact hnG' hxg
    · rw [List.getElem?_set_ne (Ne.symm e)] at hx
      exact h.ng j x g hx hxg
  · have := hown1.cellAt i (by omega)
    rw [this, hu]
end Go.Proofs.YtcnpmebihdonoaaGreatDoor
namespace Go.Proofs.YtcnpmebihdonoaaGreatDoor
open Go.RowKit Go.Lib
set_option linter.unusedSimpArgs false
set_option linter.unusedVariables false
set_option maxHeartbeats 1000000 in
set_option maxRecDepth 100000 in
theorem indexZ_c (zs : List Int) (n : Nat) (p : Option Addr) (cap : Nat) (x : Int) (w : World) (hn : n ≤ zs.length) (h1 : n ≤ 1000)
    (hd : 0 < n → ∃ b off, p = some ⟨b, off, none⟩ ∧ ∀ (i : Nat) (z : Int), zs[i]? = some z → w.cell? ⟨b, off + i, none⟩ = some (.int .i64 z)) :
    Calls Tryz.prog 56 #[.slice p n cap, .int .i64 x] w fun e w' => e = .returned (.int .i64 (idxQ (fun z => x == z) zs n 0)) ∧ w = w' := by
  have HD := Lib.hid hd
  have HN := Lib.hid hn
  have HE : Hid (idxQ (fun z => x == z) zs n 0 = idxQ (fun z => x == z) zs (n - 0) 0) := rfl
  clear hd hn
  go_enter Tryz.func56, Tryz.ntmps56
  go_wp2_with fail
  go_loopg [8] n (fun gk s8 wr => ∃ i : Nat, s8 = .int .i64 i ∧ gk + i = n ∧ wr = w ∧ Hid (idxQ (fun z => x == z) zs (n - i) i = idxQ (fun z => x == z) zs (n - 0) 0))
  case atStart => exact ⟨0, rfl, by omega, rfl, rfl⟩
  case round =>
    obtain ⟨i, rfl, hi, rfl, HF⟩ := hrel
    by_cases hlt : i < n
    · obtain ⟨z, hz⟩ : ∃ z, zs[i]? = some z := ⟨zs[i]'(by have := HN.out; omega), List.getElem?_eq_getElem _⟩
      obtain ⟨b, off, rfl, hd⟩ := HD.out (by omega)
      have c0 := hd i z hz
      have hf := idxQ_step (Q := fun z => x == z) hz hlt
      have hi2 : (i : Int) < n := by omega
      clear hz hd
      cases e1 : (x == z)
      · simp only [e1, Bool.false_eq_true, if_false] at hf
        have HF2 := Lib.hid hf
        clear hf
        go_wp2_with fail
        go_roundg (gk - 1)
        case measure => omega
        case rel => exact ⟨i + 1, by go_num, by omega, rfl, by unfold Hid; rw [← HF2.out, HF.out]⟩
      · simp only [e1, if_true] at hf
        have HF2 := Lib.hid hf
        clear hf
        go_wp2_with fail
        go_ret
        exact ⟨by rw [HE.out, ← HF.out, HF2.out]; rfl, rfl⟩
    · have HE2 := Lib.hid (idxQ_end (Q := fun z => x == z) (xs := zs) (i := i) (n := n) (by omega))
      have hi2 : (n : Int) ≤ i := by omega
      go_wp2_with fail
      go_ret
      exact ⟨by rw [HE.out, ← HF.out, HE2.out]; rfl, rfl⟩
set_option maxHeartbeats 1000000 in
set_option maxRecDepth 100000 in
theorem containsZ_c (zs : List Int) (n : Nat) (p : Option Addr) (cap : Nat) (x : Int) (w : World) (hn : n ≤ zs.length) (h1 : n ≤ 1000)
    (hd : 0 < n → ∃ b off, p = some ⟨b, off, none⟩ ∧ ∀ (i : Nat) (z : Int), zs[i]? = some z → w.cell? ⟨b, off + i, none⟩ = some (.int .i64 z)) :
    Calls Tryz.prog 119 #[.slice p n cap, .int .i64 x] w fun e w' => e = .returned (.bool ((zs.take n).any fun z => x == z)) ∧ w = w' := by
  have HI := Lib.hid (indexZ_c zs n p cap x w hn h1 hd)
  have HE : Hid (((zs.take n).any fun z => x == z) = decide (0 ≤ idxQ (fun z => x == z) zs n 0)) := by
    unfold Hid
    rw [idxQ_any (fun z => x == z) zs n 0 (by omega), List.drop_zero]
  clear hd
  generalize idxQ (fun z => x == z) zs n 0 = z at *
  go_enter Tryz.func119, Tryz.ntmps119
  go_wp2_with fail
  refine HI.out.mono ?_
  rintro e w4 ⟨rfl, rfl⟩
  go_wp2_with fail
  go_ret
  exact ⟨by rw [HE.out]; rfl, rfl⟩
end Go.Proofs.YtcnpmebihdonoaaGreatDoor
