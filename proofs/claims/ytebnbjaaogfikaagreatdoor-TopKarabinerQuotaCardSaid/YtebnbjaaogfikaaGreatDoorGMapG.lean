/- A map with names for keys, and any values, that the call makes: asked, written. -/
import Derived.Test.YtebnbjaaogfikaaGreatDoorGNat
import Derived.MapKept
import Derived.Test.YtebnbjaaogfikaaGreatDoorGKaX
import Derived.Maps.AppendAt
namespace Go.Proofs.YtebnbjaaogfikaaGreatDoor
open Go.RowKit Go.Lib
set_option linter.unusedSimpArgs false
set_option linter.unusedVariables false
/-- a key's value in a list of pairs; the pairs with a key's value set -/
def lookG {α : Type} (ks : List (ByteArray × α)) (k : ByteArray) : Option α := (ks.find? fun p => p.1.toList == k.toList).map (·.2)
def putG {α : Type} : List (ByteArray × α) → ByteArray → α → List (ByteArray × α)
  | [], k, v => [(k, v)]
  | p :: r, k, v => if p.1.toList == k.toList then (k, v) :: r else p :: putG r k v
def pairG {α : Type} (ev : α → Value) (p : ByteArray × α) : Value × Value := (.string p.1, ev p.2)
section
variable {α : Type} {ev : α → Value}
/-- the block holds these pairs -/
structure MapG (ev : α → Value) (w : World) (g : Nat) (ks : List (ByteArray × α)) : Prop where
  mk' ::
  out : ∃ es clock, w.heap[g]? = some (.map ⟨es⟩ clock) ∧ es.map (fun e : MapEntry => (e.key, e.val)) = ks.map (pairG ev)
theorem MapG.gr {w w' : World} {g : Nat} {ks : List (ByteArray × α)} (h : MapG ev w g ks) (k : Gr w w') : MapG ev w' g ks := by
  obtain ⟨⟨es, clock, h1, h2⟩⟩ := h
  exact ⟨es, clock, k.block h1, h2⟩
theorem same_strG (a b : ByteArray) : Instr.sameNow .string (.string a) (.string b) = some (b.toList == a.toList) := by
  simp only [Instr.sameNow]
  rw [beq_toListBytes, Bool.beq_comm]
theorem mapG_find {k : ByteArray} : ∀ {es : List MapEntry} {ks : List (ByteArray × α)} (i : Nat), es.map (fun e : MapEntry => (e.key, e.val)) = ks.map (pairG ev) →
    match lookG ks k with
    | some v => ∃ j, Instr.findNow .string (.string k) es i = some (some (i + j, ev v)) ∧ j < es.length ∧ ∃ e s, es[j]? = some e ∧ e.key = .string s ∧ s.toList = k.toList ∧ e.val = ev v ∧ ∀ u, (es.modify j fun e => { e with key := .string k, val := ev u }).map (fun e : MapEntry => (e.key, e.val)) = (putG ks k u).map (pairG ev)
    | none => Instr.findNow .string (.string k) es i = some none ∧ ∀ u, putG ks k u = ks ++ [(k, u)]
  | [], [], i, _ => by simp [Instr.findNow, lookG, putG]
  | [], _ :: _, _, h => by simp at h
  | _ :: _, [], _, h => by simp at h
  | e :: es, z :: ks, i, h => by
    simp only [List.map_cons, List.cons.injEq, pairG, Prod.mk.injEq] at h
    obtain ⟨⟨h1, h2⟩, h3⟩ := h
    have ih := mapG_find (k := k) (i + 1) h3
    by_cases hz : (z.1.toList == k.toList) = true
    · have hl : lookG (z :: ks) k = some z.2 := by simp [lookG, List.find?_cons, hz]
      rw [hl]
      refine ⟨0, ?_, by simp, e, z.1, rfl, h1, by simpa using hz, h2, fun u => ?_⟩
      · simp [Instr.findNow, h1, h2, same_strG, hz]
      · simp [putG, hz, pairG, h3]
    · have hz' : (z.1.toList == k.toList) = false := by simpa using hz
      have hl : lookG (z :: ks) k = lookG ks k := by simp [lookG, List.find?_cons, hz']
      rw [hl]
      cases hq : lookG ks k with
      | some v =>
        rw [hq] at ih
        obtain ⟨j, h4, h5, e2, s, h6, h7, h8, h9, h10⟩ := ih
        refine ⟨j + 1, ?_, by simp; omega, e2, s, by simpa using h6, h7, h8, h9, fun u => ?_⟩
        · rw [show i + (j + 1) = i + 1 + j by omega, ← h4]
          simp [Instr.findNow, h1, same_strG, hz']
        · have := h10 u
          simp only [putG, hz', List.modify_succ_cons, List.map_cons, this, h1, h2]
          simp [pairG]
      | none =>
        rw [hq] at ih
        refine ⟨?_, fun u => by simp [putG, hz', ih.2 u]⟩
        rw [← ih.1]
        simp [Instr.findNow, h1, same_strG, hz']
theorem uStrG : Tryz.prog.underlying 9 = some .string := by kernel_rfl
theorem run_undG {t : TypeId} {d : TypeDesc} (h : Tryz.prog.underlying t = some d) (w : World) : (underlying t).run Tryz.prog w = .ok d w := run_underlying h w
theorem checkKeyG (e : Bool) (k : Value) (w : World) : (Instr.checkKey e 10000 9 k).run Tryz.prog w = .ok () w := by
  unfold Instr.checkKey
  simp only [Sem.run_bind, run_undG uStrG, Result.andThen_ok]
  rfl
/-- one block changed -/
def putGB (w : World) (g : Nat) (ob : Obj) : World := { w with heap := w.heap.setIfInBounds g ob }
/-- asked -/
theorem mapG_look {tm tv : TypeId} {z : Value} (hu : Tryz.prog.underlying tm = some (.map 9 tv)) (hz : ∀ w, (zeroValue tv).run Tryz.prog w = .ok z w) {w : World} {g : Nat} {ks : List (ByteArray × α)} (h : MapG ev w g ks) (k : ByteArray) : (Instr.lookup tm (.map (some g)) (.string k) false).run Tryz.prog w = .ok (((lookG ks k).map ev).getD z) w := by
  obtain ⟨⟨es, clock, h1, h2⟩⟩ := h
  have hg : (getObj g).run Tryz.prog w = .ok (.map ⟨es⟩ clock) w := by simp [getObj, Sem.run, h1]
  have hf := mapG_find (k := k) 0 h2
  unfold Instr.lookup
  cases hk : lookG ks k with
  | some v =>
    rw [hk] at hf
    obtain ⟨j, h3, _⟩ := hf
    have hfk := Go.MapKept.run_findKey (P := Tryz.prog) (w := w) uStrG h3
    simp only [Sem.run_bind, run_undG hu, Result.andThen_ok, Sem.run_pure, hg, checkKeyG, hfk]
    simp
  | none =>
    rw [hk] at hf
    have hfk := Go.MapKept.run_findKey (P := Tryz.prog) (w := w) uStrG hf.1
    simp only [Sem.run_bind, run_undG hu, Result.andThen_ok, Sem.run_pure, hg, checkKeyG, hfk]
    simp [hz]
/-- asked, with whether it is there -/
theorem mapG_look2 {tm tv : TypeId} {z : Value} (hu : Tryz.prog.underlying tm = some (.map 9 tv)) (hz : ∀ w, (zeroValue tv).run Tryz.prog w = .ok z w) {w : World} {g : Nat} {ks : List (ByteArray × α)} (h : MapG ev w g ks) (k : ByteArray) : (Instr.lookup tm (.map (some g)) (.string k) true).run Tryz.prog w = .ok (.tuple #[((lookG ks k).map ev).getD z, .bool (lookG ks k).isSome]) w := by
  obtain ⟨⟨es, clock, h1, h2⟩⟩ := h
  have hg : (getObj g).run Tryz.prog w = .ok (.map ⟨es⟩ clock) w := by simp [getObj, Sem.run, h1]
  have hf := mapG_find (k := k) 0 h2
  unfold Instr.lookup
  cases hk : lookG ks k with
  | some v =>
    rw [hk] at hf
    obtain ⟨j, h3, _⟩ := hf
    have hfk := Go.MapKept.run_findKey (P := Tryz.prog) (w := w) uStrG h3
    simp only [Sem.run_bind, run_undG hu, Result.andThen_ok, Sem.run_pure, hg, checkKeyG, hfk]
    simp
  | none =>
    rw [hk] at hf
    have hfk := Go.MapKept.run_findKey (P := Tryz.prog) (w := w) uStrG hf.1
    simp only [Sem.run_bind, run_undG hu, Result.andThen_ok, Sem.run_pure, hg, checkKeyG, hfk]
    simp [hz]
/-- written -/
theorem mapG_put {tm tv : TypeId} (hu : Tryz.prog.underlying tm = some (.map 9 tv)) {w : World} {g : Nat} {ks : List (ByteArray × α)} (h : MapG ev w g ks) (k : ByteArray) (u : α) : ∃ ob, (Instr.mapUpdate tm (.map (some g)) (.string k) (ev u)).run Tryz.prog w = .ok () (putGB w g ob) ∧ MapG ev (putGB w g ob) g (putG ks k u) := by
  obtain ⟨⟨es, clock, h1, h2⟩⟩ := h
  have hg : (getObj g).run Tryz.prog w = .ok (.map ⟨es⟩ clock) w := by simp [getObj, Sem.run, h1]
  have hset : ∀ ob, (setObj g ob).run Tryz.prog w = .ok () (putGB w g ob) := fun ob => by simp [setObj, Sem.run, h1, putGB]
  have hlt := (Array.getElem?_eq_some_iff.1 h1).1
  have hput : ∀ ob, (putGB w g ob).heap[g]? = some ob := fun ob => by simp [putGB, hlt]
  have hf := mapG_find (k := k) 0 h2
  cases hk : lookG ks k with
  | some v =>
    rw [hk] at hf
    obtain ⟨j, h3, h4, e, s, h5, h6, h7, h8, h9⟩ := hf
    rw [Nat.zero_add] at h3
    have hfk := Go.MapKept.run_findKey (P := Tryz.prog) (w := w) uStrG h3
    have hsk : s = k := by
      rw [ByteArray.toList_eq, ByteArray.toList_eq] at h7
      exact ByteArray.ext (Array.toList_inj.1 h7)
    subst hsk
    have hss : (s == s) = true := by rw [beq_toListBytes]; simp
    refine ⟨.map ⟨es.modify j fun e => { e with key := .string s, val := ev u }⟩ clock, ?_, ?_⟩
    · simp [Instr.mapUpdate, run_undG hu, hg, checkKeyG, hfk, hset, h5, h6, Instr.keyThatStays, Instr.sameBits, hss]
    · exact ⟨_, _, hput _, h9 u⟩
  | none =>
    rw [hk] at hf
    have hfk := Go.MapKept.run_findKey (P := Tryz.prog) (w := w) uStrG hf.1
    refine ⟨.map ⟨es ++ [⟨.string k, ev u, clock⟩]⟩ (clock + 1), ?_, ?_⟩
    · simp [Instr.mapUpdate, run_undG hu, hg, checkKeyG, hfk, hset]
    · exact ⟨_, _, hput _, by rw [hf.2 u]; simp [h2, pairG]⟩
theorem mapG_new (w : World) : MapG ev (w.alloc (.map #[] 0)) w.heap.size [] := ⟨[], 0, heap_alloc_new _ _, rfl⟩
theorem gr_putG {w0 w : World} {g : Nat} {ob : Obj} (h : Gr w0 w) (hg : w0.heap.size ≤ g) : Gr w0 (putGB w g ob) := by
  have hsz : (putGB w g ob).heap.size = w.heap.size := by simp [putGB]
  refine ⟨h.os, h.tape, h.output, by rw [hsz]; exact h.size, fun k hk => ?_⟩
  have hne : ¬ g = k := by omega
  rw [← Below.block h k hk]
  simp [putGB, hne]
end
end Go.Proofs.YtebnbjaaogfikaaGreatDoor
namespace Go.Proofs.YtebnbjaaogfikaaGreatDoor
open Go.RowKit Go.Lib
set_option linter.unusedSimpArgs false
set_option linter.unusedVariables false
theorem lookG_put {α : Type} (k : ByteArray) (v : α) (s : ByteArray) : ∀ ks : List (ByteArray × α), lookG (putG ks k v) s = if k.toList == s.toList then some v else lookG ks s
  | [] => by
    simp only [putG, lookG, List.find?_cons, List.find?_nil]
    cases k.toList == s.toList <;> simp
  | p :: r => by
    have ih := lookG_put k v s r
    by_cases hp : (p.1.toList == k.toList) = true
    · have e : p.1.toList = k.toList := by simpa using hp
      simp only [putG, hp, if_true]
      unfold lookG
      rw [List.find?_cons, List.find?_cons]
      simp only [e]
      cases k.toList == s.toList <;> simp
    · have hp' : (p.1.toList == k.toList) = false := by simpa using hp
      simp only [putG, hp', Bool.false_eq_true, if_false]
      unfold lookG at ih ⊢
      simp only [List.find?_cons]
      cases hq : p.1.toList == s.toList
      · simpa using ih
      · have e : p.1.toList = s.toList := by simpa using hq
        have : (k.toList == s.toList) = false := by
          rw [← e]
          simp at hp' ⊢
          exact fun h => hp' h.symm
        simp [this]
/-- a place that was given: the entry, and the rule -/
abbrev PlQ := QenR × Nat
def heldQ (P : List PlQ) (s : ByteArray) : Bool := P.any fun p => p.1.cl.toList == s.toList
def natQ (P : List PlQ) (s : ByteArray) : Nat := (P.filter fun p => p.1.na.toList == s.toList).length
def permQ (out : List ByteArray) (cap : Int) (P : List PlQ) (x : QenR) : Bool := !hasS out x.cl && (!heldQ P x.cl && decide ((natQ P x.na : Int) < cap))
def pqC (p : PlQ) : List Value := [.string p.1.cl, .int .i64 (p.2 : Int)]
def pqCs (P : List PlQ) : List Value := P.flatMap pqC
theorem pqCs_len (P : List PlQ) : (pqCs P).length = P.length * 2 := by
  induction P with
  | nil => rfl
  | cons p r ih => simp [pqCs, pqC] at *; omega
theorem pqCs_add (P : List PlQ) (p : PlQ) : pqCs (P ++ [p]) = pqCs P ++ pqC p := by simp [pqCs]
def evB (b : Bool) : Value := .bool b
def evI (n : Int) : Value := .int .i64 n
def evP (p : ByteArray × Int) : Value := .agg #[.string p.1, .int .i64 p.2]
/-- what the three maps hold -/
structure OutF (out : List ByteArray) (ks : List (ByteArray × Bool)) : Prop where
  at_ : ∀ s, lookG ks s = if hasS out s then some true else none
structure HeldF (P : List PlQ) (ks : List (ByteArray × (ByteArray × Int))) : Prop where
  no : ∀ s, heldQ P s = false → lookG ks s = none
  yes : ∀ s, heldQ P s = true → ∃ c r, lookG ks s = some (c, r) ∧ c.toList ≠ []
structure NatF (P : List PlQ) (ks : List (ByteArray × Int)) : Prop where
  at_ : ∀ s, (lookG ks s).getD 0 = (natQ P s : Int)
theorem OutF.nil : OutF [] [] := ⟨fun s => rfl⟩
theorem OutF.put {out : List ByteArray} {ks : List (ByteArray × Bool)} (h : OutF out ks) (k : ByteArray) : OutF (out ++ [k]) (putG ks k true) := ⟨fun s => by
  rw [lookG_put, h.at_ s]
  unfold hasS
  simp only [List.any_append, List.any_cons, List.any_nil, Bool.or_false]
  rw [show (s.toList == k.toList) = (k.toList == s.toList) from Bool.beq_comm]
  cases hq : k.toList == s.toList <;> simp [hq]⟩
theorem HeldF.nil : HeldF [] [] := ⟨fun s _ => rfl, fun s h => by simp [heldQ] at h⟩
theorem heldQ_add (P : List PlQ) (p : PlQ) (s : ByteArray) : heldQ (P ++ [p]) s = (heldQ P s || p.1.cl.toList == s.toList) := by simp [heldQ]
theorem HeldF.put {P : List PlQ} {ks : List (ByteArray × (ByteArray × Int))} (h : HeldF P ks) (x : QenR) (r : Nat) (hx : x.cl.toList ≠ []) : HeldF (P ++ [(x, r)]) (putG ks x.cl (x.cl, (r : Int))) := by
  refine ⟨fun s hs => ?_, fun s hs => ?_⟩
  · rw [heldQ_add] at hs
    simp only [Bool.or_eq_false_iff] at hs
    rw [lookG_put, hs.2]
    exact h.no s hs.1
  · rw [lookG_put]
    cases hq : x.cl.toList == s.toList
    · rw [heldQ_add] at hs
      simp only [hq, Bool.or_false] at hs
      exact h.yes s hs
    · exact ⟨x.cl, (r : Int), rfl, hx⟩
theorem NatF.nil : NatF [] [] := ⟨fun s => rfl⟩
theorem NatF.put {P : List PlQ} {ks : List (ByteArray × Int)} (h : NatF P ks) (x : QenR) (r : Nat) : NatF (P ++ [(x, r)]) (putG ks x.na ((natQ P x.na : Int) + 1)) := ⟨fun s => by
  rw [lookG_put]
  unfold natQ
  cases hq : x.na.toList == s.toList
  · have := h.at_ s
    simp only [Bool.false_eq_true, if_false, this]
    simp [natQ, hq]
  · have e : x.na.toList = s.toList := by simpa using hq
    simp [hq, e]⟩
/-- an award in memory: its block, its maps, its places -/
structure AwX (w : World) (base A : Nat) (lv : Value) (cap : Int) (out : List ByteArray) (P Ph Pn : List PlQ) (mo mh mn : Nat) (pv : Value) : Prop where
  blk : w.heap[A]? = some (.cells #[lv, .int .i64 cap, .map (some mo), pv, .map (some mh), .map (some mn)] 71 (0, 0))
  ot : ∃ ks, MapG evB w mo ks ∧ OutF out ks
  hd : ∃ ks, MapG evP w mh ks ∧ HeldF Ph ks
  nt : ∃ ks, MapG evI w mn ks ∧ NatF Pn ks
  own : w.ownsRow base 48 2 pv P.length (pqCs P)
  dis : mo ≠ mh ∧ mo ≠ mn ∧ mh ≠ mn
  low : base ≤ A ∧ base ≤ mo ∧ base ≤ mh ∧ base ≤ mn
abbrev AwAt (w : World) (base A : Nat) (lv : Value) (cap : Int) (out : List ByteArray) (P : List PlQ) (mo mh mn : Nat) (pv : Value) : Prop := AwX w base A lv cap out P P P mo mh mn pv
theorem own_same2 {w w' : World} {b s n : Nat} {T : TypeId} {v : Value} {l : List Value} (h : w.ownsRow b T s v n l) (k : ∀ g, v.ownBlock = some g → w'.heap[g]? = w.heap[g]?) : w'.ownsRow b T s v n l := by
  refine ⟨h.1, ?_⟩
  rcases h.2 with hn | ⟨g, cap, cur, rfl, hb, hgg, rest⟩
  · exact .inl hn
  · exact .inr ⟨g, cap, cur, rfl, hb, by rw [k g rfl]; exact hgg, rest⟩
theorem own_in2 {w : World} {b s n : Nat} {T : TypeId} {v : Value} {l : List Value} (h : w.ownsRow b T s v n l) {g : Nat} (hg : v.ownBlock = some g) : g < w.heap.size ∧ b ≤ g := by
  rcases h.2 with ⟨rfl, _⟩ | ⟨g', cap, cur, rfl, hb, hgg, rest⟩
  · cases hg
  · cases hg
    exact ⟨(Array.getElem?_eq_some_iff.1 hgg).1, hb⟩
theorem MapG.same {α : Type} {ev : α → Value} {w w' : World} {g : Nat} {ks : List (ByteArray × α)} (h : MapG ev w g ks) (k : w'.heap[g]? = w.heap[g]?) : MapG ev w' g ks := by
  obtain ⟨⟨es, clock, h1, h2⟩⟩ := h
  exact ⟨es, clock, by rw [k]; exact h1, h2⟩
theorem MapG.is_map {α : Type} {ev : α → Value} {w : World} {g : Nat} {ks : List (ByteArray × α)} (h : MapG ev w g ks) : ∃ es c, w.heap[g]? = some (.map es c) := by
  obtain ⟨⟨es, clock, h1, h2⟩⟩ := h
  exact ⟨_, _, h1⟩
theorem MapG.ne_cells {α : Type} {ev : α → Value} {w : World} {g : Nat} {ks : List (ByteArray × α)} (h : MapG ev w g ks) {A : Nat} {cs : Array Value} {T : TypeId} {fr : Nat × Nat} (hA : w.heap[A]? = some (.cells cs T fr)) : g ≠ A := by
  obtain ⟨es, c, e⟩ := h.is_map
  intro q
  subst q
  rw [hA] at e
  cases e
theorem MapG.ne_own {α : Type} {ev : α → Value} {w : World} {m : Nat} {ks : List (ByteArray × α)} (h : MapG ev w m ks) {b s n : Nat} {T : TypeId} {v : Value} {l : List Value} (ho : w.ownsRow b T s v n l) : v.ownBlock ≠ some m := by
  rcases ho.2 with ⟨rfl, _⟩ | ⟨g', cap, cur, rfl, hb, hgg, rest⟩
  · intro e; cases e
  · intro e
    cases e
    exact h.ne_cells hgg rfl
theorem own_ne_cells {w : World} {b s n : Nat} {T T2 : TypeId} {v : Value} {l : List Value} (ho : w.ownsRow b T s v n l) {A : Nat} {cs : Array Value} {fr : Nat × Nat} (hA : w.heap[A]? = some (.cells cs T2 fr)) (hT : T ≠ T2) : v.ownBlock ≠ some A := by
  rcases ho.2 with ⟨rfl, _⟩ | ⟨g', cap, cur, rfl, hb, hgg, rest⟩
  · intro e; cases e
  · intro e
    cases e
    rw [hA] at hgg
    cases hgg
    exact hT rfl
theorem AwX.gr {w w' : World} {base A : Nat} {lv : Value} {cap : Int} {out : List ByteArray} {P Ph Pn : List PlQ} {mo mh mn : Nat} {pv : Value} (h : AwX w base A lv cap out P Ph Pn mo mh mn pv) (k : Gr w w') : AwX w' base A lv cap out P Ph Pn mo mh mn pv := by
  obtain ⟨ko, o1, o2⟩ := h.ot
  obtain ⟨kh, h1, h2⟩ := h.hd
  obtain ⟨kn, n1, n2⟩ := h.nt
  exact ⟨k.block h.blk, ⟨ko, o1.gr k, o2⟩, ⟨kh, h1.gr k, h2⟩, ⟨kn, n1.gr k, n2⟩, own_same2 h.own fun g hg => Below.block k g (own_in2 h.own hg).1, h.dis, h.low⟩
theorem uMapB : Tryz.prog.underlying 67 = some (.map 9 4) := by kernel_rfl
theorem uMapI : Tryz.prog.underlying 69 = some (.map 9 3) := by kernel_rfl
theorem uMapP : Tryz.prog.underlying 68 = some (.map 9 48) := by kernel_rfl
theorem zeroB (w : World) : (zeroValue 4).run Tryz.prog w = .ok (.bool false) w := by kernel_rfl
theorem zeroIt (w : World) : (zeroValue 3).run Tryz.prog w = .ok (.int .i64 0) w := by kernel_rfl
theorem zeroPl (w : World) : (zeroValue 48).run Tryz.prog w = .ok (.agg #[.string ⟨#[]⟩, .int .i64 0]) w := by kernel_rfl
theorem AwX.lookO {w : World} {base A : Nat} {lv : Value} {cap : Int} {out : List ByteArray} {P Ph Pn : List PlQ} {mo mh mn : Nat} {pv : Value} (h : AwX w base A lv cap out P Ph Pn mo mh mn pv) (s : ByteArray) : (Instr.lookup 67 (.map (some mo)) (.string s) false).run Tryz.prog w = .ok (.bool (hasS out s)) w := by
  obtain ⟨ko, o1, o2⟩ := h.ot
  rw [mapG_look uMapB zeroB o1 s, o2.at_ s]
  cases hasS out s <;> rfl
theorem AwX.lookN {w : World} {base A : Nat} {lv : Value} {cap : Int} {out : List ByteArray} {P Ph Pn : List PlQ} {mo mh mn : Nat} {pv : Value} (h : AwX w base A lv cap out P Ph Pn mo mh mn pv) (s : ByteArray) : (Instr.lookup 69 (.map (some mn)) (.string s) false).run Tryz.prog w = .ok (.int .i64 (natQ Pn s : Int)) w := by
  obtain ⟨kn, n1, n2⟩ := h.nt
  rw [mapG_look uMapI zeroIt n1 s, ← n2.at_ s]
  cases lookG kn s <;> rfl
theorem AwX.lookH {w : World} {base A : Nat} {lv : Value} {cap : Int} {out : List ByteArray} {P Ph Pn : List PlQ} {mo mh mn : Nat} {pv : Value} (h : AwX w base A lv cap out P Ph Pn mo mh mn pv) (s : ByteArray) : ∃ c r, (Instr.lookup 68 (.map (some mh)) (.string s) false).run Tryz.prog w = .ok (.agg #[.string c, .int .i64 r]) w ∧ (heldQ Ph s = true → c.toList ≠ []) ∧ (heldQ Ph s = false → c = ⟨#[]⟩ ∧ r = 0) := by
  obtain ⟨kh, h1, h2⟩ := h.hd
  have hl := mapG_look uMapP zeroPl h1 s
  cases hq : heldQ Ph s
  · rw [h2.no s hq] at hl
    exact ⟨⟨#[]⟩, 0, hl, fun e => (by cases e), fun _ => ⟨rfl, rfl⟩⟩
  · obtain ⟨c, r, e1, e2⟩ := h2.yes s hq
    rw [e1] at hl
    exact ⟨c, r, hl, fun _ => e2, fun e => by cases e⟩
theorem AwX.cells {w : World} {base A : Nat} {lv : Value} {cap : Int} {out : List ByteArray} {P Ph Pn : List PlQ} {mo mh mn : Nat} {pv : Value} (h : AwX w base A lv cap out P Ph Pn mo mh mn pv) : w.cell? ⟨A, 0, none⟩ = some lv ∧ w.cell? ⟨A, 1, none⟩ = some (.int .i64 cap) ∧ w.cell? ⟨A, 2, none⟩ = some (.map (some mo)) ∧ w.cell? ⟨A, 3, none⟩ = some pv ∧ w.cell? ⟨A, 4, none⟩ = some (.map (some mh)) ∧ w.cell? ⟨A, 5, none⟩ = some (.map (some mn)) := by
  refine ⟨?_, ?_, ?_, ?_, ?_, ?_⟩ <;> rw [cell_of_row w A _ _ _ (0, 0) h.blk] <;> rfl
theorem place_ne : (48 : TypeId) ≠ 71 := by decide
/-- one more place -/
theorem AwX.place {w w1 : World} {base A : Nat} {lv : Value} {cap : Int} {out : List ByteArray} {P Ph Pn : List PlQ} {mo mh mn : Nat} {pv pv1 : Value} (h : AwX w base A lv cap out P Ph Pn mo mh mn pv) (p : PlQ) (hg : w.grownBy w1 pv.ownBlock)
    (ho : w1.ownsRow base 48 2 pv1 (P.length + 1) (pqCs (P ++ [p]))) (hat : pv1.ownBlock = pv.ownBlock ∨ pv1.ownBlock = some w.heap.size) :
    w1.cell? ⟨A, 3, none⟩ = some pv ∧ w1.frozen? ⟨A, 3, none⟩ = false ∧ AwX (w1.setCell ⟨A, 3, none⟩ pv1) base A lv cap out (P ++ [p]) Ph Pn mo mh mn pv1 := by
  obtain ⟨ko, o1, o2⟩ := h.ot
  obtain ⟨kh, h1, h2⟩ := h.hd
  obtain ⟨kn, n1, n2⟩ := h.nt
  have hA := (Array.getElem?_eq_some_iff.1 h.blk).1
  have hpA : pv.ownBlock ≠ some A := own_ne_cells h.own h.blk place_ne
  have hb : w1.heap[A]? = w.heap[A]? := hg.block A hA (fun e => hpA e.symm)
  have hb2 := hb.trans h.blk
  have hp1 : pv1.ownBlock ≠ some A := by
    rcases hat with e | e
    · rw [e]; exact hpA
    · rw [e]; intro q; cases q; omega
  have keep : ∀ {α : Type} {ev : α → Value} {g : Nat} {ks : List (ByteArray × α)}, MapG ev w g ks → MapG ev (w1.setCell ⟨A, 3, none⟩ pv1) g ks := fun {α ev g ks} hm => by
    refine hm.same ?_
    rw [heap_setCell_other _ _ _ _ (show g ≠ A from hm.ne_cells h.blk)]
    obtain ⟨es, c, e⟩ := hm.is_map
    exact hg.block g (Array.getElem?_eq_some_iff.1 e).1 (fun q => hm.ne_own h.own q.symm)
  refine ⟨?_, ?_, ?_, ⟨ko, keep o1, o2⟩, ⟨kh, keep h1, h2⟩, ⟨kn, keep n1, n2⟩, ?_, h.dis, h.low⟩
  · rw [cell_of_row w1 A _ _ _ (0, 0) hb2]; rfl
  · exact frozen_of_row w1 A _ _ _ hb2
  · have := heap_setCell_same w1 A 3 _ _ pv1 hb2
    simpa using this
  · rw [List.length_append]
    exact own_same2 ho fun g q => heap_setCell_other _ _ _ _ (fun r => hp1 (by rw [q]; exact congrArg some r))
theorem putGB_other (w : World) (g k : Nat) (ob : Obj) (h : k ≠ g) : (putGB w g ob).heap[k]? = w.heap[k]? := by
  have : ¬ g = k := fun e => h e.symm
  simp [putGB, this]
/-- what stays where another map is written -/
theorem AwX.put_keep {w : World} {base A : Nat} {lv : Value} {cap : Int} {out : List ByteArray} {P Ph Pn : List PlQ} {mo mh mn : Nat} {pv : Value} (h : AwX w base A lv cap out P Ph Pn mo mh mn pv) {g : Nat} {ob : Obj} (hm : ∃ es c, w.heap[g]? = some (.map es c)) :
    (putGB w g ob).heap[A]? = some (.cells #[lv, .int .i64 cap, .map (some mo), pv, .map (some mh), .map (some mn)] 71 (0, 0)) ∧ (putGB w g ob).ownsRow base 48 2 pv P.length (pqCs P) := by
  obtain ⟨es, c, hm⟩ := hm
  refine ⟨?_, own_same2 h.own fun k hk => ?_⟩
  · rw [putGB_other _ _ _ _ (fun e => by subst e; rw [h.blk] at hm; cases hm)]
    exact h.blk
  · refine putGB_other _ _ _ _ (fun e => ?_)
    subst e
    rcases h.own.2 with ⟨e1, _⟩ | ⟨g', cp, cur, e1, hb, hgg, rest⟩
    · rw [e1] at hk; cases hk
    · rw [e1] at hk
      cases hk
      rw [hgg] at hm
      cases hm
theorem AwX.held {w : World} {base A : Nat} {lv : Value} {cap : Int} {out : List ByteArray} {P Ph Pn : List PlQ} {mo mh mn : Nat} {pv : Value} (h : AwX w base A lv cap out P Ph Pn mo mh mn pv) (x : QenR) (r : Nat) (hx : x.cl.toList ≠ []) :
    ∃ ob, (Instr.mapUpdate 68 (.map (some mh)) (.string x.cl) (.agg #[.string x.cl, .int .i64 (r : Int)])).run Tryz.prog w = .ok () (putGB w mh ob) ∧ AwX (putGB w mh ob) base A lv cap out P (Ph ++ [(x, r)]) Pn mo mh mn pv := by
  obtain ⟨ko, o1, o2⟩ := h.ot
  obtain ⟨kh, h1, h2⟩ := h.hd
  obtain ⟨kn, n1, n2⟩ := h.nt
  obtain ⟨ob, hr, hm⟩ := mapG_put uMapP h1 x.cl (x.cl, (r : Int))
  obtain ⟨k1, k2⟩ := h.put_keep (ob := ob) h1.is_map
  exact ⟨ob, hr, k1, ⟨ko, o1.same (putGB_other _ _ _ _ h.dis.1), o2⟩, ⟨_, hm, h2.put x r hx⟩, ⟨kn, n1.same (putGB_other _ _ _ _ (Ne.symm h.dis.2.2)), n2⟩, k2, h.dis, h.low⟩
theorem AwX.nation {w : World} {base A : Nat} {lv : Value} {cap : Int} {out : List ByteArray} {P Ph Pn : List PlQ} {mo mh mn : Nat} {pv : Value} (h : AwX w base A lv cap out P Ph Pn mo mh mn pv) (x : QenR) (r : Nat) :
    ∃ ob, (Instr.mapUpdate 69 (.map (some mn)) (.string x.na) (.int .i64 ((natQ Pn x.na : Int) + 1))).run Tryz.prog w = .ok () (putGB w mn ob) ∧ AwX (putGB w mn ob) base A lv cap out P Ph (Pn ++ [(x, r)]) mo mh mn pv := by
  obtain ⟨ko, o1, o2⟩ := h.ot
  obtain ⟨kh, h1, h2⟩ := h.hd
  obtain ⟨kn, n1, n2⟩ := h.nt
  obtain ⟨ob, hr, hm⟩ := mapG_put uMapI n1 x.na ((natQ Pn x.na : Int) + 1)
  obtain ⟨k1, k2⟩ := h.put_keep (ob := ob) n1.is_map
  exact ⟨ob, hr, k1, ⟨ko, o1.same (putGB_other _ _ _ _ h.dis.2.1), o2⟩, ⟨kh, h1.same (putGB_other _ _ _ _ h.dis.2.2), h2⟩, ⟨_, hm, n2.put x r⟩, k2, h.dis, h.low⟩
theorem AwX.out1 {w : World} {base A : Nat} {lv : Value} {cap : Int} {out : List ByteArray} {P Ph Pn : List PlQ} {mo mh mn : Nat} {pv : Value} (h : AwX w base A lv cap out P Ph Pn mo mh mn pv) (s : ByteArray) :
    ∃ ob, (Instr.mapUpdate 67 (.map (some mo)) (.string s) (.bool true)).run Tryz.prog w = .ok () (putGB w mo ob) ∧ AwX (putGB w mo ob) base A lv cap (out ++ [s]) P Ph Pn mo mh mn pv := by
  obtain ⟨ko, o1, o2⟩ := h.ot
  obtain ⟨kh, h1, h2⟩ := h.hd
  obtain ⟨kn, n1, n2⟩ := h.nt
  obtain ⟨ob, hr, hm⟩ := mapG_put uMapB o1 s true
  obtain ⟨k1, k2⟩ := h.put_keep (ob := ob) o1.is_map
  exact ⟨ob, hr, k1, ⟨_, hm, o2.put s⟩, ⟨kh, h1.same (putGB_other _ _ _ _ (Ne.symm h.dis.1)), h2⟩, ⟨kn, n1.same (putGB_other _ _ _ _ (Ne.symm h.dis.2.1)), n2⟩, k2, h.dis, h.low⟩
end Go.Proofs.YtebnbjaaogfikaaGreatDoor
