/- Members: the reference's last and Late. -/
import Derived.Test.YtenkbeeiblhnjaaGreatTsA
import Derived.Test.YtenkbeeiblhnjaaGreatGNmsB
import Derived.Test.YtenkbeeiblhnjaaGreatGNat
import Derived.MapKept
namespace Go.Proofs.YtenkbeeiblhnjaaGreat
open Go.RowKit Go.Lib
set_option linter.unusedSimpArgs false
set_option linter.unusedVariables false
/-- the last day of a test that Q has, or what was before -/
def lastZ (Q : TstR → Bool) : List TstR → Int → Int
  | [], m => m
  | x :: r, m => lastZ Q r (if Q x then max m x.dy else m)
def lastQ (nm : ByteArray) (a b : Int) (x : TstR) : Bool := (x.nm.toList == nm.toList) && (decide (a ≤ x.dy) && decide (x.dy ≤ b))
def lastT (xs : List TstR) (nm : ByteArray) (a b : Int) : Int := lastZ (lastQ nm a b) xs (-1)
theorem lastZ_add (Q : TstR → Bool) (x : TstR) : ∀ (l : List TstR) (m : Int), lastZ Q (l ++ [x]) m = if Q x then max (lastZ Q l m) x.dy else lastZ Q l m
  | [], m => rfl
  | y :: l, m => by simp only [List.cons_append, lastZ]; exact lastZ_add Q x l _
theorem lastZ_take (Q : TstR → Bool) {xs : List TstR} {i : Nat} {x : TstR} (h : xs[i]? = some x) (m : Int) : lastZ Q (xs.take (i + 1)) m = if Q x then max (lastZ Q (xs.take i) m) x.dy else lastZ Q (xs.take i) m := by
  rw [List.take_add_one, h]
  exact lastZ_add Q x _ m
set_option maxHeartbeats 1000000 in
set_option maxRecDepth 100000 in
theorem refLast_c {v : Value} {xs : List TstR} {w : World} (nm : ByteArray) (a c : Int) (h : TstAts w v xs) (h1 : xs.length ≤ 1000) :
    Calls Tryz.prog 64 #[v, .string nm, .int .i64 a, .int .i64 c] w fun e w' => e = .returned (.int .i64 (lastT xs nm a c)) ∧ w = w' := by
  obtain ⟨⟨p, cap, rfl, _, hh⟩⟩ := h
  obtain ⟨n, hn⟩ : ∃ n, n = xs.length := ⟨_, rfl⟩
  rw [← hn] at h1 hh ⊢
  have HN := Lib.hid hn
  have HH := Lib.hid hh
  have HT : Hid (lastZ (lastQ nm a c) (xs.take n) (-1) = lastT xs nm a c) := by unfold Hid lastT; rw [hn, List.take_length]
  clear hn hh
  go_enter Tryz.func64, Tryz.ntmps64
  go_wp2_with fail
  go_loopg [9, 10] n (fun gk s9 s10 wr => ∃ i : Nat, s10 = .int .i64 i ∧ gk + i = n ∧ s9 = .int .i64 (lastZ (lastQ nm a c) (xs.take i) (-1)) ∧ wr = w)
  case atStart => exact ⟨0, rfl, by omega, rfl, rfl⟩
  case round =>
    obtain ⟨i, rfl, hi, rfl, rfl⟩ := hrel
    by_cases hlt : i < n
    · obtain ⟨x, hx⟩ : ∃ x, xs[i]? = some x := ⟨xs[i]'(by have := HN.out; omega), List.getElem?_eq_getElem _⟩
      obtain ⟨b, off, rfl, hc⟩ := HH.out (by omega)
      obtain ⟨c0, c1⟩ := hc i x hx
      have hst := lastZ_take (lastQ nm a c) hx (-1)
      have hi2 : (i : Int) < n := by omega
      generalize lastZ (lastQ nm a c) (xs.take i) (-1) = cu at *
      rw [show lastQ nm a c x = ((x.nm.toList == nm.toList) && (decide (a ≤ x.dy) && decide (x.dy ≤ c))) from rfl] at hst
      clear hx hc
      cases e0 : (x.nm.toList == nm.toList) <;> cases e1 : decide (a ≤ x.dy) <;> cases e2 : decide (x.dy ≤ c) <;> rcases Decidable.em (x.dy ≤ cu) with hmx | hmx
      all_goals
        simp only [e0, e1, e2, Bool.false_and, Bool.and_false, Bool.true_and, Bool.false_eq_true, if_false, if_true] at hst
        have HST := Lib.hid hst
        clear hst
        go_wp2_with fail
        go_roundg (gk - 1)
        case measure => omega
        case rel => exact ⟨i + 1, by go_num, by omega, by first | (rw [HST.out]; done) | (rw [HST.out]; congr 1; omega), rfl⟩
    · have hin : i = n := by omega
      subst hin
      rw [HT.out]
      go_wp2_with fail
      go_ret
      exact ⟨rfl, rfl⟩
/-- words as cells -/
def strC (ns : List ByteArray) : List Value := ns.map fun s => .string s
theorem strC_add (ns : List ByteArray) (s : ByteArray) : strC (ns ++ [s]) = strC ns ++ [.string s] := by simp [strC]
theorem strAts_of_owns {w : World} {base : Nat} {v : Value} {ns : List ByteArray} {T : TypeId} {n : Nat} (hn : ns.length = n) (h : w.ownsRow base T 1 v n (strC ns)) : StrAts w v ns := by
  subst hn
  rcases h.2 with ⟨rfl, h0⟩ | ⟨g, cap, cur, rfl, _, _, hle, hmx, _, _⟩
  · exact ⟨none, 0, by rw [h0], ⟨by omega, by unfold maxLen; omega⟩, fun h => by omega⟩
  · refine ⟨some ⟨g, 0, none⟩, cap, rfl, ⟨hle, hmx⟩, fun _ => ⟨g, 0, rfl, fun i x hx => ?_⟩⟩
    have e : ∀ j, (⟨g, 0, none⟩ : Addr).add j = ⟨g, j, none⟩ := fun j => by unfold Addr.add; split <;> simp_all
    have c0 := h.cells (g := g) rfl i (.string x) (by simp [strC, hx])
    rw [e] at c0
    exact ⟨by simpa using c0⟩
theorem infoStrN : (Tryz.prog.info? 9).map (fun i => (i.zero, i.size, i.bytes)) = some (some (.string ⟨#[]⟩), 1, 16) := by kernel_rfl
/-- the names without a test on the days before -/
def lateL (xs : List TstR) (ds d : Int) (cs : List ByteArray) : List ByteArray := cs.filter fun s => decide (lastT xs s (d - ds) d < 0)
theorem lateL_take {xs : List TstR} {ds d : Int} {cs : List ByteArray} {k : Nat} {s : ByteArray} (h : cs[k]? = some s) : lateL xs ds d (cs.take (k + 1)) = lateL xs ds d (cs.take k) ++ (if decide (lastT xs s (d - ds) d < 0) then [s] else []) := by
  unfold lateL
  rw [List.take_add_one, h, List.filter_append]
  congr 1
  simp only [Option.toList_some, List.filter_cons, List.filter_nil]
theorem lateL_len (xs : List TstR) (ds d : Int) (cs : List ByteArray) : (lateL xs ds d cs).length ≤ cs.length := List.length_filter_le _ _
set_option maxHeartbeats 1000000 in
set_option maxRecDepth 100000 in
theorem refLate_c {vc v : Value} {cs : List ByteArray} {xs : List TstR} {w : World} (ds d : Int) (hcs : StrAts w vc cs) (h : TstAts w v xs) (h1 : xs.length ≤ 1000) (h2 : cs.length ≤ 1000) (q1 : 0 ≤ ds) (q2 : ds ≤ 99999) (q3 : 0 ≤ d) (q4 : d ≤ 99999) :
    Calls Tryz.prog 19 #[vc, v, .int .i64 ds, .int .i64 d] w fun e w' => ∃ u, e = .returned u ∧ StrAts w' u (lateL xs ds d cs) ∧ Gr w w' := by
  obtain ⟨i0, hi, hz0, hz1, hz2⟩ := info_parts infoStrN
  have HL := Lib.hid (fun s W (g : Gr w W) => refLast_c s (d - ds) d (h.gr g) h1)
  obtain ⟨pt, nt, capt, rfl⟩ : ∃ p n cap, v = .slice p n cap := by
    obtain ⟨⟨p, cap, rfl, _⟩⟩ := h
    exact ⟨p, _, cap, rfl⟩
  obtain ⟨⟨p, cap, rfl, _, hh⟩⟩ := hcs
  obtain ⟨n, hn⟩ : ∃ n, n = cs.length := ⟨_, rfl⟩
  rw [← hn] at h2 hh ⊢
  have HN := Lib.hid hn
  have HH := Lib.hid hh
  clear hn hh h
  go_enter Tryz.func19, Tryz.ntmps19
  go_wp2_with fail
  go_loopw [9, 10] (fun bv iv wr => ∃ i : Nat, i ≤ n ∧ iv = .int .i64 i ∧ wr.ownsRow w.heap.size 9 1 bv (lateL xs ds d (cs.take i)).length (strC (lateL xs ds d (cs.take i))) ∧ Gr w wr) (fun _ iv _ => n - (intOf iv).toNat)
  case atStart => exact ⟨0, Nat.zero_le _, rfl, World.ownsRow_nil _ _ _ _, Gr.refl _⟩
  case round =>
    obtain ⟨i, hi', rfl, hown, hg⟩ := hrel
    have hsz := hg.size
    by_cases hlt : i < n
    · obtain ⟨x, hx⟩ : ∃ x, cs[i]? = some x := ⟨cs[i]'(by have := HN.out; omega), List.getElem?_eq_getElem _⟩
      obtain ⟨b, off, rfl, hc⟩ := HH.out (by omega)
      obtain ⟨c0⟩ := (hc i x hx).gr hg
      have hst := lateL_take (xs := xs) (ds := ds) (d := d) hx
      have hle : (lateL xs ds d (cs.take i)).length ≤ i := Nat.le_trans (lateL_len _ _ _ _) (by rw [List.length_take]; omega)
      have hi2 : (i : Int) < n := by omega
      have HT := Lib.hid (fun W g => HL.out x W g)
      generalize lastT xs x (d - ds) d = z at *
      generalize lateL xs ds d (cs.take i) = L at *
      clear hx hc
      cases hz : decide (z < 0)
      · rw [hz] at hst
        simp only [Bool.false_eq_true, if_false, List.append_nil] at hst
        have HST := Lib.hid hst
        clear hst
        go_wp2_with fail
        refine (HT.out _ hg).mono ?_
        rintro e W ⟨rfl, rfl⟩
        go_wp2_with fail
        go_roundw
        case rel => exact ⟨i + 1, by omega, by go_num, by rw [HST.out]; exact hown, hg⟩
        case measure => simp [intOf]; omega
      · rw [hz] at hst
        simp only [if_true] at hst
        have HST := Lib.hid hst
        have HLn : Hid ((strC L).length = L.length) := by simp [Hid, strC]
        clear hst
        go_wp2_with fail
        refine (HT.out _ hg).mono ?_
        rintro e W ⟨rfl, rfl⟩
        go_wp2_with (first
          | (at_builtin; refine wpList_append_own _ rfl _ _ 22 rfl w.heap.size 9 i0 (.string ⟨#[]⟩) 1 16 Tryz.underlying22 hi hz0 hz1 hz2 rfl (by decide) _ _ _ rfl (hown.alloc _) ⟨W2.heap.size, 0, none⟩ 1 1 [.string x] rfl rfl (cell_one_new _ _ _) (by intro u hu; simp at hu; subst hu; rfl) (by unfold maxLen; omega) (by omega) (by simp; omega) ?_; intro v1 w1 hown1 hgrow1 hnil1)
          | (at_builtin; refine wpList_append_own _ rfl _ _ 22 rfl w.heap.size 9 i0 (.string ⟨#[]⟩) 1 16 Tryz.underlying22 hi hz0 hz1 hz2 rfl (by decide) _ _ _ rfl (hown.alloc _) ⟨wr.heap.size, 0, none⟩ 1 1 [.string x] rfl rfl (cell_one_new _ _ _) (by intro u hu; simp at hu; subst hu; rfl) (by unfold maxLen; omega) (by omega) (by simp; omega) ?_; intro v1 w1 hown1 hgrow1 hnil1))
        go_roundw
        case rel => exact ⟨i + 1, by omega, by go_num, by rw [HST.out, strC_add]; simpa using hown1, Below.grown (hg.alloc _) hgrow1 (by simp; omega) (fun j hj => (hown.lt j hj).1)⟩
        case measure => simp [intOf]; omega
    · obtain rfl : i = n := by omega
      rw [List.take_of_length_le (by have := HN.out; omega)] at hown
      go_wp2_with fail
      go_ret
      exact ⟨_, rfl, strAts_of_owns rfl hown, hg⟩
end Go.Proofs.YtenkbeeiblhnjaaGreat
namespace Go.Proofs.YtenkbeeiblhnjaaGreat
open Go.RowKit Go.Lib
set_option linter.unusedSimpArgs false
set_option linter.unusedVariables false
/-- a key's value in a list of pairs; the pairs with a key's value set -/
def lookM (ks : List (ByteArray × Int)) (k : ByteArray) : Option Int := (ks.find? fun p => p.1.toList == k.toList).map (·.2)
def putM : List (ByteArray × Int) → ByteArray → Int → List (ByteArray × Int)
  | [], k, v => [(k, v)]
  | p :: r, k, v => if p.1.toList == k.toList then (k, v) :: r else p :: putM r k v
def pairV (p : ByteArray × Int) : Value × Value := (.string p.1, .int .i64 p.2)
/-- the block holds these pairs -/
structure MapAt (w : World) (g : Nat) (ks : List (ByteArray × Int)) : Prop where
  mk' ::
  out : ∃ es clock, w.heap[g]? = some (.map ⟨es⟩ clock) ∧ es.map (fun e : MapEntry => (e.key, e.val)) = ks.map pairV
theorem MapAt.gr {w w' : World} {g : Nat} {ks : List (ByteArray × Int)} (h : MapAt w g ks) (k : Gr w w') : MapAt w' g ks := by
  obtain ⟨⟨es, clock, h1, h2⟩⟩ := h
  exact ⟨es, clock, k.block h1, h2⟩
theorem same_str (a b : ByteArray) : Instr.sameNow .string (.string a) (.string b) = some (b.toList == a.toList) := by
  simp only [Instr.sameNow]
  rw [beq_toListBytes, Bool.beq_comm]
theorem map_find {k : ByteArray} : ∀ {es : List MapEntry} {ks : List (ByteArray × Int)} (i : Nat), es.map (fun e : MapEntry => (e.key, e.val)) = ks.map pairV →
    match lookM ks k with
    | some v => ∃ j, Instr.findNow .string (.string k) es i = some (some (i + j, .int .i64 v)) ∧ j < es.length ∧ ∃ e s, es[j]? = some e ∧ e.key = .string s ∧ s.toList = k.toList ∧ e.val = .int .i64 v ∧ ∀ u, (es.modify j fun e => { e with key := .string k, val := .int .i64 u }).map (fun e : MapEntry => (e.key, e.val)) = (putM ks k u).map pairV
    | none => Instr.findNow .string (.string k) es i = some none ∧ ∀ u, putM ks k u = ks ++ [(k, u)]
  | [], [], i, _ => by simp [Instr.findNow, lookM, putM]
  | [], _ :: _, _, h => by simp at h
  | _ :: _, [], _, h => by simp at h
  | e :: es, z :: ks, i, h => by
    simp only [List.map_cons, List.cons.injEq, pairV, Prod.mk.injEq] at h
    obtain ⟨⟨h1, h2⟩, h3⟩ := h
    have ih := map_find (k := k) (i + 1) h3
    by_cases hz : (z.1.toList == k.toList) = true
    · have hl : lookM (z :: ks) k = some z.2 := by simp [lookM, List.find?_cons, hz]
      rw [hl]
      refine ⟨0, ?_, by simp, e, z.1, rfl, h1, by simpa using hz, h2, fun u => ?_⟩
      · simp [Instr.findNow, h1, h2, same_str, hz]
      · simp [putM, hz, pairV, h3]
    · have hz' : (z.1.toList == k.toList) = false := by simpa using hz
      have hl : lookM (z :: ks) k = lookM ks k := by simp [lookM, List.find?_cons, hz']
      rw [hl]
      cases hq : lookM ks k with
      | some v =>
        rw [hq] at ih
        obtain ⟨j, h4, h5, e2, s, h6, h7, h8, h9, h10⟩ := ih
        refine ⟨j + 1, ?_, by simp; omega, e2, s, by simpa using h6, h7, h8, h9, fun u => ?_⟩
        · rw [show i + (j + 1) = i + 1 + j by omega, ← h4]
          simp [Instr.findNow, h1, same_str, hz']
        · have := h10 u
          simp only [putM, hz', List.modify_succ_cons, List.map_cons, this, h1, h2]
          simp [pairV]
      | none =>
        rw [hq] at ih
        refine ⟨?_, fun u => by simp [putM, hz', ih.2 u]⟩
        rw [← ih.1]
        simp [Instr.findNow, h1, same_str, hz']
theorem uMapS : Tryz.prog.underlying 110 = some (.map 9 3) := by kernel_rfl
theorem uStr : Tryz.prog.underlying 9 = some .string := by kernel_rfl
theorem run_undS {t : TypeId} {d : TypeDesc} (h : Tryz.prog.underlying t = some d) (w : World) : (underlying t).run Tryz.prog w = .ok d w := run_underlying h w
theorem zeroI (w : World) : (zeroValue 3).run Tryz.prog w = .ok (.int .i64 0) w := by kernel_rfl
theorem checkKeyS (e : Bool) (k : Value) (w : World) : (Instr.checkKey e 10000 9 k).run Tryz.prog w = .ok () w := by
  unfold Instr.checkKey
  simp only [Sem.run_bind, run_undS uStr, Result.andThen_ok]
  rfl
/-- one block changed -/
def putB (w : World) (g : Nat) (ob : Obj) : World := { w with heap := w.heap.setIfInBounds g ob }
/-- asked -/
theorem map_look {w : World} {g : Nat} {ks : List (ByteArray × Int)} (h : MapAt w g ks) (k : ByteArray) : (Instr.lookup 110 (.map (some g)) (.string k) false).run Tryz.prog w = .ok (.int .i64 ((lookM ks k).getD 0)) w := by
  obtain ⟨⟨es, clock, h1, h2⟩⟩ := h
  have hg : (getObj g).run Tryz.prog w = .ok (.map ⟨es⟩ clock) w := by simp [getObj, Sem.run, h1]
  have hf := map_find (k := k) 0 h2
  unfold Instr.lookup
  cases hk : lookM ks k with
  | some v =>
    rw [hk] at hf
    obtain ⟨j, h3, _⟩ := hf
    have hfk := Go.MapKept.run_findKey (P := Tryz.prog) (w := w) uStr h3
    simp only [Sem.run_bind, run_undS uMapS, Result.andThen_ok, Sem.run_pure, hg, checkKeyS, hfk]
    simp
  | none =>
    rw [hk] at hf
    have hfk := Go.MapKept.run_findKey (P := Tryz.prog) (w := w) uStr hf.1
    simp only [Sem.run_bind, run_undS uMapS, Result.andThen_ok, Sem.run_pure, hg, checkKeyS, hfk]
    simp [zeroI]
/-- asked, with whether it is there -/
theorem map_look2 {w : World} {g : Nat} {ks : List (ByteArray × Int)} (h : MapAt w g ks) (k : ByteArray) : (Instr.lookup 110 (.map (some g)) (.string k) true).run Tryz.prog w = .ok (.tuple #[.int .i64 ((lookM ks k).getD 0), .bool (lookM ks k).isSome]) w := by
  obtain ⟨⟨es, clock, h1, h2⟩⟩ := h
  have hg : (getObj g).run Tryz.prog w = .ok (.map ⟨es⟩ clock) w := by simp [getObj, Sem.run, h1]
  have hf := map_find (k := k) 0 h2
  unfold Instr.lookup
  cases hk : lookM ks k with
  | some v =>
    rw [hk] at hf
    obtain ⟨j, h3, _⟩ := hf
    have hfk := Go.MapKept.run_findKey (P := Tryz.prog) (w := w) uStr h3
    simp only [Sem.run_bind, run_undS uMapS, Result.andThen_ok, Sem.run_pure, hg, checkKeyS, hfk]
    simp
  | none =>
    rw [hk] at hf
    have hfk := Go.MapKept.run_findKey (P := Tryz.prog) (w := w) uStr hf.1
    simp only [Sem.run_bind, run_undS uMapS, Result.andThen_ok, Sem.run_pure, hg, checkKeyS, hfk]
    simp [zeroI]
/-- written -/
theorem map_put {w : World} {g : Nat} {ks : List (ByteArray × Int)} (h : MapAt w g ks) (k : ByteArray) (u : Int) : ∃ ob, (Instr.mapUpdate 110 (.map (some g)) (.string k) (.int .i64 u)).run Tryz.prog w = .ok () (putB w g ob) ∧ MapAt (putB w g ob) g (putM ks k u) := by
  obtain ⟨⟨es, clock, h1, h2⟩⟩ := h
  have hg : (getObj g).run Tryz.prog w = .ok (.map ⟨es⟩ clock) w := by simp [getObj, Sem.run, h1]
  have hset : ∀ ob, (setObj g ob).run Tryz.prog w = .ok () (putB w g ob) := fun ob => by simp [setObj, Sem.run, h1, putB]
  have hlt := (Array.getElem?_eq_some_iff.1 h1).1
  have hput : ∀ ob, (putB w g ob).heap[g]? = some ob := fun ob => by simp [putB, hlt]
  have hf := map_find (k := k) 0 h2
  cases hk : lookM ks k with
  | some v =>
    rw [hk] at hf
    obtain ⟨j, h3, h4, e, s, h5, h6, h7, h8, h9⟩ := hf
    rw [Nat.zero_add] at h3
    have hfk := Go.MapKept.run_findKey (P := Tryz.prog) (w := w) uStr h3
    have hsk : s = k := by
      rw [ByteArray.toList_eq, ByteArray.toList_eq] at h7
      exact ByteArray.ext (Array.toList_inj.1 h7)
    subst hsk
    have hss : (s == s) = true := by rw [beq_toListBytes]; simp
    refine ⟨.map ⟨es.modify j fun e => { e with key := .string s, val := .int .i64 u }⟩ clock, ?_, ?_⟩
    · simp [Instr.mapUpdate, run_undS uMapS, hg, checkKeyS, hfk, hset, h5, h6, Instr.keyThatStays, Instr.sameBits, hss]
    · exact ⟨_, _, hput _, h9 u⟩
  | none =>
    rw [hk] at hf
    have hfk := Go.MapKept.run_findKey (P := Tryz.prog) (w := w) uStr hf.1
    refine ⟨.map ⟨es ++ [⟨.string k, .int .i64 u, clock⟩]⟩ (clock + 1), ?_, ?_⟩
    · simp [Instr.mapUpdate, run_undS uMapS, hg, checkKeyS, hfk, hset]
    · exact ⟨_, _, hput _, by rw [hf.2 u]; simp [h2, pairV]⟩
theorem map_new (w : World) : MapAt (w.alloc (.map #[] 0)) w.heap.size [] := ⟨[], 0, heap_alloc_new _ _, rfl⟩
theorem gr_putB {w0 w : World} {g : Nat} {ob : Obj} (h : Gr w0 w) (hg : w0.heap.size ≤ g) : Gr w0 (putB w g ob) := by
  have hsz : (putB w g ob).heap.size = w.heap.size := by simp [putB]
  refine ⟨h.os, h.tape, h.output, by rw [hsz]; exact h.size, fun k hk => ?_⟩
  have hne : ¬ g = k := by omega
  rw [← Below.block h k hk]
  simp [putB, hne]
end Go.Proofs.YtenkbeeiblhnjaaGreat
namespace Go.Proofs.YtenkbeeiblhnjaaGreat
open Go.RowKit Go.Lib
set_option linter.unusedSimpArgs false
set_option linter.unusedVariables false
def lastM0 (cs : List ByteArray) : List (ByteArray × Int) := cs.foldl (fun m s => putM m s (-1)) []
def stepM (d : Int) (m : List (ByteArray × Int)) (x : TstR) : List (ByteArray × Int) := match lookM m x.nm with
  | some v => if x.dy ≤ d then putM m x.nm (max v x.dy) else m
  | none => m
def lastM (cs : List ByteArray) (xs : List TstR) (d : Int) : List (ByteArray × Int) := xs.foldl (stepM d) (lastM0 cs)
theorem fold_take {α β : Type} (f : β → α → β) {l : List α} {i : Nat} {x : α} (h : l[i]? = some x) (b : β) : (l.take (i + 1)).foldl f b = f ((l.take i).foldl f b) x := by
  rw [List.take_add_one, h]
  simp
set_option maxHeartbeats 2000000 in
set_option maxRecDepth 100000 in
theorem lastTests_c {vc v : Value} {cs : List ByteArray} {xs : List TstR} {w : World} (d : Int) (hcs : StrAts w vc cs) (h : TstAts w v xs) (h1 : xs.length ≤ 1000) (h2 : cs.length ≤ 1000) :
    Calls Tryz.prog 58 #[vc, v, .int .i64 d] w fun e w' => e = .returned (.map (some w.heap.size)) ∧ MapAt w' w.heap.size (lastM cs xs d) ∧ Gr w w' := by
  obtain ⟨⟨p, cap, rfl, _, hh⟩⟩ := hcs
  obtain ⟨⟨pt, capt, rfl, _, ht⟩⟩ := h
  obtain ⟨n, hn⟩ : ∃ n, n = cs.length := ⟨_, rfl⟩
  obtain ⟨m, hm⟩ : ∃ m, m = xs.length := ⟨_, rfl⟩
  rw [← hn] at h2 hh ⊢
  rw [← hm] at h1 ht ⊢
  have HN := Lib.hid hn
  have HM := Lib.hid hm
  have HH := Lib.hid hh
  have HT := Lib.hid ht
  have hmm := @run_makeMap Tryz.prog
  have hnew := map_new w
  have gnew : Gr w (w.alloc (.map #[] 0)) := (Gr.refl w).alloc _
  clear hn hm hh ht
  go_enter Tryz.func58, Tryz.ntmps58
  go_wp2_with fail
  go_loopg [9, 17] n (fun gk s9 s17 wr => ∃ i : Nat, s17 = .int .i64 i ∧ gk + i = n ∧ MapAt wr w.heap.size (lastM0 (cs.take i)) ∧ Gr w wr)
  case atStart => exact ⟨0, rfl, by omega, hnew, gnew⟩
  case round =>
    obtain ⟨i, rfl, hi, hmap, hg⟩ := hrel
    by_cases hlt : i < n
    · obtain ⟨x, hx⟩ : ∃ x, cs[i]? = some x := ⟨cs[i]'(by have := HN.out; omega), List.getElem?_eq_getElem _⟩
      obtain ⟨b, off, rfl, hc⟩ := HH.out (by omega)
      obtain ⟨c0⟩ := (hc i x hx).gr hg
      have hst := fold_take (fun (m : List (ByteArray × Int)) s => putM m s (-1)) hx []
      have HST := Lib.hid (show lastM0 (cs.take (i + 1)) = putM (lastM0 (cs.take i)) x (-1) from hst)
      have hi2 : (i : Int) < n := by omega
      obtain ⟨ob, hput, hmap2⟩ := map_put hmap x (-1)
      have HM2 := Lib.hid hmap2
      have HG2 := Lib.hid (gr_putB (ob := ob) hg (Nat.le_refl _))
      clear hst hx hc hmap hmap2
      go_wp2_with fail
      go_roundg (gk - 1)
      case measure => omega
      case rel => exact ⟨i + 1, by go_num, by omega, by rw [HST.out]; exact HM2.out, HG2.out⟩
    · obtain rfl : i = n := by omega
      rw [List.take_of_length_le (by have := HN.out; omega)] at hmap
      clear hnew gnew hmm
      go_wp2_with fail
      go_loopg [11, 12, 13, 26] m (fun gk s11 s12 s13 s26 wr => ∃ j : Nat, s26 = .int .i64 j ∧ gk + j = m ∧ MapAt wr w.heap.size ((xs.take j).foldl (stepM d) (lastM0 cs)) ∧ Gr w wr)
      case atStart => exact ⟨0, rfl, by omega, hmap, hg⟩
      case round =>
        obtain ⟨j, rfl, hj, hmap2, hg2⟩ := hrel
        by_cases hlt2 : j < m
        · obtain ⟨x, hx⟩ : ∃ x, xs[j]? = some x := ⟨xs[j]'(by have := HM.out; omega), List.getElem?_eq_getElem _⟩
          obtain ⟨b, off, rfl, hc⟩ := HT.out (by omega)
          obtain ⟨c0, c1⟩ := (hc j x hx).gr hg2
          have hst := fold_take (stepM d) hx (lastM0 cs)
          have hi2 : (j : Int) < m := by omega
          generalize (xs.take j).foldl (stepM d) (lastM0 cs) = mp at *
          have hal : Gr wr (wr.alloc (.cells #[.string x.nm, .int .i64 x.dy] 71)) := (Gr.refl wr).alloc _
          have hlook := map_look2 (hmap2.gr hal) x.nm
          have HMA := Lib.hid (hmap2.gr hal)
          have HGA := Lib.hid (hg2.trans hal)
          clear hx hc hmap2 hal hmap
          cases hl : lookM mp x.nm with
          | none =>
            rw [hl] at hlook
            simp only [Option.getD_none, Option.isSome_none] at hlook
            have HST := Lib.hid (show _ = mp from hst.trans (by unfold stepM; rw [hl]))
            clear hst
            go_wp2_with fail
            go_roundg (gk - 1)
            case measure => omega
            case rel => exact ⟨j + 1, by go_num, by omega, by rw [HST.out]; exact HMA.out, HGA.out⟩
          | some v =>
            rw [hl] at hlook
            simp only [Option.getD_some, Option.isSome_some] at hlook
            cases hd : decide (x.dy ≤ d)
            · have HST := Lib.hid (show _ = mp from hst.trans (by unfold stepM; rw [hl]; simp only []; rw [if_neg (of_decide_eq_false hd)]))
              clear hst
              go_wp2_with fail
              go_roundg (gk - 1)
              case measure => omega
              case rel => exact ⟨j + 1, by go_num, by omega, by rw [HST.out]; exact HMA.out, HGA.out⟩
            · have HST := Lib.hid (show _ = putM mp x.nm (max v x.dy) from hst.trans (by unfold stepM; rw [hl]; simp only []; rw [if_pos (of_decide_eq_true hd)]))
              clear hst
              rcases Decidable.em (x.dy ≤ v) with hmx | hmx
              · rw [show max v x.dy = v by omega] at HST
                obtain ⟨ob, hput, hmap3⟩ := map_put HMA.out x.nm v
                have HM3 := Lib.hid hmap3
                have HG3 := Lib.hid (gr_putB (ob := ob) HGA.out (Nat.le_refl _))
                clear hmap3
                go_wp2_with fail
                go_roundg (gk - 1)
                case measure => omega
                case rel => exact ⟨j + 1, by go_num, by omega, by rw [HST.out]; exact HM3.out, HG3.out⟩
              · rw [show max v x.dy = x.dy by omega] at HST
                obtain ⟨ob, hput, hmap3⟩ := map_put HMA.out x.nm x.dy
                have HM3 := Lib.hid hmap3
                have HG3 := Lib.hid (gr_putB (ob := ob) HGA.out (Nat.le_refl _))
                clear hmap3
                go_wp2_with fail
                go_roundg (gk - 1)
                case measure => omega
                case rel => exact ⟨j + 1, by go_num, by omega, by rw [HST.out]; exact HM3.out, HG3.out⟩
        · have hjm : j = m := by omega
          subst hjm
          rw [List.take_of_length_le (by have := HM.out; omega)] at hmap2
          go_wp2_with fail
          go_ret
          exact ⟨rfl, hmap2, hg2⟩
end Go.Proofs.YtenkbeeiblhnjaaGreat
