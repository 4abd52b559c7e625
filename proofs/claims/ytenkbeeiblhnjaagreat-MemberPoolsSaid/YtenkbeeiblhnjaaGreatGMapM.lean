/- A map[string]int that the call makes: asked, written. -/
import Derived.Test.YtenkbeeiblhnjaaGreatGNat
import Derived.MapKept
import Derived.Test.YtenkbeeiblhnjaaGreatGNmsC
import Derived.Test.YtenkbeeiblhnjaaGreatGChecks
import Derived.BigRegion
import Derived.BigQuiet
import Derived.Laws.Rows
namespace Go.Proofs.YtenkbeeiblhnjaaGreat
open Go.RowKit Go.Lib
set_option linter.unusedSimpArgs false
set_option linter.unusedVariables false
/-- a key's value in a list of pairs; the pairs with a key's value set -/
def lookM (ks : List (ByteArray × Int)) (k : ByteArray) : Option Int := (ks.find? fun p => p.1.toList == k.toList).map (·.2)
def putM : List (ByteArray × Int) → ByteArray → Int → List (ByteArray × Int)
  | [], k, v => [(k, v)]
  | p :: r, k, v => if p.1.toList == k.toList then (k, v) :: r else p :: putM r k v
def pairV (p : ByteArray × Int) : Value × Value := (.string p.1, .int .i64 p.2)
/-- the block holds these pairs -/
structure MapAt (w : World) (g : Nat) (ks : List (ByteArray × Int)) : Prop where
  mk' ::
  out : ∃ es clock, w.heap[g]? = some (.map ⟨es⟩ clock) ∧ es.map (fun e : MapEntry => (e.key, e.val)) = ks.map pairV
theorem MapAt.gr {w w' : World} {g : Nat} {ks : List (ByteArray × Int)} (h : MapAt w g ks) (k : Gr w w') : MapAt w' g ks := by
  obtain ⟨⟨es, clock, h1, h2⟩⟩ := h
  exact ⟨es, clock, k.block h1, h2⟩
theorem same_str (a b : ByteArray) : Instr.sameNow .string (.string a) (.string b) = some (b.toList == a.toList) := by
  simp only [Instr.sameNow]
  rw [beq_toListBytes, Bool.beq_comm]
theorem map_find {k : ByteArray} : ∀ {es : List MapEntry} {ks : List (ByteArray × Int)} (i : Nat), es.map (fun e : MapEntry => (e.key, e.val)) = ks.map pairV →
    match lookM ks k with
    | some v => ∃ j, Instr.findNow .string (.string k) es i = some (some (i + j, .int .i64 v)) ∧ j < es.length ∧ ∃ e s, es[j]? = some e ∧ e.key = .string s ∧ s.toList = k.toList ∧ e.val = .int .i64 v ∧ ∀ u, (es.modify j fun e => { e with key := .string k, val := .int .i64 u }).map (fun e : MapEntry => (e.key, e.val)) = (putM ks k u).map pairV
    | none => Instr.findNow .string (.string k) es i = some none ∧ ∀ u, putM ks k u = ks ++ [(k, u)]
  | [], [], i, _ => by simp [Instr.findNow, lookM, putM]
  | [], _ :: _, _, h => by simp at h
  | _ :: _, [], _, h => by simp at h
  | e :: es, z :: ks, i, h => by
    simp only [List.map_cons, List.cons.injEq, pairV, Prod.mk.injEq] at h
    obtain ⟨⟨h1, h2⟩, h3⟩ := h
    have ih := map_find (k := k) (i + 1) h3
    by_cases hz : (z.1.toList == k.toList) = true
    · have hl : lookM (z :: ks) k = some z.2 := by simp [lookM, List.find?_cons, hz]
      rw [hl]
      refine ⟨0, ?_, by simp, e, z.1, rfl, h1, by simpa using hz, h2, fun u => ?_⟩
      · simp [Instr.findNow, h1, h2, same_str, hz]
      · simp [putM, hz, pairV, h3]
    · have hz' : (z.1.toList == k.toList) = false := by simpa using hz
      have hl : lookM (z :: ks) k = lookM ks k := by simp [lookM, List.find?_cons, hz']
      rw [hl]
      cases hq : lookM ks k with
      | some v =>
        rw [hq] at ih
        obtain ⟨j, h4, h5, e2, s, h6, h7, h8, h9, h10⟩ := ih
        refine ⟨j + 1, ?_, by simp; omega, e2, s, by simpa using h6, h7, h8, h9, fun u => ?_⟩
        · rw [show i + (j + 1) = i + 1 + j by omega, ← h4]
          simp [Instr.findNow, h1, same_str, hz']
        · have := h10 u
          simp only [putM, hz', List.modify_succ_cons, List.map_cons, this, h1, h2]
          simp [pairV]
      | none =>
        rw [hq] at ih
        refine ⟨?_, fun u => by simp [putM, hz', ih.2 u]⟩
        rw [← ih.1]
        simp [Instr.findNow, h1, same_str, hz']
theorem uMapS : Tryz.prog.underlying 110 = some (.map 9 3) := by kernel_rfl
theorem uStr : Tryz.prog.underlying 9 = some .string := by kernel_rfl
theorem run_undS {t : TypeId} {d : TypeDesc} (h : Tryz.prog.underlying t = some d) (w : World) : (underlying t).run Tryz.prog w = .ok d w := run_underlying h w
theorem zeroI (w : World) : (zeroValue 3).run Tryz.prog w = .ok (.int .i64 0) w := by kernel_rfl
theorem checkKeyS (e : Bool) (k : Value) (w : World) : (Instr.checkKey e 10000 9 k).run Tryz.prog w = .ok () w := by
  unfold Instr.checkKey
  simp only [Sem.run_bind, run_undS uStr, Result.andThen_ok]
  rfl
/-- one block changed -/
def putB (w : World) (g : Nat) (ob : Obj) : World := { w with heap := w.heap.setIfInBounds g ob }
/-- asked -/
theorem map_look {w : World} {g : Nat} {ks : List (ByteArray × Int)} (h : MapAt w g ks) (k : ByteArray) : (Instr.lookup 110 (.map (some g)) (.string k) false).run Tryz.prog w = .ok (.int .i64 ((lookM ks k).getD 0)) w := by
  obtain ⟨⟨es, clock, h1, h2⟩⟩ := h
  have hg : (getObj g).run Tryz.prog w = .ok (.map ⟨es⟩ clock) w := by simp [getObj, Sem.run, h1]
  have hf := map_find (k := k) 0 h2
  unfold Instr.lookup
  cases hk : lookM ks k with
  | some v =>
    rw [hk] at hf
    obtain ⟨j, h3, _⟩ := hf
    have hfk := Go.MapKept.run_findKey (P := Tryz.prog) (w := w) uStr h3
    simp only [Sem.run_bind, run_undS uMapS, Result.andThen_ok, Sem.run_pure, hg, checkKeyS, hfk]
    simp
  | none =>
    rw [hk] at hf
    have hfk := Go.MapKept.run_findKey (P := Tryz.prog) (w := w) uStr hf.1
    simp only [Sem.run_bind, run_undS uMapS, Result.andThen_ok, Sem.run_pure, hg, checkKeyS, hfk]
    simp [zeroI]
/-- asked, with whether it is there -/
theorem map_look2 {w : World} {g : Nat} {ks : List (ByteArray × Int)} (h : MapAt w g ks) (k : ByteArray) : (Instr.lookup 110 (.map (some g)) (.string k) true).run Tryz.prog w = .ok (.tuple #[.int .i64 ((lookM ks k).getD 0), .bool (lookM ks k).isSome]) w := by
  obtain ⟨⟨es, clock, h1, h2⟩⟩ := h
  have hg : (getObj g).run Tryz.prog w = .ok (.map ⟨es⟩ clock) w := by simp [getObj, Sem.run, h1]
  have hf := map_find (k := k) 0 h2
  unfold Instr.lookup
  cases hk : lookM ks k with
  | some v =>
    rw [hk] at hf
    obtain ⟨j, h3, _⟩ := hf
    have hfk := Go.MapKept.run_findKey (P := Tryz.prog) (w := w) uStr h3
    simp only [Sem.run_bind, run_undS uMapS, Result.andThen_ok, Sem.run_pure, hg, checkKeyS, hfk]
    simp
  | none =>
    rw [hk] at hf
    have hfk := Go.MapKept.run_findKey (P := Tryz.prog) (w := w) uStr hf.1
    simp only [Sem.run_bind, run_undS uMapS, Result.andThen_ok, Sem.run_pure, hg, checkKeyS, hfk]
    simp [zeroI]
/-- written -/
theorem map_put {w : World} {g : Nat} {ks : List (ByteArray × Int)} (h : MapAt w g ks) (k : ByteArray) (u : Int) : ∃ ob, (Instr.mapUpdate 110 (.map (some g)) (.string k) (.int .i64 u)).run Tryz.prog w = .ok () (putB w g ob) ∧ MapAt (putB w g ob) g (putM ks k u) := by
  obtain ⟨⟨es, clock, h1, h2⟩⟩ := h
  have hg : (getObj g).run Tryz.prog w = .ok (.map ⟨es⟩ clock) w := by simp [getObj, Sem.run, h1]
  have hset : ∀ ob, (setObj g ob).run Tryz.prog w = .ok () (putB w g ob) := fun ob => by simp [setObj, Sem.run, h1, putB]
  have hlt := (Array.getElem?_eq_some_iff.1 h1).1
  have hput : ∀ ob, (putB w g ob).heap[g]? = some ob := fun ob => by simp [putB, hlt]
  have hf := map_find (k := k) 0 h2
  cases hk : lookM ks k with
  | some v =>
    rw [hk] at hf
    obtain ⟨j, h3, h4, e, s, h5, h6, h7, h8, h9⟩ := hf
    rw [Nat.zero_add] at h3
    have hfk := Go.MapKept.run_findKey (P := Tryz.prog) (w := w) uStr h3
    have hsk : s = k := by
      rw [ByteArray.toList_eq, ByteArray.toList_eq] at h7
      exact ByteArray.ext (Array.toList_inj.1 h7)
    subst hsk
    have hss : (s == s) = true := by rw [beq_toListBytes]; simp
    refine ⟨.map ⟨es.modify j fun e => { e with key := .string s, val := .int .i64 u }⟩ clock, ?_, ?_⟩
    · simp [Instr.mapUpdate, run_undS uMapS, hg, checkKeyS, hfk, hset, h5, h6, Instr.keyThatStays, Instr.sameBits, hss]
    · exact ⟨_, _, hput _, h9 u⟩
  | none =>
    rw [hk] at hf
    have hfk := Go.MapKept.run_findKey (P := Tryz.prog) (w := w) uStr hf.1
    refine ⟨.map ⟨es ++ [⟨.string k, .int .i64 u, clock⟩]⟩ (clock + 1), ?_, ?_⟩
    · simp [Instr.mapUpdate, run_undS uMapS, hg, checkKeyS, hfk, hset]
    · exact ⟨_, _, hput _, by rw [hf.2 u]; simp [h2, pairV]⟩
theorem map_new (w : World) : MapAt (w.alloc (.map #[] 0)) w.heap.size [] := ⟨[], 0, heap_alloc_new _ _, rfl⟩
theorem gr_putB {w0 w : World} {g : Nat} {ob : Obj} (h : Gr w0 w) (hg : w0.heap.size ≤ g) : Gr w0 (putB w g ob) := by
  have hsz : (putB w g ob).heap.size = w.heap.size := by simp [putB]
  refine ⟨h.os, h.tape, h.output, by rw [hsz]; exact h.size, fun k hk => ?_⟩
  have hne : ¬ g = k := by omega
  rw [← Below.block h k hk]
  simp [putB, hne]
end Go.Proofs.YtenkbeeiblhnjaaGreat
namespace Go.Proofs.YtenkbeeiblhnjaaGreat
open Go.RowKit Go.Lib
set_option linter.unusedSimpArgs false
set_option linter.unusedVariables false
def lastM0 (cs : List ByteArray) : List (ByteArray × Int) := cs.foldl (fun m s => putM m s (-1)) []
def stepM (d : Int) (m : List (ByteArray × Int)) (x : TstR) : List (ByteArray × Int) := match lookM m x.nm with
  | some v => if x.dy ≤ d then putM m x.nm (max v x.dy) else m
  | none => m
def lastM (cs : List ByteArray) (xs : List TstR) (d : Int) : List (ByteArray × Int) := xs.foldl (stepM d) (lastM0 cs)
theorem fold_take {α β : Type} (f : β → α → β) {l : List α} {i : Nat} {x : α} (h : l[i]? = some x) (b : β) : (l.take (i + 1)).foldl f b = f ((l.take i).foldl f b) x := by
  rw [List.take_add_one, h]
  simp
set_option maxHeartbeats 2000000 in
set_option maxRecDepth 100000 in
theorem lastTests_c {vc v : Value} {cs : List ByteArray} {xs : List TstR} {w : World} (d : Int) (hcs : StrAts w vc cs) (h : TstAts w v xs) (h1 : xs.length ≤ 1000) (h2 : cs.length ≤ 1000) :
    Calls Tryz.prog 58 #[vc, v, .int .i64 d] w fun e w' => e = .returned (.map (some w.heap.size)) ∧ MapAt w' w.heap.size (lastM cs xs d) ∧ Gr w w' := by
  obtain ⟨⟨p, cap, rfl, _, hh⟩⟩ := hcs
  obtain ⟨⟨pt, capt, rfl, _, ht⟩⟩ := h
  obtain ⟨n, hn⟩ : ∃ n, n = cs.length := ⟨_, rfl⟩
  obtain ⟨m, hm⟩ : ∃ m, m = xs.length := ⟨_, rfl⟩
  rw [← hn] at h2 hh ⊢
  rw [← hm] at h1 ht ⊢
  have HN := Lib.hid hn
  have HM := Lib.hid hm
  have HH := Lib.hid hh
  have HT := Lib.hid ht
  have hmm := @run_makeMap Tryz.prog
  have hnew := map_new w
  have gnew : Gr w (w.alloc (.map #[] 0)) := (Gr.refl w).alloc _
  clear hn hm hh ht
  go_enter Tryz.func58, Tryz.ntmps58
  go_wp2_with fail
  go_loopg [9, 17] n (fun gk s9 s17 wr => ∃ i : Nat, s17 = .int .i64 i ∧ gk + i = n ∧ MapAt wr w.heap.size (lastM0 (cs.take i)) ∧ Gr w wr)
  case atStart => exact ⟨0, rfl, by omega, hnew, gnew⟩
  case round =>
    obtain ⟨i, rfl, hi, hmap, hg⟩ := hrel
    by_cases hlt : i < n
    · obtain ⟨x, hx⟩ : ∃ x, cs[i]? = some x := ⟨cs[i]'(by have := HN.out; omega), List.getElem?_eq_getElem _⟩
      obtain ⟨b, off, rfl, hc⟩ := HH.out (by omega)
      obtain ⟨c0⟩ := (hc i x hx).gr hg
      have hst := fold_take (fun (m : List (ByteArray × Int)) s => putM m s (-1)) hx []
      have HST := Lib.hid (show lastM0 (cs.take (i + 1)) = putM (lastM0 (cs.take i)) x (-1) from hst)
      have hi2 : (i : Int) < n := by omega
      obtain ⟨ob, hput, hmap2⟩ := map_put hmap x (-1)
      have HM2 := Lib.hid hmap2
      have HG2 := Lib.hid (gr_putB (ob := ob) hg (Nat.le_refl _))
      clear hst hx hc hmap hmap2
      go_wp2_with fail
      go_roundg (gk - 1)
      case measure => omega
      case rel => exact ⟨i + 1, by go_num, by omega, by rw [HST.out]; exact HM2.out, HG2.out⟩
    · obtain rfl : i = n := by omega
      rw [List.take_of_length_le (by have := HN.out; omega)] at hmap
      clear hnew gnew hmm
      go_wp2_with fail
      go_loopg [11, 12, 13, 26] m (fun gk s11 s12 s13 s26 wr => ∃ j : Nat, s26 = .int .i64 j ∧ gk + j = m ∧ MapAt wr w.heap.size ((xs.take j).foldl (stepM d) (lastM0 cs)) ∧ Gr w wr)
      case atStart => exact ⟨0, rfl, by omega, hmap, hg⟩
      case round =>
        obtain ⟨j, rfl, hj, hmap2, hg2⟩ := hrel
        by_cases hlt2 : j < m
        · obtain ⟨x, hx⟩ : ∃ x, xs[j]? = some x := ⟨xs[j]'(by have := HM.out; omega), List.getElem?_eq_getElem _⟩
          obtain ⟨b, off, rfl, hc⟩ := HT.out (by omega)
          obtain ⟨c0, c1⟩ := (hc j x hx).gr hg2
          have hst := fold_take (stepM d) hx (lastM0 cs)
          have hi2 : (j : Int) < m := by omega
          generalize (xs.take j).foldl (stepM d) (lastM0 cs) = mp at *
          have hal : Gr wr (wr.alloc (.cells #[.string x.nm, .int .i64 x.dy] 71)) := (Gr.refl wr).alloc _
          have hlook := map_look2 (hmap2.gr hal) x.nm
          have HMA := Lib.hid (hmap2.gr hal)
          have HGA := Lib.hid (hg2.trans hal)
          clear hx hc hmap2 hal hmap
          cases hl : lookM mp x.nm with
          | none =>
            rw [hl] at hlook
            simp only [Option.getD_none, Option.isSome_none] at hlook
            have HST := Lib.hid (show _ = mp from hst.trans (by unfold stepM; rw [hl]))
            clear hst
            go_wp2_with fail
            go_roundg (gk - 1)
            case measure => omega
            case rel => exact ⟨j + 1, by go_num, by omega, by rw [HST.out]; exact HMA.out, HGA.out⟩
          | some v =>
            rw [hl] at hlook
            simp only [Option.getD_some, Option.isSome_some] at hlook
            cases hd : decide (x.dy ≤ d)
            · have HST := Lib.hid (show _ = mp from hst.trans (by unfold stepM; rw [hl]; simp only []; rw [if_neg (of_decide_eq_false hd)]))
              clear hst
              go_wp2_with fail
              go_roundg (gk - 1)
              case measure => omega
              case rel => exact ⟨j + 1, by go_num, by omega, by rw [HST.out]; exact HMA.out, HGA.out⟩
            · have HST := Lib.hid (show _ = putM mp x.nm (max v x.dy) from hst.trans (by unfold stepM; rw [hl]; simp only []; rw [if_pos (of_decide_eq_true hd)]))
              clear hst
              rcases Decidable.em (x.dy ≤ v) with hmx | hmx
              · rw [show max v x.dy = v by omega] at HST
                obtain ⟨ob, hput, hmap3⟩ := map_put HMA.out x.nm v
                have HM3 := Lib.hid hmap3
                have HG3 := Lib.hid (gr_putB (ob := ob) HGA.out (Nat.le_refl _))
                clear hmap3
                go_wp2_with fail
                go_roundg (gk - 1)
                case measure => omega
                case rel => exact ⟨j + 1, by go_num, by omega, by rw [HST.out]; exact HM3.out, HG3.out⟩
              · rw [show max v x.dy = x.dy by omega] at HST
                obtain ⟨ob, hput, hmap3⟩ := map_put HMA.out x.nm x.dy
                have HM3 := Lib.hid hmap3
                have HG3 := Lib.hid (gr_putB (ob := ob) HGA.out (Nat.le_refl _))
                clear hmap3
                go_wp2_with fail
                go_roundg (gk - 1)
                case measure => omega
                case rel => exact ⟨j + 1, by go_num, by omega, by rw [HST.out]; exact HM3.out, HG3.out⟩
        · have hjm : j = m := by omega
          subst hjm
          rw [List.take_of_length_le (by have := HM.out; omega)] at hmap2
          go_wp2_with fail
          go_ret
          exact ⟨rfl, hmap2, hg2⟩
end Go.Proofs.YtenkbeeiblhnjaaGreat
namespace Go.Proofs.YtenkbeeiblhnjaaGreat
open Go.RowKit Go.Lib
set_option linter.unusedSimpArgs false
set_option linter.unusedVariables false
theorem lookM_congr {m : List (ByteArray × Int)} {a b : ByteArray} (h : a.toList = b.toList) : lookM m a = lookM m b := by
  unfold lookM; rw [h]
theorem lookM_put (k : ByteArray) (u : Int) (s : ByteArray) : ∀ m : List (ByteArray × Int), lookM (putM m k u) s = if (k.toList == s.toList) = true then some u else lookM m s
  | [] => by
    unfold putM lookM
    cases h : (k.toList == s.toList) <;> simp [List.find?_cons, h]
  | p :: r => by
    have ih := lookM_put k u s r
    unfold putM
    by_cases hp : (p.1.toList == k.toList) = true
    · rw [if_pos hp]
      have hpk : p.1.toList = k.toList := by simpa using hp
      unfold lookM
      rw [List.find?_cons, List.find?_cons]
      simp only
      rw [hpk]
      cases h : (k.toList == s.toList) <;> simp
    · rw [if_neg hp]
      have hl : ∀ r', lookM (p :: r') s = if (p.1.toList == s.toList) = true then some p.2 else lookM r' s := fun r' => by
        unfold lookM
        cases h : (p.1.toList == s.toList) <;> simp [List.find?_cons, h]
      rw [hl, hl, ih]
      cases h1 : (p.1.toList == s.toList) <;> cases h2 : (k.toList == s.toList) <;> simp
      rw [beq_iff_eq] at h1 h2
      exact absurd (by simp [h1, h2]) hp
theorem lookM0_gen (s : ByteArray) : ∀ (cs : List ByteArray) (m : List (ByteArray × Int)), lookM (cs.foldl (fun m s => putM m s (-1)) m) s = if (cs.any fun t => t.toList == s.toList) = true then some (-1) else lookM m s
  | [], m => by simp
  | t :: cs, m => by
    rw [List.foldl_cons, lookM0_gen s cs, lookM_put, List.any_cons]
    cases h1 : (t.toList == s.toList) <;> cases h2 : (cs.any fun t => t.toList == s.toList) <;> simp
def lastD (d : Int) (s : ByteArray) (x : TstR) : Bool := (x.nm.toList == s.toList) && decide (x.dy ≤ d)
theorem look_fold (d : Int) (s : ByteArray) : ∀ (xs : List TstR) (m : List (ByteArray × Int)) (v : Int), lookM m s = some v → lookM (xs.foldl (stepM d) m) s = some (lastZ (lastD d s) xs v)
  | [], m, v, h => h
  | x :: xs, m, v, h => by
    rw [List.foldl_cons]
    show _ = some (lastZ (lastD d s) xs (if lastD d s x then max v x.dy else v))
    refine look_fold d s xs _ _ ?_
    unfold stepM lastD
    by_cases hx : x.nm.toList = s.toList
    · rw [lookM_congr hx, h]
      by_cases hd : x.dy ≤ d
      · simp only [hd, if_true, hx, beq_self_eq_true, decide_true, Bool.and_self]
        rw [lookM_put, hx]
        simp
      · simp [hd, hx, h]
    · have hb : (x.nm.toList == s.toList) = false := beq_eq_false_iff_ne.2 hx
      simp only [hb, Bool.false_and, Bool.false_eq_true, if_false]
      cases hl : lookM m x.nm with
      | none => exact h
      | some u =>
        simp only []
        split
        · rw [lookM_put, hb]; simpa using h
        · exact h
theorem look_last {cs : List ByteArray} {xs : List TstR} {d : Int} {s : ByteArray} (hs : s ∈ cs) : lookM (lastM cs xs d) s = some (lastZ (lastD d s) xs (-1)) := by
  refine look_fold d s xs _ _ ?_
  unfold lastM0
  rw [lookM0_gen, if_pos (List.any_eq_true.2 ⟨s, hs, by simp⟩)]
/-- the last test up to a day, and the last one in a span up to it -/
theorem last_span (s : ByteArray) (a d : Int) : ∀ (xs : List TstR) (u v : Int), (∀ x ∈ xs, 0 ≤ x.dy) → ((v < 0 ∧ (u < 0 ∨ u < a)) ∨ (v = u ∧ 0 ≤ v ∧ a ≤ v)) →
    (lastZ (lastQ s a d) xs v < 0 ∧ (lastZ (lastD d s) xs u < 0 ∨ lastZ (lastD d s) xs u < a)) ∨ (lastZ (lastQ s a d) xs v = lastZ (lastD d s) xs u ∧ 0 ≤ lastZ (lastQ s a d) xs v ∧ a ≤ lastZ (lastQ s a d) xs v)
  | [], u, v, _, h => h
  | x :: xs, u, v, h0, h => by
    refine last_span s a d xs _ _ (fun y hy => h0 y (List.mem_cons_of_mem _ hy)) ?_
    have hx := h0 x (List.mem_cons_self ..)
    unfold lastQ lastD
    cases e0 : (x.nm.toList == s.toList) <;> by_cases e1 : a ≤ x.dy <;> by_cases e2 : x.dy ≤ d <;> simp only [e1, e2, decide_true, decide_false, Bool.true_and, Bool.false_and, Bool.and_true, Bool.and_false, Bool.false_eq_true, if_true, if_false] <;> omega
end Go.Proofs.YtenkbeeiblhnjaaGreat
namespace Go.Proofs.YtenkbeeiblhnjaaGreat
open Go.RowKit Go.Lib
set_option linter.unusedSimpArgs false
set_option linter.unusedVariables false
/-- the next number of a draw; a swap; the order after k steps -/
def lcgN (x : Nat) : Nat := 48271 * x % 2147483647
def swapN (l : Array Nat) (i j : Nat) : Array Nat := (l.setIfInBounds i (l.getD j 0)).setIfInBounds j (l.getD i 0)
def drawA (n : Nat) : Nat → Nat → Nat → Array Nat → Array Nat
  | 0, _, _, l => l
  | k + 1, i, x, l => drawA n k (i + 1) (lcgN x) (swapN l i (i + lcgN x % (n - i)))
def drawN (key n : Nat) : Array Nat := drawA n (n - 1) 0 key (Array.range n)
theorem swapN_size (l : Array Nat) (i j : Nat) : (swapN l i j).size = l.size := by simp [swapN]
/-- a block that is just these numbers -/
def intsA (l : Array Nat) : Array Value := l.map fun x : Nat => Value.int .i64 (x : Int)
theorem intsA_at {l : Array Nat} {i : Nat} (h : i < l.size) : (intsA l)[i]? = some (.int .i64 ((l.getD i 0 : Nat) : Int)) := by
  simp [intsA, h, Array.getD]
theorem intsA_set (l : Array Nat) (i x : Nat) : (intsA l).setIfInBounds i (.int .i64 (x : Int)) = intsA (l.setIfInBounds i x) := by
  unfold intsA
  rw [Array.map_setIfInBounds]
/-- the block g holds just these numbers -/
def RowA (w : World) (g : Nat) (l : Array Nat) : Prop := w.heap[g]? = some (.cells (intsA l) 3 (0, 0))
theorem RowA.cell {w : World} {g : Nat} {l : Array Nat} (h : RowA w g l) {i : Nat} (hi : i < l.size) : w.cell? ⟨g, i, none⟩ = some (.int .i64 ((l.getD i 0 : Nat) : Int)) := by
  rw [cell_of_row w g i _ 3 (0, 0) h]
  exact intsA_at hi
theorem RowA.frozen {w : World} {g : Nat} {l : Array Nat} (h : RowA w g l) (i : Nat) : w.frozen? ⟨g, i, none⟩ = false := frozen_of_row w g i _ 3 h
theorem RowA.set {w : World} {g : Nat} {l : Array Nat} (h : RowA w g l) (i x : Nat) : RowA (w.setCell ⟨g, i, none⟩ (.int .i64 (x : Int))) g (l.setIfInBounds i x) := by
  unfold RowA
  rw [← intsA_set]
  exact heap_setCell_same w g i _ 3 _ h
theorem RowA.drewN {w : World} {g : Nat} {l : Array Nat} (h : RowA w g l) (n : Nat) : RowA (w.drewN n) g l := h
theorem RowA.drew {w : World} {g : Nat} {l : Array Nat} (h : RowA w g l) : RowA w.drew g l := h
def fillA (n k : Nat) : Array Nat := Array.ofFn (n := n) fun j => if j.val < k then j.val else 0
theorem fillA_size (n k : Nat) : (fillA n k).size = n := by simp [fillA]
theorem fillA_zero (n : Nat) : intsA (fillA n 0) = Array.replicate n (.int .i64 0) := by
  unfold intsA fillA
  apply Array.ext
  · simp
  · intro i h1 h2
    simp
theorem fillA_set {n k : Nat} (h : k < n) : (fillA n k).setIfInBounds k k = fillA n (k + 1) := by
  unfold fillA
  apply Array.ext
  · simp
  · intro i h1 h2
    simp at h1
    rw [Array.getElem_setIfInBounds (by simpa using h1)]
    simp only [Array.getElem_ofFn]
    by_cases e : k = i
    · simp [e]
    · rw [if_neg e]
      have : (i < k) ↔ (i < k + 1) := by omega
      simp [this]
theorem fillA_all (n : Nat) : fillA n n = Array.range n := by
  unfold fillA
  apply Array.ext
  · simp
  · intro i h1 h2
    simp at h1
    simp [h1]
theorem infoI : (Tryz.prog.info? 3).map (fun i => (i.zero, i.size, i.bytes)) = some (some (.int .i64 0), 1, 8) := by kernel_rfl
theorem make_ints (n : Nat) (hn : n ≤ 256) (w : World) : (Instr.makeSlice 51 (.int .i64 (n : Int)) (.int .i64 (n : Int))).run Tryz.prog w = .ok (.slice (some ⟨w.heap.size, 0, none⟩) n n) (w.alloc (.cells (intsA (fillA n 0)) 3)) := by
  obtain ⟨i0, hi, hz0, hz1, hz2⟩ := info_parts infoI
  have := run_make (P := Tryz.prog) w 51 3 i0 (.int .i64 0) Tryz.underlying51 hi hz0 .i64 .i64 (n : Int) (n : Int) (by omega) (by omega) (by rw [hz2]; omega) (by omega)
  rw [hz1] at this
  have e : madeCells (#[.int .i64 0] : Array Value) n = Array.replicate n (.int .i64 0) := Array.ext' (by rw [toList_madeCells_one]; simp)
  rw [fillA_zero]
  simpa [Value.cells, e] using this
/-- the error of a draw -/
def drawE (key n : Int) : Int := if decide (key < 1) || decide (2147483647 ≤ key) || decide (n < 0) || decide (256 < n) then 3 else 0
theorem drawE_zero {key n : Int} (h : drawE key n = 0) : 1 ≤ key ∧ key < 2147483647 ∧ 0 ≤ n ∧ n ≤ 256 := by
  unfold drawE at h
  split at h
  · cases h
  · rename_i h1
    simp only [Bool.or_eq_true, decide_eq_true_eq] at h1
    omega
theorem lcgN_le (x : Nat) : lcgN x ≤ 2147483646 := by
  have := Nat.mod_lt (48271 * x) (show 0 < 2147483647 by omega)
  unfold lcgN
  omega
theorem lcg_tmod {x : Nat} : Int.tmod (48271 * (x : Int)) 2147483647 = ((lcgN x : Nat) : Int) := by
  unfold lcgN
  have h0 : (0 : Int) ≤ 48271 * (x : Int) := by omega
  rw [Int.tmod_eq_emod_of_nonneg h0]
  omega
end Go.Proofs.YtenkbeeiblhnjaaGreat
