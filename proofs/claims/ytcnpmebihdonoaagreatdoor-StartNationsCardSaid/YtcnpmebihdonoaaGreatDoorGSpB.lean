/- Starters kept apart: the program counts neighbours of one nation. -/
import Derived.Test.YtcnpmebihdonoaaGreatDoorGLsH
import Derived.Test.YtcnpmebihdonoaaGreatDoorGSpC
import Derived.BigQuiet
import Derived.Test.YtcnpmebihdonoaaGreatDoorGNat
import Derived.MapKept
import Derived.Test.YtcnpmebihdonoaaGreatDoorLsM
import Derived.Test.YtcnpmebihdonoaaGreatDoorGDrC
namespace Go.Proofs.YtcnpmebihdonoaaGreatDoor
open Go.RowKit Go.Lib
set_option linter.unusedSimpArgs false
set_option linter.unusedVariables false
theorem pairsF_add {α : Type} [DecidableEq α] (x : α) : ∀ (l : List α) (last : Option α), pairsF last (l ++ [x]) = pairsF last l + if l.getLast?.or last = some x then 1 else 0
  | [], last => by
    simp [pairsF]
    congr
  | y :: l, last => by
    have ih := pairsF_add x l (some y)
    simp only [List.cons_append, pairsF, ih]
    have e : ((y :: l).getLast?).or last = (l.getLast?).or (some y) := by
      cases l with
      | nil => rfl
      | cons z l => simp [List.getLast?_cons_cons, List.getLast?_cons]
    rw [e]
    omega
/-- the nations of an order -/
def natO (xs : List EntR) (p : List Nat) : List (List UInt8) := p.map fun i => ((xs[i]?).map fun x => x.na.toList).getD []
theorem natO_take {xs : List EntR} {p : List Nat} {i a : Nat} {x : EntR} (h : p[i]? = some a) (hx : xs[a]? = some x) : natO xs (p.take (i + 1)) = natO xs (p.take i) ++ [x.na.toList] := by
  unfold natO
  rw [List.take_add_one, h, List.map_append]
  simp [hx]
theorem natO_last {xs : List EntR} {p : List Nat} {i a : Nat} {x : EntR} (h : p[i]? = some a) (hx : xs[a]? = some x) : (natO xs (p.take (i + 1))).getLast? = some x.na.toList := by
  rw [natO_take h hx]
  simp
theorem pairsF_le {α : Type} [DecidableEq α] : ∀ (l : List α) (last : Option α), pairsF last l ≤ l.length
  | [], _ => Nat.le_refl _
  | x :: l, last => by
    have := pairsF_le l (some x)
    unfold pairsF
    rw [List.length_cons]
    split <;> omega
set_option maxHeartbeats 4000000 in
set_option maxRecDepth 100000 in
theorem behindOwn_c (xs : List EntR) (v : Value) (p : List Nat) (q : Option Addr) (m c : Nat) (a : Nat) (x : EntR) (w : World) (hv : EntAts w v xs) (hm : p.length = m) (h1 : m ≤ 1000)
    (hq : 0 < m → ∃ b off, q = some ⟨b, off, none⟩ ∧ ∀ (i a : Nat), p[i]? = some a → w.cell? ⟨b, off + i, none⟩ = some (.int .i64 (a : Int))) (hlt : ∀ a ∈ p, a < xs.length) (ha : xs[a]? = some x) :
    Calls Tryz.prog 47 #[v, .slice q m c, .int .i64 (a : Int)] w fun e w' => e = .returned (.bool (decide ((natO xs p).getLast? = some x.na.toList))) ∧ Gr w w' := by
  have hal := (List.getElem?_eq_some_iff.1 ha).1
  obtain ⟨⟨pv, cap, rfl, _, hh⟩⟩ := hv
  obtain ⟨b, off, rfl, hc⟩ := hh (by omega)
  obtain ⟨c0, c1, c2⟩ := hc a x ha
  rcases Nat.eq_zero_or_pos m with h0 | h0
  · have hp : p = [] := List.eq_nil_of_length_eq_zero (by omega)
    subst hp
    subst h0
    clear hc hh hq hlt ha
    go_enter Tryz.func47, Tryz.ntmps47
    go_wp2_with fail
    go_big_quiet (fail)
    go_wp2_with fail
    go_ret
    exact ⟨rfl, (Gr.refl w).drewN _⟩
  · obtain ⟨bq, oq, rfl, hqc⟩ := hq h0
    obtain ⟨k, rfl⟩ : ∃ k, m = k + 1 := ⟨m - 1, by omega⟩
    obtain ⟨z, hz⟩ : ∃ z, p[k]? = some z := ⟨_, List.getElem?_eq_getElem (by omega)⟩
    have hzl := hlt z (List.mem_of_getElem? hz)
    obtain ⟨y, hy⟩ : ∃ y, xs[z]? = some y := ⟨_, List.getElem?_eq_getElem hzl⟩
    obtain ⟨d0, d1, d2⟩ := hc z y hy
    have e0 := hqc k z hz
    have hL : (natO xs p).getLast? = some y.na.toList := by
      have := natO_last hz hy
      rwa [List.take_of_length_le (by omega)] at this
    have hw : IntKind.i64.wrap (((k + 1 : Nat) : Int) - 1) = (k : Int) := by rw [IntKind.wrap_i64] <;> omega
    rw [hL]
    have hE : decide (some y.na.toList = some x.na.toList) = (y.na.toList == x.na.toList) := by rw [Bool.eq_iff_iff]; simp
    rw [hE]
    have hpos : (0 : Int) < ((k + 1 : Nat) : Int) := by omega
    clear hc hh hq hqc hlt ha hz hy hL hE
    generalize hmm : ((k + 1 : Nat) : Int) = mi at *
    go_enter Tryz.func47, Tryz.ntmps47
    go_wp2_with fail
    go_big_quiet (fail)
    go_wp2_with fail
    go_ret
    exact ⟨rfl, (Gr.refl w).drewN _⟩
set_option maxHeartbeats 4000000 in
set_option maxRecDepth 100000 in
theorem neighbours_c (xs : List EntR) (v : Value) (p : List Nat) (q : Option Addr) (m c : Nat) (w : World) (hv : EntAts w v xs) (hm : p.length = m) (h1 : m ≤ 1000)
    (hq : 0 < m → ∃ b off, q = some ⟨b, off, none⟩ ∧ ∀ (i a : Nat), p[i]? = some a → w.cell? ⟨b, off + i, none⟩ = some (.int .i64 (a : Int))) (hlt : ∀ a ∈ p, a < xs.length)
    (HC : ∀ W, Gr w W → Calls Tryz.prog 41 #[v] W fun e w' => e = .returned (.int .i64 0) ∧ Gr W w')
    (HO : ∀ W, Gr w W → Calls Tryz.prog 42 #[.int .i64 (xs.length : Int), .slice q m c] W fun e w' => e = .returned (.int .i64 0) ∧ Gr W w') :
    Calls Tryz.prog 12 #[v, .slice q m c] w fun e w' => e = .returned (.tuple #[.int .i64 (pairsF none (natO xs p) : Nat), .int .i64 0]) ∧ Gr w w' := by
  obtain ⟨⟨pv, cap, rfl, _, hh⟩⟩ := hv
  have HC' := Lib.hid HC
  have HO' := Lib.hid HO
  have HH := Lib.hid hh
  have HQ := Lib.hid hq
  have HM := Lib.hid hm
  have HLT := Lib.hid hlt
  clear HC HO hh hq hm hlt
  generalize hn : xs.length = n at *
  have HN := Lib.hid hn
  clear hn
  go_enter Tryz.func12, Tryz.ntmps12
  go_wp2_with fail
  refine (HC'.out _ (Gr.refl w)).mono ?_
  rintro e W1 ⟨rfl, g⟩
  go_wp2_with fail
  refine (HO'.out _ g).mono ?_
  rintro e W2 ⟨rfl, hg⟩
  replace g := g.trans hg
  clear hg
  go_wp2_with fail
  go_loopw [8, 25] (fun cv iv wr => ∃ i : Nat, i ≤ m ∧ iv = .int .i64 i ∧ cv = .int .i64 (pairsF none (natO xs (p.take i)) : Nat) ∧ Gr w wr) (fun _ iv _ => m - (intOf iv).toNat)
  case atStart => exact ⟨0, Nat.zero_le _, rfl, rfl, g⟩
  case round =>
    obtain ⟨i, him, rfl, rfl, hg⟩ := hrel
    by_cases hlt : i < m
    · obtain ⟨a, ha⟩ : ∃ a, p[i]? = some a := ⟨p[i]'(by have := HM.out; omega), List.getElem?_eq_getElem _⟩
      have hal := HLT.out a (List.mem_of_getElem? ha)
      obtain ⟨x, hx⟩ : ∃ x, xs[a]? = some x := ⟨xs[a]'(by have := HN.out; omega), List.getElem?_eq_getElem _⟩
      obtain ⟨bq, oq, rfl, hqc⟩ := HQ.out (by omega)
      obtain ⟨b, off, rfl, hc⟩ := HH.out (by omega)
      obtain ⟨c0, c1, c2⟩ := (hc a x hx).gr hg
      have e0 := hg.cell (hqc i a ha)
      have hi2 : (i : Int) < m := by omega
      have hle := pairsF_le (natO xs (p.take i)) none
      have hle2 : pairsF none (natO xs (p.take i)) ≤ 1000 := by
        unfold natO at hle
        rw [List.length_map, List.length_take] at hle
        unfold natO
        omega
      have hstep : pairsF none (natO xs (p.take (i + 1))) = pairsF none (natO xs (p.take i)) + if (natO xs (p.take i)).getLast?.or none = some x.na.toList then 1 else 0 := by
        rw [natO_take ha hx, pairsF_add]
      rcases Nat.eq_zero_or_pos i with h0 | h0
      · have hs2 : Hid (pairsF none (natO xs (p.take (i + 1))) = pairsF none (natO xs (p.take i))) := by
          rw [Hid, hstep, h0]
          rfl
        have hi0 : (i : Int) ≤ 0 := by omega
        have hi1 : decide (0 < (i : Int)) = false := decide_eq_false (by omega)
        have hi3 : decide (0 < i) = false := decide_eq_false (by omega)
        have hi4 : ¬ 0 < i := by omega
        generalize pairsF none (natO xs (p.take i)) = cnt at *
        clear hstep hle ha hx hqc hc h0
        go_wp2_with fail
        go_big_quiet (fail)
        go_wp2_with fail
        go_roundw
        case rel => exact ⟨i + 1, by omega, by go_num, by rw [hs2.out], hg.drewN _⟩
        case measure => simp [intOf]; omega
      · obtain ⟨k, rfl⟩ : ∃ k, i = k + 1 := ⟨i - 1, by omega⟩
        obtain ⟨z, hz⟩ : ∃ z, p[k]? = some z := ⟨p[k]'(by have := HM.out; omega), List.getElem?_eq_getElem _⟩
        have hzl := HLT.out z (List.mem_of_getElem? hz)
        obtain ⟨y, hy⟩ : ∃ y, xs[z]? = some y := ⟨xs[z]'(by have := HN.out; omega), List.getElem?_eq_getElem _⟩
        obtain ⟨d0, d1, d2⟩ := (hc z y hy).gr hg
        have e1 := hg.cell (hqc k z hz)
        rw [natO_last hz hy] at hstep
        have hw : IntKind.i64.wrap (((k + 1 : Nat) : Int) - 1) = (k : Int) := by rw [IntKind.wrap_i64] <;> omega
        have hpos : (0 : Int) < ((k + 1 : Nat) : Int) := by omega
        have hk2 : (k : Int) < m := by omega
        generalize pairsF none (natO xs (p.take (k + 1))) = cnt at *
        cases hb : (y.na.toList == x.na.toList)
        · have hs2 : Hid (pairsF none (natO xs (p.take (k + 1 + 1))) = cnt) := by
            have : ¬ (some y.na.toList = some x.na.toList) := by simpa using hb
            rw [Hid, hstep, Option.or_none, if_neg this]
            rfl
          clear hstep hle ha hx hqc hc hz hy
          go_wp2_with fail
          go_big_quiet (fail)
          go_wp2_with fail
          go_roundw
          case rel => exact ⟨k + 1 + 1, by omega, by go_num, by rw [hs2.out], hg.drewN _⟩
          case measure => simp [intOf]; omega
        · have hs2 : Hid (pairsF none (natO xs (p.take (k + 1 + 1))) = cnt + 1) := by
            have : some y.na.toList = some x.na.toList := by simpa using hb
            rw [Hid, hstep, Option.or_none, if_pos this]
          clear hstep hle ha hx hqc hc hz hy
          go_wp2_with fail
          go_big_quiet (fail)
          go_wp2_with fail
          go_roundw
          case rel => exact ⟨k + 1 + 1, by omega, by go_num, by rw [hs2.out]; go_num, hg.drewN _⟩
          case measure => simp [intOf]; omega
    · obtain rfl : i = m := by omega
      have hi2 : (i : Int) ≤ i := by omega
      have hE : Hid (natO xs (p.take i) = natO xs p) := by rw [Hid, List.take_of_length_le (by have := HM.out; omega)]
      go_wp2_with fail
      exact bodyPost_ret (v := .tuple #[.int .i64 (pairsF none (natO xs (p.take i)) : Nat), .int .i64 0]) (by simp [results, Tryz.results12, go_sem]) rfl ⟨by rw [hE.out], hg⟩
end Go.Proofs.YtcnpmebihdonoaaGreatDoor
namespace Go.Proofs.YtcnpmebihdonoaaGreatDoor
open Go.RowKit Go.Lib
set_option linter.unusedSimpArgs false
set_option linter.unusedVariables false
theorem perm_range : ∀ (n : Nat) (p : List Nat), p.Nodup → (∀ a ∈ p, a < n) → n ≤ p.length → p.Perm (List.range n)
  | 0, p, _, h, _ => by
    cases p with
    | nil => exact List.Perm.refl _
    | cons a p => exact absurd (h a (by simp)) (by omega)
  | n + 1, p, hd, h, hl => by
    by_cases hn : n ∈ p
    · have h1 := List.perm_cons_erase hn
      have h2 := perm_range n (p.erase n) (hd.erase n) (fun a ha => by
        have h3 := h a (List.mem_of_mem_erase ha)
        have h4 : a ≠ n := fun e => by
          subst e
          exact (hd.mem_erase_iff.1 ha).1 rfl
        omega) (by rw [List.length_erase_of_mem hn]; omega)
      rw [List.range_succ]
      exact h1.trans ((h2.cons n).trans (List.perm_append_singleton n (List.range n)).symm)
    · have h2 := perm_range n p hd (fun a ha => by
        have h3 := h a ha
        have h4 : a ≠ n := fun e => hn (e ▸ ha)
        omega) (by omega)
      have := h2.length_eq
      rw [List.length_range] at this
      omega
theorem ordersE_perm {n : Nat} {a : List Int} (h : ordersE n a = 0) : ∃ p : List Nat, a = p.map (fun (i : Nat) => (i : Int)) ∧ p.Perm (List.range n) := by
  have h1 := firstE_zero h (eachI (ordE n a) a 0) (by simp)
  have h2 := firstE_zero h (if decide ((a.length : Int) < n) then 7 else 0) (by simp)
  have hl : n ≤ a.length := by
    by_cases hh : (a.length : Int) < n
    · rw [decide_eq_true hh] at h2
      cases h2
    · omega
  have hE : ∀ (i : Nat) (x : Int), a[i]? = some x → 0 ≤ x ∧ x < n ∧ ((a.take i).any fun z => x == z) = false := fun i x hx => by
    have h3 := eachI_zero h1 i x hx
    rw [Nat.zero_add] at h3
    have h4 := firstE_zero h3 (if decide (x < 0) || decide ((n : Int) ≤ x) then 10 else 0) (by simp)
    have h5 := firstE_zero h3 (twE a i x) (by simp)
    refine ⟨?_, ?_, ?_⟩
    · by_cases hh : x < 0
      · rw [decide_eq_true hh] at h4
        cases h4
      · omega
    · by_cases hh : (n : Int) ≤ x
      · rw [decide_eq_true hh, Bool.or_true] at h4
        cases h4
      · omega
    · unfold twE at h5
      split at h5
      · cases h5
      · rename_i hh
        exact Bool.eq_false_iff.2 hh
  have hm : a = (a.map Int.toNat).map (fun (i : Nat) => (i : Int)) := by
    rw [List.map_map]
    refine (List.map_id a).symm.trans (List.map_congr_left fun x hx => ?_)
    obtain ⟨i, hi⟩ := List.mem_iff_getElem?.1 hx
    have := (hE i x hi).1
    simp
    omega
  refine ⟨a.map Int.toNat, hm, perm_range n _ ?_ ?_ (by rw [List.length_map]; exact hl)⟩
  · rw [List.Nodup, List.pairwise_iff_getElem]
    intro i j hi hj hij
    rw [List.length_map] at hi hj
    rw [List.getElem_map, List.getElem_map]
    intro e
    have ei := hE i a[i] (List.getElem?_eq_getElem hi)
    have ej := hE j a[j] (List.getElem?_eq_getElem hj)
    have hany := ej.2.2
    rw [List.any_eq_false] at hany
    refine hany a[i] (List.mem_iff_getElem?.2 ⟨i, ?_⟩) ?_
    · rw [List.getElem?_take, if_pos hij]
      exact List.getElem?_eq_getElem hi
    · simp
      omega
  · intro x hx
    obtain ⟨y, hy, rfl⟩ := List.mem_map.1 hx
    obtain ⟨i, hi⟩ := List.mem_iff_getElem?.1 hy
    have := hE i y hi
    omega
/-- two orders of the same starters have the same nations -/
theorem natO_perm (xs : List EntR) {p q : List Nat} (h : p.Perm q) : (natO xs p).Perm (natO xs q) := h.map _
end Go.Proofs.YtcnpmebihdonoaaGreatDoor
namespace Go.Proofs.YtcnpmebihdonoaaGreatDoor
open Go.RowKit Go.Lib
set_option linter.unusedSimpArgs false
set_option linter.unusedVariables false
/-- a key's value in a list of pairs; the pairs with a key's value set -/
def lookG {α : Type} (ks : List (ByteArray × α)) (k : ByteArray) : Option α := (ks.find? fun p => p.1.toList == k.toList).map (·.2)
def putG {α : Type} : List (ByteArray × α) → ByteArray → α → List (ByteArray × α)
  | [], k, v => [(k, v)]
  | p :: r, k, v => if p.1.toList == k.toList then (k, v) :: r else p :: putG r k v
def pairG {α : Type} (ev : α → Value) (p : ByteArray × α) : Value × Value := (.string p.1, ev p.2)
section
variable {α : Type} {ev : α → Value}
/-- the block holds these pairs -/
structure MapG (ev : α → Value) (w : World) (g : Nat) (ks : List (ByteArray × α)) : Prop where
  mk' ::
  out : ∃ es clock, w.heap[g]? = some (.map ⟨es⟩ clock) ∧ es.map (fun e : MapEntry => (e.key, e.val)) = ks.map (pairG ev)
theorem MapG.gr {w w' : World} {g : Nat} {ks : List (ByteArray × α)} (h : MapG ev w g ks) (k : Gr w w') : MapG ev w' g ks := by
  obtain ⟨⟨es, clock, h1, h2⟩⟩ := h
  exact ⟨es, clock, k.block h1, h2⟩
theorem same_strG (a b : ByteArray) : Instr.sameNow .string (.string a) (.string b) = some (b.toList == a.toList) := by
  simp only [Instr.sameNow]
  rw [beq_toListBytes, Bool.beq_comm]
theorem mapG_find {k : ByteArray} : ∀ {es : List MapEntry} {ks : List (ByteArray × α)} (i : Nat), es.map (fun e : MapEntry => (e.key, e.val)) = ks.map (pairG ev) →
    match lookG ks k with
    | some v => ∃ j, Instr.findNow .string (.string k) es i = some (some (i + j, ev v)) ∧ j < es.length ∧ ∃ e s, es[j]? = some e ∧ e.key = .string s ∧ s.toList = k.toList ∧ e.val = ev v ∧ ∀ u, (es.modify j fun e => { e with key := .string k, val := ev u }).map (fun e : MapEntry => (e.key, e.val)) = (putG ks k u).map (pairG ev)
    | none => Instr.findNow .string (.string k) es i = some none ∧ ∀ u, putG ks k u = ks ++ [(k, u)]
  | [], [], i, _ => by simp [Instr.findNow, lookG, putG]
  | [], _ :: _, _, h => by simp at h
  | _ :: _, [], _, h => by simp at h
  | e :: es, z :: ks, i, h => by
    simp only [List.map_cons, List.cons.injEq, pairG, Prod.mk.injEq] at h
    obtain ⟨⟨h1, h2⟩, h3⟩ := h
    have ih := mapG_find (k := k) (i + 1) h3
    by_cases hz : (z.1.toList == k.toList) = true
    · have hl : lookG (z :: ks) k = some z.2 := by simp [lookG, List.find?_cons, hz]
      rw [hl]
      refine ⟨0, ?_, by simp, e, z.1, rfl, h1, by simpa using hz, h2, fun u => ?_⟩
      · simp [Instr.findNow, h1, h2, same_strG, hz]
      · simp [putG, hz, pairG, h3]
    · have hz' : (z.1.toList == k.toList) = false := by simpa using hz
      have hl : lookG (z :: ks) k = lookG ks k := by simp [lookG, List.find?_cons, hz']
      rw [hl]
      cases hq : lookG ks k with
      | some v =>
        rw [hq] at ih
        obtain ⟨j, h4, h5, e2, s, h6, h7, h8, h9, h10⟩ := ih
        refine ⟨j + 1, ?_, by simp; omega, e2, s, by simpa using h6, h7, h8, h9, fun u => ?_⟩
        · rw [show i + (j + 1) = i + 1 + j by omega, ← h4]
          simp [Instr.findNow, h1, same_strG, hz']
        · have := h10 u
          simp only [putG, hz', List.modify_succ_cons, List.map_cons, this, h1, h2]
          simp [pairG]
      | none =>
        rw [hq] at ih
        refine ⟨?_, fun u => by simp [putG, hz', ih.2 u]⟩
        rw [← ih.1]
        simp [Instr.findNow, h1, same_strG, hz']
theorem uStrG : Tryz.prog.underlying 9 = some .string := by kernel_rfl
theorem run_undG {t : TypeId} {d : TypeDesc} (h : Tryz.prog.underlying t = some d) (w : World) : (underlying t).run Tryz.prog w = .ok d w := run_underlying h w
theorem checkKeyG (e : Bool) (k : Value) (w : World) : (Instr.checkKey e 10000 9 k).run Tryz.prog w = .ok () w := by
  unfold Instr.checkKey
  simp only [Sem.run_bind, run_undG uStrG, Result.andThen_ok]
  rfl
/-- one block changed -/
def putGB (w : World) (g : Nat) (ob : Obj) : World := { w with heap := w.heap.setIfInBounds g ob }
/-- asked -/
theorem mapG_look {tm tv : TypeId} {z : Value} (hu : Tryz.prog.underlying tm = some (.map 9 tv)) (hz : ∀ w, (zeroValue tv).run Tryz.prog w = .ok z w) {w : World} {g : Nat} {ks : List (ByteArray × α)} (h : MapG ev w g ks) (k : ByteArray) : (Instr.lookup tm (.map (some g)) (.string k) false).run Tryz.prog w = .ok (((lookG ks k).map ev).getD z) w := by
  obtain ⟨⟨es, clock, h1, h2⟩⟩ := h
  have hg : (getObj g).run Tryz.prog w = .ok (.map ⟨es⟩ clock) w := by simp [getObj, Sem.run, h1]
  have hf := mapG_find (k := k) 0 h2
  unfold Instr.lookup
  cases hk : lookG ks k with
  | some v =>
    rw [hk] at hf
    obtain ⟨j, h3, _⟩ := hf
    have hfk := Go.MapKept.run_findKey (P := Tryz.prog) (w := w) uStrG h3
    simp only [Sem.run_bind, run_undG hu, Result.andThen_ok, Sem.run_pure, hg, checkKeyG, hfk]
    simp
  | none =>
    rw [hk] at hf
    have hfk := Go.MapKept.run_findKey (P := Tryz.prog) (w := w) uStrG hf.1
    simp only [Sem.run_bind, run_undG hu, Result.andThen_ok, Sem.run_pure, hg, checkKeyG, hfk]
    simp [hz]
/-- asked, with whether it is there -/
theorem mapG_look2 {tm tv : TypeId} {z : Value} (hu : Tryz.prog.underlying tm = some (.map 9 tv)) (hz : ∀ w, (zeroValue tv).run Tryz.prog w = .ok z w) {w : World} {g : Nat} {ks : List (ByteArray × α)} (h : MapG ev w g ks) (k : ByteArray) : (Instr.lookup tm (.map (some g)) (.string k) true).run Tryz.prog w = .ok (.tuple #[((lookG ks k).map ev).getD z, .bool (lookG ks k).isSome]) w := by
  obtain ⟨⟨es, clock, h1, h2⟩⟩ := h
  have hg : (getObj g).run Tryz.prog w = .ok (.map ⟨es⟩ clock) w := by simp [getObj, Sem.run, h1]
  have hf := mapG_find (k := k) 0 h2
  unfold Instr.lookup
  cases hk : lookG ks k with
  | some v =>
    rw [hk] at hf
    obtain ⟨j, h3, _⟩ := hf
    have hfk := Go.MapKept.run_findKey (P := Tryz.prog) (w := w) uStrG h3
    simp only [Sem.run_bind, run_undG hu, Result.andThen_ok, Sem.run_pure, hg, checkKeyG, hfk]
    simp
  | none =>
    rw [hk] at hf
    have hfk := Go.MapKept.run_findKey (P := Tryz.prog) (w := w) uStrG hf.1
    simp only [Sem.run_bind, run_undG hu, Result.andThen_ok, Sem.run_pure, hg, checkKeyG, hfk]
    simp [hz]
/-- written -/
theorem mapG_put {tm tv : TypeId} (hu : Tryz.prog.underlying tm = some (.map 9 tv)) {w : World} {g : Nat} {ks : List (ByteArray × α)} (h : MapG ev w g ks) (k : ByteArray) (u : α) : ∃ ob, (Instr.mapUpdate tm (.map (some g)) (.string k) (ev u)).run Tryz.prog w = .ok () (putGB w g ob) ∧ MapG ev (putGB w g ob) g (putG ks k u) := by
  obtain ⟨⟨es, clock, h1, h2⟩⟩ := h
  have hg : (getObj g).run Tryz.prog w = .ok (.map ⟨es⟩ clock) w := by simp [getObj, Sem.run, h1]
  have hset : ∀ ob, (setObj g ob).run Tryz.prog w = .ok () (putGB w g ob) := fun ob => by simp [setObj, Sem.run, h1, putGB]
  have hlt := (Array.getElem?_eq_some_iff.1 h1).1
  have hput : ∀ ob, (putGB w g ob).heap[g]? = some ob := fun ob => by simp [putGB, hlt]
  have hf := mapG_find (k := k) 0 h2
  cases hk : lookG ks k with
  | some v =>
    rw [hk] at hf
    obtain ⟨j, h3, h4, e, s, h5, h6, h7, h8, h9⟩ := hf
    rw [Nat.zero_add] at h3
    have hfk := Go.MapKept.run_findKey (P := Tryz.prog) (w := w) uStrG h3
    have hsk : s = k := by
      rw [ByteArray.toList_eq, ByteArray.toList_eq] at h7
      exact ByteArray.ext (Array.toList_inj.1 h7)
    subst hsk
    have hss : (s == s) = true := by rw [beq_toListBytes]; simp
    refine ⟨.map ⟨es.modify j fun e => { e with key := .string s, val := ev u }⟩ clock, ?_, ?_⟩
    · simp [Instr.mapUpdate, run_undG hu, hg, checkKeyG, hfk, hset, h5, h6, Instr.keyThatStays, Instr.sameBits, hss]
    · exact ⟨_, _, hput _, h9 u⟩
  | none =>
    rw [hk] at hf
    have hfk := Go.MapKept.run_findKey (P := Tryz.prog) (w := w) uStrG hf.1
    refine ⟨.map ⟨es ++ [⟨.string k, ev u, clock⟩]⟩ (clock + 1), ?_, ?_⟩
    · simp [Instr.mapUpdate, run_undG hu, hg, checkKeyG, hfk, hset]
    · exact ⟨_, _, hput _, by rw [hf.2 u]; simp [h2, pairG]⟩
theorem mapG_new (w : World) : MapG ev (w.alloc (.map #[] 0)) w.heap.size [] := ⟨[], 0, heap_alloc_new _ _, rfl⟩
theorem gr_putG {w0 w : World} {g : Nat} {ob : Obj} (h : Gr w0 w) (hg : w0.heap.size ≤ g) : Gr w0 (putGB w g ob) := by
  have hsz : (putGB w g ob).heap.size = w.heap.size := by simp [putGB]
  refine ⟨h.os, h.tape, h.output, by rw [hsz]; exact h.size, fun k hk => ?_⟩
  have hne : ¬ g = k := by omega
  rw [← Below.block h k hk]
  simp [putGB, hne]
end
end Go.Proofs.YtcnpmebihdonoaaGreatDoor
namespace Go.Proofs.YtcnpmebihdonoaaGreatDoor
open Go.RowKit Go.Lib
set_option linter.unusedSimpArgs false
set_option linter.unusedVariables false
/-- a number of a team, as the map holds it -/
def evT (j : Nat) : Value := .int .i64 (j : Int)
/-- the map, the row of rows, and each row -/
structure Tms (w : World) (base mg : Nat) (v : Value) (vs : List Value) (ks : List (ByteArray × Nat)) (L : List (List Nat)) : Prop where
  map : MapG evT w mg ks
  mlo : base ≤ mg
  own : w.ownsRow base 23 1 v vs.length vs
  len : vs.length = L.length
  row : ∀ (i : Nat) (u : Value) (l : List Nat), vs[i]? = some u → L[i]? = some l → w.ownsRow base 3 1 u l.length (nats l)
  apart : ∀ (i j : Nat) (u u' : Value) (g : Nat), vs[i]? = some u → vs[j]? = some u' → u.ownBlock = some g → u'.ownBlock = some g → i = j
  ng : ∀ (i : Nat) (u : Value) (g : Nat), vs[i]? = some u → u.ownBlock = some g → v.ownBlock ≠ some g
theorem MapG.same {α : Type} {ev : α → Value} {w w' : World} {g : Nat} {ks : List (ByteArray × α)} (h : MapG ev w g ks) (k : w'.heap[g]? = w.heap[g]?) : MapG ev w' g ks := by
  obtain ⟨⟨es, clock, h1, h2⟩⟩ := h
  exact ⟨es, clock, k.trans h1, h2⟩
theorem own_not_map {α : Type} {ev : α → Value} {w : World} {g : Nat} {ks : List (ByteArray × α)} (h : MapG ev w g ks) {b s n : Nat} {T : TypeId} {v : Value} {l : List Value} (ho : w.ownsRow b T s v n l) : v.ownBlock ≠ some g := by
  intro e
  obtain ⟨⟨es, clock, h1, h2⟩⟩ := h
  rcases ho.2 with ⟨rfl, _⟩ | ⟨g', cap, cur, rfl, hb, hgg, _⟩
  · cases e
  · cases e
    rw [h1] at hgg
    cases hgg
theorem MapG.lt {α : Type} {ev : α → Value} {w : World} {g : Nat} {ks : List (ByteArray × α)} (h : MapG ev w g ks) : g < w.heap.size := by
  obtain ⟨⟨es, clock, h1, h2⟩⟩ := h
  exact (Array.getElem?_eq_some_iff.1 h1).1
theorem putG_other (w : World) (g k : Nat) (ob : Obj) (h : k ≠ g) : (putGB w g ob).heap[k]? = w.heap[k]? := by
  have : ¬ g = k := fun e => h e.symm
  simp [putGB, this]
theorem Tms.gr {w w' : World} {base mg : Nat} {v : Value} {vs : List Value} {ks : List (ByteArray × Nat)} {L : List (List Nat)} (h : Tms w base mg v vs ks L) (k : Gr w w') : Tms w' base mg v vs ks L :=
  ⟨h.map.gr k, h.mlo, own_kept h.own k, h.len, fun i u l hu hl => own_kept (h.row i u l hu hl) k, h.apart, h.ng⟩
theorem Tms.put {w : World} {base mg : Nat} {v : Value} {vs : List Value} {ks ks' : List (ByteArray × Nat)} {L : List (List Nat)} (h : Tms w base mg v vs ks L) {ob : Obj} (hm : MapG evT (putGB w mg ob) mg ks') : Tms (putGB w mg ob) base mg v vs ks' L :=
  ⟨hm, h.mlo, own_same h.own fun g e => putG_other w mg g ob (fun q => own_not_map h.map h.own (by rw [e, q])), h.len,
    fun i u l hu hl => own_same (h.row i u l hu hl) fun g e => putG_other w mg g ob (fun q => own_not_map h.map (h.row i u l hu hl) (by rw [e, q])), h.apart, h.ng⟩
theorem Tms.at_ {w : World} {base mg : Nat} {v : Value} {vs : List Value} {ks : List (ByteArray × Nat)} {L : List (List Nat)} (h : Tms w base mg v vs ks L) {i : Nat} {u : Value} (hu : vs[i]? = some u) : ∃ l, L[i]? = some l :=
  ⟨L[i]'(by rw [← h.len]; exact (List.getElem?_eq_some_iff.1 hu).1), List.getElem?_eq_getElem _⟩
/-- one more team, without anybody -/
theorem Tms.more {w w' : World} {base mg : Nat} {v v' : Value} {vs : List Value} {ks : List (ByteArray × Nat)} {L : List (List Nat)} (h : Tms w base mg v vs ks L) (hown : w'.ownsRow base 23 1 v' (vs.length + 1) (vs ++ [.slice none 0 0])) (hg : w.grownBy w' v.ownBlock) (hat : v'.ownBlock = v.ownBlock ∨ v'.ownBlock = some w.heap.size) :
    Tms w' base mg v' (vs ++ [.slice none 0 0]) ks (L ++ [[]]) := by
  have hnew : ∀ (i : Nat) (u : Value), (vs ++ [Value.slice none 0 0])[i]? = some u → vs[i]? = some u ∨ i = vs.length ∧ u = .slice none 0 0 := fun i u hu => by
    rcases Nat.lt_or_ge i vs.length with h1 | h1
    · rw [List.getElem?_append_left h1] at hu; exact .inl hu
    · rw [List.getElem?_append_right h1] at hu
      have h2 := (List.getElem?_eq_some_iff.1 hu).1
      simp at h2
      have h3 : i - vs.length = 0 := by omega
      rw [h3] at hu
      simp at hu
      exact .inr ⟨by omega, hu.symm⟩
  refine ⟨h.map.same (hg.block mg h.map.lt (fun e => own_not_map h.map h.own e.symm)), h.mlo, by rw [List.length_append]; exact hown, by simp [h.len], fun i u l hu hl => ?_, fun i j u u' g hu hu' hug hug' => ?_, fun i u g hu hug => ?_⟩
  · rcases hnew i u hu with h1 | ⟨rfl, rfl⟩
    · have hi := (List.getElem?_eq_some_iff.1 h1).1
      rw [List.getElem?_append_left (by rw [← h.len]; exact hi)] at hl
      refine own_same (h.row i u l h1 hl) fun g e => ?_
      exact hg.block g (own_in (h.row i u l h1 hl) e).1 (fun q => h.ng i u g h1 e q.symm)
    · rw [h.len, List.getElem?_append_right (Nat.le_refl _)] at hl
      simp at hl
      subst hl
      exact World.ownsRow_nil _ _ _ _
  · rcases hnew i u hu with h1 | ⟨rfl, rfl⟩
    · rcases hnew j u' hu' with h2 | ⟨rfl, rfl⟩
      · exact h.apart i j u u' g h1 h2 hug hug'
      · cases hug'
    · cases hug
  · rcases hnew i u hu with h1 | ⟨rfl, rfl⟩
    · rcases hat with e | e
      · rw [e]; exact h.ng i u g h1 hug
      · rw [e]
        intro q
        cases q
        obtain ⟨l, hl⟩ := h.at_ h1
        have := (own_in (h.row i u l h1 hl) hug).1
        omega
    · cases hug
/-- one more of a team -/
theorem Tms.grow {w w' : World} {base mg G n cap : Nat} {vs : List Value} {ks : List (ByteArray × Nat)} {L : List (List Nat)} (h : Tms w base mg (.slice (some ⟨G, 0, none⟩) n cap) vs ks L) {i : Nat} {u u' : Value} {l : List Nat} (hu : vs[i]? = some u) (hl : L[i]? = some l) (hg : w.grownBy w' u.ownBlock) (l' : List Nat)
    (hown : w'.ownsRow base 3 1 u' l'.length (nats l')) (hat : u'.ownBlock = u.ownBlock ∨ u'.ownBlock = some w.heap.size) :
    Tms (w'.setCell ⟨G, i, none⟩ u') base mg (.slice (some ⟨G, 0, none⟩) n cap) (vs.set i u') ks (L.set i l') ∧ w'.cell? ⟨G, i, none⟩ = some u ∧ w'.frozen? ⟨G, i, none⟩ = false := by
  have hG := (own_in h.own (g := G) rfl).1
  have hnG : u.ownBlock ≠ some G := fun e => h.ng i u G hu e rfl
  have hnG' : u'.ownBlock ≠ some G := by
    rcases hat with e | e
    · rw [e]; exact hnG
    · rw [e]; intro q; cases q; omega
  have hb : w'.heap[G]? = w.heap[G]? := hg.block G hG (fun e => hnG e.symm)
  have hown1 : w'.ownsRow base 23 1 (.slice (some ⟨G, 0, none⟩) n cap) vs.length vs := own_same h.own fun g e => by cases e; exact hb
  have hn : n = vs.length := by
    rcases h.own.2 with ⟨e, _⟩ | ⟨g', cap', cur, e, _⟩
    · cases e
    · simp only [Value.slice.injEq] at e; exact e.2.1
  subst hn
  have hset := hown1.stored i u'
  have hlt := (List.getElem?_eq_some_iff.1 hu).1
  have hmG : mg ≠ G := fun e => own_not_map h.map h.own (by rw [e]; rfl)
  have hother : ∀ (j : Nat) (x : Value) (l2 : List Nat), j ≠ i → vs[j]? = some x → L[j]? = some l2 → ∀ g, x.ownBlock = some g → (w'.setCell ⟨G, i, none⟩ u').heap[g]? = w.heap[g]? := fun j x l2 hj hx hl2 g hxg => by
    rw [heap_setCell_other _ _ _ _ (show g ≠ G from fun r => h.ng j x g hx hxg (by rw [r]; rfl))]
    exact hg.block g (own_in (h.row j x l2 hx hl2) hxg).1 (fun r => hj (h.apart j i x u g hx hu hxg r.symm))
  have hfresh : ∀ (j : Nat) (x : Value) (g : Nat), j ≠ i → vs[j]? = some x → x.ownBlock = some g → u'.ownBlock ≠ some g := fun j x g hj hx hxg => by
    rcases hat with e | e
    · rw [e]; intro q; exact hj (h.apart j i x u g hx hu hxg q)
    · rw [e]; intro q; cases q
      obtain ⟨l2, hl2⟩ := h.at_ hx
      have := (own_in (h.row j x l2 hx hl2) hxg).1
      omega
  refine ⟨⟨?_, h.mlo, ?_, by simp [h.len], fun j x l2 hx hl2 => ?_, fun j k x x' g hx hx' hxg hxg' => ?_, fun j x g hx hxg => ?_⟩, ?_, hown1.frozenAt i⟩
  · refine h.map.same ?_
    rw [heap_setCell_other _ _ _ _ hmG]
    exact hg.block mg h.map.lt (fun e => own_not_map h.map (h.row i u l hu hl) e.symm)
  · rw [List.length_set]; exact hset.1
  · by_cases e : j = i
    · subst e
      rw [List.getElem?_set_self hlt] at hx
      rw [List.getElem?_set_self (List.getElem?_eq_some_iff.1 hl).1] at hl2
      cases hx
      cases hl2
      exact own_same hown fun g q => heap_setCell_other _ _ _ _ (fun r => hnG' (by rw [q]; exact congrArg some r))
    · rw [List.getElem?_set_ne (Ne.symm e)] at hx hl2
      exact own_same (h.row j x l2 hx hl2) (hother j x l2 e hx hl2)
  · by_cases e : j = i
    · by_cases e' : k = i
      · rw [e, e']
      · subst e
        rw [List.getElem?_set_self hlt] at hx
        rw [List.getElem?_set_ne (Ne.symm e')] at hx'
        cases hx
        exact absurd hxg (hfresh k x' g e' hx' hxg')
    · rw [List.getElem?_set_ne (Ne.symm e)] at hx
      by_cases e' : k = i
      · subst e'
        rw [List.getElem?_set_self hlt] at hx'
        cases hx'
        exact absurd hxg' (hfresh j x g e hx hxg)
      · rw [List.getElem?_set_ne (Ne.symm e')] at hx'
        exact h.apart j k x x' g hx hx' hxg hxg'
  · by_cases e : j = i
    · subst e
      rw [List.getElem?_set_self hlt] at hx
      cases hx
      intro q
      cases q
      exact hnG' hxg
    · rw [List.getElem?_set_ne (Ne.symm e)] at hx
      exact h.ng j x g hx hxg
  · have := hown1.cellAt i (by omega)
    rw [this, hu]
end Go.Proofs.YtcnpmebihdonoaaGreatDoor
namespace Go.Proofs.YtcnpmebihdonoaaGreatDoor
open Go.RowKit Go.Lib
set_option linter.unusedSimpArgs false
set_option linter.unusedVariables false
/-- the nation of a starter -/
def natA (xs : List EntR) (i : Nat) : List UInt8 := ((xs[i]?).map fun x => x.na.toList).getD []
theorem natA_at {xs : List EntR} {i : Nat} {x : EntR} (h : xs[i]? = some x) : natA xs i = x.na.toList := by simp [natA, h]
theorem natO_eq (xs : List EntR) (p : List Nat) : natO xs p = p.map (natA xs) := rfl
theorem flatten_set {α : Type} (a : α) : ∀ (L : List (List α)) (j : Nat) (l : List α), L[j]? = some l → (L.set j (l ++ [a])).flatten.Perm (L.flatten ++ [a])
  | [], j, l, h => by simp at h
  | m :: L, 0, l, h => by
    simp at h
    subst h
    simp only [List.set_cons_zero, List.flatten_cons, List.append_assoc]
    exact List.Perm.append_left _ List.perm_append_comm
  | m :: L, j + 1, l, h => by
    simp at h
    have := flatten_set a L j l h
    simp only [List.set_cons_succ, List.flatten_cons, List.append_assoc]
    exact List.Perm.append_left _ this
/-- the teams of the first k starters -/
structure TmF (xs : List EntR) (k : Nat) (ks : List (ByteArray × Nat)) (L : List (List Nat)) : Prop where
  num : ks.length = L.length
  ix : ∀ (j : Nat) (p : ByteArray × Nat), ks[j]? = some p → p.2 = j
  perm : L.flatten.Perm (List.range k)
  nat : ∀ (j : Nat) (p : ByteArray × Nat) (l : List Nat), ks[j]? = some p → L[j]? = some l → ∀ a ∈ l, natA xs a = p.1.toList
  dis : ∀ (i j : Nat) (p q : ByteArray × Nat), ks[i]? = some p → ks[j]? = some q → p.1.toList = q.1.toList → i = j
  few : L.length ≤ k
theorem TmF.zero (xs : List EntR) : TmF xs 0 [] [] := ⟨rfl, fun j p h => by simp at h, List.Perm.refl _, fun j p l h => by simp at h, fun i j p q h => by simp at h, Nat.le_refl _⟩
theorem lookG_some {α : Type} {ks : List (ByteArray × α)} {k : ByteArray} {v : α} (h : lookG ks k = some v) : ∃ (j : Nat) (p : ByteArray × α), ks[j]? = some p ∧ p.1.toList = k.toList ∧ p.2 = v := by
  unfold lookG at h
  cases hf : ks.find? fun p => p.1.toList == k.toList with
  | none => rw [hf] at h; cases h
  | some p =>
    rw [hf] at h
    simp at h
    obtain ⟨j, hj⟩ := List.mem_iff_getElem?.1 (List.mem_of_find?_eq_some hf)
    exact ⟨j, p, hj, by simpa using List.find?_some hf, h⟩
theorem lookG_none {α : Type} {ks : List (ByteArray × α)} {k : ByteArray} (h : lookG ks k = none) : ∀ p ∈ ks, p.1.toList ≠ k.toList := by
  unfold lookG at h
  rw [Option.map_eq_none_iff, List.find?_eq_none] at h
  intro p hp e
  exact h p hp (by simpa using e)
theorem putG_none {α : Type} {k : ByteArray} (v : α) : ∀ {ks : List (ByteArray × α)}, lookG ks k = none → putG ks k v = ks ++ [(k, v)]
  | [], _ => rfl
  | p :: ks, h => by
    have h1 := lookG_none h p (by simp)
    have h2 : lookG ks k = none := by
      unfold lookG at h ⊢
      rw [Option.map_eq_none_iff] at h ⊢
      rw [List.find?_eq_none] at h ⊢
      exact fun q hq => h q (by simp [hq])
    have h3 : (p.1.toList == k.toList) = false := by simpa using h1
    unfold putG
    rw [h3, putG_none v h2]
    rfl
theorem TmF.old {xs : List EntR} {k : Nat} {ks : List (ByteArray × Nat)} {L : List (List Nat)} (h : TmF xs k ks L) {x : EntR} (hx : xs[k]? = some x) {j : Nat} (hl : lookG ks x.na = some j) : ∃ l, L[j]? = some l ∧ TmF xs (k + 1) ks (L.set j (l ++ [k])) := by
  obtain ⟨i, p, hp, hpk, hpj⟩ := lookG_some hl
  have hi := h.ix i p hp
  have hij : i = j := by omega
  subst hij
  have hlt := (List.getElem?_eq_some_iff.1 hp).1
  obtain ⟨l, hL⟩ : ∃ l, L[i]? = some l := ⟨L[i]'(by rw [← h.num]; exact hlt), List.getElem?_eq_getElem _⟩
  refine ⟨l, hL, by simp [h.num], h.ix, ?_, fun j q l2 hq hl2 a ha => ?_, h.dis, by rw [List.length_set]; have := h.few; omega⟩
  · rw [List.range_succ]
    exact (flatten_set k L i l hL).trans (h.perm.append_right _)
  · by_cases e : j = i
    · subst e
      rw [List.getElem?_set_self (List.getElem?_eq_some_iff.1 hL).1] at hl2
      cases hl2
      rcases List.mem_append.1 ha with h1 | h1
      · exact h.nat j q l hq hL a h1
      · simp at h1
        subst h1
        rw [hp] at hq
        cases hq
        rw [natA_at hx, hpk]
    · rw [List.getElem?_set_ne (Ne.symm e)] at hl2
      exact h.nat j q l2 hq hl2 a ha
theorem TmF.new {xs : List EntR} {k : Nat} {ks : List (ByteArray × Nat)} {L : List (List Nat)} (h : TmF xs k ks L) {x : EntR} (hx : xs[k]? = some x) (hl : lookG ks x.na = none) : TmF xs (k + 1) (ks ++ [(x.na, L.length)]) ((L ++ [[]]).set L.length ([] ++ [k])) := by
  have hn := lookG_none hl
  have e : (L ++ [[]]).set L.length ([] ++ [k]) = L ++ [[k]] := by
    rw [List.set_append_right _ _ (Nat.le_refl _), Nat.sub_self]
    rfl
  rw [e]
  have hnew : ∀ (i : Nat) (q : ByteArray × Nat), (ks ++ [(x.na, L.length)])[i]? = some q → ks[i]? = some q ∨ i = ks.length ∧ q = (x.na, L.length) := fun i u hu => by
    rcases Nat.lt_or_ge i ks.length with h1 | h1
    · rw [List.getElem?_append_left h1] at hu; exact .inl hu
    · rw [List.getElem?_append_right h1] at hu
      have h2 := (List.getElem?_eq_some_iff.1 hu).1
      simp at h2
      have h3 : i - ks.length = 0 := by omega
      rw [h3] at hu
      simp at hu
      exact .inr ⟨by omega, hu.symm⟩
  refine ⟨by simp [h.num], fun j q hq => ?_, ?_, fun j q l hq hl2 a ha => ?_, fun i j p q hp hq hpq => ?_, by have := h.few; simp; omega⟩
  · rcases hnew j q hq with h1 | ⟨rfl, rfl⟩
    · exact h.ix j q h1
    · exact h.num.symm
  · rw [List.flatten_append, List.range_succ]
    simpa using h.perm.append_right [k]
  · rcases hnew j q hq with h1 | ⟨rfl, rfl⟩
    · have hj := (List.getElem?_eq_some_iff.1 h1).1
      rw [List.getElem?_append_left (by rw [← h.num]; exact hj)] at hl2
      exact h.nat j q l h1 hl2 a ha
    · rw [h.num, List.getElem?_append_right (Nat.le_refl _)] at hl2
      simp at hl2
      subst hl2
      simp at ha
      subst ha
      exact natA_at hx
  · rcases hnew i p hp with h1 | ⟨rfl, rfl⟩
    · rcases hnew j q hq with h2 | ⟨rfl, rfl⟩
      · exact h.dis i j p q h1 h2 hpq
      · exact absurd hpq (hn p (List.mem_of_getElem? h1))
    · rcases hnew j q hq with h2 | ⟨rfl, rfl⟩
      · exact absurd hpq.symm (hn q (List.mem_of_getElem? h2))
      · rfl
/-- nobody of a team is of another team's nation; a team has one nation -/
theorem TmF.parted {xs : List EntR} {k : Nat} {ks : List (ByteArray × Nat)} {L : List (List Nat)} (h : TmF xs k ks L) : L.Pairwise (fun l m => ∀ a ∈ l, ∀ b ∈ m, natA xs a ≠ natA xs b) ∧ ∀ l ∈ L, ∀ a ∈ l, ∀ b ∈ l, natA xs a = natA xs b := by
  have at_ : ∀ (i : Nat) (hi : i < L.length), ∃ p, ks[i]? = some p := fun i hi => ⟨ks[i]'(by rw [h.num]; exact hi), List.getElem?_eq_getElem _⟩
  refine ⟨?_, fun l hl a ha b hb => ?_⟩
  · rw [List.pairwise_iff_getElem]
    intro i j hi hj hij a ha b hb e
    obtain ⟨p, hp⟩ := at_ i hi
    obtain ⟨q, hq⟩ := at_ j hj
    rw [h.nat i p _ hp (List.getElem?_eq_getElem hi) a ha, h.nat j q _ hq (List.getElem?_eq_getElem hj) b hb] at e
    have := h.dis i j p q hp hq e
    omega
  · obtain ⟨i, hi⟩ := List.mem_iff_getElem?.1 hl
    obtain ⟨p, hp⟩ := at_ i (List.getElem?_eq_some_iff.1 hi).1
    rw [h.nat i p l hp hi a ha, h.nat i p l hp hi b hb]
theorem TmF.le {xs : List EntR} {k : Nat} {ks : List (ByteArray × Nat)} {L : List (List Nat)} (h : TmF xs k ks L) : ∀ l ∈ L, l.length ≤ k := fun l hl => by
  have h1 := h.perm.length_eq
  rw [List.length_range] at h1
  rw [← h1]
  exact flat_le l L hl
where
  flat_le {α : Type} (l : List α) : ∀ L : List (List α), l ∈ L → l.length ≤ L.flatten.length
    | [], h => by simp at h
    | m :: L, h => by
      rw [List.flatten_cons, List.length_append]
      rcases List.mem_cons.1 h with rfl | h
      · omega
      · have := flat_le l L h
        omega
end Go.Proofs.YtcnpmebihdonoaaGreatDoor
namespace Go.Proofs.YtcnpmebihdonoaaGreatDoor
open Go.RowKit Go.Lib
set_option linter.unusedSimpArgs false
set_option linter.unusedVariables false
/-- how many the first k places give a group -/
def lenG (m k i : Nat) : Nat := k / m + if k / m % 2 = 1 then (if m - k % m ≤ i then 1 else 0) else (if i < k % m then 1 else 0)
theorem next_row {m k : Nat} (h : 0 < m) : (k % m + 1 < m ∧ (k + 1) / m = k / m ∧ (k + 1) % m = k % m + 1) ∨ (k % m + 1 = m ∧ (k + 1) / m = k / m + 1 ∧ (k + 1) % m = 0) := by
  have h1 := Nat.mod_lt k h
  have h2 := Nat.div_add_mod k m
  rcases Nat.lt_or_ge (k % m + 1) m with h3 | h3
  · refine .inl ⟨h3, ?_, ?_⟩
    · rw [← h2, show m * (k / m) + k % m + 1 = k % m + 1 + m * (k / m) by omega, Nat.add_mul_div_left _ _ h, Nat.div_eq_of_lt h3]
      rw [h2]; omega
    · rw [← h2, show m * (k / m) + k % m + 1 = k % m + 1 + m * (k / m) by omega, Nat.add_mul_mod_self_left, Nat.mod_eq_of_lt h3]
      rw [h2]
  · have h4 : k % m + 1 = m := by omega
    have h5 : k + 1 = m * (k / m + 1) := by rw [Nat.mul_add]; omega
    refine .inr ⟨h4, ?_, ?_⟩
    · rw [h5, Nat.mul_div_cancel_left _ h]
    · rw [h5, Nat.mul_mod_right]
theorem lenG_next {m k i : Nat} (h : 0 < m) (hi : i < m) : lenG m (k + 1) i = lenG m k i + if i = grpN m k then 1 else 0 := by
  have h1 := Nat.mod_lt k h
  unfold lenG grpN
  rcases next_row (k := k) h with ⟨h2, h3, h4⟩ | ⟨h2, h3, h4⟩
  · rw [h3, h4]
    rcases Nat.mod_two_eq_zero_or_one (k / m) with h5 | h5
    · rw [h5]
      simp only [show ¬ (0 : Nat) = 1 by omega, if_false]
      by_cases e1 : i < k % m
      · rw [if_pos (by omega), if_pos e1, if_neg (by omega)]
      · by_cases e2 : i = k % m
        · rw [if_pos (by omega), if_neg e1, if_pos e2]
        · rw [if_neg (by omega), if_neg e1, if_neg e2]
    · rw [h5]
      simp only [if_true]
      by_cases e1 : m - k % m ≤ i
      · rw [if_pos (by omega), if_pos e1, if_neg (by omega)]
      · by_cases e2 : i = m - 1 - k % m
        · rw [if_pos (by omega), if_neg e1, if_pos e2]
        · rw [if_neg (by omega), if_neg e1, if_neg e2]
  · rw [h3, h4]
    rcases Nat.mod_two_eq_zero_or_one (k / m) with h5 | h5
    · rw [show (k / m + 1) % 2 = 1 by omega, h5]
      simp only [show ¬ (0 : Nat) = 1 by omega, if_false, if_true]
      rw [if_neg (by omega)]
      by_cases e1 : i < k % m
      · rw [if_pos e1, if_neg (by omega)]
      · rw [if_neg e1, if_pos (by omega)]
    · rw [show (k / m + 1) % 2 = 0 by omega, h5]
      simp only [show ¬ (0 : Nat) = 1 by omega, if_false, if_true]
      rw [if_neg (by omega)]
      by_cases e1 : m - k % m ≤ i
      · rw [if_pos e1, if_neg (by omega)]
      · rw [if_neg e1, if_pos (by omega)]
theorem lenG_at {m k : Nat} (h : 0 < m) : lenG m k (grpN m k) = k / m := by
  have h1 := Nat.mod_lt k h
  unfold lenG grpN
  rcases Nat.mod_two_eq_zero_or_one (k / m) with h5 | h5
  · rw [h5]
    simp
  · rw [h5]
    simp only [if_true]
    rw [if_neg (by omega), Nat.add_zero]
theorem lenG_le (m k i : Nat) : k / m ≤ lenG m k i ∧ lenG m k i ≤ k / m + 1 := by
  unfold lenG
  split <;> split <;> omega
theorem grpL_facts {m : Nat} (h : 0 < m) (r : List Nat) : ∀ k, k ≤ r.length → (∀ i l, (grpL m r k)[i]? = some l → l.length = lenG m k i ∧ ∀ j a, l[j]? = some a → ∃ p, r[p]? = some a ∧ p / m = j) ∧ (grpL m r k).flatten.length = k
  | 0, _ => by
    refine ⟨fun i l hl => ?_, ?_⟩
    · unfold grpL at hl
      have : l = [] := (List.mem_replicate.1 (List.mem_of_getElem? hl)).2
      subst this
      refine ⟨?_, fun j a ha => by simp at ha⟩
      have := (List.getElem?_eq_some_iff.1 hl).1
      simp at this
      unfold lenG
      simp
      try omega
    · unfold grpL
      simp
  | k + 1, hk => by
    obtain ⟨ih, ihs⟩ := grpL_facts h r k (by omega)
    obtain ⟨a, ha⟩ : ∃ a, r[k]? = some a := ⟨r[k], List.getElem?_eq_getElem (by omega)⟩
    obtain ⟨l0, hl0⟩ : ∃ l, (grpL m r k)[grpN m k]? = some l := ⟨_, List.getElem?_eq_getElem (by rw [grpL_len]; exact grpN_lt h)⟩
    rw [grpL_put ha hl0]
    refine ⟨fun i l hl => ?_, ?_⟩
    · by_cases e : i = grpN m k
      · subst e
        rw [List.getElem?_set_self (List.getElem?_eq_some_iff.1 hl0).1] at hl
        cases hl
        obtain ⟨h1, h2⟩ := ih _ l0 hl0
        rw [lenG_next h (grpN_lt h), if_pos rfl]
        refine ⟨by simp [h1], fun j b hb => ?_⟩
        rcases Nat.lt_or_ge j l0.length with h3 | h3
        · rw [List.getElem?_append_left h3] at hb
          exact h2 j b hb
        · rw [List.getElem?_append_right h3] at hb
          have h4 := (List.getElem?_eq_some_iff.1 hb).1
          simp at h4
          have h5 : j - l0.length = 0 := by omega
          rw [h5] at hb
          simp at hb
          subst hb
          refine ⟨k, ha, ?_⟩
          rw [← lenG_at (k := k) h, ← h1]
          omega
      · rw [List.getElem?_set_ne (Ne.symm e)] at hl
        have hi : i < m := by have := (List.getElem?_eq_some_iff.1 hl).1; rwa [grpL_len] at this
        obtain ⟨h1, h2⟩ := ih i l hl
        rw [lenG_next h hi, if_neg e]
        exact ⟨h1, h2⟩
    · have := (flatten_set a (grpL m r k) _ l0 hl0).length_eq
      rw [this]
      simp [ihs]
theorem flat_take {L : List (List Nat)} {i : Nat} {l : List Nat} (h : L[i]? = some l) : (L.take (i + 1)).flatten.length = (L.take i).flatten.length + l.length := by
  rw [List.take_add_one, h]
  simp
theorem flat_take_le (L : List (List Nat)) (i : Nat) : (L.take i).flatten.length ≤ L.flatten.length := by
  have : L.flatten = (L.take i).flatten ++ (L.drop i).flatten := by rw [← List.flatten_append, List.take_append_drop]
  rw [this, List.length_append]
  omega
section
variable {α : Type} [DecidableEq α]
theorem pairsF_two (last : Option α) (x : α) (l : List α) : pairsF last (x :: l) = (if last = some x then 1 else 0) + pairsF (some x) l := rfl
theorem pairsF_rev : ∀ (l : List α), pairsF none l.reverse = pairsF none l
  | [] => rfl
  | x :: l => by
    have ih := pairsF_rev l
    rw [List.reverse_cons, pairsF_add, ih]
    have e : l.reverse.getLast?.or none = l.head? := by simp
    rw [e]
    cases l with
    | nil => simp [pairsF]
    | cons y l =>
      simp only [List.head?_cons, pairsF]
      by_cases h : y = x
      · subst h; simp; omega
      · have h2 : ¬ x = y := fun e => h e.symm
        simp [h, h2]
end
theorem eachI_none {E : Nat → Int → Int} : ∀ {xs : List Int} {k : Nat}, (∀ (i : Nat) (x : Int), xs[i]? = some x → E (k + i) x = 0) → eachI E xs k = 0
  | [], _, _ => rfl
  | y :: l, k, h => by
    unfold eachI
    rw [if_pos (by simpa using h 0 y rfl)]
    exact eachI_none fun i x hx => by
      have := h (i + 1) x (by simpa using hx)
      rwa [show k + (i + 1) = k + 1 + i by omega] at this
/-- a permutation is an order without an error -/
theorem perm_ordersE {n : Nat} {p : List Nat} (h : p.Perm (List.range n)) : ordersE n (p.map fun (i : Nat) => (i : Int)) = 0 := by
  have hl : p.length = n := by rw [h.length_eq, List.length_range]
  have hnd : p.Nodup := h.nodup_iff.2 List.nodup_range
  have h1 : eachI (ordE n (p.map fun (i : Nat) => (i : Int))) (p.map fun (i : Nat) => (i : Int)) 0 = 0 := eachI_none fun i x hx => by
    rw [Nat.zero_add, List.getElem?_map] at *
    cases hp : p[i]? with
    | none => rw [hp] at hx; cases hx
    | some a =>
      rw [hp] at hx
      simp at hx
      subst hx
      have ha : a < n := List.mem_range.1 (h.mem_iff.1 (List.mem_of_getElem? hp))
      unfold ordE twE
      have h2 : ((p.map fun (i : Nat) => (i : Int)).take i).any (fun z => (a : Int) == z) = false := by
        rw [List.any_eq_false]
        intro z hz
        rw [← List.map_take] at hz
        obtain ⟨b, hb, rfl⟩ := List.mem_map.1 hz
        simp
        intro e
        have e : a = b := by omega
        subst e
        obtain ⟨j, hj⟩ := List.mem_iff_getElem?.1 hb
        rw [List.getElem?_take] at hj
        split at hj
        · rename_i hji
          have := (List.getElem?_inj (List.getElem?_eq_some_iff.1 hj).1 hnd).1 (hj.trans hp.symm)
          omega
        · cases hj
      rw [h2, decide_eq_false (by omega), decide_eq_false (by omega)]
      rfl
  unfold ordersE
  rw [h1, List.length_map, hl, decide_eq_false (by omega)]
  rfl
theorem getD_set_ne {f : Array Nat} {a i b : Nat} (h : a ≠ b) : (f.setIfInBounds a i).getD b 0 = f.getD b 0 := by
  rw [Array.getD_eq_getD_getElem?, Array.getD_eq_getD_getElem?, Array.getElem?_setIfInBounds_ne h]
theorem rowP_of_own {w : World} {b g n c : Nat} {o : List Nat} (h : w.ownsRow b 3 1 (.slice (some ⟨g, 0, none⟩) n c) n (nats o)) (hn : o.length = n) : RowP w g o.toArray := by
  rcases h.2 with ⟨e, _⟩ | ⟨g', cap, cur, e, _, hcur, hle, _, hsz, htk⟩
  · cases e
  · simp only [Value.slice.injEq, Option.some.injEq, Addr.mk.injEq, and_true, true_and] at e
    obtain ⟨rfl, rfl⟩ := e
    refine ⟨cur, hcur, fun i hi => ?_⟩
    have hi' : i < o.length := by simpa using hi
    have h1 : (cur.toList.take (n * 1))[i]? = (nats o)[i]? := by rw [htk]
    rw [List.getElem?_take, if_pos (by omega), Array.getElem?_toList] at h1
    rw [h1]
    unfold nats
    simp [hi']
theorem natO_rev (xs : List EntR) (p : List Nat) : natO xs p.reverse = (natO xs p).reverse := by simp [natO_eq]
end Go.Proofs.YtcnpmebihdonoaaGreatDoor
