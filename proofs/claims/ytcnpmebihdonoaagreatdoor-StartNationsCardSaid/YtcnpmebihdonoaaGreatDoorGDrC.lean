/- Draws: the reference's. -/
import Derived.Test.YtcnpmebihdonoaaGreatDoorGSzG
import Derived.Test.YtcnpmebihdonoaaGreatDoorGLsH
import Derived.Test.YtcnpmebihdonoaaGreatDoorGOpN
import Derived.Laws.AppendOwn
import Derived.Test.YtcnpmebihdonoaaGreatDoorLsN
namespace Go.Proofs.YtcnpmebihdonoaaGreatDoor
open Go.RowKit Go.Lib
set_option linter.unusedSimpArgs false
set_option linter.unusedVariables false
/-- the first words of block g are these numbers -/
structure RowP (w : World) (g : Nat) (l : Array Nat) : Prop where
  mk' ::
  out : ∃ cur, w.heap[g]? = some (.cells cur 3 (0, 0)) ∧ ∀ i, i < l.size → cur[i]? = some (.int .i64 ((l.getD i 0 : Nat) : Int))
theorem RowP.cell {w : World} {g : Nat} {l : Array Nat} (h : RowP w g l) {i : Nat} (hi : i < l.size) : w.cell? ⟨g, i, none⟩ = some (.int .i64 ((l.getD i 0 : Nat) : Int)) := by
  obtain ⟨cur, h1, h2⟩ := h.out
  rw [cell_of_row w g i _ 3 (0, 0) h1]
  exact h2 i hi
theorem RowP.frozen {w : World} {g : Nat} {l : Array Nat} (h : RowP w g l) (i : Nat) : w.frozen? ⟨g, i, none⟩ = false := by
  obtain ⟨cur, h1, h2⟩ := h.out
  exact frozen_of_row w g i _ 3 h1
theorem RowP.set {w : World} {g : Nat} {l : Array Nat} (h : RowP w g l) (i x : Nat) (hi : i < l.size) : RowP (w.setCell ⟨g, i, none⟩ (.int .i64 (x : Int))) g (l.setIfInBounds i x) := by
  obtain ⟨cur, h1, h2⟩ := h.out
  refine ⟨cur.setIfInBounds i (.int .i64 (x : Int)), heap_setCell_same w g i _ 3 _ h1, fun j hj => ?_⟩
  rw [Array.size_setIfInBounds] at hj
  by_cases e : i = j
  · subst e
    have hc := (Array.getElem?_eq_some_iff.1 (h2 i hi)).1
    rw [Array.getElem?_setIfInBounds_self_of_lt hc]
    simp [Array.getD, hi]
  · rw [Array.getElem?_setIfInBounds_ne e, h2 j hj]
    simp [Array.getD, hj, Array.getElem_setIfInBounds, e]
theorem RowP.drew {w : World} {g : Nat} {l : Array Nat} (h : RowP w g l) : RowP w.drew g l := ⟨h.out⟩
def natC (n : Nat) : List Value := (List.range n).map fun x : Nat => Value.int .i64 (x : Int)
theorem natC_len (n : Nat) : (natC n).length = n := by simp [natC]
theorem natC_add (n : Nat) : natC (n + 1) = natC n ++ [.int .i64 (n : Int)] := by simp [natC, List.range_succ]
theorem cell_int (w : World) (x : Int) (T : TypeId) : ∀ (j : Nat) (u : Value), [Value.int .i64 x][j]? = some u → (w.alloc (.cells #[.int .i64 x] T)).cell? ((⟨w.heap.size, 0, none⟩ : Addr).add j) = some u := cell_one_new w (.int .i64 x) T
end Go.Proofs.YtcnpmebihdonoaaGreatDoor
namespace Go.Proofs.YtcnpmebihdonoaaGreatDoor
open Go.RowKit Go.Lib
set_option linter.unusedSimpArgs false
set_option linter.unusedVariables false
end Go.Proofs.YtcnpmebihdonoaaGreatDoor
namespace Go.Proofs.YtcnpmebihdonoaaGreatDoor
open Go.RowKit Go.Lib
set_option linter.unusedSimpArgs false
set_option linter.unusedVariables false
/-- the slice v reads as the integers xs -/
structure ReadsI (w : World) (v : Value) (xs : List Int) : Prop where
  mk' ::
  out : ∃ p cap, v = .slice p xs.length cap ∧ (0 < xs.length → ∃ g, p = some ⟨g, 0, none⟩ ∧ ∀ i x, xs[i]? = some x → w.cell? ⟨g, i, none⟩ = some (.int .i64 x))
theorem ReadsI.gr {w w' : World} {v : Value} {xs : List Int} (h : ReadsI w v xs) (k : Gr w w') : ReadsI w' v xs := by
  obtain ⟨⟨p, cap, rfl, hh⟩⟩ := h
  refine ⟨p, cap, rfl, fun h0 => ?_⟩
  obtain ⟨g, h1, h2⟩ := hh h0
  exact ⟨g, h1, fun i x hx => k.cell (h2 i x hx)⟩
theorem reads_of_owns {w : World} {base : Nat} {v : Value} {xs : List Int} (h : w.ownsRow base 3 1 v xs.length (ints xs)) : ReadsI w v xs := by
  rcases h.2 with ⟨rfl, h0⟩ | ⟨g, cap, cur, rfl, _⟩
  · exact ⟨none, 0, by rw [h0], fun h => by omega⟩
  · refine ⟨some ⟨g, 0, none⟩, cap, rfl, fun _ => ⟨g, rfl, fun i x hx => ?_⟩⟩
    have := h.cells (g := g) rfl i (.int .i64 x) (by simp [ints, hx])
    rwa [show (⟨g, 0, none⟩ : Addr).add i = ⟨g, i, none⟩ by unfold Addr.add; split <;> simp_all] at this
set_option maxHeartbeats 1000000 in
set_option maxRecDepth 100000 in
theorem same_pos (xs : List Int) (n g g2 c c2 : Nat) (w : World) (hn : xs.length = n) (ha : ∀ i x, xs[i]? = some x → w.cell? ⟨g, i, none⟩ = some (.int .i64 x)) (hb : ∀ i x, xs[i]? = some x → w.cell? ⟨g2, i, none⟩ = some (.int .i64 x)) (hs : n ≤ 1000) :
    Calls Tryz.prog 10 #[.slice (some ⟨g, 0, none⟩) n c, .slice (some ⟨g2, 0, none⟩) n c2] w fun e w' => e = .returned (.bool true) ∧ Gr w w' := by
  have HA := Lib.hid ha
  have HB := Lib.hid hb
  have HN := Lib.hid hn
  clear ha hb hn
  go_enter Tryz.func10, Tryz.ntmps10
  go_wp2_with fail
  go_loopg [5] n (fun gk s5 wr => ∃ k : Nat, s5 = .int .i64 k ∧ gk + k = n ∧ Gr w wr)
  case atStart => exact ⟨0, rfl, by omega, Gr.refl _⟩
  case round =>
    obtain ⟨k, rfl, hk, hg⟩ := hrel
    by_cases hlt : k < n
    · obtain ⟨x, hx⟩ : ∃ x, xs[k]? = some x := ⟨xs[k]'(by have := HN.out; omega), List.getElem?_eq_getElem _⟩
      have a0 : wr.cell? ⟨g, k, none⟩ = some (.int .i64 x) := hg.cell (HA.out k x hx)
      have b0 : wr.cell? ⟨g2, k, none⟩ = some (.int .i64 x) := hg.cell (HB.out k x hx)
      have hi : (k : Int) < (n : Int) := by omega
      clear hx
      go_wp2_with fail
      go_quiet (fail)
      go_wp2_with fail
      go_roundg (gk - 1)
      case measure => omega
      case rel => exact ⟨k + 1, by go_num, by omega, hg.drewN _⟩
    · have : k = n := by omega
      subst this
      go_wp2_with fail
      go_ret
      exact ⟨rfl, hg⟩
set_option maxRecDepth 100000 in
theorem same_nil (p p2 : Option Addr) (c c2 : Nat) (w : World) :
    Calls Tryz.prog 10 #[.slice p 0 c, .slice p2 0 c2] w fun e w' => e = .returned (.bool true) ∧ w = w' := by
  go_enter Tryz.func10, Tryz.ntmps10
  go_wp2_with fail
  refine wp_loop_rounds 1 ?_
  rw [rounds_succ]
  go_wp2_with fail
  go_ret
  exact ⟨rfl, rfl⟩
theorem same_c {xs : List Int} {v v2 : Value} {w : World} (h : ReadsI w v xs) (h2 : ReadsI w v2 xs) (hs : xs.length ≤ 1000) :
    Calls Tryz.prog 10 #[v, v2] w fun e w' => e = .returned (.bool true) ∧ Gr w w' := by
  obtain ⟨⟨p, cap, rfl, ha⟩⟩ := h
  obtain ⟨⟨p2, cap2, rfl, hb⟩⟩ := h2
  by_cases h0 : 0 < xs.length
  · obtain ⟨g, rfl, a⟩ := ha h0
    obtain ⟨g2, rfl, b⟩ := hb h0
    exact same_pos xs _ g g2 cap cap2 w rfl a b hs
  · rw [show xs.length = 0 by omega]
    refine (same_nil p p2 cap cap2 w).mono ?_
    rintro e w' ⟨rfl, rfl⟩
    exact ⟨rfl, Gr.refl _⟩
end Go.Proofs.YtcnpmebihdonoaaGreatDoor
namespace Go.Proofs.YtcnpmebihdonoaaGreatDoor
open Go.RowKit Go.Lib
set_option linter.unusedSimpArgs false
set_option linter.unusedVariables false
set_option maxHeartbeats 4000000 in
set_option maxRecDepth 100000 in
theorem list6_ok {xs : List Int} {v v2 : Value} {w : World} (h : ReadsI w v xs) (h2 : ReadsI w v2 xs) (hs : xs.length ≤ 1000) :
    Calls Tryz.prog 17 #[v, .int .i64 0, .int .i64 0, v2] w fun e w' => e = .returned (.bool true) ∧ Gr w w' := by
  have HS := Lib.hid (fun W hg => same_c (h.gr (w' := W) hg) (h2.gr hg) hs)
  clear h h2
  go_enter Tryz.func17, Tryz.ntmps17
  go_wp2_with fail
  refine (HS.out _ (Gr.refl _)).mono ?_
  rintro e w4 ⟨rfl, hg⟩
  go_wp2_with fail
  go_ret
  exact ⟨rfl, hg⟩
set_option maxHeartbeats 4000000 in
set_option maxRecDepth 100000 in
theorem list6_err (e : Int) (he : e ≠ 0) (w : World) :
    Calls Tryz.prog 17 #[.slice none 0 0, .int .i64 e, .int .i64 e, .slice none 0 0] w fun x w' => x = .returned (.bool true) ∧ w = w' := by
  have h1 : (e == 0) = false := by simpa using he
  have h2 : (e != 0) = true := by simpa [bne] using h1
  go_enter Tryz.func17, Tryz.ntmps17
  go_wp2_with fail
  go_ret
  exact ⟨by simp, rfl⟩

/-- awake() holds from every later world -/
def AwakeOK (w : World) : Prop := ∀ W, Gr w W → Calls Tryz.prog 6 #[] W fun e w' => e = .returned (.bool true) ∧ Gr W w'
def natI (l : List Nat) : List Int := l.map fun (a : Nat) => (a : Int)
theorem natI_len (l : List Nat) : (natI l).length = l.length := List.length_map _
theorem natI_ints (l : List Nat) : ints (natI l) = nats l := by
  unfold ints natI nats
  rw [List.map_map]
  rfl
theorem reads_ord {w : World} {p : Option Addr} {n c : Nat} {r : List Nat} (hn : r.length = n) (h : 0 < n → ∃ g, p = some ⟨g, 0, none⟩ ∧ OrdAt w g r) : ReadsI w (.slice p n c) (natI r) := by
  refine ⟨p, c, by rw [natI_len, hn], fun h0 => ?_⟩
  rw [natI_len, hn] at h0
  obtain ⟨g, e, ha⟩ := h h0
  refine ⟨g, e, fun i x hx => ?_⟩
  unfold natI at hx
  rw [List.getElem?_map] at hx
  cases hr : r[i]? with
  | none => rw [hr] at hx; cases hx
  | some a => rw [hr] at hx; cases hx; exact ha.at_ i a hr
theorem GRow.reads {w : World} {base G : Nat} {vs : List Value} {L : List (List Nat)} (h : GRow w base G vs L) {i : Nat} {v : Value} {l : List Nat} (hv : vs[i]? = some v) (hl : L[i]? = some l) : ReadsI w v (natI l) :=
  reads_of_owns (base := base) (by rw [natI_len, natI_ints]; exact h.own i v l hv hl)
theorem ord_of_own {w : World} {base n : Nat} {u : Value} {r : List Nat} (h : w.ownsRow base 3 1 u n (nats r)) : ∃ p c, u = .slice p n c ∧ (0 < n → ∃ g, p = some ⟨g, 0, none⟩ ∧ OrdAt w g r) := by
  rcases Nat.eq_zero_or_pos n with h0 | h0
  · obtain ⟨p, c, e, _⟩ := row_shape h
    exact ⟨p, c, e, fun h => by omega⟩
  · obtain ⟨g, c, e, _, _, _, hc⟩ := own_at h h0
    exact ⟨_, c, e, fun _ => ⟨g, rfl, ⟨fun i a ha => hc i _ (by unfold nats; rw [List.getElem?_map, ha]; rfl)⟩⟩⟩
set_option maxHeartbeats 4000000 in
set_option maxRecDepth 100000 in
theorem groups_bad1 (z m key : Int) (v : Value) (w : World) (HCk : ∀ W, Gr w W → Calls Tryz.prog 41 #[v] W fun e w' => e = .returned (.int .i64 z) ∧ Gr W w') (h : firstE [z, outE m 1 16] ≠ 0) :
    Calls Tryz.prog 21 #[v, .int .i64 m, .int .i64 key] w fun e w' => e = .returned (.tuple #[.slice none 0 0, .int .i64 (firstE [z, outE m 1 16])]) ∧ Gr w w' := by
  obtain ⟨e2, h2', H2⟩ := range_e m 1 16
  rw [← h2'] at h ⊢
  replace HCk := Lib.hid HCk
  replace H2 := Lib.hid H2
  have HF := Lib.hid (fun b c W (s0 : W.cell? ⟨b, 0, none⟩ = some (.int .i64 z)) (s1 : W.cell? ⟨b, 1, none⟩ = some (.int .i64 e2)) => first_pair z e2 b c W s0 s1)
  generalize firstE [z, e2] = T at *
  have q1 : (T == 0) = false := by simpa using h
  have q2 : (T != 0) = true := by simpa [bne] using q1
  clear h2' h
  go_enter Tryz.func21, Tryz.ntmps21
  go_wp2_with fail
  refine (HCk.out _ (Gr.refl w)).mono ?_
  rintro e W1 ⟨rfl, g1⟩
  go_wp2_with fail
  refine (H2.out _).mono ?_
  rintro e w' ⟨rfl, rfl⟩
  obtain ⟨W2, hW2, g2, s0, s1⟩ := box2 W1 (.int .i64 z) (.int .i64 e2) 28
  go_wp2_with fail
  refine (HF.out _ _ _ s0 s1).mono ?_
  rintro e w' ⟨rfl, rfl⟩
  clear s0 s1 hW2
  have g3 := g1.trans g2
  go_wp2_with fail
  exact bodyPost_ret (v := .tuple #[.slice none 0 0, .int .i64 T]) (by simp [results, Tryz.results21, go_sem]) rfl ⟨rfl, g3⟩
set_option maxHeartbeats 4000000 in
set_option maxRecDepth 100000 in
theorem groups_bad2 (E m key : Int) (v : Value) (w : World) (HCk : ∀ W, Gr w W → Calls Tryz.prog 41 #[v] W fun e w' => e = .returned (.int .i64 0) ∧ Gr W w') (h0 : outE m 1 16 = 0) (h : E ≠ 0)
    (HSd : ∀ W, Gr w W → Calls Tryz.prog 51 #[v, .int .i64 key] W fun e w' => e = .returned (.tuple #[.slice none 0 0, .int .i64 E]) ∧ Gr W w') :
    Calls Tryz.prog 21 #[v, .int .i64 m, .int .i64 key] w fun e w' => e = .returned (.tuple #[.slice none 0 0, .int .i64 E]) ∧ Gr w w' := by
  obtain ⟨e2, h2', H2⟩ := range_e m 1 16
  rw [h0] at h2'
  subst h2'
  replace HCk := Lib.hid HCk
  replace HSd := Lib.hid HSd
  replace H2 := Lib.hid H2
  have HF := Lib.hid (fun b c W (s0 : W.cell? ⟨b, 0, none⟩ = some (.int .i64 0)) (s1 : W.cell? ⟨b, 1, none⟩ = some (.int .i64 0)) => first_pair 0 0 b c W s0 s1)
  have q1 : (E == 0) = false := by simpa using h
  have q2 : (E != 0) = true := by simpa [bne] using q1
  clear h
  go_enter Tryz.func21, Tryz.ntmps21
  go_wp2_with fail
  refine (HCk.out _ (Gr.refl w)).mono ?_
  rintro e W1 ⟨rfl, g1⟩
  go_wp2_with fail
  refine (H2.out _).mono ?_
  rintro e w' ⟨rfl, rfl⟩
  obtain ⟨W2, hW2, g2, s0, s1⟩ := box2 W1 (.int .i64 0) (.int .i64 0) 28
  go_wp2_with fail
  refine (HF.out _ _ _ s0 s1).mono ?_
  rintro e w' ⟨rfl, rfl⟩
  clear s0 s1 hW2
  go_wp2_with fail
  refine (HSd.out _ (g1.trans g2)).mono ?_
  rintro e W3 ⟨rfl, g3⟩
  replace g3 := (g1.trans g2).trans g3
  go_wp2_with fail
  exact bodyPost_ret (v := .tuple #[.slice none 0 0, .int .i64 E]) (by simp [results, Tryz.results21, go_sem]) rfl ⟨rfl, g3⟩
end Go.Proofs.YtcnpmebihdonoaaGreatDoor
namespace Go.Proofs.YtcnpmebihdonoaaGreatDoor
open Go.RowKit Go.Lib
set_option linter.unusedSimpArgs false
set_option linter.unusedVariables false
def entC (x : EntR) : List Value := [.string x.nm, .string x.na, .int .i64 x.sd]
def entCs (xs : List EntR) : List Value := xs.flatMap entC
theorem entCs_len (xs : List EntR) : (entCs xs).length = xs.length * 3 := by
  induction xs with
  | nil => rfl
  | cons x xs ih => simp only [entCs, List.flatMap_cons, List.length_append, List.length_cons] at *; rw [ih]; simp [entC]; omega
theorem entCs_add (xs : List EntR) (x : EntR) : entCs (xs ++ [x]) = entCs xs ++ entC x := by simp [entCs]
theorem entCs_take {xs : List EntR} {k : Nat} {x : EntR} (h : xs[k]? = some x) : entCs (xs.take (k + 1)) = entCs (xs.take k) ++ entC x := by
  rw [List.take_add_one, h]
  simp [entCs]
theorem entCs_at {xs : List EntR} {i : Nat} {x : EntR} (h : xs[i]? = some x) (j : Nat) (hj : j < 3) : (entCs xs)[i * 3 + j]? = (entC x)[j]? := by
  induction xs generalizing i with
  | nil => simp at h
  | cons y ys ih =>
    have e : entCs (y :: ys) = entC y ++ entCs ys := rfl
    rw [e]
    cases i with
    | zero =>
      simp only [List.getElem?_cons_zero, Option.some.injEq] at h
      subst h
      rw [show 0 * 3 + j = j by omega, List.getElem?_append_left (by simp [entC]; omega)]
    | succ i =>
      rw [List.getElem?_append_right (by simp [entC]; omega)]
      have := ih (i := i) (by simpa using h)
      rw [← this]
      congr 1
      simp [entC]; omega
theorem EntAts_of_owns {w : World} {base : Nat} {v : Value} {xs : List EntR} {T : TypeId} {n : Nat} (hn : xs.length = n) (h : w.ownsRow base T 3 v n (entCs xs)) : EntAts w v xs := by
  subst hn
  rcases h.2 with ⟨rfl, h0⟩ | ⟨g, cap, cur, rfl, _, _, hle, hmx, _, _⟩
  · exact ⟨none, 0, by rw [h0], ⟨by omega, by unfold maxLen; omega⟩, fun h => by omega⟩
  · refine ⟨some ⟨g, 0, none⟩, cap, rfl, ⟨hle, hmx⟩, fun _ => ⟨g, 0, rfl, fun i x hx => ?_⟩⟩
    have e : ∀ j, (⟨g, 0, none⟩ : Addr).add j = ⟨g, j, none⟩ := fun j => by unfold Addr.add; split <;> simp_all
    have c0 := h.cells (g := g) rfl (i * 3 + 0) (.string x.nm) (by rw [entCs_at hx 0 (by omega)]; rfl)
    have c1 := h.cells (g := g) rfl (i * 3 + 1) (.string x.na) (by rw [entCs_at hx 1 (by omega)]; rfl)
    have c2 := h.cells (g := g) rfl (i * 3 + 2) (.int .i64 x.sd) (by rw [entCs_at hx 2 (by omega)]; rfl)
    rw [e] at c0 c1 c2
    exact ⟨by simpa using c0, by simpa using c1, by simpa using c2⟩
theorem cell_entC (w : World) (x : EntR) (T : TypeId) : ∀ (j : Nat) (u : Value), (entC x)[j]? = some u → (w.alloc (.cells #[.string x.nm, .string x.na, .int .i64 x.sd] T)).cell? ((⟨w.heap.size, 0, none⟩ : Addr).add j) = some u := by
  intro j u h
  unfold entC at h
  have e : (⟨w.heap.size, 0, none⟩ : Addr).add j = ⟨w.heap.size, j, none⟩ := by unfold Addr.add; split <;> simp_all
  rw [e]
  rcases j with _ | _ | _ | j
  · simp at h; subst h; exact cell_new w #[.string x.nm, .string x.na, .int .i64 x.sd] T 0 (by simp)
  · simp at h; subst h; exact cell_new w #[.string x.nm, .string x.na, .int .i64 x.sd] T 1 (by simp)
  · simp at h; subst h; exact cell_new w #[.string x.nm, .string x.na, .int .i64 x.sd] T 2 (by simp)
  · simp at h
/-- what the test of sizes returns -/
structure ShortS (e : Ending) (n m : Nat) : Prop where
  mk' ::
  out : ∃ r, e = .returned (.bool r) ∧ (r = true → (n ≤ m ∨ 160 < n) ∧ n ≤ 162)
set_option maxHeartbeats 1000000 in
set_option maxRecDepth 100000 in
theorem shortEnts_c {v : Value} {xs : List EntR} {w : World} (m : Nat) (hm : m ≤ 160) (h : EntAts w v xs) :
    Calls Tryz.prog 7 #[v, .int .i64 m] w fun e w' => ShortS e xs.length m ∧ w = w' := by
  obtain ⟨⟨p, cap, rfl, ⟨hcap, hmx⟩, hh⟩⟩ := h
  have hnm := Nat.le_trans hcap hmx
  unfold maxLen at hnm
  by_cases hA : (m < xs.length ∧ xs.length ≤ 160) ∨ 162 < xs.length
  · clear hh
    generalize xs.length = n at *
    rcases hA with ⟨h1, h2⟩ | h1
    · have q1 : (m : Int) < n := by omega
      have q2 : (n : Int) ≤ 160 := by omega
      go_enter Tryz.func7, Tryz.ntmps7
      go_wp2_with fail
      go_ret
      exact ⟨⟨false, rfl, fun h => (by cases h)⟩, rfl⟩
    · have q1 : (m : Int) < n := by omega
      have q2 : ¬ (n : Int) ≤ 160 := by omega
      have q3 : (162 : Int) < n := by omega
      go_enter Tryz.func7, Tryz.ntmps7
      go_wp2_with fail
      go_ret
      exact ⟨⟨false, rfl, fun h => (by cases h)⟩, rfl⟩
  have hG : (xs.length ≤ m ∨ 160 < xs.length) ∧ xs.length ≤ 162 := by omega
  have HG := Lib.hid hG
  have HX := Lib.hid (fun k (h : k < xs.length) => (show ∃ x, xs[k]? = some x from ⟨xs[k]'(by omega), List.getElem?_eq_getElem _⟩))
  have HH := Lib.hid hh
  have q3 : ¬ (162 : Int) < xs.length := by omega
  clear hh hmx hA
  have hq : ((m : Int) < xs.length ∧ ¬ (xs.length : Int) ≤ 160) ∨ ¬ (m : Int) < xs.length := by omega
  clear hG
  generalize xs.length = n at *
  rcases hq with ⟨q1, q2⟩ | q1
  all_goals
    go_enter Tryz.func7, Tryz.ntmps7
    go_wp2_with fail
    go_loopg [5] n (fun gk s5 wr => ∃ i : Nat, s5 = .int .i64 i ∧ gk + i = n ∧ wr = w)
    case atStart => exact ⟨0, rfl, by omega, rfl⟩
    case round =>
      obtain ⟨i, rfl, hi, rfl⟩ := hrel
      by_cases hlt : i < n
      · obtain ⟨x, hx⟩ := HX.out i hlt
        obtain ⟨b, off, rfl, hc⟩ := HH.out (by omega)
        obtain ⟨c0, c1, c2⟩ := hc i x hx
        have hi2 : (i : Int) < n := by omega
        clear hx hc
        rcases Nat.lt_or_ge 40 x.nm.size with hs0 | hs0
        · go_wp2_with fail
          go_ret
          exact ⟨⟨false, rfl, fun h => (by cases h)⟩, rfl⟩
        rcases Nat.lt_or_ge 40 x.na.size with hs1 | hs1
        · go_wp2_with fail
          go_ret
          exact ⟨⟨false, rfl, fun h => (by cases h)⟩, rfl⟩
        go_wp2_with fail
        go_roundg (gk - 1)
        case measure => omega
        case rel => exact ⟨i + 1, by go_num, by omega, rfl⟩
      · obtain rfl : i = n := by omega
        go_wp2_with fail
        go_ret
        exact ⟨⟨true, rfl, fun _ => HG.out⟩, rfl⟩
theorem infoEnt : (Tryz.prog.info? 52).map (fun i => (i.zero, i.size, i.bytes)) = some (some (.agg #[.string ⟨#[]⟩, .string ⟨#[]⟩, .int .i64 0]), 3, 40) := by kernel_rfl
set_option maxHeartbeats 1000000 in
set_option maxRecDepth 100000 in
theorem ents_pos (xs : List EntR) (n b off cap : Nat) (w : World) (hn : xs.length = n) (hb : n * 40 ≤ 140737488355328) (hc : ∀ i x, xs[i]? = some x → EntAt w b (off + i * 3) x) :
    Calls Tryz.prog 5 #[.slice (some ⟨b, off, none⟩) n cap] w fun e w' => ∃ v, e = .returned v ∧ w'.ownsRow w.heap.size 52 3 v n (entCs xs) ∧ Gr w w' := by
  obtain ⟨i0, hi, hz0, hz1, hz2⟩ := info_parts infoEnt
  have HC := Lib.hid hc
  have HN := Lib.hid hn
  have HB := Lib.hid hb
  have hnm : n ≤ 9223372036854775807 := by omega
  clear hc hn hb
  go_enter Tryz.func5, Tryz.ntmps5
  go_wp2_with fail
  go_loopw [3, 4] (fun v i wr => ∃ k : Nat, k ≤ n ∧ i = .int .i64 k ∧ wr.ownsRow w.heap.size 52 3 v k (entCs (xs.take k)) ∧ Below w.heap.size w wr) (fun _ i _ => n - (intOf i).toNat)
  case atStart => exact ⟨0, Nat.zero_le _, rfl, World.ownsRow_nil _ _ _ _, Below.refl _ _⟩
  case round =>
    obtain ⟨k, hk, rfl, hown, hnx⟩ := hrel
    have hsize := hnx.size
    by_cases hkN : k < n
    · obtain ⟨x, hx⟩ : ∃ x, xs[k]? = some x := ⟨xs[k]'(by have := HN.out; omega), List.getElem?_eq_getElem _⟩
      obtain ⟨c0, c1, c2⟩ := (HC.out k x hx).gr hnx
      have HQ := Lib.hid (entCs_take hx)
      have HLn := Lib.hid (entCs_len (xs.take k))
      have HT := Lib.hid (show (xs.take k).length = k by rw [List.length_take]; have := HN.out; omega)
      have hi2 : (k : Int) < n := by omega
      clear hx
      go_wp2_with (first
        | (at_builtin; refine wpList_append_own _ rfl _ _ 24 rfl w.heap.size 52 i0 (.agg #[.string ⟨#[]⟩, .string ⟨#[]⟩, .int .i64 0]) 3 40 Tryz.underlying24 hi hz0 hz1 hz2 rfl (by decide) _ _ _ rfl (hown.alloc _) ⟨wr.heap.size, 0, none⟩ 1 1 (entC x) rfl rfl (cell_entC _ _ _) (by intro u hu; simp [entC] at hu; rcases hu with rfl | rfl | rfl <;> rfl) (by have := HB.out; unfold maxLen; omega) (by have := HB.out; omega) (by simp; omega) ?_; intro v1 w1 hown1 hgrow1 hnil1))
      go_roundw
      case rel =>
        exact ⟨k + 1, by omega, by go_num, by rw [HQ.out]; exact hown1, (hnx.alloc hsize _).grown hgrow1 (by simp; omega) (fun j hj => (hown.lt j hj).1)⟩
      case measure => simp [intOf]; omega
    · have hkk : k = n := by omega
      subst hkk
      rw [List.take_of_length_le (by have := HN.out; omega)] at hown
      go_wp2_with fail
      go_ret
      exact ⟨_, rfl, hown, hnx⟩
theorem ents_c {v : Value} {xs : List EntR} {w : World} (h : EntAts w v xs) (hb : xs.length * 40 ≤ 140737488355328) :
    Calls Tryz.prog 5 #[v] w fun e w' => ∃ v, e = .returned v ∧ EntAts w' v xs ∧ Gr w w' := by
  obtain ⟨⟨p, cap, rfl, _, hh⟩⟩ := h
  rcases Nat.eq_zero_or_pos xs.length with h0 | h0
  · have hx : xs = [] := List.eq_nil_of_length_eq_zero h0
    subst hx
    go_enter Tryz.func5, Tryz.ntmps5
    go_wp2_with fail
    refine wp_loop_rounds 2 ?_
    rw [rounds_succ]
    go_wp2_with fail
    go_ret
    exact ⟨_, rfl, ⟨none, 0, rfl, ⟨by simp, by unfold maxLen; omega⟩, fun h => absurd h (by simp)⟩, Gr.refl _⟩
  · obtain ⟨b, off, rfl, hc⟩ := hh h0
    refine (ents_pos xs _ b off cap w rfl hb hc).mono ?_
    rintro e w' ⟨v, rfl, ho, hg⟩
    exact ⟨v, rfl, EntAts_of_owns rfl ho, hg⟩
end Go.Proofs.YtcnpmebihdonoaaGreatDoor
