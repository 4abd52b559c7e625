/- ResultRounds: the stable sort keeps the order of equal ranks; who goes on, rank by rank. Plain. -/
import Derived.Test.YtnbboheaheicnaaGreatDoorOrMN
import Derived.Test.YtnbboheaheicnaaGreatDoorOpN
import Derived.Laws.AppendOwn
namespace Go.Proofs.YtnbboheaheicnaaGreatDoor
open Go.RowKit Go.Lib
set_option linter.unusedSimpArgs false
set_option linter.unusedVariables false
theorem set_two {α : Type} (A B : List α) (x y : α) : ((A ++ x :: y :: B).set (A.length + 1) x).set A.length y = A ++ y :: x :: B := by
  rw [List.set_append_right _ _ (by omega), List.set_append_right _ _ (by omega), show A.length + 1 - A.length = 1 by omega, Nat.sub_self]
  rfl
open Go.Sort in
theorem swp_filter (d : Array PlR) (j : Nat) (hj : j + 1 < d.size) (p : PlR → Bool) (h : ¬ (p d[j + 1]! = true ∧ p d[j]! = true)) : (swp d (j + 1) j).toList.filter p = d.toList.filter p := by
  obtain ⟨l⟩ := d
  simp only [List.size_toArray] at hj
  have e1 : (⟨l⟩ : Array PlR)[j + 1]! = l[j + 1]'hj := by rw [getElem!_pos _ _ (by simpa using hj)]; rfl
  have e2 : (⟨l⟩ : Array PlR)[j]! = l[j]'(by omega) := by rw [getElem!_pos _ _ (by simp; omega)]; rfl
  rw [e1, e2] at h
  unfold swp
  rw [e1, e2]
  have hsp : l = l.take j ++ l[j]'(by omega) :: l[j + 1]'hj :: l.drop (j + 2) := by
    rw [← List.drop_eq_getElem_cons hj, ← List.drop_eq_getElem_cons (by omega), List.take_append_drop]
  have hlen : (l.take j).length = j := by rw [List.length_take]; omega
  have hs2 : (((⟨l⟩ : Array PlR).setIfInBounds (j + 1) (l[j]'(by omega))).setIfInBounds j (l[j + 1]'hj)).toList = l.take j ++ l[j + 1]'hj :: l[j]'(by omega) :: l.drop (j + 2) := by
    have h2 := set_two (l.take j) (l.drop (j + 2)) (l[j]'(by omega)) (l[j + 1]'hj)
    rw [hlen, ← hsp] at h2
    simpa using h2
  rw [hs2]
  conv => rhs; rw [show (⟨l⟩ : Array PlR).toList = l.take j ++ l[j]'(by omega) :: l[j + 1]'hj :: l.drop (j + 2) from hsp]
  rw [List.filter_append, List.filter_append]
  congr 1
  clear hs2 hsp e1 e2
  generalize l[j]'(by omega) = x at *
  generalize l[j + 1]'hj = y at *
  by_cases h1 : p y = true
  · have h2 : ¬ p x = true := fun h2 => h ⟨h1, h2⟩
    rw [List.filter_cons_of_pos h1, List.filter_cons_of_neg h2, List.filter_cons_of_neg h2, List.filter_cons_of_pos h1]
  · by_cases h2 : p x = true
    · rw [List.filter_cons_of_neg h1, List.filter_cons_of_pos h2, List.filter_cons_of_pos h2, List.filter_cons_of_neg h1]
    · rw [List.filter_cons_of_neg h1, List.filter_cons_of_neg h2, List.filter_cons_of_neg h2, List.filter_cons_of_neg h1]
open Go.Sort in
theorem insInner_filter (r : Int) : ∀ (j : Nat) (d : Array PlR), j < d.size → (insInner (ltOf cmpP) 0 j d).toList.filter (fun p => p.rk == r) = d.toList.filter (fun p => p.rk == r)
  | 0, d, _ => rfl
  | j + 1, d, h => by
    unfold insInner
    split
    · rename_i hc
      simp only [Bool.and_eq_true] at hc
      have hlt := hc.2
      rw [lt_pl, decide_eq_true_eq] at hlt
      rw [insInner_filter r j _ (by rw [size_swp]; omega)]
      exact swp_filter d j h _ (fun ⟨a, b⟩ => by simp only [beq_iff_eq] at a b; omega)
    · rfl
open Go.Sort in
theorem insInner_size : ∀ (j : Nat) (d : Array PlR), (insInner (ltOf cmpP) 0 j d).size = d.size
  | 0, d => rfl
  | j + 1, d => by
    unfold insInner
    split
    · rw [insInner_size j, size_swp]
    · rfl
open Go.Sort in
theorem insOuter_filter (r : Int) (b : Nat) : ∀ (k i : Nat) (d : Array PlR), b - i = k → b ≤ d.size → (insOuter (ltOf cmpP) 0 b i d).toList.filter (fun p => p.rk == r) = d.toList.filter (fun p => p.rk == r)
  | 0, i, d, hk, _ => by
    unfold insOuter
    rw [if_neg (by omega)]
  | k + 1, i, d, hk, hb => by
    unfold insOuter
    rw [if_pos (by omega), insOuter_filter r b k (i + 1) _ (by omega) (by rw [insInner_size]; exact hb)]
    exact insInner_filter r i d (by omega)
/-- the stable sort keeps the order of those with one rank -/
theorem srtP_filter (ps : List PlR) (r : Int) : (srtP ps).filter (fun p => p.rk == r) = ps.filter (fun p => p.rk == r) := by
  unfold srtP Sort.insertionSort
  rw [insOuter_filter r _ _ _ _ rfl (by simp)]
/-- of a sorted list: those up to a rank, and those at the next one -/
theorem sorted_next {m : Int} : ∀ (ps : List PlR), ps.Pairwise (fun a b => a.rk ≤ b.rk) → (ps.filter fun p => decide (p.rk ≤ m + 1)) = (ps.filter fun p => decide (p.rk ≤ m)) ++ ps.filter (fun p => p.rk == m + 1)
  | [], _ => rfl
  | p :: ps, h => by
    rw [List.pairwise_cons] at h
    have ih := sorted_next (m := m) ps h.2
    by_cases h1 : p.rk ≤ m
    · rw [List.filter_cons_of_pos (by simp; omega), List.filter_cons_of_pos (by simpa using h1), List.filter_cons_of_neg (by simp; omega), ih]
      rfl
    · have hnil : (ps.filter fun q => decide (q.rk ≤ m)) = [] := by
        rw [List.filter_eq_nil_iff]
        intro q hq
        have := h.1 q hq
        simp; omega
      rw [hnil] at ih
      by_cases h2 : p.rk = m + 1
      · rw [List.filter_cons_of_pos (by simp; omega), List.filter_cons_of_neg (by simpa using h1), List.filter_cons_of_pos (by simpa using h2), ih, hnil]
        rfl
      · rw [List.filter_cons_of_neg (by simp; omega), List.filter_cons_of_neg (by simpa using h1), List.filter_cons_of_neg (by simpa using h2), ih, hnil]
/-- the names at a rank, in their order -/
def atRank (ps : List PlR) (r : Int) : List ByteArray := (ps.filter fun p => p.rk == r).map fun p => p.nm
theorem goOn_next (m : Int) (ps : List PlR) : goOn (m + 1) (srtP ps) = goOn m (srtP ps) ++ atRank ps (m + 1) := by
  unfold goOn atRank
  rw [sorted_next _ (srtP_pairwise ps), List.map_append, srtP_filter]
theorem goOn_zero {ps : List PlR} (h : ∀ p ∈ ps, 1 ≤ p.rk) : goOn 0 (srtP ps) = [] := by
  unfold goOn
  have : ((srtP ps).filter fun p => decide (p.rk ≤ 0)) = [] := by
    rw [List.filter_eq_nil_iff]
    intro q hq
    have := h q ((srtP_spec ps).1.mem_iff.1 hq)
    simp; omega
  rw [this]; rfl
/-- behind the greatest rank nobody goes on -/
theorem goOn_more {ps : List PlR} {n : Nat} (h : ∀ p ∈ ps, p.rk ≤ n) (m : Int) (hm : (n : Int) ≤ m) : goOn m (srtP ps) = goOn n (srtP ps) := by
  unfold goOn
  congr 1
  apply List.filter_congr
  intro q hq
  have := h q ((srtP_spec ps).1.mem_iff.1 hq)
  rw [decide_eq_true (by omega), decide_eq_true (by omega)]
theorem gradeZ_fine {l : List UInt8} (h : l.isEmpty = true) : gradeZ l = 0 := by
  have : l = [] := by simpa using h
  subst this; rfl
/-- nobody with a state is ahead of one without -/
theorem cmpB_fine {c b : Bare} (hb : b.st.toList.isEmpty = true) (hc : resE c.nm c.st c.xs = 0) (h : cmpB c b < 0) : c.st.toList.isEmpty = true := by
  cases hs : c.st.toList.isEmpty
  · exfalso
    have h1 := (resE_zero hc).1
    have hg := gradeZ_pos hs h1
    unfold cmpB ordZ at h
    rw [gradeZ_fine hb] at h
    rcases cmpZ_cases (gradeZ c.st.toList) 0 with ⟨h2, e⟩ | ⟨h2, e⟩ | ⟨h2, e⟩
    · omega
    · omega
    · rw [e] at h
      simp [firstE] at h
  · rfl
/-- among those with values the ranks are the same as among all -/
theorem rankB_fine {bs : List Bare} (hV : ValidB bs) {b : Bare} (hb : b.st.toList.isEmpty = true) : rankB (fineB bs) b = rankB bs b := by
  unfold rankB fineB
  rw [List.countP_filter]
  congr 2
  apply List.countP_congr
  intro c hc
  simp only [Bool.and_eq_true, decide_eq_true_eq]
  exact ⟨fun h => h.1, fun h => ⟨h, cmpB_fine hb (hV.each c hc) h⟩⟩
/-- the results with their ranks among all of them -/
def atB (bs : List Bare) (r : Int) : List ByteArray := (bs.filter fun b => (rankB bs b == r) && b.st.toList.isEmpty).map fun b => b.nm
theorem pls_map (cs : List Bare) (f : Bare → Int) : pls (cs.map fun b => b.nm) (cs.map f) = cs.map fun b => ⟨b.nm, f b⟩ := by
  unfold pls
  induction cs with
  | nil => rfl
  | cons c cs ih => simp only [List.map_cons, List.zipWith_cons_cons, ih]
theorem atRank_B {bs : List Bare} (hV : ValidB bs) (r : Int) : atRank (pls ((fineB bs).map fun b => b.nm) (ranksB (fineB bs))) r = atB bs r := by
  unfold atRank atB ranksB
  rw [pls_map, List.filter_map, List.map_map]
  unfold fineB
  rw [List.filter_filter]
  show ((bs.filter _).map fun b => b.nm) = _
  congr 1
  apply List.filter_congr
  intro b hb
  simp only [Function.comp]
  cases hs : b.st.toList.isEmpty
  · simp
  · rw [show rankB (List.filter (fun b => b.st.toList.isEmpty) bs) b = rankB bs b from rankB_fine hV hs]
/-- who goes on, rank by rank -/
def upTo (bs : List Bare) : Nat → List ByteArray
  | 0 => []
  | r + 1 => upTo bs r ++ atB bs (r + 1 : Nat)
theorem thruB_upTo {bs : List Bare} (hV : ValidB bs) : ∀ r : Nat, thruB bs r = upTo bs r
  | 0 => by
    unfold thruB upTo
    refine goOn_zero fun p hp => ?_
    unfold ranksB at hp
    rw [pls_map] at hp
    obtain ⟨b, _, rfl⟩ := List.mem_map.1 hp
    show 1 ≤ rankB _ b
    unfold rankB; omega
  | r + 1 => by
    unfold upTo
    rw [← thruB_upTo hV r, ← atRank_B hV]
    unfold thruB
    have := goOn_next (r : Int) (pls ((fineB bs).map fun b => b.nm) (ranksB (fineB bs)))
    exact this
theorem thruB_big {bs : List Bare} {n : Nat} (hn : bs.length = n) (m : Int) (hm : (n : Int) ≤ m) : thruB bs m = thruB bs n := by
  unfold thruB
  refine goOn_more (fun p hp => ?_) m hm
  unfold ranksB at hp
  rw [pls_map] at hp
  obtain ⟨b, hb, rfl⟩ := List.mem_map.1 hp
  show rankB _ b ≤ n
  unfold rankB
  have h1 := countP_strict (P := fun c => decide (cmpB c b < 0)) (Q := fun _ => true) (fineB bs) (fun _ _ _ => rfl) ⟨b, hb, by rw [cmpB_self]; rfl, rfl⟩
  rw [List.countP_true] at h1
  have h2 : (fineB bs).length ≤ bs.length := List.length_filter_le _ _
  omega
end Go.Proofs.YtnbboheaheicnaaGreatDoor
namespace Go.Proofs.YtnbboheaheicnaaGreatDoor
open Go.RowKit Go.Lib
set_option linter.unusedSimpArgs false
set_option linter.unusedVariables false
/-- the slice v reads as the integers xs -/
structure ReadsI (w : World) (v : Value) (xs : List Int) : Prop where
  mk' ::
  out : ∃ p cap, v = .slice p xs.length cap ∧ (0 < xs.length → ∃ g, p = some ⟨g, 0, none⟩ ∧ ∀ i x, xs[i]? = some x → w.cell? ⟨g, i, none⟩ = some (.int .i64 x))
theorem ReadsI.gr {w w' : World} {v : Value} {xs : List Int} (h : ReadsI w v xs) (k : Gr w w') : ReadsI w' v xs := by
  obtain ⟨⟨p, cap, rfl, hh⟩⟩ := h
  refine ⟨p, cap, rfl, fun h0 => ?_⟩
  obtain ⟨g, h1, h2⟩ := hh h0
  exact ⟨g, h1, fun i x hx => k.cell (h2 i x hx)⟩
theorem reads_of_owns {w : World} {base : Nat} {v : Value} {xs : List Int} (h : w.ownsRow base 3 1 v xs.length (ints xs)) : ReadsI w v xs := by
  rcases h.2 with ⟨rfl, h0⟩ | ⟨g, cap, cur, rfl, _⟩
  · exact ⟨none, 0, by rw [h0], fun h => by omega⟩
  · refine ⟨some ⟨g, 0, none⟩, cap, rfl, fun _ => ⟨g, rfl, fun i x hx => ?_⟩⟩
    have := h.cells (g := g) rfl i (.int .i64 x) (by simp [ints, hx])
    rwa [show (⟨g, 0, none⟩ : Addr).add i = ⟨g, i, none⟩ by unfold Addr.add; split <;> simp_all] at this
set_option maxHeartbeats 1000000 in
set_option maxRecDepth 100000 in
theorem same_pos (xs : List Int) (n g g2 c c2 : Nat) (w : World) (hn : xs.length = n) (ha : ∀ i x, xs[i]? = some x → w.cell? ⟨g, i, none⟩ = some (.int .i64 x)) (hb : ∀ i x, xs[i]? = some x → w.cell? ⟨g2, i, none⟩ = some (.int .i64 x)) (hs : n ≤ 1000) :
    Calls Tryz.prog 12 #[.slice (some ⟨g, 0, none⟩) n c, .slice (some ⟨g2, 0, none⟩) n c2] w fun e w' => e = .returned (.bool true) ∧ Gr w w' := by
  have HA := Lib.hid ha
  have HB := Lib.hid hb
  have HN := Lib.hid hn
  clear ha hb hn
  go_enter Tryz.func12, Tryz.ntmps12
  go_wp2_with fail
  go_loopg [5] n (fun gk s5 wr => ∃ k : Nat, s5 = .int .i64 k ∧ gk + k = n ∧ Gr w wr)
  case atStart => exact ⟨0, rfl, by omega, Gr.refl _⟩
  case round =>
    obtain ⟨k, rfl, hk, hg⟩ := hrel
    by_cases hlt : k < n
    · obtain ⟨x, hx⟩ : ∃ x, xs[k]? = some x := ⟨xs[k]'(by have := HN.out; omega), List.getElem?_eq_getElem _⟩
      have a0 : wr.cell? ⟨g, k, none⟩ = some (.int .i64 x) := hg.cell (HA.out k x hx)
      have b0 : wr.cell? ⟨g2, k, none⟩ = some (.int .i64 x) := hg.cell (HB.out k x hx)
      have hi : (k : Int) < (n : Int) := by omega
      clear hx
      go_wp2_with fail
      go_quiet (fail)
      go_wp2_with fail
      go_roundg (gk - 1)
      case measure => omega
      case rel => exact ⟨k + 1, by go_num, by omega, hg.drewN _⟩
    · have : k = n := by omega
      subst this
      go_wp2_with fail
      go_ret
      exact ⟨rfl, hg⟩
set_option maxRecDepth 100000 in
theorem same_nil (p p2 : Option Addr) (c c2 : Nat) (w : World) :
    Calls Tryz.prog 12 #[.slice p 0 c, .slice p2 0 c2] w fun e w' => e = .returned (.bool true) ∧ w = w' := by
  go_enter Tryz.func12, Tryz.ntmps12
  go_wp2_with fail
  refine wp_loop_rounds 1 ?_
  rw [rounds_succ]
  go_wp2_with fail
  go_ret
  exact ⟨rfl, rfl⟩
theorem same_c {xs : List Int} {v v2 : Value} {w : World} (h : ReadsI w v xs) (h2 : ReadsI w v2 xs) (hs : xs.length ≤ 1000) :
    Calls Tryz.prog 12 #[v, v2] w fun e w' => e = .returned (.bool true) ∧ Gr w w' := by
  obtain ⟨⟨p, cap, rfl, ha⟩⟩ := h
  obtain ⟨⟨p2, cap2, rfl, hb⟩⟩ := h2
  by_cases h0 : 0 < xs.length
  · obtain ⟨g, rfl, a⟩ := ha h0
    obtain ⟨g2, rfl, b⟩ := hb h0
    exact same_pos xs _ g g2 cap cap2 w rfl a b hs
  · rw [show xs.length = 0 by omega]
    refine (same_nil p p2 cap cap2 w).mono ?_
    rintro e w' ⟨rfl, rfl⟩
    exact ⟨rfl, Gr.refl _⟩
end Go.Proofs.YtnbboheaheicnaaGreatDoor
namespace Go.Proofs.YtnbboheaheicnaaGreatDoor
open Go.RowKit Go.Lib
set_option linter.unusedSimpArgs false
set_option linter.unusedVariables false
/-- how many of the first are better -/
def cntB (bs : List Bare) (b : Bare) (q : Nat) : Int := ((bs.take q).countP fun c => decide (cmpB c b < 0) : Nat)
theorem cntB_step {bs : List Bare} {b y : Bare} {k : Nat} (h : bs[k]? = some y) : cntB bs b (k + 1) = cntB bs b k + (if cmpB y b < 0 then 1 else 0) := by
  unfold cntB
  rw [List.take_add_one, h, List.countP_append]
  by_cases e : cmpB y b < 0 <;> simp [e]
theorem cntB_le (bs : List Bare) (b : Bare) (q : Nat) : 0 ≤ cntB bs b q ∧ cntB bs b q ≤ q := by
  unfold cntB
  have := List.countP_le_length (p := fun c => decide (cmpB c b < 0)) (l := bs.take q)
  rw [List.length_take] at this
  omega
theorem cntB_all {bs : List Bare} {b : Bare} {n : Nat} (h : bs.length = n) : cntB bs b n + 1 = rankB bs b := by
  unfold cntB rankB
  rw [List.take_of_length_le (by omega)]
  omega
end Go.Proofs.YtnbboheaheicnaaGreatDoor
