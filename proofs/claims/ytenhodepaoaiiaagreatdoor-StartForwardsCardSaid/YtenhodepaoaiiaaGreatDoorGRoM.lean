/- ResultRounds: the stable sort keeps the order of equal ranks; who goes on, rank by rank. Plain. -/
import Derived.Test.YtenhodepaoaiiaaGreatDoorGRlP
import Derived.Test.YtenhodepaoaiiaaGreatDoorGRkR
import Derived.Test.YtenhodepaoaiiaaGreatDoorGRoC
namespace Go.Proofs.YtenhodepaoaiiaaGreatDoor
open Go.RowKit Go.Lib
set_option linter.unusedSimpArgs false
set_option linter.unusedVariables false
theorem set_two {α : Type} (A B : List α) (x y : α) : ((A ++ x :: y :: B).set (A.length + 1) x).set A.length y = A ++ y :: x :: B := by
  rw [List.set_append_right _ _ (by omega), List.set_append_right _ _ (by omega), show A.length + 1 - A.length = 1 by omega, Nat.sub_self]
  rfl
open Go.Sort in
theorem swp_filter {α : Type} [Inhabited α] (d : Array α) (j : Nat) (hj : j + 1 < d.size) (p : α → Bool) (h : ¬ (p d[j + 1]! = true ∧ p d[j]! = true)) : (swp d (j + 1) j).toList.filter p = d.toList.filter p := by
  obtain ⟨l⟩ := d
  simp only [List.size_toArray] at hj
  have e1 : (⟨l⟩ : Array α)[j + 1]! = l[j + 1]'hj := by rw [getElem!_pos _ _ (by simpa using hj)]; rfl
  have e2 : (⟨l⟩ : Array α)[j]! = l[j]'(by omega) := by rw [getElem!_pos _ _ (by simp; omega)]; rfl
  rw [e1, e2] at h
  unfold swp
  rw [e1, e2]
  have hsp : l = l.take j ++ l[j]'(by omega) :: l[j + 1]'hj :: l.drop (j + 2) := by
    rw [← List.drop_eq_getElem_cons hj, ← List.drop_eq_getElem_cons (by omega), List.take_append_drop]
  have hlen : (l.take j).length = j := by rw [List.length_take]; omega
  have hs2 : (((⟨l⟩ : Array α).setIfInBounds (j + 1) (l[j]'(by omega))).setIfInBounds j (l[j + 1]'hj)).toList = l.take j ++ l[j + 1]'hj :: l[j]'(by omega) :: l.drop (j + 2) := by
    have h2 := set_two (l.take j) (l.drop (j + 2)) (l[j]'(by omega)) (l[j + 1]'hj)
    rw [hlen, ← hsp] at h2
    simpa using h2
  rw [hs2]
  conv => rhs; rw [show (⟨l⟩ : Array α).toList = l.take j ++ l[j]'(by omega) :: l[j + 1]'hj :: l.drop (j + 2) from hsp]
  rw [List.filter_append, List.filter_append]
  congr 1
  clear hs2 hsp e1 e2
  generalize l[j]'(by omega) = x at *
  generalize l[j + 1]'hj = y at *
  by_cases h1 : p y = true
  · have h2 : ¬ p x = true := fun h2 => h ⟨h1, h2⟩
    rw [List.filter_cons_of_pos h1, List.filter_cons_of_neg h2, List.filter_cons_of_neg h2, List.filter_cons_of_pos h1]
  · by_cases h2 : p x = true
    · rw [List.filter_cons_of_neg h1, List.filter_cons_of_pos h2, List.filter_cons_of_pos h2, List.filter_cons_of_neg h1]
    · rw [List.filter_cons_of_neg h1, List.filter_cons_of_neg h2, List.filter_cons_of_neg h2, List.filter_cons_of_neg h1]
section
open Go.Sort
variable {α : Type} [Inhabited α] {lt : α → α → Bool} {p : α → Bool}
theorem insInner_size : ∀ (j : Nat) (d : Array α), (insInner lt 0 j d).size = d.size
  | 0, d => rfl
  | j + 1, d => by
    unfold insInner
    split
    · rw [insInner_size j, size_swp]
    · rfl
theorem insInner_filter (hp : ∀ x y, lt x y = true → ¬ (p x = true ∧ p y = true)) : ∀ (j : Nat) (d : Array α), j < d.size → (insInner lt 0 j d).toList.filter p = d.toList.filter p
  | 0, d, _ => rfl
  | j + 1, d, h => by
    unfold insInner
    split
    · rename_i hc
      simp only [Bool.and_eq_true] at hc
      rw [insInner_filter hp j _ (by rw [size_swp]; omega)]
      exact swp_filter d j h _ (hp _ _ hc.2)
    · rfl
theorem insOuter_filter (hp : ∀ x y, lt x y = true → ¬ (p x = true ∧ p y = true)) (b : Nat) : ∀ (k i : Nat) (d : Array α), b - i = k → b ≤ d.size → (insOuter lt 0 b i d).toList.filter p = d.toList.filter p
  | 0, i, d, hk, _ => by
    unfold insOuter
    rw [if_neg (by omega)]
  | k + 1, i, d, hk, hb => by
    unfold insOuter
    rw [if_pos (by omega), insOuter_filter hp b k (i + 1) _ (by omega) (by rw [insInner_size]; exact hb)]
    exact insInner_filter hp i d (by omega)
end
/-- the stable sort keeps the order of those with one rank -/
theorem srtP_filter (ps : List PlR) (r : Int) : (srtP ps).filter (fun p => p.rk == r) = ps.filter (fun p => p.rk == r) := by
  unfold srtP Sort.insertionSort
  rw [insOuter_filter (α := PlR) (lt := ltOf cmpP) (p := fun p => p.rk == r) (fun x y h => by
    rw [lt_pl, decide_eq_true_eq] at h
    simp only [beq_iff_eq]
    omega) _ _ _ _ rfl (by simp)]
/-- of a sorted list: those up to a rank, and those at the next one -/
theorem sorted_next {m : Int} : ∀ (ps : List PlR), ps.Pairwise (fun a b => a.rk ≤ b.rk) → (ps.filter fun p => decide (p.rk ≤ m + 1)) = (ps.filter fun p => decide (p.rk ≤ m)) ++ ps.filter (fun p => p.rk == m + 1)
  | [], _ => rfl
  | p :: ps, h => by
    rw [List.pairwise_cons] at h
    have ih := sorted_next (m := m) ps h.2
    by_cases h1 : p.rk ≤ m
    · rw [List.filter_cons_of_pos (by simp; omega), List.filter_cons_of_pos (by simpa using h1), List.filter_cons_of_neg (by simp; omega), ih]
      rfl
    · have hnil : (ps.filter fun q => decide (q.rk ≤ m)) = [] := by
        rw [List.filter_eq_nil_iff]
        intro q hq
        have := h.1 q hq
        simp; omega
      rw [hnil] at ih
      by_cases h2 : p.rk = m + 1
      · rw [List.filter_cons_of_pos (by simp; omega), List.filter_cons_of_neg (by simpa using h1), List.filter_cons_of_pos (by simpa using h2), ih, hnil]
        rfl
      · rw [List.filter_cons_of_neg (by simp; omega), List.filter_cons_of_neg (by simpa using h1), List.filter_cons_of_neg (by simpa using h2), ih, hnil]
/-- the names at a rank, in their order -/
def atRank (ps : List PlR) (r : Int) : List ByteArray := (ps.filter fun p => p.rk == r).map fun p => p.nm
theorem goOn_next (m : Int) (ps : List PlR) : goOn (m + 1) (srtP ps) = goOn m (srtP ps) ++ atRank ps (m + 1) := by
  unfold goOn atRank
  rw [sorted_next _ (srtP_pairwise ps), List.map_append, srtP_filter]
theorem goOn_zero {ps : List PlR} (h : ∀ p ∈ ps, 1 ≤ p.rk) : goOn 0 (srtP ps) = [] := by
  unfold goOn
  have : ((srtP ps).filter fun p => decide (p.rk ≤ 0)) = [] := by
    rw [List.filter_eq_nil_iff]
    intro q hq
    have := h q ((srtP_spec ps).1.mem_iff.1 hq)
    simp; omega
  rw [this]; rfl
/-- behind the greatest rank nobody goes on -/
theorem goOn_more {ps : List PlR} {n : Nat} (h : ∀ p ∈ ps, p.rk ≤ n) (m : Int) (hm : (n : Int) ≤ m) : goOn m (srtP ps) = goOn n (srtP ps) := by
  unfold goOn
  congr 1
  apply List.filter_congr
  intro q hq
  have := h q ((srtP_spec ps).1.mem_iff.1 hq)
  rw [decide_eq_true (by omega), decide_eq_true (by omega)]
theorem gradeZ_fine {l : List UInt8} (h : l.isEmpty = true) : gradeZ l = 0 := by
  have : l = [] := by simpa using h
  subst this; rfl
/-- nobody with a state is ahead of one without -/
theorem cmpB_fine {c b : Bare} (hb : b.st.toList.isEmpty = true) (hc : resE c.nm c.st c.xs = 0) (h : cmpB c b < 0) : c.st.toList.isEmpty = true := by
  cases hs : c.st.toList.isEmpty
  · exfalso
    have h1 := (resE_zero hc).1
    have hg := gradeZ_pos hs h1
    unfold cmpB ordZ at h
    rw [gradeZ_fine hb] at h
    rcases cmpZ_cases (gradeZ c.st.toList) 0 with ⟨h2, e⟩ | ⟨h2, e⟩ | ⟨h2, e⟩
    · omega
    · omega
    · rw [e] at h
      simp [firstE] at h
  · rfl
/-- among those with values the ranks are the same as among all -/
theorem rankB_fine {bs : List Bare} (hV : ValidB bs) {b : Bare} (hb : b.st.toList.isEmpty = true) : rankB (fineB bs) b = rankB bs b := by
  unfold rankB fineB
  rw [List.countP_filter]
  congr 2
  apply List.countP_congr
  intro c hc
  simp only [Bool.and_eq_true, decide_eq_true_eq]
  exact ⟨fun h => h.1, fun h => ⟨h, cmpB_fine hb (hV.each c hc) h⟩⟩
/-- the results with their ranks among all of them -/
def atB (bs : List Bare) (r : Int) : List ByteArray := (bs.filter fun b => (rankB bs b == r) && b.st.toList.isEmpty).map fun b => b.nm
theorem pls_map (cs : List Bare) (f : Bare → Int) : pls (cs.map fun b => b.nm) (cs.map f) = cs.map fun b => ⟨b.nm, f b⟩ := by
  unfold pls
  induction cs with
  | nil => rfl
  | cons c cs ih => simp only [List.map_cons, List.zipWith_cons_cons, ih]
theorem atRank_B {bs : List Bare} (hV : ValidB bs) (r : Int) : atRank (pls ((fineB bs).map fun b => b.nm) (ranksB (fineB bs))) r = atB bs r := by
  unfold atRank atB ranksB
  rw [pls_map, List.filter_map, List.map_map]
  unfold fineB
  rw [List.filter_filter]
  show ((bs.filter _).map fun b => b.nm) = _
  congr 1
  apply List.filter_congr
  intro b hb
  simp only [Function.comp]
  cases hs : b.st.toList.isEmpty
  · simp
  · rw [show rankB (List.filter (fun b => b.st.toList.isEmpty) bs) b = rankB bs b from rankB_fine hV hs]
/-- who goes on, rank by rank -/
def upTo (bs : List Bare) : Nat → List ByteArray
  | 0 => []
  | r + 1 => upTo bs r ++ atB bs (r + 1 : Nat)
theorem thruB_upTo {bs : List Bare} (hV : ValidB bs) : ∀ r : Nat, thruB bs r = upTo bs r
  | 0 => by
    unfold thruB upTo
    refine goOn_zero fun p hp => ?_
    unfold ranksB at hp
    rw [pls_map] at hp
    obtain ⟨b, _, rfl⟩ := List.mem_map.1 hp
    show 1 ≤ rankB _ b
    unfold rankB; omega
  | r + 1 => by
    unfold upTo
    rw [← thruB_upTo hV r, ← atRank_B hV]
    unfold thruB
    have := goOn_next (r : Int) (pls ((fineB bs).map fun b => b.nm) (ranksB (fineB bs)))
    exact this
theorem thruB_big {bs : List Bare} {n : Nat} (hn : bs.length = n) (m : Int) (hm : (n : Int) ≤ m) : thruB bs m = thruB bs n := by
  unfold thruB
  refine goOn_more (fun p hp => ?_) m hm
  unfold ranksB at hp
  rw [pls_map] at hp
  obtain ⟨b, hb, rfl⟩ := List.mem_map.1 hp
  show rankB _ b ≤ n
  unfold rankB
  have h1 := countP_strict (P := fun c => decide (cmpB c b < 0)) (Q := fun _ => true) (fineB bs) (fun _ _ _ => rfl) ⟨b, hb, by rw [cmpB_self]; rfl, rfl⟩
  rw [List.countP_true] at h1
  have h2 : (fineB bs).length ≤ bs.length := List.length_filter_le _ _
  omega
end Go.Proofs.YtenhodepaoaiiaaGreatDoor
namespace Go.Proofs.YtenhodepaoaiiaaGreatDoor
open Go.RowKit Go.Lib
set_option linter.unusedSimpArgs false
set_option linter.unusedVariables false
set_option maxHeartbeats 1000000
set_option maxRecDepth 100000
theorem cmpS_c {x y : RowR} {w : World} (hx : x.st.toList.isEmpty = true) (hy : y.st.toList.isEmpty = true) (h : IntsV w x.u x.xs) (h2 : IntsV w y.u y.xs) (l1 : x.xs.length ≤ 1000) (l2 : y.xs.length ≤ 1000) :
    Calls Tryz.prog 92 #[.agg #[.string x.nm, .string x.st, x.u], .agg #[.string y.nm, .string y.st, y.u]] w fun e w' => e = .returned (.int .i64 (cmpR x y)) ∧ Gd w w' := by
  have hR : cmpR x y = cmpL y.xs x.xs := by
    unfold cmpR ordZ
    rw [gradeZ_fine hx, gradeZ_fine hy]
    simp only [cmpZ_self, firstE, if_true]
    split
    · rename_i q; exact q.symm
    · rfl
  rw [hR]
  have HC := Lib.hid (fun (W : World) (g : Gd w W) => listsd_c (h2.gr g.gr) (h.gr g.gr) l2 l1)
  generalize cmpL y.xs x.xs = z at *
  obtain ⟨⟨p, cap, hu, _⟩⟩ := id h
  obtain ⟨⟨p2, cap2, hu2, _⟩⟩ := id h2
  rw [hu, hu2] at HC ⊢
  obtain ⟨W, hW, g, ⟨a0, a1, a2⟩, b0, b1, b2⟩ := box33d w (.string x.nm) (.string x.st) (.slice p x.xs.length cap) (.string y.nm) (.string y.st) (.slice p2 y.xs.length cap2) 42
  have HW := Lib.hid hW
  clear hW h h2 hR hu hu2
  go_enter Tryz.func92, Tryz.ntmps92
  go_wp2_with fail
  rw [HW.out]
  generalize w.heap.size = B at *
  clear HW
  refine (HC.out W g).mono ?_
  rintro e w4 ⟨rfl, hg⟩
  go_wp2_with fail
  go_ret
  exact ⟨rfl, g.trans hg⟩
section
open Go.Shelf Go.Proofs
def laysR_ren : Go.Shelf.Ren := ⟨fun | 20 => 149 | n => n, fun | 22 => 22 | 24 => 42 | 25 => 144 | 3 => 3 | 0 => 0 | 4 => 4 | n => n, fun | n => n⟩
theorem laysR : Go.Proofs.SlLaysF0.n20 Tryz.prog laysR_ren := {
  mixed := by kernel_rfl
  f20 := ⟨Tryz.f149.name, by decide, Tryz.func149.trans (congrArg some (by kernel_rfl))⟩
  t0 := Tryz.underlying0
  a0 := Tryz.isAgg0
  z0 := Tryz.sizeOf0
  v0 := Tryz.zeroValue0
  t3 := Tryz.underlying3
  a3 := Tryz.isAgg3
  z3 := Tryz.sizeOf3
  v3 := Tryz.zeroValue3
  t4 := Tryz.underlying4
  a4 := Tryz.isAgg4
  z4 := Tryz.sizeOf4
  v4 := Tryz.zeroValue4
  t22 := Tryz.underlying22
  a22 := Tryz.isAgg22
  z22 := Tryz.sizeOf22
  v22 := Tryz.zeroValue22
  t25 := Tryz.underlying144
  a25 := Tryz.isAgg144
  z25 := Tryz.sizeOf144
  v25 := Tryz.zeroValue144 }
theorem enterR : ∀ (args : Array Value) (w : World), (callFunc 92 args).run Tryz.prog w = .ok (.enter 92 args) w := enters_of Tryz.func92 (by kernel_rfl) rfl
end
section
open Go.Sort Go.Shelf
variable {n : Nat} [Inhabited (Fin n)] (enc : Fin n → List Value) (cf : Fin n → Fin n → Int)
theorem stableR_c (hk : ∀ x, (enc x).length = 3) (h1 : ∀ x, ∀ v ∈ enc x, v.oneCell' = true) (blk off cap : Nat) (d : Array (Fin n)) (w : World) (hl : CmpLays Tryz.prog 92 #[] enc 3 cf blk off d.size w) (hH : HoldsK enc 3 w blk off d) (hb : blk < w.heap.size) (hn : d.size < 20) :
    Calls Tryz.prog 132 #[.slice (some ⟨blk, off, none⟩) d.size cap, .int .i64 d.size, .func (.func 92) #[] #[]] w fun e w' =>
      e = .returned (.tuple #[]) ∧ ∃ m os, w' = sortWorldK enc 3 w blk off m (Sort.insertionSort (ltOf cf) d 0 d.size) os := by
  have HI := Lib.hid (AnyQ.insertionSortCmpFunc laysR 3 Tryz.isAgg42 Tryz.sizeOf42 enc hk h1 cf 92 #[] blk off cap 0 d.size d w enterR hl hH hb (by omega) (by omega) (by omega))
  have HN := Lib.hid hn
  clear hl hH hb
  generalize hnn : d.size = N at *
  have h1 : ¬ ((20 : Int) ≤ (N : Int)) := by omega
  have h2 : ¬ ((20 : Int) < (N : Int)) := by omega
  have h1' : (decide ((20 : Int) ≤ (N : Int))) = false := decide_eq_false h1
  have h2' : (decide ((20 : Int) < (N : Int))) = false := decide_eq_false h2
  clear hnn
  go_enter Tryz.func132, Tryz.ntmps132
  go_wp2_with fail
  go_loopg [7, 8] 0 (fun gk s7 s8 wr => gk = 0 ∧ s7 = .int .i64 0 ∧ s8 = .int .i64 20 ∧ wr = w)
  case atStart => exact ⟨rfl, rfl, rfl, rfl⟩
  case round =>
    obtain ⟨rfl, rfl, rfl, rfl⟩ := hrel
    rw [Int.natCast_zero] at HI
    go_wp2_with (refine HI.out.mono ?_; rintro e w4 ⟨rfl, HW⟩)
    go_loopg [6, 7, 8, 9] 0 (fun gk s6 s7 s8 s9 wr => gk = 0 ∧ s6 = .int .i64 20 ∧ s7 = .int .i64 0 ∧ wr = w4)
    case atStart => exact ⟨rfl, rfl, rfl, rfl⟩
    case round =>
      obtain ⟨rfl, rfl, rfl, rfl⟩ := hrel
      go_wp2_with fail
      go_end0
      exact ⟨rfl, HW⟩
theorem sortR_c (hk : ∀ x, (enc x).length = 3) (h1 : ∀ x, ∀ v ∈ enc x, v.oneCell' = true) (blk off cap : Nat) (d : Array (Fin n)) (w : World) (hl : CmpLays Tryz.prog 92 #[] enc 3 cf blk off d.size w) (hH : HoldsK enc 3 w blk off d) (hb : blk < w.heap.size) (hn : d.size < 20) :
    Calls Tryz.prog 91 #[.slice (some ⟨blk, off, none⟩) d.size cap, .func (.func 92) #[] #[]] w fun e w' =>
      e = .returned (.tuple #[]) ∧ ∃ m os, w' = sortWorldK enc 3 w blk off m (Sort.insertionSort (ltOf cf) d 0 d.size) os := by
  have HI := Lib.hid (stableR_c enc cf hk h1 blk off cap d w hl hH hb hn)
  clear hl hH hb hn
  generalize d.size = N at *
  go_enter Tryz.func91, Tryz.ntmps91
  go_wp2_with (refine HI.out.mono ?_; rintro e w4 ⟨rfl, HW⟩)
  go_end0
  exact ⟨rfl, HW⟩
end
theorem insT_0 (p : Option Addr) (cap : Nat) (f : Value) (w : World) :
    Calls Tryz.prog 149 #[.slice p 0 cap, .int .i64 0, .int .i64 0, f] w fun e w' => e = .returned (.tuple #[]) ∧ w' = w := by
  go_enter Tryz.func149, Tryz.ntmps149
  go_wp2_with fail
  refine wp_loop_rounds 2 ?_
  rw [rounds_succ]
  go_wp2_with fail
  go_end0
  exact ⟨rfl, rfl⟩
theorem stableT_0 (p : Option Addr) (cap : Nat) (f : Value) (w : World) :
    Calls Tryz.prog 132 #[.slice p 0 cap, .int .i64 0, f] w fun e w' => e = .returned (.tuple #[]) ∧ w' = w := by
  have HI := Lib.hid (insT_0 p cap f)
  go_enter Tryz.func132, Tryz.ntmps132
  go_wp2_with fail
  refine wp_loop_rounds 2 ?_
  rw [rounds_succ]
  go_wp2_with (refine (HI.out _).mono ?_; rintro e w4 ⟨rfl, rfl⟩)
  refine wp_loop_rounds 2 ?_
  rw [rounds_succ]
  go_wp2_with fail
  go_end0
  exact ⟨rfl, rfl⟩
theorem sortT_0 (p : Option Addr) (cap : Nat) (f : Value) (w : World) :
    Calls Tryz.prog 91 #[.slice p 0 cap, f] w fun e w' => e = .returned (.tuple #[]) ∧ w' = w := by
  have HI := Lib.hid (stableT_0 p cap f)
  go_enter Tryz.func91, Tryz.ntmps91
  go_wp2_with (refine (HI.out _).mono ?_; rintro e w4 ⟨rfl, rfl⟩)
  go_end0
  exact ⟨rfl, rfl⟩
end Go.Proofs.YtenhodepaoaiiaaGreatDoor
namespace Go.Proofs.YtenhodepaoaiiaaGreatDoor
open Go.RowKit Go.Lib
set_option linter.unusedSimpArgs false
set_option linter.unusedVariables false
/-- those with one rank stay in their order -/
structure Stab (ys : List RowR) (ps : List Nat) : Prop where
  keep : ∀ r : Int, (ps.filter fun a => rankR ys (rowOf ys a) == r) = (List.range ys.length).filter fun a => rankR ys (rowOf ys a) == r
theorem rankR_less {ys : List RowR} {x y : RowR} (hx : x ∈ ys) (h : cmpR x y < 0) : rankR ys x < rankR ys y := by
  rw [rankR_bare, rankR_bare]
  exact rankB_less (List.mem_map.2 ⟨x, hx, rfl⟩) h
theorem rankR_le {ys : List RowR} {x y : RowR} (hx : x ∈ ys) (h : cmpR x y ≤ 0) : rankR ys x ≤ rankR ys y := by
  by_cases h0 : cmpR x y = 0
  · rw [rank_alike h0]; exact Int.le_refl _
  · have := rankR_less hx (y := y) (by omega); omega
open Go.Sort Go.Shelf in
theorem sortRows3_c (ys : List RowR) (n g cap : Nat) {w0 w : World} (hn : ys.length = n) (h0 : 0 < n) (h1 : n < 20) (hst : ∀ x ∈ ys, x.st.toList.isEmpty = true) (hg : Gr w0 w) (hb : w0.heap.size ≤ g) (hlt : g < w.heap.size)
    (hv : ∀ (i : Nat) (x : RowR), ys[i]? = some x → IntsV w0 x.u x.xs ∧ x.xs.length ≤ 1000) (hcells : ∀ (i : Nat) (x : RowR), ys[i]? = some x → ∀ (j : Nat) (u : Value), (rowC x)[j]? = some u → w.cell? ⟨g, i * 3 + j, none⟩ = some u) (hfz : ∀ a : Addr, a.block = g → w.frozen? a = false) :
    Calls Tryz.prog 91 #[.slice (some ⟨g, 0, none⟩) n cap, .func (.func 92) #[] #[]] w fun e w' =>
      e = .returned (.tuple #[]) ∧ ∃ ps, InOrder ys ps ∧ Stab ys ps ∧ (∀ i a, ps[i]? = some a → RowAt w' g (0 + i * 3) (rowOf ys a)) ∧ Gr w0 w' := by
  subst hn
  haveI : Inhabited (Fin ys.length) := ⟨⟨0, h0⟩⟩
  have hat : ∀ i : Fin ys.length, ys[i.val]? = some (rowOf ys i) := fun i => by
    have := List.getElem?_eq_getElem i.isLt
    rw [this, rowOf_at this]
  have hmem : ∀ i : Fin ys.length, rowOf ys i ∈ ys := fun i => List.mem_of_getElem? (hat i)
  let enc : Fin ys.length → List Value := fun i => rowC (rowOf ys i)
  have hk : ∀ x, (enc x).length = 3 := fun _ => rfl
  have hone : ∀ x, ∀ v ∈ enc x, v.oneCell' = true := fun x v hvm => by
    obtain ⟨⟨p, c, hu, _⟩⟩ := (hv _ _ (hat x)).1
    simp only [enc, rowC, List.mem_cons, List.not_mem_nil, or_false] at hvm
    rcases hvm with rfl | rfl | rfl
    · rfl
    · rfl
    · rw [hu]; rfl
  have hds : (Array.ofFn (id : Fin ys.length → Fin ys.length)).size = ys.length := by simp
  have hdg : ∀ i (hi : i < ys.length), (Array.ofFn (id : Fin ys.length → Fin ys.length))[i]! = ⟨i, hi⟩ := fun i hi => by
    rw [getElem!_pos _ i (by simpa using hi)]; simp
  have hdl : ((Array.ofFn (id : Fin ys.length → Fin ys.length)).toList.map Fin.val) = List.range ys.length := by
    apply List.ext_getElem?
    intro i
    simp only [List.getElem?_map, Array.getElem?_toList, Array.getElem?_ofFn]
    by_cases h : i < ys.length
    · simp [h]
    · simp [h]
  generalize (Array.ofFn (id : Fin ys.length → Fin ys.length)) = d at *
  have hH : HoldsK enc 3 w g 0 d := fun t ht => by
    rw [size_flatK, hds] at ht
    refine ⟨?_, hfz _ rfl⟩
    rw [get_flatK enc 3 d t (by rw [hds]; exact ht), hdg (t / 3) (by omega)]
    have hm : t % 3 < 3 := by omega
    have hc := hcells (t / 3) _ (hat ⟨t / 3, by omega⟩) (t % 3) ((rowC (rowOf ys (t / 3)))[t % 3]'hm) (List.getElem?_eq_getElem _)
    rw [show t / 3 * 3 + t % 3 = t by omega] at hc
    rw [Nat.zero_add, hc]
    congr 1
    exact (getElem!_pos (enc ⟨t / 3, by omega⟩) (t % 3) hm).symm
  have hsw : ∀ (m : Nat) (os : Array Obj) (dk : Array (Fin ys.length)), Gr w0 (sortWorldK enc 3 w g 0 m dk os) := fun m os dk =>
    Below.grown hg (grownBy_sortedK enc 3 dk) hg.size (fun k hk => by cases hk; exact hb)
  have hcmp : CmpLays Tryz.prog 92 #[] enc 3 (fun (i j : Fin ys.length) => cmpR (rowOf ys i) (rowOf ys j)) g 0 d.size w := by
    intro m os dk _ x y
    have gr := hsw m os dk
    have ix := hv _ _ (hat x)
    have iy := hv _ _ (hat y)
    have := cmpS_c (hst _ (hmem x)) (hst _ (hmem y)) (ix.1.gr gr) (iy.1.gr gr) ix.2 iy.2
    refine Calls.mono this ?_
    rintro e w' ⟨rfl, gd⟩
    exact ⟨rfl, gd.grow⟩
  have hcall := sortR_c enc (fun (i j : Fin ys.length) => cmpR (rowOf ys i) (rowOf ys j)) hk hone g 0 cap d w hcmp hH hlt (by omega)
  rw [hds] at hcall
  refine hcall.mono ?_
  rintro e w' ⟨rfl, m, os, rfl⟩
  obtain ⟨hp, hso⟩ := insertionSort_holds (swo_cmp ys) d 0 ys.length (Nat.zero_le _) (by omega)
  have hfil : ∀ r : Int, (Sort.insertionSort (ltOf fun (i j : Fin ys.length) => cmpR (rowOf ys i) (rowOf ys j)) d 0 ys.length).toList.filter (fun (i : Fin ys.length) => rankR ys (rowOf ys i) == r) = d.toList.filter (fun (i : Fin ys.length) => rankR ys (rowOf ys i) == r) := fun r => by
    unfold Sort.insertionSort
    refine insOuter_filter (fun x y h => ?_) _ _ _ _ rfl (by omega)
    simp only [ltOf, decide_eq_true_eq] at h
    have := rankR_less (hmem x) h
    simp only [beq_iff_eq]
    omega
  generalize Sort.insertionSort (ltOf fun (i j : Fin ys.length) => cmpR (rowOf ys i) (rowOf ys j)) d 0 ys.length = d' at *
  have hsz : d'.size = ys.length := by rw [hp.1, hds]
  have hHs := holdsK_sortWorldK_c enc 3 w g 0 d d' m os hH hlt (by omega)
  refine ⟨rfl, d'.toList.map Fin.val, ⟨?_, ?_⟩, ⟨fun r => ?_⟩, fun i a hi => ?_, hsw m os d'⟩
  · have h3 := hp.2.2
    have ex : ∀ (q : Array (Fin ys.length)) (m : Nat), m = q.size → q.extract 0 m = q := by
      intro q m hm
      subst hm
      simp
    rw [ex d' ys.length hsz.symm, ex d ys.length hds.symm] at h3
    have := h3.map Fin.val
    rwa [hdl] at this
  · intro i j a c hij hi hj
    simp only [List.getElem?_map, Option.map_eq_some_iff, Array.getElem?_toList] at hi hj
    obtain ⟨x, hx, rfl⟩ := hi
    obtain ⟨y, hy, rfl⟩ := hj
    obtain ⟨hi2, ex⟩ := Array.getElem?_eq_some_iff.1 hx
    obtain ⟨hj2, ey⟩ := Array.getElem?_eq_some_iff.1 hy
    have := hso i j (Nat.zero_le _) hij (by omega)
    rw [getElem!_pos _ i hi2, getElem!_pos _ j hj2, ex, ey] at this
    simp only [ltOf, decide_eq_false_iff_not] at this
    have f := cmpR_flip (rowOf ys x) (rowOf ys y)
    omega
  · rw [← hdl, List.filter_map, List.filter_map]
    congr 1
    exact hfil r
  · simp only [List.getElem?_map, Option.map_eq_some_iff, Array.getElem?_toList] at hi
    obtain ⟨x, hx, rfl⟩ := hi
    obtain ⟨hi2, ex⟩ := Array.getElem?_eq_some_iff.1 hx
    have c : ∀ (j : Nat) (hj : j < 3), (sortWorldK enc 3 w g 0 m d' os).cell? ⟨g, i * 3 + j, none⟩ = some ((rowC (rowOf ys x))[j]'hj) := fun j hj => by
      have := (hHs.cell hi2 hj).1
      rw [getElem!_pos _ i hi2, ex] at this
      rw [Nat.zero_add] at this
      rw [this]
      congr 1
      exact getElem!_pos (enc x) j hj
    have ix := hv _ _ (hat x)
    rw [Nat.zero_add]
    exact ⟨c 0 (by omega), c 1 (by omega), c 2 (by omega), ix.1.gr (hsw m os d'), ix.2⟩
/-- two sorted lists with the same elements at each rank -/
theorem sorted_same {P Q : List PlR} (hP : P.Pairwise fun a b => a.rk ≤ b.rk) (hQ : Q.Pairwise fun a b => a.rk ≤ b.rk) (h1 : ∀ p ∈ P, 1 ≤ p.rk) (h2 : ∀ p ∈ Q, 1 ≤ p.rk) (h : ∀ r : Int, P.filter (fun p => p.rk == r) = Q.filter fun p => p.rk == r) : ∀ m : Nat, P.filter (fun p => decide (p.rk ≤ (m : Int))) = Q.filter fun p => decide (p.rk ≤ (m : Int))
  | 0 => by
    rw [List.filter_eq_nil_iff.2 (fun p hp => by have := h1 p hp; simp; omega), List.filter_eq_nil_iff.2 (fun p hp => by have := h2 p hp; simp; omega)]
  | m + 1 => by
    have e1 := sorted_next (m := m) P hP
    have e2 := sorted_next (m := m) Q hQ
    have := sorted_same hP hQ h1 h2 h m
    rw [show ((m + 1 : Nat) : Int) = (m : Int) + 1 by omega, e1, e2, this, h]
/-- the names of those with a rank of at most m, in an order -/
def nameL (ys : List RowR) (ps : List Nat) (m : Int) : List ByteArray := (ps.filter fun a => decide (rankR ys (rowOf ys a) ≤ m)).map fun a => (rowOf ys a).nm
theorem nameL_take {ys : List RowR} {ps : List Nat} {m : Int} {k a : Nat} (h : ps[k]? = some a) : nameL ys (ps.take (k + 1)) m = nameL ys (ps.take k) m ++ (if decide (rankR ys (rowOf ys a) ≤ m) then [(rowOf ys a).nm] else []) := by
  unfold nameL
  rw [List.take_add_one, h, List.filter_append, List.map_append]
  by_cases e : rankR ys (rowOf ys a) ≤ m <;> simp [e]
theorem nameL_thru {xs : List RowR} {ps : List Nat} (hO : InOrder (fine xs) ps) (hS : Stab (fine xs) ps) (m : Nat) : nameL (fine xs) ps m = thruB (xs.map bare) m := by
  have hb : (fine xs).map bare = fineB (xs.map bare) := fine_bare xs
  have hmap : ∀ l : List Nat, (l.map fun a => (⟨(rowOf (fine xs) a).nm, rankR (fine xs) (rowOf (fine xs) a)⟩ : PlR)).map (fun p => p.nm) = l.map fun a => (rowOf (fine xs) a).nm := fun l => by rw [List.map_map]; rfl
  have hpl : pls ((fineB (xs.map bare)).map fun b => b.nm) (ranksB (fineB (xs.map bare))) = (List.range (fine xs).length).map fun a => ⟨(rowOf (fine xs) a).nm, rankR (fine xs) (rowOf (fine xs) a)⟩ := by
    unfold ranksB
    rw [pls_map, ← hb, List.map_map]
    conv => lhs; rw [← rows_range (fine xs)]
    rw [List.map_map]
    apply List.map_congr_left
    intro a _
    simp only [Function.comp, bare]
    rw [rankR_bare]
    rw [rows_range]
    rfl
  have key := sorted_same (P := ps.map fun a => ⟨(rowOf (fine xs) a).nm, rankR (fine xs) (rowOf (fine xs) a)⟩) (Q := srtP (pls ((fineB (xs.map bare)).map fun b => b.nm) (ranksB (fineB (xs.map bare))))) ?_ (srtP_pairwise _) ?_ ?_ ?_ m
  · unfold nameL thruB goOn
    rw [← key, List.filter_map, hmap]
    rfl
  · rw [List.pairwise_map, List.pairwise_iff_getElem]
    intro i j hi hj hij
    have hs := hO.sorted i j _ _ hij (List.getElem?_eq_getElem hi) (List.getElem?_eq_getElem hj)
    have hl := hO.lt (List.getElem?_eq_getElem hi)
    exact rankR_le (by rw [rowOf_at (List.getElem?_eq_getElem hl)]; exact List.getElem_mem hl) hs
  · intro p hp
    obtain ⟨a, _, rfl⟩ := List.mem_map.1 hp
    show 1 ≤ rankR _ _
    unfold rankR; omega
  · intro p hp
    have hp2 := (srtP_spec _).1.mem_iff.1 hp
    rw [hpl] at hp2
    obtain ⟨a, _, rfl⟩ := List.mem_map.1 hp2
    show 1 ≤ rankR _ _
    unfold rankR; omega
  · intro r
    rw [srtP_filter, hpl, List.filter_map, List.filter_map]
    congr 1
    exact hS.keep r
end Go.Proofs.YtenhodepaoaiiaaGreatDoor
