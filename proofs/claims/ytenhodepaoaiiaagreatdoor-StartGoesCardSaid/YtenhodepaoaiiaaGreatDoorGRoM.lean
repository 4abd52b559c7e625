/- ResultRounds: the stable sort keeps the order of equal ranks; who goes on, rank by rank. Plain. -/
import Derived.Test.YtenhodepaoaiiaaGreatDoorGRlP
import Derived.Test.YtenhodepaoaiiaaGreatDoorGStA
import Derived.Test.YtenhodepaoaiiaaGreatDoorGRoC
namespace Go.Proofs.YtenhodepaoaiiaaGreatDoor
open Go.RowKit Go.Lib
set_option linter.unusedSimpArgs false
set_option linter.unusedVariables false
theorem set_two {α : Type} (A B : List α) (x y : α) : ((A ++ x :: y :: B).set (A.length + 1) x).set A.length y = A ++ y :: x :: B := by
  rw [List.set_append_right _ _ (by omega), List.set_append_right _ _ (by omega), show A.length + 1 - A.length = 1 by omega, Nat.sub_self]
  rfl
open Go.Sort in
theorem swp_filter {α : Type} [Inhabited α] (d : Array α) (j : Nat) (hj : j + 1 < d.size) (p : α → Bool) (h : ¬ (p d[j + 1]! = true ∧ p d[j]! = true)) : (swp d (j + 1) j).toList.filter p = d.toList.filter p := by
  obtain ⟨l⟩ := d
  simp only [List.size_toArray] at hj
  have e1 : (⟨l⟩ : Array α)[j + 1]! = l[j + 1]'hj := by rw [getElem!_pos _ _ (by simpa using hj)]; rfl
  have e2 : (⟨l⟩ : Array α)[j]! = l[j]'(by omega) := by rw [getElem!_pos _ _ (by simp; omega)]; rfl
  rw [e1, e2] at h
  unfold swp
  rw [e1, e2]
  have hsp : l = l.take j ++ l[j]'(by omega) :: l[j + 1]'hj :: l.drop (j + 2) := by
    rw [← List.drop_eq_getElem_cons hj, ← List.drop_eq_getElem_cons (by omega), List.take_append_drop]
  have hlen : (l.take j).length = j := by rw [List.length_take]; omega
  have hs2 : (((⟨l⟩ : Array α).setIfInBounds (j + 1) (l[j]'(by omega))).setIfInBounds j (l[j + 1]'hj)).toList = l.take j ++ l[j + 1]'hj :: l[j]'(by omega) :: l.drop (j + 2) := by
    have h2 := set_two (l.take j) (l.drop (j + 2)) (l[j]'(by omega)) (l[j + 1]'hj)
    rw [hlen, ← hsp] at h2
    simpa using h2
  rw [hs2]
  conv => rhs; rw [show (⟨l⟩ : Array α).toList = l.take j ++ l[j]'(by omega) :: l[j + 1]'hj :: l.drop (j + 2) from hsp]
  rw [List.filter_append, List.filter_append]
  congr 1
  clear hs2 hsp e1 e2
  generalize l[j]'(by omega) = x at *
  generalize l[j + 1]'hj = y at *
  by_cases h1 : p y = true
  · have h2 : ¬ p x = true := fun h2 => h ⟨h1, h2⟩
    rw [List.filter_cons_of_pos h1, List.filter_cons_of_neg h2, List.filter_cons_of_neg h2, List.filter_cons_of_pos h1]
  · by_cases h2 : p x = true
    · rw [List.filter_cons_of_neg h1, List.filter_cons_of_pos h2, List.filter_cons_of_pos h2, List.filter_cons_of_neg h1]
    · rw [List.filter_cons_of_neg h1, List.filter_cons_of_neg h2, List.filter_cons_of_neg h2, List.filter_cons_of_neg h1]
section
open Go.Sort
variable {α : Type} [Inhabited α] {lt : α → α → Bool} {p : α → Bool}
theorem insInner_size : ∀ (j : Nat) (d : Array α), (insInner lt 0 j d).size = d.size
  | 0, d => rfl
  | j + 1, d => by
    unfold insInner
    split
    · rw [insInner_size j, size_swp]
    · rfl
theorem insInner_filter (hp : ∀ x y, lt x y = true → ¬ (p x = true ∧ p y = true)) : ∀ (j : Nat) (d : Array α), j < d.size → (insInner lt 0 j d).toList.filter p = d.toList.filter p
  | 0, d, _ => rfl
  | j + 1, d, h => by
    unfold insInner
    split
    · rename_i hc
      simp only [Bool.and_eq_true] at hc
      rw [insInner_filter hp j _ (by rw [size_swp]; omega)]
      exact swp_filter d j h _ (hp _ _ hc.2)
    · rfl
theorem insOuter_filter (hp : ∀ x y, lt x y = true → ¬ (p x = true ∧ p y = true)) (b : Nat) : ∀ (k i : Nat) (d : Array α), b - i = k → b ≤ d.size → (insOuter lt 0 b i d).toList.filter p = d.toList.filter p
  | 0, i, d, hk, _ => by
    unfold insOuter
    rw [if_neg (by omega)]
  | k + 1, i, d, hk, hb => by
    unfold insOuter
    rw [if_pos (by omega), insOuter_filter hp b k (i + 1) _ (by omega) (by rw [insInner_size]; exact hb)]
    exact insInner_filter hp i d (by omega)
end
/-- the stable sort keeps the order of those with one rank -/
theorem srtP_filter (ps : List PlR) (r : Int) : (srtP ps).filter (fun p => p.rk == r) = ps.filter (fun p => p.rk == r) := by
  unfold srtP Sort.insertionSort
  rw [insOuter_filter (α := PlR) (lt := ltOf cmpP) (p := fun p => p.rk == r) (fun x y h => by
    rw [lt_pl, decide_eq_true_eq] at h
    simp only [beq_iff_eq]
    omega) _ _ _ _ rfl (by simp)]
/-- of a sorted list: those up to a rank, and those at the next one -/
theorem sorted_next {m : Int} : ∀ (ps : List PlR), ps.Pairwise (fun a b => a.rk ≤ b.rk) → (ps.filter fun p => decide (p.rk ≤ m + 1)) = (ps.filter fun p => decide (p.rk ≤ m)) ++ ps.filter (fun p => p.rk == m + 1)
  | [], _ => rfl
  | p :: ps, h => by
    rw [List.pairwise_cons] at h
    have ih := sorted_next (m := m) ps h.2
    by_cases h1 : p.rk ≤ m
    · rw [List.filter_cons_of_pos (by simp; omega), List.filter_cons_of_pos (by simpa using h1), List.filter_cons_of_neg (by simp; omega), ih]
      rfl
    · have hnil : (ps.filter fun q => decide (q.rk ≤ m)) = [] := by
        rw [List.filter_eq_nil_iff]
        intro q hq
        have := h.1 q hq
        simp; omega
      rw [hnil] at ih
      by_cases h2 : p.rk = m + 1
      · rw [List.filter_cons_of_pos (by simp; omega), List.filter_cons_of_neg (by simpa using h1), List.filter_cons_of_pos (by simpa using h2), ih, hnil]
        rfl
      · rw [List.filter_cons_of_neg (by simp; omega), List.filter_cons_of_neg (by simpa using h1), List.filter_cons_of_neg (by simpa using h2), ih, hnil]
/-- the names at a rank, in their order -/
def atRank (ps : List PlR) (r : Int) : List ByteArray := (ps.filter fun p => p.rk == r).map fun p => p.nm
theorem goOn_next (m : Int) (ps : List PlR) : goOn (m + 1) (srtP ps) = goOn m (srtP ps) ++ atRank ps (m + 1) := by
  unfold goOn atRank
  rw [sorted_next _ (srtP_pairwise ps), List.map_append, srtP_filter]
theorem goOn_zero {ps : List PlR} (h : ∀ p ∈ ps, 1 ≤ p.rk) : goOn 0 (srtP ps) = [] := by
  unfold goOn
  have : ((srtP ps).filter fun p => decide (p.rk ≤ 0)) = [] := by
    rw [List.filter_eq_nil_iff]
    intro q hq
    have := h q ((srtP_spec ps).1.mem_iff.1 hq)
    simp; omega
  rw [this]; rfl
/-- behind the greatest rank nobody goes on -/
theorem goOn_more {ps : List PlR} {n : Nat} (h : ∀ p ∈ ps, p.rk ≤ n) (m : Int) (hm : (n : Int) ≤ m) : goOn m (srtP ps) = goOn n (srtP ps) := by
  unfold goOn
  congr 1
  apply List.filter_congr
  intro q hq
  have := h q ((srtP_spec ps).1.mem_iff.1 hq)
  rw [decide_eq_true (by omega), decide_eq_true (by omega)]
theorem gradeZ_fine {l : List UInt8} (h : l.isEmpty = true) : gradeZ l = 0 := by
  have : l = [] := by simpa using h
  subst this; rfl
/-- nobody with a state is ahead of one without -/
theorem cmpB_fine {c b : Bare} (hb : b.st.toList.isEmpty = true) (hc : resE c.nm c.st c.xs = 0) (h : cmpB c b < 0) : c.st.toList.isEmpty = true := by
  cases hs : c.st.toList.isEmpty
  · exfalso
    have h1 := (resE_zero hc).1
    have hg := gradeZ_pos hs h1
    unfold cmpB ordZ at h
    rw [gradeZ_fine hb] at h
    rcases cmpZ_cases (gradeZ c.st.toList) 0 with ⟨h2, e⟩ | ⟨h2, e⟩ | ⟨h2, e⟩
    · omega
    · omega
    · rw [e] at h
      simp [firstE] at h
  · rfl
/-- among those with values the ranks are the same as among all -/
theorem rankB_fine {bs : List Bare} (hV : ValidB bs) {b : Bare} (hb : b.st.toList.isEmpty = true) : rankB (fineB bs) b = rankB bs b := by
  unfold rankB fineB
  rw [List.countP_filter]
  congr 2
  apply List.countP_congr
  intro c hc
  simp only [Bool.and_eq_true, decide_eq_true_eq]
  exact ⟨fun h => h.1, fun h => ⟨h, cmpB_fine hb (hV.each c hc) h⟩⟩
/-- the results with their ranks among all of them -/
def atB (bs : List Bare) (r : Int) : List ByteArray := (bs.filter fun b => (rankB bs b == r) && b.st.toList.isEmpty).map fun b => b.nm
theorem pls_map (cs : List Bare) (f : Bare → Int) : pls (cs.map fun b => b.nm) (cs.map f) = cs.map fun b => ⟨b.nm, f b⟩ := by
  unfold pls
  induction cs with
  | nil => rfl
  | cons c cs ih => simp only [List.map_cons, List.zipWith_cons_cons, ih]
theorem atRank_B {bs : List Bare} (hV : ValidB bs) (r : Int) : atRank (pls ((fineB bs).map fun b => b.nm) (ranksB (fineB bs))) r = atB bs r := by
  unfold atRank atB ranksB
  rw [pls_map, List.filter_map, List.map_map]
  unfold fineB
  rw [List.filter_filter]
  show ((bs.filter _).map fun b => b.nm) = _
  congr 1
  apply List.filter_congr
  intro b hb
  simp only [Function.comp]
  cases hs : b.st.toList.isEmpty
  · simp
  · rw [show rankB (List.filter (fun b => b.st.toList.isEmpty) bs) b = rankB bs b from rankB_fine hV hs]
/-- who goes on, rank by rank -/
def upTo (bs : List Bare) : Nat → List ByteArray
  | 0 => []
  | r + 1 => upTo bs r ++ atB bs (r + 1 : Nat)
theorem thruB_upTo {bs : List Bare} (hV : ValidB bs) : ∀ r : Nat, thruB bs r = upTo bs r
  | 0 => by
    unfold thruB upTo
    refine goOn_zero fun p hp => ?_
    unfold ranksB at hp
    rw [pls_map] at hp
    obtain ⟨b, _, rfl⟩ := List.mem_map.1 hp
    show 1 ≤ rankB _ b
    unfold rankB; omega
  | r + 1 => by
    unfold upTo
    rw [← thruB_upTo hV r, ← atRank_B hV]
    unfold thruB
    have := goOn_next (r : Int) (pls ((fineB bs).map fun b => b.nm) (ranksB (fineB bs)))
    exact this
theorem thruB_big {bs : List Bare} {n : Nat} (hn : bs.length = n) (m : Int) (hm : (n : Int) ≤ m) : thruB bs m = thruB bs n := by
  unfold thruB
  refine goOn_more (fun p hp => ?_) m hm
  unfold ranksB at hp
  rw [pls_map] at hp
  obtain ⟨b, hb, rfl⟩ := List.mem_map.1 hp
  show rankB _ b ≤ n
  unfold rankB
  have h1 := countP_strict (P := fun c => decide (cmpB c b < 0)) (Q := fun _ => true) (fineB bs) (fun _ _ _ => rfl) ⟨b, hb, by rw [cmpB_self]; rfl, rfl⟩
  rw [List.countP_true] at h1
  have h2 : (fineB bs).length ≤ bs.length := List.length_filter_le _ _
  omega
end Go.Proofs.YtenhodepaoaiiaaGreatDoor
namespace Go.Proofs.YtenhodepaoaiiaaGreatDoor
open Go.RowKit Go.Lib
set_option linter.unusedSimpArgs false
set_option linter.unusedVariables false
set_option maxHeartbeats 1000000
set_option maxRecDepth 100000
theorem cmpS_c {x y : RowR} {w : World} (hx : x.st.toList.isEmpty = true) (hy : y.st.toList.isEmpty = true) (h : IntsV w x.u x.xs) (h2 : IntsV w y.u y.xs) (l1 : x.xs.length ≤ 1000) (l2 : y.xs.length ≤ 1000) :
    Calls Tryz.prog 92 #[.agg #[.string x.nm, .string x.st, x.u], .agg #[.string y.nm, .string y.st, y.u]] w fun e w' => e = .returned (.int .i64 (cmpR x y)) ∧ Gd w w' := by
  have hR : cmpR x y = cmpL y.xs x.xs := by
    unfold cmpR ordZ
    rw [gradeZ_fine hx, gradeZ_fine hy]
    simp only [cmpZ_self, firstE, if_true]
    split
    · rename_i q; exact q.symm
    · rfl
  rw [hR]
  have HC := Lib.hid (fun (W : World) (g : Gd w W) => listsd_c (h2.gr g.gr) (h.gr g.gr) l2 l1)
  generalize cmpL y.xs x.xs = z at *
  obtain ⟨⟨p, cap, hu, _⟩⟩ := id h
  obtain ⟨⟨p2, cap2, hu2, _⟩⟩ := id h2
  rw [hu, hu2] at HC ⊢
  obtain ⟨W, hW, g, ⟨a0, a1, a2⟩, b0, b1, b2⟩ := box33d w (.string x.nm) (.string x.st) (.slice p x.xs.length cap) (.string y.nm) (.string y.st) (.slice p2 y.xs.length cap2) 42
  have HW := Lib.hid hW
  clear hW h h2 hR hu hu2
  go_enter Tryz.func92, Tryz.ntmps92
  go_wp2_with fail
  rw [HW.out]
  generalize w.heap.size = B at *
  clear HW
  refine (HC.out W g).mono ?_
  rintro e w4 ⟨rfl, hg⟩
  go_wp2_with fail
  go_ret
  exact ⟨rfl, g.trans hg⟩
section
open Go.Shelf Go.Proofs
def laysR_ren : Go.Shelf.Ren := ⟨fun | 20 => 149 | n => n, fun | 22 => 22 | 24 => 42 | 25 => 144 | 3 => 3 | 0 => 0 | 4 => 4 | n => n, fun | n => n⟩
theorem laysR : Go.Proofs.SlLaysF0.n20 Tryz.prog laysR_ren := {
  mixed := by kernel_rfl
  f20 := ⟨Tryz.f149.name, by decide, Tryz.func149.trans (congrArg some (by kernel_rfl))⟩
  t0 := Tryz.underlying0
  a0 := Tryz.isAgg0
  z0 := Tryz.sizeOf0
  v0 := Tryz.zeroValue0
  t3 := Tryz.underlying3
  a3 := Tryz.isAgg3
  z3 := Tryz.sizeOf3
  v3 := Tryz.zeroValue3
  t4 := Tryz.underlying4
  a4 := Tryz.isAgg4
  z4 := Tryz.sizeOf4
  v4 := Tryz.zeroValue4
  t22 := Tryz.underlying22
  a22 := Tryz.isAgg22
  z22 := Tryz.sizeOf22
  v22 := Tryz.zeroValue22
  t25 := Tryz.underlying144
  a25 := Tryz.isAgg144
  z25 := Tryz.sizeOf144
  v25 := Tryz.zeroValue144 }
theorem enterR : ∀ (args : Array Value) (w : World), (callFunc 92 args).run Tryz.prog w = .ok (.enter 92 args) w := enters_of Tryz.func92 (by kernel_rfl) rfl
end
section
open Go.Sort Go.Shelf
variable {n : Nat} [Inhabited (Fin n)] (enc : Fin n → List Value) (cf : Fin n → Fin n → Int)
theorem stableR_c (hk : ∀ x, (enc x).length = 3) (h1 : ∀ x, ∀ v ∈ enc x, v.oneCell' = true) (blk off cap : Nat) (d : Array (Fin n)) (w : World) (hl : CmpLays Tryz.prog 92 #[] enc 3 cf blk off d.size w) (hH : HoldsK enc 3 w blk off d) (hb : blk < w.heap.size) (hn : d.size < 20) :
    Calls Tryz.prog 132 #[.slice (some ⟨blk, off, none⟩) d.size cap, .int .i64 d.size, .func (.func 92) #[] #[]] w fun e w' =>
      e = .returned (.tuple #[]) ∧ ∃ m os, w' = sortWorldK enc 3 w blk off m (Sort.insertionSort (ltOf cf) d 0 d.size) os := by
  have HI := Lib.hid (AnyQ.insertionSortCmpFunc laysR 3 Tryz.isAgg42 Tryz.sizeOf42 enc hk h1 cf 92 #[] blk off cap 0 d.size d w enterR hl hH hb (by omega) (by omega) (by omega))
  have HN := Lib.hid hn
  clear hl hH hb
  generalize hnn : d.size = N at *
  have h1 : ¬ ((20 : Int) ≤ (N : Int)) := by omega
  have h2 : ¬ ((20 : Int) < (N : Int)) := by omega
  have h1' : (decide ((20 : Int) ≤ (N : Int))) = false := decide_eq_false h1
  have h2' : (decide ((20 : Int) < (N : Int))) = false := decide_eq_false h2
  clear hnn
  go_enter Tryz.func132, Tryz.ntmps132
  go_wp2_with fail
  go_loopg [7, 8] 0 (fun gk s7 s8 wr => gk = 0 ∧ s7 = .int .i64 0 ∧ s8 = .int .i64 20 ∧ wr = w)
  case atStart => exact ⟨rfl, rfl, rfl, rfl⟩
  case round =>
    obtain ⟨rfl, rfl, rfl, rfl⟩ := hrel
    rw [Int.natCast_zero] at HI
    go_wp2_with (refine HI.out.mono ?_; rintro e w4 ⟨rfl, HW⟩)
    go_loopg [6, 7, 8, 9] 0 (fun gk s6 s7 s8 s9 wr => gk = 0 ∧ s6 = .int .i64 20 ∧ s7 = .int .i64 0 ∧ wr = w4)
    case atStart => exact ⟨rfl, rfl, rfl, rfl⟩
    case round =>
      obtain ⟨rfl, rfl, rfl, rfl⟩ := hrel
      go_wp2_with fail
      go_end0
      exact ⟨rfl, HW⟩
theorem sortR_c (hk : ∀ x, (enc x).length = 3) (h1 : ∀ x, ∀ v ∈ enc x, v.oneCell' = true) (blk off cap : Nat) (d : Array (Fin n)) (w : World) (hl : CmpLays Tryz.prog 92 #[] enc 3 cf blk off d.size w) (hH : HoldsK enc 3 w blk off d) (hb : blk < w.heap.size) (hn : d.size < 20) :
    Calls Tryz.prog 91 #[.slice (some ⟨blk, off, none⟩) d.size cap, .func (.func 92) #[] #[]] w fun e w' =>
      e = .returned (.tuple #[]) ∧ ∃ m os, w' = sortWorldK enc 3 w blk off m (Sort.insertionSort (ltOf cf) d 0 d.size) os := by
  have HI := Lib.hid (stableR_c enc cf hk h1 blk off cap d w hl hH hb hn)
  clear hl hH hb hn
  generalize d.size = N at *
  go_enter Tryz.func91, Tryz.ntmps91
  go_wp2_with (refine HI.out.mono ?_; rintro e w4 ⟨rfl, HW⟩)
  go_end0
  exact ⟨rfl, HW⟩
end
theorem insT_0 (p : Option Addr) (cap : Nat) (f : Value) (w : World) :
    Calls Tryz.prog 149 #[.slice p 0 cap, .int .i64 0, .int .i64 0, f] w fun e w' => e = .returned (.tuple #[]) ∧ w' = w := by
  go_enter Tryz.func149, Tryz.ntmps149
  go_wp2_with fail
  refine wp_loop_rounds 2 ?_
  rw [rounds_succ]
  go_wp2_with fail
  go_end0
  exact ⟨rfl, rfl⟩
theorem stableT_0 (p : Option Addr) (cap : Nat) (f : Value) (w : World) :
    Calls Tryz.prog 132 #[.slice p 0 cap, .int .i64 0, f] w fun e w' => e = .returned (.tuple #[]) ∧ w' = w := by
  have HI := Lib.hid (insT_0 p cap f)
  go_enter Tryz.func132, Tryz.ntmps132
  go_wp2_with fail
  refine wp_loop_rounds 2 ?_
  rw [rounds_succ]
  go_wp2_with (refine (HI.out _).mono ?_; rintro e w4 ⟨rfl, rfl⟩)
  refine wp_loop_rounds 2 ?_
  rw [rounds_succ]
  go_wp2_with fail
  go_end0
  exact ⟨rfl, rfl⟩
theorem sortT_0 (p : Option Addr) (cap : Nat) (f : Value) (w : World) :
    Calls Tryz.prog 91 #[.slice p 0 cap, f] w fun e w' => e = .returned (.tuple #[]) ∧ w' = w := by
  have HI := Lib.hid (stableT_0 p cap f)
  go_enter Tryz.func91, Tryz.ntmps91
  go_wp2_with (refine (HI.out _).mono ?_; rintro e w4 ⟨rfl, rfl⟩)
  go_end0
  exact ⟨rfl, rfl⟩
end Go.Proofs.YtenhodepaoaiiaaGreatDoor
