/- Who goes on (chapter 6): the comparison of results with values; the stable sort of fewer than twenty. -/
import Derived.Test.YtebnbjaaogfikaaGreatDoorGRoC
namespace Go.Proofs.YtebnbjaaogfikaaGreatDoor
open Go.RowKit Go.Lib
set_option linter.unusedSimpArgs false
set_option linter.unusedVariables false
set_option maxHeartbeats 1000000
set_option maxRecDepth 100000
theorem cmpS_c {x y : RowR} {w : World} (hx : x.st.toList.isEmpty = true) (hy : y.st.toList.isEmpty = true) (h : IntsV w x.u x.xs) (h2 : IntsV w y.u y.xs) (l1 : x.xs.length ≤ 1000) (l2 : y.xs.length ≤ 1000) :
    Calls Tryz.prog 69 #[.agg #[.string x.nm, .string x.st, x.u], .agg #[.string y.nm, .string y.st, y.u]] w fun e w' => e = .returned (.int .i64 (cmpR x y)) ∧ Gd w w' := by
  have hR : cmpR x y = cmpL y.xs x.xs := by
    unfold cmpR ordZ
    rw [gradeZ_fine hx, gradeZ_fine hy]
    simp only [cmpZ_self, firstE, if_true]
    split
    · rename_i q; exact q.symm
    · rfl
  rw [hR]
  have HC := Lib.hid (fun (W : World) (g : Gd w W) => listsd_c (h2.gr g.gr) (h.gr g.gr) l2 l1)
  generalize cmpL y.xs x.xs = z at *
  obtain ⟨⟨p, cap, hu, _⟩⟩ := id h
  obtain ⟨⟨p2, cap2, hu2, _⟩⟩ := id h2
  rw [hu, hu2] at HC ⊢
  obtain ⟨W, hW, g, ⟨a0, a1, a2⟩, b0, b1, b2⟩ := box33d w (.string x.nm) (.string x.st) (.slice p x.xs.length cap) (.string y.nm) (.string y.st) (.slice p2 y.xs.length cap2) 34
  have HW := Lib.hid hW
  clear hW h h2 hR hu hu2
  go_enter Tryz.func69, Tryz.ntmps69
  go_wp2_with fail
  rw [HW.out]
  generalize w.heap.size = B at *
  clear HW
  refine (HC.out W g).mono ?_
  rintro e w4 ⟨rfl, hg⟩
  go_wp2_with fail
  go_ret
  exact ⟨rfl, g.trans hg⟩
section
open Go.Shelf Go.Proofs
def laysR_ren : Go.Shelf.Ren := ⟨fun | 20 => 114 | n => n, fun | 22 => 22 | 24 => 34 | 25 => 56 | 3 => 3 | 0 => 0 | 4 => 4 | n => n, fun | n => n⟩
theorem laysR : Go.Proofs.SlLaysF0.n20 Tryz.prog laysR_ren := {
  mixed := by kernel_rfl
  f20 := ⟨Tryz.f114.name, by decide, Tryz.func114.trans (congrArg some (by kernel_rfl))⟩
  t0 := Tryz.underlying0
  a0 := Tryz.isAgg0
  z0 := Tryz.sizeOf0
  v0 := Tryz.zeroValue0
  t3 := Tryz.underlying3
  a3 := Tryz.isAgg3
  z3 := Tryz.sizeOf3
  v3 := Tryz.zeroValue3
  t4 := Tryz.underlying4
  a4 := Tryz.isAgg4
  z4 := Tryz.sizeOf4
  v4 := Tryz.zeroValue4
  t22 := Tryz.underlying22
  a22 := Tryz.isAgg22
  z22 := Tryz.sizeOf22
  v22 := Tryz.zeroValue22
  t25 := Tryz.underlying56
  a25 := Tryz.isAgg56
  z25 := Tryz.sizeOf56
  v25 := Tryz.zeroValue56 }
theorem enterR : ∀ (args : Array Value) (w : World), (callFunc 69 args).run Tryz.prog w = .ok (.enter 69 args) w := enters_of Tryz.func69 (by kernel_rfl) rfl
end
section
open Go.Sort Go.Shelf
variable {n : Nat} [Inhabited (Fin n)] (enc : Fin n → List Value) (cf : Fin n → Fin n → Int)
theorem stableR_c (hk : ∀ x, (enc x).length = 3) (h1 : ∀ x, ∀ v ∈ enc x, v.oneCell' = true) (blk off cap : Nat) (d : Array (Fin n)) (w : World) (hl : CmpLays Tryz.prog 69 #[] enc 3 cf blk off d.size w) (hH : HoldsK enc 3 w blk off d) (hb : blk < w.heap.size) (hn : d.size < 20) :
    Calls Tryz.prog 93 #[.slice (some ⟨blk, off, none⟩) d.size cap, .int .i64 d.size, .func (.func 69) #[] #[]] w fun e w' =>
      e = .returned (.tuple #[]) ∧ ∃ m os, w' = sortWorldK enc 3 w blk off m (Sort.insertionSort (ltOf cf) d 0 d.size) os := by
  have HI := Lib.hid (AnyQ.insertionSortCmpFunc laysR 3 Tryz.isAgg34 Tryz.sizeOf34 enc hk h1 cf 69 #[] blk off cap 0 d.size d w enterR hl hH hb (by omega) (by omega) (by omega))
  have HN := Lib.hid hn
  clear hl hH hb
  generalize hnn : d.size = N at *
  have h1 : ¬ ((20 : Int) ≤ (N : Int)) := by omega
  have h2 : ¬ ((20 : Int) < (N : Int)) := by omega
  have h1' : (decide ((20 : Int) ≤ (N : Int))) = false := decide_eq_false h1
  have h2' : (decide ((20 : Int) < (N : Int))) = false := decide_eq_false h2
  clear hnn
  go_enter Tryz.func93, Tryz.ntmps93
  go_wp2_with fail
  go_loopg [7, 8] 0 (fun gk s7 s8 wr => gk = 0 ∧ s7 = .int .i64 0 ∧ s8 = .int .i64 20 ∧ wr = w)
  case atStart => exact ⟨rfl, rfl, rfl, rfl⟩
  case round =>
    obtain ⟨rfl, rfl, rfl, rfl⟩ := hrel
    rw [Int.natCast_zero] at HI
    go_wp2_with (refine HI.out.mono ?_; rintro e w4 ⟨rfl, HW⟩)
    go_loopg [6, 7, 8, 9] 0 (fun gk s6 s7 s8 s9 wr => gk = 0 ∧ s6 = .int .i64 20 ∧ s7 = .int .i64 0 ∧ wr = w4)
    case atStart => exact ⟨rfl, rfl, rfl, rfl⟩
    case round =>
      obtain ⟨rfl, rfl, rfl, rfl⟩ := hrel
      go_wp2_with fail
      go_end0
      exact ⟨rfl, HW⟩
theorem sortR_c (hk : ∀ x, (enc x).length = 3) (h1 : ∀ x, ∀ v ∈ enc x, v.oneCell' = true) (blk off cap : Nat) (d : Array (Fin n)) (w : World) (hl : CmpLays Tryz.prog 69 #[] enc 3 cf blk off d.size w) (hH : HoldsK enc 3 w blk off d) (hb : blk < w.heap.size) (hn : d.size < 20) :
    Calls Tryz.prog 68 #[.slice (some ⟨blk, off, none⟩) d.size cap, .func (.func 69) #[] #[]] w fun e w' =>
      e = .returned (.tuple #[]) ∧ ∃ m os, w' = sortWorldK enc 3 w blk off m (Sort.insertionSort (ltOf cf) d 0 d.size) os := by
  have HI := Lib.hid (stableR_c enc cf hk h1 blk off cap d w hl hH hb hn)
  clear hl hH hb hn
  generalize d.size = N at *
  go_enter Tryz.func68, Tryz.ntmps68
  go_wp2_with (refine HI.out.mono ?_; rintro e w4 ⟨rfl, HW⟩)
  go_end0
  exact ⟨rfl, HW⟩
end
theorem insT_0 (p : Option Addr) (cap : Nat) (f : Value) (w : World) :
    Calls Tryz.prog 114 #[.slice p 0 cap, .int .i64 0, .int .i64 0, f] w fun e w' => e = .returned (.tuple #[]) ∧ w' = w := by
  go_enter Tryz.func114, Tryz.ntmps114
  go_wp2_with fail
  refine wp_loop_rounds 2 ?_
  rw [rounds_succ]
  go_wp2_with fail
  go_end0
  exact ⟨rfl, rfl⟩
theorem stableT_0 (p : Option Addr) (cap : Nat) (f : Value) (w : World) :
    Calls Tryz.prog 93 #[.slice p 0 cap, .int .i64 0, f] w fun e w' => e = .returned (.tuple #[]) ∧ w' = w := by
  have HI := Lib.hid (insT_0 p cap f)
  go_enter Tryz.func93, Tryz.ntmps93
  go_wp2_with fail
  refine wp_loop_rounds 2 ?_
  rw [rounds_succ]
  go_wp2_with (refine (HI.out _).mono ?_; rintro e w4 ⟨rfl, rfl⟩)
  refine wp_loop_rounds 2 ?_
  rw [rounds_succ]
  go_wp2_with fail
  go_end0
  exact ⟨rfl, rfl⟩
theorem sortT_0 (p : Option Addr) (cap : Nat) (f : Value) (w : World) :
    Calls Tryz.prog 68 #[.slice p 0 cap, f] w fun e w' => e = .returned (.tuple #[]) ∧ w' = w := by
  have HI := Lib.hid (stableT_0 p cap f)
  go_enter Tryz.func68, Tryz.ntmps68
  go_wp2_with (refine (HI.out _).mono ?_; rintro e w4 ⟨rfl, rfl⟩)
  go_end0
  exact ⟨rfl, rfl⟩
end Go.Proofs.YtebnbjaaogfikaaGreatDoor
namespace Go.Proofs.YtebnbjaaogfikaaGreatDoor
open Go.RowKit Go.Lib
set_option linter.unusedSimpArgs false
set_option linter.unusedVariables false
/-- those with one rank stay in their order -/
structure Stab (ys : List RowR) (ps : List Nat) : Prop where
  keep : ∀ r : Int, (ps.filter fun a => rankR ys (rowOf ys a) == r) = (List.range ys.length).filter fun a => rankR ys (rowOf ys a) == r
theorem rankR_less {ys : List RowR} {x y : RowR} (hx : x ∈ ys) (h : cmpR x y < 0) : rankR ys x < rankR ys y := by
  rw [rankR_bare, rankR_bare]
  exact rankB_less (List.mem_map.2 ⟨x, hx, rfl⟩) h
theorem rankR_le {ys : List RowR} {x y : RowR} (hx : x ∈ ys) (h : cmpR x y ≤ 0) : rankR ys x ≤ rankR ys y := by
  by_cases h0 : cmpR x y = 0
  · rw [rank_alike h0]; exact Int.le_refl _
  · have := rankR_less hx (y := y) (by omega); omega
open Go.Sort Go.Shelf in
theorem sortRows3_c (ys : List RowR) (n g cap : Nat) {w0 w : World} (hn : ys.length = n) (h0 : 0 < n) (h1 : n < 20) (hst : ∀ x ∈ ys, x.st.toList.isEmpty = true) (hg : Gr w0 w) (hb : w0.heap.size ≤ g) (hlt : g < w.heap.size)
    (hv : ∀ (i : Nat) (x : RowR), ys[i]? = some x → IntsV w0 x.u x.xs ∧ x.xs.length ≤ 1000) (hcells : ∀ (i : Nat) (x : RowR), ys[i]? = some x → ∀ (j : Nat) (u : Value), (rowC x)[j]? = some u → w.cell? ⟨g, i * 3 + j, none⟩ = some u) (hfz : ∀ a : Addr, a.block = g → w.frozen? a = false) :
    Calls Tryz.prog 68 #[.slice (some ⟨g, 0, none⟩) n cap, .func (.func 69) #[] #[]] w fun e w' =>
      e = .returned (.tuple #[]) ∧ ∃ ps, InOrder ys ps ∧ Stab ys ps ∧ (∀ i a, ps[i]? = some a → RowAt w' g (0 + i * 3) (rowOf ys a)) ∧ Gr w0 w' := by
  subst hn
  haveI : Inhabited (Fin ys.length) := ⟨⟨0, h0⟩⟩
  have hat : ∀ i : Fin ys.length, ys[i.val]? = some (rowOf ys i) := fun i => by
    have := List.getElem?_eq_getElem i.isLt
    rw [this, rowOf_at this]
  have hmem : ∀ i : Fin ys.length, rowOf ys i ∈ ys := fun i => List.mem_of_getElem? (hat i)
  let enc : Fin ys.length → List Value := fun i => rowC (rowOf ys i)
  have hk : ∀ x, (enc x).length = 3 := fun _ => rfl
  have hone : ∀ x, ∀ v ∈ enc x, v.oneCell' = true := fun x v hvm => by
    obtain ⟨⟨p, c, hu, _⟩⟩ := (hv _ _ (hat x)).1
    simp only [enc, rowC, List.mem_cons, List.not_mem_nil, or_false] at hvm
    rcases hvm with rfl | rfl | rfl
    · rfl
    · rfl
    · rw [hu]; rfl
  have hds : (Array.ofFn (id : Fin ys.length → Fin ys.length)).size = ys.length := by simp
  have hdg : ∀ i (hi : i < ys.length), (Array.ofFn (id : Fin ys.length → Fin ys.length))[i]! = ⟨i, hi⟩ := fun i hi => by
    rw [getElem!_pos _ i (by simpa using hi)]; simp
  have hdl : ((Array.ofFn (id : Fin ys.length → Fin ys.length)).toList.map Fin.val) = List.range ys.length := by
    apply List.ext_getElem?
    intro i
    simp only [List.getElem?_map, Array.getElem?_toList, Array.getElem?_ofFn]
    by_cases h : i < ys.length
    · simp [h]
    · simp [h]
  generalize (Array.ofFn (id : Fin ys.length → Fin ys.length)) = d at *
  have hH : HoldsK enc 3 w g 0 d := fun t ht => by
    rw [size_flatK, hds] at ht
    refine ⟨?_, hfz _ rfl⟩
    rw [get_flatK enc 3 d t (by rw [hds]; exact ht), hdg (t / 3) (by omega)]
    have hm : t % 3 < 3 := by omega
    have hc := hcells (t / 3) _ (hat ⟨t / 3, by omega⟩) (t % 3) ((rowC (rowOf ys (t / 3)))[t % 3]'hm) (List.getElem?_eq_getElem _)
    rw [show t / 3 * 3 + t % 3 = t by omega] at hc
    rw [Nat.zero_add, hc]
    congr 1
    exact (getElem!_pos (enc ⟨t / 3, by omega⟩) (t % 3) hm).symm
  have hsw : ∀ (m : Nat) (os : Array Obj) (dk : Array (Fin ys.length)), Gr w0 (sortWorldK enc 3 w g 0 m dk os) := fun m os dk =>
    Below.grown hg (grownBy_sortedK enc 3 dk) hg.size (fun k hk => by cases hk; exact hb)
  have hcmp : CmpLays Tryz.prog 69 #[] enc 3 (fun (i j : Fin ys.length) => cmpR (rowOf ys i) (rowOf ys j)) g 0 d.size w := by
    intro m os dk _ x y
    have gr := hsw m os dk
    have ix := hv _ _ (hat x)
    have iy := hv _ _ (hat y)
    have := cmpS_c (hst _ (hmem x)) (hst _ (hmem y)) (ix.1.gr gr) (iy.1.gr gr) ix.2 iy.2
    refine Calls.mono this ?_
    rintro e w' ⟨rfl, gd⟩
    exact ⟨rfl, gd.grow⟩
  have hcall := sortR_c enc (fun (i j : Fin ys.length) => cmpR (rowOf ys i) (rowOf ys j)) hk hone g 0 cap d w hcmp hH hlt (by omega)
  rw [hds] at hcall
  refine hcall.mono ?_
  rintro e w' ⟨rfl, m, os, rfl⟩
  obtain ⟨hp, hso⟩ := insertionSort_holds (swo_cmp ys) d 0 ys.length (Nat.zero_le _) (by omega)
  have hfil : ∀ r : Int, (Sort.insertionSort (ltOf fun (i j : Fin ys.length) => cmpR (rowOf ys i) (rowOf ys j)) d 0 ys.length).toList.filter (fun (i : Fin ys.length) => rankR ys (rowOf ys i) == r) = d.toList.filter (fun (i : Fin ys.length) => rankR ys (rowOf ys i) == r) := fun r => by
    unfold Sort.insertionSort
    refine insOuter_filter (fun x y h => ?_) _ _ _ _ rfl (by omega)
    simp only [ltOf, decide_eq_true_eq] at h
    have := rankR_less (hmem x) h
    simp only [beq_iff_eq]
    omega
  generalize Sort.insertionSort (ltOf fun (i j : Fin ys.length) => cmpR (rowOf ys i) (rowOf ys j)) d 0 ys.length = d' at *
  have hsz : d'.size = ys.length := by rw [hp.1, hds]
  have hHs := holdsK_sortWorldK_c enc 3 w g 0 d d' m os hH hlt (by omega)
  refine ⟨rfl, d'.toList.map Fin.val, ⟨?_, ?_⟩, ⟨fun r => ?_⟩, fun i a hi => ?_, hsw m os d'⟩
  · have h3 := hp.2.2
    have ex : ∀ (q : Array (Fin ys.length)) (m : Nat), m = q.size → q.extract 0 m = q := by
      intro q m hm
      subst hm
      simp
    rw [ex d' ys.length hsz.symm, ex d ys.length hds.symm] at h3
    have := h3.map Fin.val
    rwa [hdl] at this
  · intro i j a c hij hi hj
    simp only [List.getElem?_map, Option.map_eq_some_iff, Array.getElem?_toList] at hi hj
    obtain ⟨x, hx, rfl⟩ := hi
    obtain ⟨y, hy, rfl⟩ := hj
    obtain ⟨hi2, ex⟩ := Array.getElem?_eq_some_iff.1 hx
    obtain ⟨hj2, ey⟩ := Array.getElem?_eq_some_iff.1 hy
    have := hso i j (Nat.zero_le _) hij (by omega)
    rw [getElem!_pos _ i hi2, getElem!_pos _ j hj2, ex, ey] at this
    simp only [ltOf, decide_eq_false_iff_not] at this
    have f := cmpR_flip (rowOf ys x) (rowOf ys y)
    omega
  · rw [← hdl, List.filter_map, List.filter_map]
    congr 1
    exact hfil r
  · simp only [List.getElem?_map, Option.map_eq_some_iff, Array.getElem?_toList] at hi
    obtain ⟨x, hx, rfl⟩ := hi
    obtain ⟨hi2, ex⟩ := Array.getElem?_eq_some_iff.1 hx
    have c : ∀ (j : Nat) (hj : j < 3), (sortWorldK enc 3 w g 0 m d' os).cell? ⟨g, i * 3 + j, none⟩ = some ((rowC (rowOf ys x))[j]'hj) := fun j hj => by
      have := (hHs.cell hi2 hj).1
      rw [getElem!_pos _ i hi2, ex] at this
      rw [Nat.zero_add] at this
      rw [this]
      congr 1
      exact getElem!_pos (enc x) j hj
    have ix := hv _ _ (hat x)
    rw [Nat.zero_add]
    exact ⟨c 0 (by omega), c 1 (by omega), c 2 (by omega), ix.1.gr (hsw m os d'), ix.2⟩
/-- two sorted lists with the same elements at each rank -/
theorem sorted_same {P Q : List PlR} (hP : P.Pairwise fun a b => a.rk ≤ b.rk) (hQ : Q.Pairwise fun a b => a.rk ≤ b.rk) (h1 : ∀ p ∈ P, 1 ≤ p.rk) (h2 : ∀ p ∈ Q, 1 ≤ p.rk) (h : ∀ r : Int, P.filter (fun p => p.rk == r) = Q.filter fun p => p.rk == r) : ∀ m : Nat, P.filter (fun p => decide (p.rk ≤ (m : Int))) = Q.filter fun p => decide (p.rk ≤ (m : Int))
  | 0 => by
    rw [List.filter_eq_nil_iff.2 (fun p hp => by have := h1 p hp; simp; omega), List.filter_eq_nil_iff.2 (fun p hp => by have := h2 p hp; simp; omega)]
  | m + 1 => by
    have e1 := sorted_next (m := m) P hP
    have e2 := sorted_next (m := m) Q hQ
    have := sorted_same hP hQ h1 h2 h m
    rw [show ((m + 1 : Nat) : Int) = (m : Int) + 1 by omega, e1, e2, this, h]
/-- the names of those with a rank of at most m, in an order -/
def nameL (ys : List RowR) (ps : List Nat) (m : Int) : List ByteArray := (ps.filter fun a => decide (rankR ys (rowOf ys a) ≤ m)).map fun a => (rowOf ys a).nm
theorem nameL_take {ys : List RowR} {ps : List Nat} {m : Int} {k a : Nat} (h : ps[k]? = some a) : nameL ys (ps.take (k + 1)) m = nameL ys (ps.take k) m ++ (if decide (rankR ys (rowOf ys a) ≤ m) then [(rowOf ys a).nm] else []) := by
  unfold nameL
  rw [List.take_add_one, h, List.filter_append, List.map_append]
  by_cases e : rankR ys (rowOf ys a) ≤ m <;> simp [e]
theorem nameL_thru {xs : List RowR} {ps : List Nat} (hO : InOrder (fine xs) ps) (hS : Stab (fine xs) ps) (m : Nat) : nameL (fine xs) ps m = thruB (xs.map bare) m := by
  have hb : (fine xs).map bare = fineB (xs.map bare) := fine_bare xs
  have hmap : ∀ l : List Nat, (l.map fun a => (⟨(rowOf (fine xs) a).nm, rankR (fine xs) (rowOf (fine xs) a)⟩ : PlR)).map (fun p => p.nm) = l.map fun a => (rowOf (fine xs) a).nm := fun l => by rw [List.map_map]; rfl
  have hpl : pls ((fineB (xs.map bare)).map fun b => b.nm) (ranksB (fineB (xs.map bare))) = (List.range (fine xs).length).map fun a => ⟨(rowOf (fine xs) a).nm, rankR (fine xs) (rowOf (fine xs) a)⟩ := by
    unfold ranksB
    rw [pls_map, ← hb, List.map_map]
    conv => lhs; rw [← rows_range (fine xs)]
    rw [List.map_map]
    apply List.map_congr_left
    intro a _
    simp only [Function.comp, bare]
    rw [rankR_bare]
    rw [rows_range]
    rfl
  have key := sorted_same (P := ps.map fun a => ⟨(rowOf (fine xs) a).nm, rankR (fine xs) (rowOf (fine xs) a)⟩) (Q := srtP (pls ((fineB (xs.map bare)).map fun b => b.nm) (ranksB (fineB (xs.map bare))))) ?_ (srtP_pairwise _) ?_ ?_ ?_ m
  · unfold nameL thruB goOn
    rw [← key, List.filter_map, hmap]
    rfl
  · rw [List.pairwise_map, List.pairwise_iff_getElem]
    intro i j hi hj hij
    have hs := hO.sorted i j _ _ hij (List.getElem?_eq_getElem hi) (List.getElem?_eq_getElem hj)
    have hl := hO.lt (List.getElem?_eq_getElem hi)
    exact rankR_le (by rw [rowOf_at (List.getElem?_eq_getElem hl)]; exact List.getElem_mem hl) hs
  · intro p hp
    obtain ⟨a, _, rfl⟩ := List.mem_map.1 hp
    show 1 ≤ rankR _ _
    unfold rankR; omega
  · intro p hp
    have hp2 := (srtP_spec _).1.mem_iff.1 hp
    rw [hpl] at hp2
    obtain ⟨a, _, rfl⟩ := List.mem_map.1 hp2
    show 1 ≤ rankR _ _
    unfold rankR; omega
  · intro r
    rw [srtP_filter, hpl, List.filter_map, List.filter_map]
    congr 1
    exact hS.keep r
end Go.Proofs.YtebnbjaaogfikaaGreatDoor
