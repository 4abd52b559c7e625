/- Starters kept apart (plain): an order without an error is a permutation. -/
import Derived.Test.YtcnpmebihdonoaaGreatDoorGSpD
import Derived.Test.YtcnpmebihdonoaaGreatDoorGMapG
import Derived.Test.YtcnpmebihdonoaaGreatDoorGNat
import Derived.Shelf.SlSortCmp.Kit1
import Derived.Sort.Grow
import Derived.Test.YtcnpmebihdonoaaGreatDoorGCmp
import Derived.Shelf.SlSortCmp.Insertion1
namespace Go.Proofs.YtcnpmebihdonoaaGreatDoor
open Go.RowKit Go.Lib
set_option linter.unusedSimpArgs false
set_option linter.unusedVariables false
theorem perm_range : ∀ (n : Nat) (p : List Nat), p.Nodup → (∀ a ∈ p, a < n) → n ≤ p.length → p.Perm (List.range n)
  | 0, p, _, h, _ => by
    cases p with
    | nil => exact List.Perm.refl _
    | cons a p => exact absurd (h a (by simp)) (by omega)
  | n + 1, p, hd, h, hl => by
    by_cases hn : n ∈ p
    · have h1 := List.perm_cons_erase hn
      have h2 := perm_range n (p.erase n) (hd.erase n) (fun a ha => by
        have h3 := h a (List.mem_of_mem_erase ha)
        have h4 : a ≠ n := fun e => by
          subst e
          exact (hd.mem_erase_iff.1 ha).1 rfl
        omega) (by rw [List.length_erase_of_mem hn]; omega)
      rw [List.range_succ]
      exact h1.trans ((h2.cons n).trans (List.perm_append_singleton n (List.range n)).symm)
    · have h2 := perm_range n p hd (fun a ha => by
        have h3 := h a ha
        have h4 : a ≠ n := fun e => hn (e ▸ ha)
        omega) (by omega)
      have := h2.length_eq
      rw [List.length_range] at this
      omega
theorem ordersE_perm {n : Nat} {a : List Int} (h : ordersE n a = 0) : ∃ p : List Nat, a = p.map (fun (i : Nat) => (i : Int)) ∧ p.Perm (List.range n) := by
  have h1 := firstE_zero h (eachI (ordE n a) a 0) (by simp)
  have h2 := firstE_zero h (if decide ((a.length : Int) < n) then 7 else 0) (by simp)
  have hl : n ≤ a.length := by
    by_cases hh : (a.length : Int) < n
    · rw [decide_eq_true hh] at h2
      cases h2
    · omega
  have hE : ∀ (i : Nat) (x : Int), a[i]? = some x → 0 ≤ x ∧ x < n ∧ ((a.take i).any fun z => x == z) = false := fun i x hx => by
    have h3 := eachI_zero h1 i x hx
    rw [Nat.zero_add] at h3
    have h4 := firstE_zero h3 (if decide (x < 0) || decide ((n : Int) ≤ x) then 10 else 0) (by simp)
    have h5 := firstE_zero h3 (twE a i x) (by simp)
    refine ⟨?_, ?_, ?_⟩
    · by_cases hh : x < 0
      · rw [decide_eq_true hh] at h4
        cases h4
      · omega
    · by_cases hh : (n : Int) ≤ x
      · rw [decide_eq_true hh, Bool.or_true] at h4
        cases h4
      · omega
    · unfold twE at h5
      split at h5
      · cases h5
      · rename_i hh
        exact Bool.eq_false_iff.2 hh
  have hm : a = (a.map Int.toNat).map (fun (i : Nat) => (i : Int)) := by
    rw [List.map_map]
    refine (List.map_id a).symm.trans (List.map_congr_left fun x hx => ?_)
    obtain ⟨i, hi⟩ := List.mem_iff_getElem?.1 hx
    have := (hE i x hi).1
    simp
    omega
  refine ⟨a.map Int.toNat, hm, perm_range n _ ?_ ?_ (by rw [List.length_map]; exact hl)⟩
  · rw [List.Nodup, List.pairwise_iff_getElem]
    intro i j hi hj hij
    rw [List.length_map] at hi hj
    rw [List.getElem_map, List.getElem_map]
    intro e
    have ei := hE i a[i] (List.getElem?_eq_getElem hi)
    have ej := hE j a[j] (List.getElem?_eq_getElem hj)
    have hany := ej.2.2
    rw [List.any_eq_false] at hany
    refine hany a[i] (List.mem_iff_getElem?.2 ⟨i, ?_⟩) ?_
    · rw [List.getElem?_take, if_pos hij]
      exact List.getElem?_eq_getElem hi
    · simp
      omega
  · intro x hx
    obtain ⟨y, hy, rfl⟩ := List.mem_map.1 hx
    obtain ⟨i, hi⟩ := List.mem_iff_getElem?.1 hy
    have := hE i y hi
    omega
/-- two orders of the same starters have the same nations -/
theorem natO_perm (xs : List EntR) {p q : List Nat} (h : p.Perm q) : (natO xs p).Perm (natO xs q) := h.map _
end Go.Proofs.YtcnpmebihdonoaaGreatDoor
namespace Go.Proofs.YtcnpmebihdonoaaGreatDoor
open Go.RowKit Go.Lib
set_option linter.unusedSimpArgs false
set_option linter.unusedVariables false
/-- the nation of a starter -/
def natA (xs : List EntR) (i : Nat) : List UInt8 := ((xs[i]?).map fun x => x.na.toList).getD []
theorem natA_at {xs : List EntR} {i : Nat} {x : EntR} (h : xs[i]? = some x) : natA xs i = x.na.toList := by simp [natA, h]
theorem natO_eq (xs : List EntR) (p : List Nat) : natO xs p = p.map (natA xs) := rfl
theorem flatten_set {α : Type} (a : α) : ∀ (L : List (List α)) (j : Nat) (l : List α), L[j]? = some l → (L.set j (l ++ [a])).flatten.Perm (L.flatten ++ [a])
  | [], j, l, h => by simp at h
  | m :: L, 0, l, h => by
    simp at h
    subst h
    simp only [List.set_cons_zero, List.flatten_cons, List.append_assoc]
    exact List.Perm.append_left _ List.perm_append_comm
  | m :: L, j + 1, l, h => by
    simp at h
    have := flatten_set a L j l h
    simp only [List.set_cons_succ, List.flatten_cons, List.append_assoc]
    exact List.Perm.append_left _ this
/-- the teams of the first k starters -/
structure TmF (xs : List EntR) (k : Nat) (ks : List (ByteArray × Nat)) (L : List (List Nat)) : Prop where
  num : ks.length = L.length
  ix : ∀ (j : Nat) (p : ByteArray × Nat), ks[j]? = some p → p.2 = j
  perm : L.flatten.Perm (List.range k)
  nat : ∀ (j : Nat) (p : ByteArray × Nat) (l : List Nat), ks[j]? = some p → L[j]? = some l → ∀ a ∈ l, natA xs a = p.1.toList
  dis : ∀ (i j : Nat) (p q : ByteArray × Nat), ks[i]? = some p → ks[j]? = some q → p.1.toList = q.1.toList → i = j
  few : L.length ≤ k
theorem TmF.zero (xs : List EntR) : TmF xs 0 [] [] := ⟨rfl, fun j p h => by simp at h, List.Perm.refl _, fun j p l h => by simp at h, fun i j p q h => by simp at h, Nat.le_refl _⟩
theorem lookG_some {α : Type} {ks : List (ByteArray × α)} {k : ByteArray} {v : α} (h : lookG ks k = some v) : ∃ (j : Nat) (p : ByteArray × α), ks[j]? = some p ∧ p.1.toList = k.toList ∧ p.2 = v := by
  unfold lookG at h
  cases hf : ks.find? fun p => p.1.toList == k.toList with
  | none => rw [hf] at h; cases h
  | some p =>
    rw [hf] at h
    simp at h
    obtain ⟨j, hj⟩ := List.mem_iff_getElem?.1 (List.mem_of_find?_eq_some hf)
    exact ⟨j, p, hj, by simpa using List.find?_some hf, h⟩
theorem lookG_none {α : Type} {ks : List (ByteArray × α)} {k : ByteArray} (h : lookG ks k = none) : ∀ p ∈ ks, p.1.toList ≠ k.toList := by
  unfold lookG at h
  rw [Option.map_eq_none_iff, List.find?_eq_none] at h
  intro p hp e
  exact h p hp (by simpa using e)
theorem putG_none {α : Type} {k : ByteArray} (v : α) : ∀ {ks : List (ByteArray × α)}, lookG ks k = none → putG ks k v = ks ++ [(k, v)]
  | [], _ => rfl
  | p :: ks, h => by
    have h1 := lookG_none h p (by simp)
    have h2 : lookG ks k = none := by
      unfold lookG at h ⊢
      rw [Option.map_eq_none_iff] at h ⊢
      rw [List.find?_eq_none] at h ⊢
      exact fun q hq => h q (by simp [hq])
    have h3 : (p.1.toList == k.toList) = false := by simpa using h1
    unfold putG
    rw [h3, putG_none v h2]
    rfl
theorem TmF.old {xs : List EntR} {k : Nat} {ks : List (ByteArray × Nat)} {L : List (List Nat)} (h : TmF xs k ks L) {x : EntR} (hx : xs[k]? = some x) {j : Nat} (hl : lookG ks x.na = some j) : ∃ l, L[j]? = some l ∧ TmF xs (k + 1) ks (L.set j (l ++ [k])) := by
  obtain ⟨i, p, hp, hpk, hpj⟩ := lookG_some hl
  have hi := h.ix i p hp
  have hij : i = j := by omega
  subst hij
  have hlt := (List.getElem?_eq_some_iff.1 hp).1
  obtain ⟨l, hL⟩ : ∃ l, L[i]? = some l := ⟨L[i]'(by rw [← h.num]; exact hlt), List.getElem?_eq_getElem _⟩
  refine ⟨l, hL, by simp [h.num], h.ix, ?_, fun j q l2 hq hl2 a ha => ?_, h.dis, by rw [List.length_set]; have := h.few; omega⟩
  · rw [List.range_succ]
    exact (flatten_set k L i l hL).trans (h.perm.append_right _)
  · by_cases e : j = i
    · subst e
      rw [List.getElem?_set_self (List.getElem?_eq_some_iff.1 hL).1] at hl2
      cases hl2
      rcases List.mem_append.1 ha with h1 | h1
      · exact h.nat j q l hq hL a h1
      · simp at h1
        subst h1
        rw [hp] at hq
        cases hq
        rw [natA_at hx, hpk]
    · rw [List.getElem?_set_ne (Ne.symm e)] at hl2
      exact h.nat j q l2 hq hl2 a ha
theorem TmF.new {xs : List EntR} {k : Nat} {ks : List (ByteArray × Nat)} {L : List (List Nat)} (h : TmF xs k ks L) {x : EntR} (hx : xs[k]? = some x) (hl : lookG ks x.na = none) : TmF xs (k + 1) (ks ++ [(x.na, L.length)]) ((L ++ [[]]).set L.length ([] ++ [k])) := by
  have hn := lookG_none hl
  have e : (L ++ [[]]).set L.length ([] ++ [k]) = L ++ [[k]] := by
    rw [List.set_append_right _ _ (Nat.le_refl _), Nat.sub_self]
    rfl
  rw [e]
  have hnew : ∀ (i : Nat) (q : ByteArray × Nat), (ks ++ [(x.na, L.length)])[i]? = some q → ks[i]? = some q ∨ i = ks.length ∧ q = (x.na, L.length) := fun i u hu => by
    rcases Nat.lt_or_ge i ks.length with h1 | h1
    · rw [List.getElem?_append_left h1] at hu; exact .inl hu
    · rw [List.getElem?_append_right h1] at hu
      have h2 := (List.getElem?_eq_some_iff.1 hu).1
      simp at h2
      have h3 : i - ks.length = 0 := by omega
      rw [h3] at hu
      simp at hu
      exact .inr ⟨by omega, hu.symm⟩
  refine ⟨by simp [h.num], fun j q hq => ?_, ?_, fun j q l hq hl2 a ha => ?_, fun i j p q hp hq hpq => ?_, by have := h.few; simp; omega⟩
  · rcases hnew j q hq with h1 | ⟨rfl, rfl⟩
    · exact h.ix j q h1
    · exact h.num.symm
  · rw [List.flatten_append, List.range_succ]
    simpa using h.perm.append_right [k]
  · rcases hnew j q hq with h1 | ⟨rfl, rfl⟩
    · have hj := (List.getElem?_eq_some_iff.1 h1).1
      rw [List.getElem?_append_left (by rw [← h.num]; exact hj)] at hl2
      exact h.nat j q l h1 hl2 a ha
    · rw [h.num, List.getElem?_append_right (Nat.le_refl _)] at hl2
      simp at hl2
      subst hl2
      simp at ha
      subst ha
      exact natA_at hx
  · rcases hnew i p hp with h1 | ⟨rfl, rfl⟩
    · rcases hnew j q hq with h2 | ⟨rfl, rfl⟩
      · exact h.dis i j p q h1 h2 hpq
      · exact absurd hpq (hn p (List.mem_of_getElem? h1))
    · rcases hnew j q hq with h2 | ⟨rfl, rfl⟩
      · exact absurd hpq.symm (hn q (List.mem_of_getElem? h2))
      · rfl
/-- nobody of a team is of another team's nation; a team has one nation -/
theorem TmF.parted {xs : List EntR} {k : Nat} {ks : List (ByteArray × Nat)} {L : List (List Nat)} (h : TmF xs k ks L) : L.Pairwise (fun l m => ∀ a ∈ l, ∀ b ∈ m, natA xs a ≠ natA xs b) ∧ ∀ l ∈ L, ∀ a ∈ l, ∀ b ∈ l, natA xs a = natA xs b := by
  have at_ : ∀ (i : Nat) (hi : i < L.length), ∃ p, ks[i]? = some p := fun i hi => ⟨ks[i]'(by rw [h.num]; exact hi), List.getElem?_eq_getElem _⟩
  refine ⟨?_, fun l hl a ha b hb => ?_⟩
  · rw [List.pairwise_iff_getElem]
    intro i j hi hj hij a ha b hb e
    obtain ⟨p, hp⟩ := at_ i hi
    obtain ⟨q, hq⟩ := at_ j hj
    rw [h.nat i p _ hp (List.getElem?_eq_getElem hi) a ha, h.nat j q _ hq (List.getElem?_eq_getElem hj) b hb] at e
    have := h.dis i j p q hp hq e
    omega
  · obtain ⟨i, hi⟩ := List.mem_iff_getElem?.1 hl
    obtain ⟨p, hp⟩ := at_ i (List.getElem?_eq_some_iff.1 hi).1
    rw [h.nat i p l hp hi a ha, h.nat i p l hp hi b hb]
theorem TmF.le {xs : List EntR} {k : Nat} {ks : List (ByteArray × Nat)} {L : List (List Nat)} (h : TmF xs k ks L) : ∀ l ∈ L, l.length ≤ k := fun l hl => by
  have h1 := h.perm.length_eq
  rw [List.length_range] at h1
  rw [← h1]
  exact flat_le l L hl
where
  flat_le {α : Type} (l : List α) : ∀ L : List (List α), l ∈ L → l.length ≤ L.flatten.length
    | [], h => by simp at h
    | m :: L, h => by
      rw [List.flatten_cons, List.length_append]
      rcases List.mem_cons.1 h with rfl | h
      · omega
      · have := flat_le l L h
        omega
end Go.Proofs.YtcnpmebihdonoaaGreatDoor
namespace Go.Proofs.YtcnpmebihdonoaaGreatDoor
open Go.RowKit Go.Lib
set_option linter.unusedSimpArgs false
set_option linter.unusedVariables false
theorem infoL : (Tryz.prog.info? 23).map (fun i => (i.zero, i.size, i.bytes)) = some (some (.slice none 0 0), 1, 24) := by kernel_rfl
theorem uMapT : Tryz.prog.underlying 139 = some (.map 9 3) := by kernel_rfl
theorem zeroI (w : World) : (zeroValue 3).run Tryz.prog w = .ok (.int .i64 0) w := by kernel_rfl
theorem nats_snoc (l : List Nat) (a : Nat) : nats (l ++ [a]) = nats l ++ [.int .i64 (a : Int)] := by simp [nats]
/-- one more of a team, as the program appends and stores -/
theorem Tms.step {w W w1 : World} {mg G N cap : Nat} {vs : List Value} {ks : List (ByteArray × Nat)} {L : List (List Nat)} (h : Tms W w.heap.size mg (.slice (some ⟨G, 0, none⟩) N cap) vs ks L) (g : Gr w W) {i : Nat} {u u1 : Value} {l : List Nat} (hu : vs[i]? = some u) (hl : L[i]? = some l) {a : Nat} {o : Obj}
    (ho : w1.ownsRow w.heap.size 3 1 u1 (l.length + 1) (nats l ++ [.int .i64 (a : Int)])) (hgr : (W.alloc o).grownBy w1 u.ownBlock) (hat : u1.ownBlock = u.ownBlock ∨ u1.ownBlock = some (W.alloc o).heap.size) :
    w1.cell? ⟨G, i, none⟩ = some u ∧ w1.frozen? ⟨G, i, none⟩ = false ∧ Tms (w1.setCell ⟨G, i, none⟩ u1) w.heap.size mg (.slice (some ⟨G, 0, none⟩) N cap) (vs.set i u1) ks (L.set i (l ++ [a])) ∧ Gr w (w1.setCell ⟨G, i, none⟩ u1) := by
  have hA := h.gr ((Gr.refl W).alloc o)
  obtain ⟨t1, t2, t3⟩ := hA.grow hu hl hgr (l ++ [a]) (by rw [nats_snoc, List.length_append]; exact ho) hat
  refine ⟨t2, t3, t1, ?_⟩
  refine Below.setCell (Below.grown (g.alloc _) hgr ?_ (fun j hj => ?_)) (p := ⟨G, i, none⟩) (own_in h.own (g := G) rfl).2 u1
  · simp
    have := g.size
    omega
  · exact (own_in (hA.row i u l hu hl) hj).2
theorem own_shape {w : World} {b s n : Nat} {T : TypeId} {v : Value} {l : List Value} (h : w.ownsRow b T s v n l) : ∃ p c, v = .slice p n c ∧ n ≤ c ∧ c ≤ maxLen := by
  rcases h.2 with ⟨rfl, rfl⟩ | ⟨g, cap, cur, rfl, _, _, h1, h2, _⟩
  · exact ⟨none, 0, rfl, Nat.le_refl _, by unfold maxLen; omega⟩
  · exact ⟨_, cap, rfl, h1, h2⟩
theorem Tms.outer {W : World} {base mg : Nat} {v : Value} {vs : List Value} {ks : List (ByteArray × Nat)} {L : List (List Nat)} (h : Tms W base mg v vs ks L) {i : Nat} {u : Value} (hu : vs[i]? = some u) : ∃ G cap, v = .slice (some ⟨G, 0, none⟩) vs.length cap ∧ W.cell? ⟨G, i, none⟩ = some u := by
  have hlt := (List.getElem?_eq_some_iff.1 hu).1
  obtain ⟨g, c, e, _, _, _, hc⟩ := own_at h.own (by omega)
  exact ⟨g, c, e, hc i u hu⟩
set_option maxHeartbeats 4000000 in
set_option maxRecDepth 100000 in
theorem teams_c (xs : List EntR) (v : Value) (w : World) (hv : EntAts w v xs) (h1 : xs.length ≤ 1000) :
    Calls Tryz.prog 43 #[v] w fun e w' => ∃ (v' : Value) (vs : List Value) (ks : List (ByteArray × Nat)) (L : List (List Nat)) (mg : Nat), e = .returned v' ∧ Tms w' w.heap.size mg v' vs ks L ∧ TmF xs xs.length ks L ∧ Gr w w' := by
  obtain ⟨⟨pv, cap, rfl, _, hh⟩⟩ := hv
  have HH := Lib.hid hh
  clear hh
  obtain ⟨n, hn⟩ : ∃ n, n = xs.length := ⟨_, rfl⟩
  rw [← hn] at h1 HH ⊢
  have HN := Lib.hid hn
  clear hn
  obtain ⟨i0, hi, hz0, hz1, hz2⟩ := info_parts info3
  obtain ⟨i1, hi1, hy0, hy1, hy2⟩ := info_parts infoL
  have hmm := @run_makeMap Tryz.prog
  have HS0 : Hid (Tms (w.alloc (.map #[] 0)) w.heap.size w.heap.size (.slice none 0 0) [] [] []) := ⟨mapG_new w, Nat.le_refl _, World.ownsRow_nil _ _ _ _, rfl, fun i u l h => by simp at h, fun i j u u' g h => by simp at h, fun i u g h => by simp at h⟩
  have HG0 := Lib.hid ((Gr.refl w).alloc (.map #[] 0))
  go_enter Tryz.func43, Tryz.ntmps43
  go_wp2_with fail
  clear hmm
  generalize w.alloc (.map #[] 0) = W0 at *
  go_loopg [4, 5, 6, 7, 8, 12] n (fun gk s4 s5 s6 s7 s8 s12 wr => ∃ (k : Nat) (vs : List Value) (ks : List (ByteArray × Nat)) (L : List (List Nat)), s12 = .int .i64 k ∧ gk + k = n ∧ Tms wr w.heap.size w.heap.size s4 vs ks L ∧ Hid (TmF xs k ks L) ∧ Gr w wr)
  case atStart => exact ⟨0, [], [], [], rfl, by omega, HS0.out, TmF.zero xs, HG0.out⟩
  case round =>
    obtain ⟨k, vs, ks, L, rfl, hgk, hT, HF, hg⟩ := hrel
    by_cases hlt : k < n
    · obtain ⟨x, hx⟩ : ∃ x, xs[k]? = some x := ⟨xs[k]'(by have := HN.out; omega), List.getElem?_eq_getElem _⟩
      obtain ⟨b, off, rfl, hc⟩ := HH.out (by omega)
      obtain ⟨c0, c1, c2⟩ := (hc k x hx).gr hg
      have hki : (k : Int) < n := by omega
      obtain ⟨WB, hWB, gB, a0, a1, a2⟩ := box3 wr (.string x.nm) (.string x.na) (.int .i64 x.sd) 53
      have hTB := hT.gr gB
      have hGB := hg.trans gB
      have hlook := mapG_look2 uMapT zeroI hTB.map x.na
      rw [← hWB] at hlook
      have HWB := Lib.hid hWB
      have HSZ : Hid (wr.heap.size + 1 = WB.heap.size) := by unfold Hid; rw [← hWB]; simp
      have hfew := HF.out.few
      clear hT hg gB hWB hc
      cases hq : lookG ks x.na with
      | some j =>
        rw [hq] at hlook
        obtain ⟨l, hl, hF2⟩ := HF.out.old hx hq
        have HF2 := Lib.hid hF2
        have hll : l.length ≤ k := HF.out.le l (List.mem_of_getElem? hl)
        obtain ⟨u, hu⟩ : ∃ u, vs[j]? = some u := ⟨vs[j]'(by rw [hTB.len]; exact (List.getElem?_eq_some_iff.1 hl).1), List.getElem?_eq_getElem _⟩
        obtain ⟨G, capG, rfl, f0⟩ := hTB.outer hu
        have hjl : j < vs.length := (List.getElem?_eq_some_iff.1 hu).1
        have hvl : vs.length ≤ k := by rw [hTB.len]; exact hfew
        have hji : (j : Int) < vs.length := by omega
        have hown := own_kept (hTB.row j u l hu hl) ((Gr.refl WB).alloc (.cells #[.int .i64 (k : Int)] 3))
        have HST := Lib.hid (fun w1 u1 (ho : w1.ownsRow w.heap.size 3 1 u1 (l.length + 1) (nats l ++ [.int .i64 (k : Int)])) (hgr : (WB.alloc (.cells #[.int .i64 (k : Int)] 3)).grownBy w1 u.ownBlock) hat => hTB.step hGB hu hl ho hgr hat)
        have HLL := Lib.hid hll
        have HBS : Hid (w.heap.size ≤ WB.heap.size) := hGB.size
        simp only [Option.map_some, Option.getD_some, Option.isSome_some, evT] at hlook
        clear hF2 hq hTB hGB hu hl hll hx HF hfew
        rw [← HWB.out] at f0
        go_wp2_with (first
          | (at_builtin; rw [HWB.out, HSZ.out]; refine wpList_append_own_at _ rfl _ _ 23 rfl w.heap.size 3 i0 (.int .i64 0) 1 8 Tryz.underlying23 hi hz0 hz1 hz2 rfl (by decide) _ _ _ rfl hown ⟨WB.heap.size, 0, none⟩ 1 1 [.int .i64 (k : Int)] rfl rfl (cell_one_new _ _ _) (by intro u hu; simp at hu; subst hu; rfl) (by unfold maxLen; have := HLL.out; omega) (by have := HLL.out; omega) (by simp; have := HBS.out; omega) ?_; intro v1 w1 hown1 hgrow1 hnil1 hat1; obtain ⟨p1, cc1, rfl, hs1, hs2⟩ := row_shape hown1; obtain ⟨e1, e2, e3, e4⟩ := HST.out w1 _ hown1 hgrow1 hat1; have C3 := Lib.hid e3; have C4 := Lib.hid e4; clear e3 e4 hown1 hgrow1 hnil1 hat1 hs1 hs2))
        go_roundg (gk - 1)
        case measure => omega
        case rel => exact ⟨k + 1, _, ks, _, by go_num, by omega, by simpa using C3.out, HF2.out, C4.out⟩
      | none =>
        rw [hq] at hlook
        obtain ⟨p4, c4, rfl, _, _⟩ := own_shape hTB.own
        obtain ⟨ob, hput, hm2⟩ := mapG_put uMapT hTB.map x.na vs.length
        have hT2 := hTB.put hm2
        have hlen := hTB.len
        rw [putG_none _ hq] at hT2
        have HF2 := Lib.hid (HF.out.new hx hq)
        have hG2 := gr_putG (ob := ob) hGB (Nat.le_refl _)
        rw [← HWB.out] at hput
        have hWP : ∃ W, putGB (wr.alloc (.cells #[.string x.nm, .string x.na, .int .i64 x.sd] 53)) w.heap.size ob = W ∧ W = putGB WB w.heap.size ob := ⟨_, rfl, by rw [HWB.out]⟩
        obtain ⟨WP, hWP, hWP2⟩ := hWP
        rw [← hWP2] at hT2 hG2
        have HWP := Lib.hid hWP
        obtain ⟨m, hm⟩ : ∃ m, vs.length = m := ⟨_, rfl⟩
        rw [hm] at hT2
        have hmk : m ≤ k := by rw [← hm, hlen]; exact hfew
        have hi1' : (m : Int) < ((m + 1 : Nat) : Int) := by omega
        have HOO := Lib.hid (own_kept hT2.own ((Gr.refl WP).alloc (.cells #[Value.slice none 0 0] 23)))
        have HBS : Hid (w.heap.size ≤ WP.heap.size) := hG2.size
        have hM1 : ∀ v1 w1, w1.ownsRow w.heap.size 23 1 v1 (m + 1) (vs ++ [Value.slice none 0 0]) → (WP.alloc (.cells #[Value.slice none 0 0] 23)).grownBy w1 (Value.slice p4 m c4).ownBlock → (v1.ownBlock = (Value.slice p4 m c4).ownBlock ∨ v1.ownBlock = some (WP.alloc (.cells #[Value.slice none 0 0] 23)).heap.size) →
            ∃ G capG, v1 = .slice (some ⟨G, 0, none⟩) (m + 1) capG ∧ w1.cell? ⟨G, m, none⟩ = some (Value.slice none 0 0) ∧ w.heap.size ≤ w1.heap.size ∧ Hid (∀ w2 u1, w2.ownsRow w.heap.size 3 1 u1 (0 + 1) (nats [] ++ [.int .i64 (k : Int)]) → (w1.alloc (.cells #[.int .i64 (k : Int)] 3)).grownBy w2 (Value.slice none 0 0).ownBlock → (u1.ownBlock = (Value.slice none 0 0).ownBlock ∨ u1.ownBlock = some (w1.alloc (.cells #[.int .i64 (k : Int)] 3)).heap.size) →
              w2.cell? ⟨G, m, none⟩ = some (Value.slice none 0 0) ∧ w2.frozen? ⟨G, m, none⟩ = false ∧ Tms (w2.setCell ⟨G, m, none⟩ u1) w.heap.size w.heap.size (.slice (some ⟨G, 0, none⟩) (m + 1) capG) ((vs ++ [Value.slice none 0 0]).set m u1) (ks ++ [(x.na, m)]) ((L ++ [[]]).set m ([] ++ [k])) ∧ Gr w (w2.setCell ⟨G, m, none⟩ u1)) := fun v1 w1 ho hgr hat => by
          have hA := hT2.gr ((Gr.refl WP).alloc (.cells #[Value.slice none 0 0] 23))
          have hM := hA.more (by rw [hm]; exact ho) hgr hat
          have hg1 : Gr w w1 := by
            refine Below.grown (hG2.alloc _) hgr ?_ (fun j hj => (own_in hA.own hj).2)
            simp
            have := HBS.out
            omega
          have hat0 : (vs ++ [Value.slice none 0 0])[m]? = some (Value.slice none 0 0) := by rw [← hm]; simp
          obtain ⟨G, capG, rfl, f0⟩ := hM.outer hat0
          have hlen2 : (vs ++ [Value.slice none 0 0]).length = m + 1 := by simp [hm]
          rw [hlen2] at hM
          refine ⟨G, capG, by rw [hlen2], f0, hg1.size, fun w2 u1 ho2 hgr2 hat2 => ?_⟩
          exact hM.step (l := []) hg1 hat0 (by rw [← hm, hlen]; simp) ho2 hgr2 hat2
        have HM1 := Lib.hid hM1
        have HML : Hid (L.length = m) := by unfold Hid; rw [← hm, hlen]
        rw [hm] at HOO hput
        simp only [hm]
        simp only [Option.map_none, Option.getD_none, Option.isSome_none, evT] at hlook hput
        clear hM1 hT2 hG2 hWP hWP2 hm2 hq hTB hGB hx HF hfew hlen
        go_wp2_with (first
          | (at_builtin; rw [HWP.out]; refine wpList_append_own_at _ rfl _ _ 46 rfl w.heap.size 23 i1 (Value.slice none 0 0) 1 24 Tryz.underlying46 hi1 hy0 hy1 hy2 rfl (by decide) _ _ _ rfl HOO.out ⟨WP.heap.size, 0, none⟩ 1 1 [Value.slice none 0 0] rfl rfl (cell_one_new _ _ _) (by intro u hu; simp at hu; subst hu; rfl) (by unfold maxLen; omega) (by omega) (by simp; have := HBS.out; omega) ?_; intro v1 w1 hown1 hgrow1 hnil1 hat1; obtain ⟨G, capG, rfl, f0, fsz, HST⟩ := HM1.out v1 w1 hown1 hgrow1 hat1; clear hown1 hgrow1 hnil1 hat1)
          | (at_builtin; refine wpList_append_own_at _ rfl _ _ 23 rfl w.heap.size 3 i0 (.int .i64 0) 1 8 Tryz.underlying23 hi hz0 hz1 hz2 rfl (by decide) _ 0 (nats []) rfl (World.ownsRow_nil _ _ _ _) ⟨_, 0, none⟩ 1 1 [.int .i64 (k : Int)] rfl rfl (cell_one_new _ _ _) (by intro u hu; simp at hu; subst hu; rfl) (by unfold maxLen; omega) (by omega) (by simp; omega) ?_; intro v2 w2 hown1 hgrow1 hnil1 hat1; obtain ⟨p1, cc1, rfl, hs1, hs2⟩ := row_shape hown1; obtain ⟨e1, e2, e3, e4⟩ := HST.out w2 _ hown1 hgrow1 hat1; have C3 := Lib.hid e3; have C4 := Lib.hid e4; clear e3 e4 hown1 hgrow1 hnil1 hat1 hs1 hs2))
        go_roundg (gk - 1)
        case measure => omega
        case rel => exact ⟨k + 1, _, _, _, by go_num, by omega, C3.out, by have := HF2.out; rw [HML.out] at this; exact this, C4.out⟩
    · obtain rfl : k = n := by omega
      have HT := Lib.hid hT
      have HGG := Lib.hid hg
      clear hT hg
      go_wp2_with fail
      exact bodyPost_ret (v := u4) (by simp [results, Tryz.results43, go_sem]) rfl ⟨u4, vs, ks, L, _, rfl, HT.out, HF.out, HGG.out⟩
end Go.Proofs.YtcnpmebihdonoaaGreatDoor
namespace Go.Proofs.YtcnpmebihdonoaaGreatDoor
open Go.RowKit Go.Lib
set_option linter.unusedSimpArgs false
set_option linter.unusedVariables false
section
variable {α : Type} [DecidableEq α]
/-- how often -/
def cn (y : α) (l : List α) : Nat := l.count y
theorem cn_app (y : α) (a b : List α) : cn y (a ++ b) = cn y a + cn y b := List.count_append
theorem cn_perm (y : α) {a b : List α} (h : a.Perm b) : cn y a = cn y b := h.count_eq y
theorem cn_all {y : α} {l : List α} (h : ∀ z ∈ l, z = y) : cn y l = l.length := List.count_eq_length.2 fun z hz => (h z hz).symm
theorem cn_none {y : α} {l : List α} (h : y ∉ l) : cn y l = 0 := List.count_eq_zero.2 h
/-- the element at a place is one of the most that are left, as Greedy asks -/
def StepC (T q : List α) (i : Nat) : Prop := ∃ x, q[i]? = some x ∧ (((q.take i).getLast? ≠ some x ∧ ∀ y, (q.take i).getLast? ≠ some y → cn y T - cn y (q.take i) ≤ cn x T - cn x (q.take i)) ∨ ((q.take i).getLast? = some x ∧ ∀ y, y ≠ x → cn y T ≤ cn y (q.take i)))
theorem greedy_of {T q : List α} (hp : q.Perm T) (h : ∀ i, i < q.length → StepC T q i) : ∀ (suf pre : List α), q = pre ++ suf → Greedy pre.getLast? suf
  | [], _, _ => trivial
  | x :: s, pre, e => by
    obtain ⟨z, hz, hc⟩ := h pre.length (by rw [e]; simp)
    have ht : q.take pre.length = pre := by rw [e]; simp
    have hzx : z = x := by
      rw [e, List.getElem?_append_right (Nat.le_refl _), Nat.sub_self] at hz
      simpa using hz.symm
    subst hzx
    have hcnt : ∀ y, cn y T = cn y pre + cn y (z :: s) := fun y => by rw [← cn_perm y hp, e, cn_app]
    rw [ht] at hc
    refine ⟨?_, ?_⟩
    · rcases hc with ⟨h1, h2⟩ | ⟨h1, h2⟩
      · refine .inl ⟨h1, fun y hy => ?_⟩
        have := h2 y hy
        rw [hcnt, hcnt] at this
        unfold cn at this
        omega
      · refine .inr ⟨h1, fun y hy => ?_⟩
        by_cases hyz : y = z
        · exact hyz
        · have h3 := h2 y hyz
          rw [hcnt] at h3
          unfold cn at h3
          rw [List.count_cons] at h3
          have h4 := List.count_pos_iff.2 hy
          omega
    · have := greedy_of hp h s (pre ++ [z]) (by rw [e]; simp)
      rwa [List.getLast?_append, List.getLast?_singleton] at this
end
theorem flatten_tail {α : Type} (a : α) : ∀ (L : List (List α)) (j : Nat) (l : List α), L[j]? = some (a :: l) → L.flatten.Perm (a :: (L.set j l).flatten)
  | [], j, l, h => by simp at h
  | m :: L, 0, l, h => by
    simp at h
    subst h
    simp
  | m :: L, j + 1, l, h => by
    simp at h
    have := flatten_tail a L j l h
    simp only [List.set_cons_succ, List.flatten_cons]
    exact (List.Perm.append_left m this).trans List.perm_middle
theorem set_sub {α : Type} {L : List (List α)} {j : Nat} {a : α} {l : List α} (h : L[j]? = some (a :: l)) {i : Nat} {m : List α} (hm : (L.set j l)[i]? = some m) : ∃ m', L[i]? = some m' ∧ ∀ b ∈ m, b ∈ m' := by
  by_cases e : i = j
  · subst e
    rw [List.getElem?_set_self (List.getElem?_eq_some_iff.1 h).1] at hm
    cases hm
    exact ⟨_, h, fun b hb => by simp [hb]⟩
  · rw [List.getElem?_set_ne (Ne.symm e)] at hm
    exact ⟨m, hm, fun b hb => hb⟩
/-- how many are left of a nation -/
theorem count_left (xs : List EntR) (y : List UInt8) : ∀ (L : List (List Nat)), L.Pairwise (fun l m => ∀ a ∈ l, ∀ b ∈ m, natA xs a ≠ natA xs b) → (∀ l ∈ L, ∀ a ∈ l, ∀ b ∈ l, natA xs a = natA xs b) →
    (cn y (natO xs L.flatten) = 0 ∧ ∀ l ∈ L, ∀ b ∈ l, natA xs b ≠ y) ∨ ∃ l ∈ L, (∃ b ∈ l, natA xs b = y) ∧ cn y (natO xs L.flatten) = l.length
  | [], _, _ => .inl ⟨by simp [natO_eq, cn], fun l h => by simp at h⟩
  | m :: L, hp, hs => by
    obtain ⟨hp1, hp2⟩ := List.pairwise_cons.1 hp
    have ih := count_left xs y L hp2 fun l hl => hs l (by simp [hl])
    have e : natO xs (m :: L).flatten = m.map (natA xs) ++ natO xs L.flatten := by simp [natO_eq]
    rw [e, cn_app]
    by_cases hb : ∃ b ∈ m, natA xs b = y
    · obtain ⟨b, hbm, hby⟩ := hb
      have h1 : cn y (m.map (natA xs)) = m.length := by
        rw [cn_all (y := y) fun z hz => ?_, List.length_map]
        obtain ⟨c, hc, rfl⟩ := List.mem_map.1 hz
        rw [← hby]
        exact (hs m (by simp) b hbm c hc).symm
      have h2 : cn y (natO xs L.flatten) = 0 := by
        rcases ih with ⟨h, _⟩ | ⟨l, hl, ⟨c, hc, hcy⟩, _⟩
        · exact h
        · exact absurd (hby.trans hcy.symm) (hp1 l hl b hbm c hc)
      exact .inr ⟨m, by simp, ⟨b, hbm, hby⟩, by omega⟩
    · have h1 : cn y (m.map (natA xs)) = 0 := cn_none fun hy => by
        obtain ⟨c, hc, hcy⟩ := List.mem_map.1 hy
        exact hb ⟨c, hc, hcy⟩
      rcases ih with ⟨h, h'⟩ | ⟨l, hl, hc, h⟩
      · refine .inl ⟨by omega, fun l hl b hbl e9 => ?_⟩
        rcases List.mem_cons.1 hl with rfl | hl
        · exact hb ⟨b, hbl, e9⟩
        · exact h' l hl b hbl e9
      · exact .inr ⟨l, by simp [hl], hc, by omega⟩
theorem count_team (xs : List EntR) {L : List (List Nat)} (hp : L.Pairwise (fun l m => ∀ a ∈ l, ∀ b ∈ m, natA xs a ≠ natA xs b)) (hs : ∀ l ∈ L, ∀ a ∈ l, ∀ b ∈ l, natA xs a = natA xs b) {l : List Nat} {a : Nat} (hl : l ∈ L) (ha : a ∈ l) : cn (natA xs a) (natO xs L.flatten) = l.length := by
  rcases count_left xs (natA xs a) L hp hs with ⟨_, h⟩ | ⟨m, hm, ⟨b, hb, e⟩, h⟩
  · exact absurd rfl (h l hl a ha)
  · rw [h]
    obtain ⟨i, hi⟩ := List.mem_iff_getElem?.1 hl
    obtain ⟨j, hj⟩ := List.mem_iff_getElem?.1 hm
    have hpw := List.pairwise_iff_getElem.1 hp
    obtain ⟨hi1, hi2⟩ := List.getElem?_eq_some_iff.1 hi
    obtain ⟨hj1, hj2⟩ := List.getElem?_eq_some_iff.1 hj
    rcases Nat.lt_trichotomy i j with h1 | h1 | h1
    · exact absurd e.symm (hpw i j hi1 hj1 h1 a (by rw [hi2]; exact ha) b (by rw [hj2]; exact hb))
    · subst h1
      rw [hi] at hj
      cases hj
      rfl
    · exact absurd e (hpw j i hj1 hi1 h1 b (by rw [hj2]; exact hb) a (by rw [hi2]; exact ha))
/-- what has been listed, and what is left of the teams -/
structure ApI (xs : List EntR) (n : Nat) (p : List Nat) (L : List (List Nat)) : Prop where
  perm : (p ++ L.flatten).Perm (List.range n)
  pair : L.Pairwise fun l m => ∀ a ∈ l, ∀ b ∈ m, natA xs a ≠ natA xs b
  same : ∀ l ∈ L, ∀ a ∈ l, ∀ b ∈ l, natA xs a = natA xs b
  step : ∀ i, i < p.length → StepC (natO xs (List.range n)) (natO xs p) i
theorem ApI.start {xs : List EntR} {k : Nat} {ks : List (ByteArray × Nat)} {L : List (List Nat)} (h : TmF xs k ks L) : ApI xs k [] L := ⟨h.perm, h.parted.1, h.parted.2, fun i hi => by simp at hi⟩
theorem ApI.sort {xs : List EntR} {n : Nat} {p : List Nat} {L L' : List (List Nat)} (h : ApI xs n p L) (hL : L'.Perm L) : ApI xs n p L' :=
  ⟨(List.Perm.append_left p hL.flatten).trans h.perm, (hL.symm.pairwise_iff fun {l m} hlm a ha b hb e => hlm b hb a ha e.symm).1 h.pair, fun l hl => h.same l (hL.mem_iff.1 hl), h.step⟩
theorem ApI.count {xs : List EntR} {n : Nat} {p : List Nat} {L : List (List Nat)} (h : ApI xs n p L) (y : List UInt8) : cn y (natO xs (List.range n)) = cn y (natO xs p) + cn y (natO xs L.flatten) := by
  have := cn_perm y (natO_perm xs h.perm)
  rw [← this]
  simp [natO_eq, cn_app]
theorem step_more {α : Type} [DecidableEq α] {T q : List α} {x : α} (h : ∀ i, i < q.length → StepC T q i) (h2 : StepC T (q ++ [x]) q.length) : ∀ i, i < (q ++ [x]).length → StepC T (q ++ [x]) i := fun i hi => by
  rw [List.length_append, List.length_singleton] at hi
  by_cases e : i = q.length
  · subst e; exact h2
  · obtain ⟨z, hz, hc⟩ := h i (by omega)
    refine ⟨z, by rw [List.getElem?_append_left (by omega)]; exact hz, ?_⟩
    rw [List.take_append_of_le_length (by omega)]
    exact hc
theorem ApI.next {xs : List EntR} {n : Nat} {p : List Nat} {L : List (List Nat)} (h : ApI xs n p L) {j a : Nat} {l : List Nat} (hj : L[j]? = some (a :: l))
    (hs : ((natO xs p).getLast? ≠ some (natA xs a) ∧ ∀ l' ∈ L, (∃ b ∈ l', (natO xs p).getLast? ≠ some (natA xs b)) → l'.length ≤ (a :: l).length) ∨ (∀ l' ∈ L, ∀ b ∈ l', (natO xs p).getLast? = some (natA xs b))) : ApI xs n (p ++ [a]) (L.set j l) := by
  have hmem := List.mem_of_getElem? hj
  have hcnt : ∀ y, cn y (natO xs (List.range n)) - cn y (natO xs p) = cn y (natO xs L.flatten) := fun y => by rw [h.count y]; omega
  refine ⟨?_, ?_, fun m hm b hb c hc => ?_, ?_⟩
  · refine List.Perm.trans ?_ h.perm
    rw [List.append_assoc]
    exact List.Perm.append_left p (flatten_tail a L j l hj).symm
  · rw [List.pairwise_iff_getElem]
    intro i k hi hk hik b hb c hc
    obtain ⟨m, hm, hs1⟩ := set_sub hj (List.getElem?_eq_getElem hi)
    obtain ⟨m', hm', hs2⟩ := set_sub hj (List.getElem?_eq_getElem hk)
    obtain ⟨hi1, hi2⟩ := List.getElem?_eq_some_iff.1 hm
    obtain ⟨hk1, hk2⟩ := List.getElem?_eq_some_iff.1 hm'
    exact List.pairwise_iff_getElem.1 h.pair i k hi1 hk1 hik b (by rw [hi2]; exact hs1 b hb) c (by rw [hk2]; exact hs2 c hc)
  · obtain ⟨i, hi⟩ := List.mem_iff_getElem?.1 hm
    obtain ⟨m', hm', hs1⟩ := set_sub hj hi
    exact h.same m' (List.mem_of_getElem? hm') b (hs1 b hb) c (hs1 c hc)
  · have e : natO xs (p ++ [a]) = natO xs p ++ [natA xs a] := by simp [natO_eq]
    have hlen : (natO xs p).length = p.length := by simp [natO_eq]
    have hsm := step_more (T := natO xs (List.range n)) (q := natO xs p) (x := natA xs a) (fun i hi => h.step i (by omega)) ?_
    · intro i hi
      rw [e]
      exact hsm i (by simp at hi; simp [hlen]; omega)
    · refine ⟨natA xs a, by simp, ?_⟩
      rw [List.take_left]
      rcases hs with ⟨h1, h2⟩ | h1
      · refine .inl ⟨h1, fun y hy => ?_⟩
        rw [hcnt, hcnt, count_team xs h.pair h.same hmem (a := a) (by simp)]
        rcases count_left xs y L h.pair h.same with ⟨h3, _⟩ | ⟨l', hl', ⟨b, hb, hby⟩, h3⟩
        · omega
        · rw [h3]
          exact h2 l' hl' ⟨b, hb, by rw [hby]; exact hy⟩
      · refine .inr ⟨h1 _ hmem a (by simp), fun y hy => ?_⟩
        have := hcnt y
        rcases count_left xs y L h.pair h.same with ⟨h3, _⟩ | ⟨l', hl', ⟨b, hb, hby⟩, h3⟩
        · omega
        · have e1 := h1 l' hl' b hb
          have e2 := h1 _ hmem a (by simp)
          rw [e1, Option.some.injEq] at e2
          exact absurd (hby.symm.trans e2) hy
theorem ApI.len {xs : List EntR} {n : Nat} {p : List Nat} {L : List (List Nat)} (h : ApI xs n p L) : p.length + L.flatten.length = n := by
  have := h.perm.length_eq
  rwa [List.length_append, List.length_range] at this
theorem ApI.lt {xs : List EntR} {n : Nat} {p : List Nat} {L : List (List Nat)} (h : ApI xs n p L) : ∀ a ∈ p ++ L.flatten, a < n := fun a ha => List.mem_range.1 (h.perm.mem_iff.1 ha)
theorem ApI.done {xs : List EntR} {n : Nat} {p : List Nat} {L : List (List Nat)} (h : ApI xs n p L) (hn : n ≤ p.length) : p.Perm (List.range n) ∧ Greedy none (natO xs p) := by
  have h1 := h.len
  have h2 : L.flatten = [] := List.eq_nil_of_length_eq_zero (by omega)
  have h3 := h.perm
  rw [h2, List.append_nil] at h3
  refine ⟨h3, ?_⟩
  have := greedy_of (natO_perm xs h3) (fun i hi => h.step i (by simpa [natO_eq] using hi)) (natO xs p) [] (by simp)
  simpa using this
end Go.Proofs.YtcnpmebihdonoaaGreatDoor
namespace Go.Proofs.YtcnpmebihdonoaaGreatDoor
open Go.RowKit Go.Lib
set_option linter.unusedSimpArgs false
set_option linter.unusedVariables false
/-- -1, 0 or 1 -/
def cmpYT (a b : Int) : Int := if decide (a < b) then -1 else if decide (b < a) then 1 else 0
theorem isNaNY_cT (x : Int) (w : World) :
    Calls Tryz.prog 85 #[.int .i64 x] w fun e w' => e = .returned (.bool false) ∧ w = w' := by
  go_enter Tryz.func85, Tryz.ntmps85
  go_wp2_with fail
  go_ret
  exact ⟨by simp, rfl⟩
theorem cmpYInt_cT (x y : Int) (w : World) :
    Calls Tryz.prog 46 #[.int .i64 x, .int .i64 y] w fun e w' => e = .returned (.int .i64 (cmpYT x y)) ∧ w = w' := by
  have HX := Lib.hid (fun W => isNaNY_cT x W)
  have HY := Lib.hid (fun W => isNaNY_cT y W)
  have HE : Hid (cmpYT x y = if decide (x < y) then -1 else if decide (y < x) then 1 else 0) := rfl
  cases h1 : decide (x < y) <;> cases h2 : decide (y < x)
  all_goals
    rw [h1, h2] at HE
    go_enter Tryz.func46, Tryz.ntmps46
    go_wp2_with fail
    repeat (first
      | (with_reducible refine (HX.out _).mono ?_; rintro e w4 ⟨rfl, rfl⟩; go_wp2_with fail)
      | (with_reducible refine (HY.out _).mono ?_; rintro e w4 ⟨rfl, rfl⟩; go_wp2_with fail))
    go_ret
    exact ⟨by rw [HE.out]; rfl, rfl⟩
theorem cmpY_ltT (a b : Int) : cmpYT a b < 0 ↔ a < b := by
  unfold cmpYT
  by_cases h1 : a < b
  · simp [h1]
  · by_cases h2 : b < a <;> simp [h1, h2]
/-- a slice as a value: where it begins, its length, its capacity -/
abbrev SlT := Option Addr × Nat × Nat
def cmpKT (key : SlT → Int) (a b : SlT) : Int := cmpYT (key a) (key b)
theorem lt_cmpKT (key : SlT → Int) (a b : SlT) : ltOf (cmpKT key) a b = decide (key a < key b) := by
  unfold ltOf
  exact decide_eq_decide.2 (cmpY_ltT _ _)
theorem swo_cmpKT (key : SlT → Int) : Go.Sort.SWO (ltOf (cmpKT key)) where
  irrefl x := by rw [lt_cmpKT]; simp
  trans x y z h1 h2 := by rw [lt_cmpKT, decide_eq_true_eq] at *; omega
  ntrans x y z h1 h2 := by rw [lt_cmpKT, decide_eq_false_iff_not] at *; omega
def encNT (s : SlT) : Value := .slice s.1 s.2.1 s.2.2
open Go.Sort Go.Shelf in
/-- what the library's insertion sort does -/
structure InsNOKT : Prop where
  some : ∀ (m : SlT → Int) (cb : Array Value) (blk off cap a b : Nat) (d0 d : Array SlT) (w0 w : World), CmpLays1 Tryz.prog 45 cb encNT (cmpKT m) blk off d0.size w0 → Row1 encNT w0 blk off d0 → d0.size = d.size → SW encNT w0 blk off d w → a ≤ b → b ≤ d.size → d.size < 4611686018427387904 →
    Calls Tryz.prog 125 #[.slice (some ⟨blk, off, none⟩) d.size cap, .int .i64 a, .int .i64 b, .func (.func 45) #[] cb] w fun e w' =>
      e = .returned (.tuple #[]) ∧ SW encNT w0 blk off (Sort.insertionSort (ltOf (cmpKT m)) d a b) w'
open Go.Sort Go.Shelf in
set_option maxHeartbeats 1000000 in
set_option maxRecDepth 100000 in
theorem stableI_cT (I : InsNOKT) (m : SlT → Int) (cb : Array Value) (blk off cap : Nat) (d : Array SlT) (w0 w : World) (hl : CmpLays1 Tryz.prog 45 cb encNT (cmpKT m) blk off d.size w0) (hR : Row1 encNT w0 blk off d) (hS : SW encNT w0 blk off d w) (hn : d.size < 20) :
    Calls Tryz.prog 84 #[.slice (some ⟨blk, off, none⟩) d.size cap, .int .i64 d.size, .func (.func 45) #[] cb] w fun e w' =>
      e = .returned (.tuple #[]) ∧ SW encNT w0 blk off (Sort.insertionSort (ltOf (cmpKT m)) d 0 d.size) w' := by
  have HI := Lib.hid (I.some m cb blk off cap 0 d.size d d w0 w hl hR rfl hS (by omega) (by omega) (by omega))
  clear hl hR hS I
  generalize Sort.insertionSort (ltOf (cmpKT m)) d 0 d.size = dd at *
  generalize hnn : d.size = n at *
  have h1 : ¬ ((20 : Int) ≤ (n : Int)) := by omega
  have h2 : ¬ ((20 : Int) < (n : Int)) := by omega
  have h1' : (decide ((20 : Int) ≤ (n : Int))) = false := decide_eq_false h1
  have h2' : (decide ((20 : Int) < (n : Int))) = false := decide_eq_false h2
  clear hnn
  go_enter Tryz.func84, Tryz.ntmps84
  go_wp2_with fail
  go_loopg [7, 8] 0 (fun gk s7 s8 wr => gk = 0 ∧ s7 = .int .i64 0 ∧ s8 = .int .i64 20 ∧ wr = w)
  case atStart => exact ⟨rfl, rfl, rfl, rfl⟩
  case round =>
    obtain ⟨rfl, rfl, rfl, rfl⟩ := hrel
    rw [Int.natCast_zero] at HI
    go_wp2_with (refine HI.out.mono ?_; rintro e w4 ⟨rfl, HW⟩)
    go_loopg [6, 7, 8, 9] 0 (fun gk s6 s7 s8 s9 wr => gk = 0 ∧ s6 = .int .i64 20 ∧ s7 = .int .i64 0 ∧ wr = w4)
    case atStart => exact ⟨rfl, rfl, rfl, rfl⟩
    case round =>
      obtain ⟨rfl, rfl, rfl, rfl⟩ := hrel
      go_wp2_with fail
      go_end0
      exact ⟨rfl, HW⟩
open Go.Sort Go.Shelf in
set_option maxHeartbeats 1000000 in
set_option maxRecDepth 100000 in
theorem sortII_cT (I : InsNOKT) (m : SlT → Int) (cb : Array Value) (blk off cap : Nat) (d : Array SlT) (w0 w : World) (hl : CmpLays1 Tryz.prog 45 cb encNT (cmpKT m) blk off d.size w0) (hR : Row1 encNT w0 blk off d) (hS : SW encNT w0 blk off d w) (hn : d.size < 20) :
    Calls Tryz.prog 44 #[.slice (some ⟨blk, off, none⟩) d.size cap, .func (.func 45) #[] cb] w fun e w' =>
      e = .returned (.tuple #[]) ∧ SW encNT w0 blk off (Sort.insertionSort (ltOf (cmpKT m)) d 0 d.size) w' := by
  have HI := Lib.hid (stableI_cT I m cb blk off cap d w0 w hl hR hS hn)
  clear hl hR hS I hn
  generalize Sort.insertionSort (ltOf (cmpKT m)) d 0 d.size = dd at *
  generalize d.size = n at *
  go_enter Tryz.func44, Tryz.ntmps44
  go_wp2_with (refine HI.out.mono ?_; rintro e w4 ⟨rfl, HW⟩)
  go_end0
  exact ⟨rfl, HW⟩
theorem insI_0T (p : Option Addr) (cap : Nat) (f : Value) (w : World) :
    Calls Tryz.prog 125 #[.slice p 0 cap, .int .i64 0, .int .i64 0, f] w fun e w' => e = .returned (.tuple #[]) ∧ w' = w := by
  go_enter Tryz.func125, Tryz.ntmps125
  go_wp2_with fail
  refine wp_loop_rounds 2 ?_
  rw [rounds_succ]
  go_wp2_with fail
  go_end0
  exact ⟨rfl, rfl⟩
theorem stableI_0T (p : Option Addr) (cap : Nat) (f : Value) (w : World) :
    Calls Tryz.prog 84 #[.slice p 0 cap, .int .i64 0, f] w fun e w' => e = .returned (.tuple #[]) ∧ w' = w := by
  have HI := Lib.hid (insI_0T p cap f)
  go_enter Tryz.func84, Tryz.ntmps84
  go_wp2_with fail
  refine wp_loop_rounds 2 ?_
  rw [rounds_succ]
  go_wp2_with (refine (HI.out _).mono ?_; rintro e w4 ⟨rfl, rfl⟩)
  refine wp_loop_rounds 2 ?_
  rw [rounds_succ]
  go_wp2_with fail
  go_end0
  exact ⟨rfl, rfl⟩
theorem sortII_0T (p : Option Addr) (cap : Nat) (f : Value) (w : World) :
    Calls Tryz.prog 44 #[.slice p 0 cap, f] w fun e w' => e = .returned (.tuple #[]) ∧ w' = w := by
  have HI := Lib.hid (stableI_0T p cap f)
  go_enter Tryz.func44, Tryz.ntmps44
  go_wp2_with (refine (HI.out _).mono ?_; rintro e w4 ⟨rfl, rfl⟩)
  go_end0
  exact ⟨rfl, rfl⟩
end Go.Proofs.YtcnpmebihdonoaaGreatDoor
namespace Go.Proofs.YtcnpmebihdonoaaGreatDoor
open Go.RowKit Go.Lib
set_option linter.unusedSimpArgs false
set_option linter.unusedVariables false
theorem drop_getT {α : Type} {X r : List α} {x : α} {i : Nat} (h : X.drop i = x :: r) : X[i]? = some x := by
  have := congrArg (fun l => l[0]?) h
  simpa using this
section
open Go.Sort Go.Shelf
theorem arr_oneT {α : Type} [Inhabited α] (P Q : List α) (x : α) : (P ++ x :: Q).toArray[P.length]! = x := by
  rw [getElem!_pos _ _ (by simp)]
  simp
theorem arr_twoT {α : Type} [Inhabited α] (P M Q : List α) (x y : α) : (P ++ x :: (M ++ y :: Q)).toArray[P.length + 1 + M.length]! = y := by
  have := arr_oneT (P ++ x :: M) Q y
  rw [show (P ++ x :: M).length = P.length + 1 + M.length by simp; omega] at this
  simpa using this
structure Swp2T {α : Type} [Inhabited α] (enc : α → Value) (w0 : World) (blk off i j : Nat) (x y : α) (d : Array α) (W : World) : Prop where
  c1 : W.cell? ⟨blk, off + i, none⟩ = some (enc x)
  c2 : W.cell? ⟨blk, off + j, none⟩ = some (enc y)
  f1 : W.frozen? ⟨blk, off + i, none⟩ = false
  f2 : W.frozen? ⟨blk, off + j, none⟩ = false
  c3 : ∃ u, (W.setCell ⟨blk, off + i, none⟩ (enc y)).cell? ⟨blk, off + j, none⟩ = some u
  c4 : ∃ u, (W.setCell ⟨blk, off + j, none⟩ (enc x)).cell? ⟨blk, off + i, none⟩ = some u
  s1 : SW enc w0 blk off d ((W.setCell ⟨blk, off + i, none⟩ (enc y)).setCell ⟨blk, off + j, none⟩ (enc x)).drew
  s2 : SW enc w0 blk off d ((W.setCell ⟨blk, off + j, none⟩ (enc x)).setCell ⟨blk, off + i, none⟩ (enc y)).drew
theorem row_swapT {α : Type} [Inhabited α] {enc : α → Value} {w0 W : World} {blk off : Nat} {d0 : Array α} {P M Q : List α} {x y : α} (S : SW enc w0 blk off (P ++ x :: (M ++ y :: Q)).toArray W) (R : Row1 enc w0 blk off d0) (hs : d0.size = (P ++ x :: (M ++ y :: Q)).length) {i j : Nat} (hi : i = P.length) (hj : j = P.length + 1 + M.length) :
    Swp2T enc w0 blk off i j x y (P ++ y :: (M ++ x :: Q)).toArray W := by
  have hsz : (P ++ x :: (M ++ y :: Q)).toArray.size = d0.size := by rw [hs]; simp
  have hl : (P ++ x :: (M ++ y :: Q)).length = P.length + 1 + M.length + 1 + Q.length := by simp; omega
  have i1 : i < (P ++ x :: (M ++ y :: Q)).toArray.size := by rw [hsz, hs, hl]; omega
  have j1 : j < (P ++ x :: (M ++ y :: Q)).toArray.size := by rw [hsz, hs, hl]; omega
  have ex : (P ++ x :: (M ++ y :: Q)).toArray[i]! = x := by rw [hi]; exact arr_oneT P _ x
  have ey : (P ++ x :: (M ++ y :: Q)).toArray[j]! = y := by rw [hj]; exact arr_twoT P M Q x y
  have a1 := S.c1 R hsz i i1
  have a2 := S.c1 R hsz j j1
  have a3 := S.swapped R i j i1 j1
  have a4 := S.swapped R j i j1 i1
  have a5 := S.c2 R hsz i j i1 j1 (enc y)
  have a6 := S.c2 R hsz j i j1 i1 (enc x)
  rw [swp_comm' _ i j i1 j1] at a4
  rw [ex, ey, swp_list P M Q x y i j hi hj] at a3 a4
  rw [ex] at a1
  rw [ey] at a2
  exact ⟨a1, a2, S.f1 R hsz i i1, S.f1 R hsz j j1, a5, a6, a3, a4⟩
end
open Go.Sort Go.Shelf in
set_option maxHeartbeats 4000000 in
set_option maxRecDepth 100000 in
theorem swapR_cT {w0 : World} {blk off : Nat} {d0 : Array SlT} (R : Row1 encNT w0 blk off d0) (L X M Y Q : List SlT) (n a b cap N : Nat) (f : Value) (w : World) (hX : X.length = n) (hY : Y.length = n) (ha : a = L.length) (hb : b = L.length + n + M.length)
    (hN : d0.size = N) (hs : N = L.length + n + M.length + n + Q.length) (hsz : N < 4611686018427387904) (S : SW encNT w0 blk off (L ++ (X ++ (M ++ (Y ++ Q)))).toArray w) :
    Calls Tryz.prog 153 #[.slice (some ⟨blk, off, none⟩) N cap, .int .i64 (a : Int), .int .i64 (b : Int), .int .i64 (n : Int), f] w fun e w' => e = .returned (.tuple #[]) ∧ SW encNT w0 blk off (L ++ (Y ++ (M ++ (X ++ Q)))).toArray w' := by
  have hcl0 := R.hO.cells
  simp only [Value.cells] at hcl0
  have hst := R.hO.store Tryz.prog
  have S0 := Lib.hid S
  have HX := Lib.hid hX
  have HY := Lib.hid hY
  have HS := Lib.hid hs
  have HA := Lib.hid ha
  have HB := Lib.hid hb
  have hbn : b + n ≤ N := by omega
  have han : a + n ≤ b := by omega
  clear S hX hY hs hb ha
  go_enter Tryz.func153, Tryz.ntmps153
  go_wp2_with fail
  go_loopg [10] n (fun gk s10 wr => ∃ i : Nat, s10 = .int .i64 i ∧ gk + i = n ∧ Hid (SW encNT w0 blk off (L ++ (Y.take i ++ (X.drop i ++ (M ++ (X.take i ++ (Y.drop i ++ Q)))))).toArray wr))
  case atStart => exact ⟨0, rfl, by omega, by simpa [Hid] using S0.out⟩
  case round =>
    clear S0
    obtain ⟨i, rfl, hi, HSW⟩ := hrel
    by_cases hlt : i < n
    · have hi2 : (i : Int) < n := by omega
      obtain ⟨x, hx⟩ : ∃ x, X.drop i = x :: X.drop (i + 1) := ⟨X[i]'(by have := HX.out; omega), List.drop_eq_getElem_cons (by have := HX.out; omega)⟩
      obtain ⟨y, hy⟩ : ∃ y, Y.drop i = y :: Y.drop (i + 1) := ⟨Y[i]'(by have := HY.out; omega), List.drop_eq_getElem_cons (by have := HY.out; omega)⟩
      have hxt : X.take (i + 1) = X.take i ++ [x] := by
        rw [List.take_add_one]
        rw [drop_getT hx]; rfl
      have hyt : Y.take (i + 1) = Y.take i ++ [y] := by
        rw [List.take_add_one]
        rw [drop_getT hy]; rfl
      have hS := HSW.out
      rw [hx, hy, show L ++ (Y.take i ++ (x :: X.drop (i + 1) ++ (M ++ (X.take i ++ (y :: Y.drop (i + 1) ++ Q))))) = (L ++ Y.take i) ++ x :: ((X.drop (i + 1) ++ (M ++ X.take i)) ++ y :: (Y.drop (i + 1) ++ Q)) by simp] at hS
      have hsw := row_swapT hS R (by rw [hN]; have := HX.out; have := HY.out; have := HS.out; simp; omega) (i := a + i) (j := b + i) (by have := HY.out; have := HA.out; simp; omega) (by have := HX.out; have := HY.out; have := HB.out; simp; omega)
      rw [show (L ++ Y.take i) ++ y :: ((X.drop (i + 1) ++ (M ++ X.take i)) ++ x :: (Y.drop (i + 1) ++ Q)) = L ++ (Y.take (i + 1) ++ (X.drop (i + 1) ++ (M ++ (X.take (i + 1) ++ (Y.drop (i + 1) ++ Q))))) by rw [hxt, hyt]; simp] at hsw
      obtain ⟨q1, q2, q3, q4, ⟨u, q5⟩, _, q6, _⟩ := hsw
      obtain ⟨p, hp⟩ : ∃ p, p = a + i := ⟨_, rfl⟩
      obtain ⟨q, hq⟩ : ∃ q, q = b + i := ⟨_, rfl⟩
      rw [← hp] at q1 q3 q5 q6
      rw [← hq] at q2 q4 q5 q6
      have w1 : IntKind.i64.wrap ((a : Int) + i) = (a : Int) + i := by rw [IntKind.wrap_i64]; omega
      have w2 : IntKind.i64.wrap ((b : Int) + i) = (b : Int) + i := by rw [IntKind.wrap_i64]; omega
      have t1 : ((a : Int) + i).toNat = p := by omega
      have t2 : ((b : Int) + i).toNat = q := by omega
      have r1 : (0 : Int) ≤ (a : Int) + i := by omega
      have r2 : (0 : Int) ≤ (b : Int) + i := by omega
      have r3 : (a : Int) + i < N := by omega
      have r4 : (b : Int) + i < N := by omega
      have H6 := Lib.hid q6
      clear hx hy hxt hyt hS q6 HSW hp hq
      have mixed : Tryz.prog.follows .mixedOrders = true := by kernel_rfl
      go_wp2_with fail
      go_big_region_o
      go_wp2_with fail

      go_roundg (gk - 1)
      case measure => omega
      case rel => exact ⟨i + 1, by go_num, by omega, H6⟩
    · have hin : i = n := by omega
      have hnl : ¬ (i : Int) < n := by omega
      have hS := HSW.out
      have x1 : X.take n = X := List.take_of_length_le (by have := HX.out; omega)
      have x2 : Y.take n = Y := List.take_of_length_le (by have := HY.out; omega)
      have x3 : X.drop n = [] := List.drop_eq_nil_of_le (by have := HX.out; omega)
      have x4 : Y.drop n = [] := List.drop_eq_nil_of_le (by have := HY.out; omega)
      rw [hin, x1, x2, x3, x4, List.nil_append, List.nil_append] at hS
      have H7 := Lib.hid hS
      clear hS HSW hin
      go_wp2_with fail
      go_end0
      exact ⟨rfl, H7.out⟩
end Go.Proofs.YtcnpmebihdonoaaGreatDoor
