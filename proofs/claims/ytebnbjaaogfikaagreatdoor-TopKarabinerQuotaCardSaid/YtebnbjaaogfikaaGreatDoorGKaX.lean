/- Results and names, read. -/
import Derived.Test.YtebnbjaaogfikaaGreatDoorGStJ
import Derived.Test.YtebnbjaaogfikaaGreatDoorKaL
import Derived.Carry
import Derived.ChangeSlices
import Derived.Deep.Slices
import Derived.Deep.Strs
import Derived.Test.YtebnbjaaogfikaaGreatDoorGOpN
import Derived.Test.YtebnbjaaogfikaaGreatDoorGThF
namespace Go.Proofs.YtebnbjaaogfikaaGreatDoor
open Go.ChangeShapes Go.WideShapes Go.ChangeAt Go.WideMaps Go.WideElems Go.RowKit
theorem cellsRes : Tryz.prog.cellsOf 34 = 3 := by kernel_rfl
theorem cellsInts : Tryz.prog.cellsOf 27 = 1 := by kernel_rfl
theorem recRs : Tryz.prog.readableRec 22 = true := by kernel_rfl
theorem rowRs : 22 < Tryz.prog.types.size := of_decide_eq_true (by kernel_rfl)
theorem cellsStr : Tryz.prog.cellsOf 9 = 1 := by kernel_rfl
theorem recSs : Tryz.prog.readableRec 23 = true := by kernel_rfl
theorem rowSs : 23 < Tryz.prog.types.size := of_decide_eq_true (by kernel_rfl)
theorem laidOutRs : laidOutB Tryz.prog = true := by kernel_rfl
section
variable {H : Type} {enc : TypeId × Value → H}
set_option maxRecDepth 100000 in
/-- a slice of integers, read -/
theorem intsV_of {W : World} {cs : List Value} {fuel : Nat} {x : DataW H × List MemPlace} (h : DataW.trod enc Tryz.prog W 0 (fun _ => true) true fuel 27 cs = some x) : ∃ v xs, cs = [v] ∧ IntsV W v xs := by
  rcases open_ints Tryz.underlying27 Tryz.underlying3 cells3 h with ⟨rfl, _⟩ | ⟨a, len, cap, zs, rfl, _, hle, _, hlen, _, hcell, _⟩
  · exact ⟨_, [], rfl, ⟨none, 0, rfl, fun h => absurd h (by simp)⟩⟩
  · simp only [if_true] at hlen
    have hl : (zs.take len).length = len := by rw [List.length_take, hlen]; omega
    refine ⟨_, zs.take len, rfl, ⟨some a, cap, by rw [hl], fun h0 => ?_⟩⟩
    rw [hl] at h0
    obtain ⟨b, off, rfl, hc⟩ := ints_at hcell (by omega)
    refine ⟨b, off, rfl, fun i z hz => ?_⟩
    have hi : i < len := by
      have := (List.getElem?_eq_some_iff.1 hz).1
      omega
    rw [hc i (by omega)]
    rw [List.getElem?_take, if_pos hi] at hz
    simp [List.getD_eq_getElem?_getD, hz]
set_option maxRecDepth 100000 in
/-- one result, read -/
theorem row0_of {W : World} {a : Addr} {cs : List Value} {fuel : Nat} {x : DataW H × List MemPlace} (hc : W.cells? 0 a 3 = some cs) (h : DataW.trod enc Tryz.prog W 0 (fun _ => true) true fuel 34 cs = some x) :
    ∃ y : RowR, W.cell? (a.add 0) = some (.string y.nm) ∧ W.cell? (a.add 1) = some (.string y.st) ∧ W.cell? (a.add 2) = some y.u ∧ IntsV W y.u y.xs := by
  obtain ⟨_, hlen, hcell⟩ := World.cells?_some hc
  match cs, hlen with
  | [c0, c1, c2], _ =>
  obtain ⟨ys, m, _, hx, _, hl, hfs⟩ := DataW.trod_struct Tryz.underlying34 h
  match ys, hl, hx with
  | [y0, y1, y2], _, hx =>
    have e0 := hfs 0 _ rfl
    have e1 := hfs 1 _ rfl
    have e2 := hfs 2 _ rfl
    simp [cells9, cellsInts] at e0 e1 e2
    obtain ⟨c, q0, _, _⟩ := DataW.trod_string Tryz.underlying9 e0
    obtain ⟨s, q1, _, _⟩ := DataW.trod_string Tryz.underlying9 e1
    obtain ⟨u, xs, q2, hI⟩ := intsV_of e2
    simp at q0 q1 q2
    subst q0 q1 q2
    exact ⟨⟨c, s, _, xs⟩, hcell 0 (by omega), hcell 1 (by omega), hcell 2 (by omega), hI⟩
set_option maxRecDepth 100000 in
/-- results, read -/
theorem open_rows {W : World} {b0 : Nat} {v : Value} {d : DataW H} {ps : List MemPlace} (hv : Value.okWide Tryz.prog W .any b0 22 v) (h : DataW.Trod enc Tryz.prog W 0 (fun _ => true) true 22 v d ps) :
    ∃ xs, Rows0V W v xs := by
  obtain ⟨a0, l0, c0, rfl⟩ := okWide_slice Tryz.underlying22 hv
  obtain ⟨fuel, hf⟩ := h
  rcases Go.Deep.open_slice Tryz.underlying22 hf with ⟨e, _⟩ | ⟨a, len, cap, m, n, D, Pl, e, _, hle, hmx, hm, _, hel⟩
  · simp [Value.cells] at e
    obtain ⟨rfl, rfl, rfl⟩ := e
    exact ⟨[], ⟨none, 0, rfl, ⟨by simp, by unfold maxLen; omega⟩, fun h => absurd h (by simp)⟩⟩
  · simp [Value.cells] at e
    obtain ⟨rfl, rfl, rfl⟩ := e
    simp only [if_true] at hm
    rw [cellsRes] at hel
    obtain ⟨V, hV⟩ := Go.Deep.choose_lt (α := RowR) (p := fun i y => W.cell? ((a.add (i * 3)).add 0) = some (.string y.nm) ∧ W.cell? ((a.add (i * 3)).add 1) = some (.string y.st) ∧ W.cell? ((a.add (i * 3)).add 2) = some y.u ∧ IntsV W y.u y.xs) (fun i (hi : i < m) => by
      obtain ⟨cs', h1, h2⟩ := hel i hi
      exact row0_of h1 h2)
    have hlen : ((List.range l0).map V).length = l0 := by simp
    refine ⟨(List.range l0).map V, ⟨some a, c0, by rw [hlen], ⟨by rw [hlen]; exact hle, hmx⟩, fun h0 => ?_⟩⟩
    rw [hlen] at h0
    obtain ⟨b, off, spot⟩ := a
    have hspot : spot = none := by
      have := World.cell?_spot (hV 0 (by omega)).1
      simpa [Addr.add] using this
    subst hspot
    refine ⟨b, off, rfl, fun i x hx => ?_⟩
    have hi : i < l0 := by
      have := (List.getElem?_eq_some_iff.1 hx).1
      rwa [hlen] at this
    obtain rfl : V i = x := by
      rw [List.getElem?_map, List.getElem?_range hi] at hx
      simpa using hx
    obtain ⟨k0, k1, k2, k3⟩ := hV i (by omega)
    rw [add_plain, add_plain] at k0 k1 k2
    exact ⟨k0, k1, k2, k3⟩
set_option maxRecDepth 100000 in
/-- names, read -/
theorem open_words {W : World} {b0 : Nat} {v : Value} {d : DataW H} {ps : List MemPlace} (hv : Value.okWide Tryz.prog W .any b0 23 v) (h : DataW.Trod enc Tryz.prog W 0 (fun _ => true) true 23 v d ps) :
    ∃ ns, WordsV W v ns := by
  obtain ⟨a0, l0, c0, rfl⟩ := okWide_slice Tryz.underlying23 hv
  obtain ⟨fuel, hf⟩ := h
  rcases Go.Deep.open_strs Tryz.underlying23 Tryz.underlying9 cellsStr hf with ⟨e, _⟩ | ⟨a, len, cap, m, Sx, e, _, hle, hmx, hm, _, hel⟩
  · simp [Value.cells] at e
    obtain ⟨rfl, rfl, rfl⟩ := e
    exact ⟨[], ⟨none, 0, rfl, ⟨by simp, by unfold maxLen; omega⟩, fun h => absurd h (by simp)⟩⟩
  · simp [Value.cells] at e
    obtain ⟨rfl, rfl, rfl⟩ := e
    simp only [if_true] at hm
    have hlen : ((List.range l0).map Sx).length = l0 := by simp
    refine ⟨(List.range l0).map Sx, ⟨some a, c0, by rw [hlen], ⟨by rw [hlen]; exact hle, hmx⟩, fun h0 => ?_⟩⟩
    rw [hlen] at h0
    obtain ⟨b, off, spot⟩ := a
    have hspot : spot = none := by
      have := World.cell?_spot (hel 0 (by omega)).1
      simpa [Addr.add] using this
    subst hspot
    refine ⟨b, off, rfl, fun i x hx => ?_⟩
    have hi : i < l0 := by
      have := (List.getElem?_eq_some_iff.1 hx).1
      rwa [hlen] at this
    obtain rfl : Sx i = x := by
      rw [List.getElem?_map, List.getElem?_range hi] at hx
      simpa using hx
    have k0 := (hel i (by omega)).1
    rwa [add_plain] at k0
end
end Go.Proofs.YtebnbjaaogfikaaGreatDoor
namespace Go.Proofs.YtebnbjaaogfikaaGreatDoor
open Go.RowKit Go.Lib
set_option linter.unusedSimpArgs false
set_option linter.unusedVariables false
theorem thruB_count (bs : List Bare) (m : Int) : (thruB bs m).length = ((fineB bs).filter fun b => decide (rankB (fineB bs) b ≤ m)).length := by
  unfold thruB goOn ranksB
  rw [pls_map, List.length_map, ((srtP_spec _).1.filter _).length_eq, List.filter_map, List.length_map]
  rfl
theorem thruB_good (bs : List Bare) (m : Int) : (thruB bs m).length ≤ (fineB bs).length := by
  rw [thruB_count]; exact List.length_filter_le _ _
theorem fineB_perm {bs cs : List Bare} (h : bs.Perm cs) : (fineB bs).Perm (fineB cs) := h.filter _
theorem thruB_perm_len {bs cs : List Bare} (h : bs.Perm cs) (m : Int) : (thruB bs m).length = (thruB cs m).length := by
  rw [thruB_count, thruB_count]
  have hf := fineB_perm h
  have : (fun b => decide (rankB (fineB bs) b ≤ m)) = fun b => decide (rankB (fineB cs) b ≤ m) := by
    funext b; rw [rankB_perm hf]
  rw [this]
  exact (hf.filter _).length_eq
theorem thruB_perm_mem {bs cs : List Bare} (h : bs.Perm cs) {m : Int} {s : ByteArray} (hs : s ∈ thruB bs m) : s ∈ thruB cs m := by
  obtain ⟨b, hb, e, hr⟩ := thruB_mem.1 hs
  have hf := fineB_perm h
  exact thruB_mem.2 ⟨b, hf.mem_iff.1 hb, e, by rw [← rankB_perm hf]; exact hr⟩
/-- with one who doesn't go on there are enough who do -/
theorem enough (F : List Bare) (m : Nat) : ∀ (k : Nat) (x : Bare), x ∈ F → ¬ rankB F x ≤ m → rankB F x ≤ k → m ≤ (F.filter fun b => decide (rankB F b ≤ (m : Int))).length
  | 0, x, _, _, h => by
    have : 1 ≤ rankB F x := by unfold rankB; omega
    omega
  | k + 1, x, hx, hn, hk => by
    by_cases hall : ∀ c ∈ F, cmpB c x < 0 → rankB F c ≤ m
    · have h1 : (F.countP fun c => decide (cmpB c x < 0)) ≤ F.countP fun c => decide (rankB F c ≤ (m : Int)) :=
        List.countP_mono_left (fun c hc h => by simpa using hall c hc (by simpa using h))
      have h2 : rankB F x = 1 + (F.countP fun c => decide (cmpB c x < 0) : Nat) := rfl
      rw [List.countP_eq_length_filter (p := fun c => decide (rankB F c ≤ (m : Int)))] at h1
      omega
    · have hex : ∃ c, c ∈ F ∧ cmpB c x < 0 ∧ ¬ rankB F c ≤ m := by
        apply Classical.byContradiction
        intro hc
        exact hall (fun c h1 h2 => Classical.byContradiction fun h3 => hc ⟨c, h1, h2, h3⟩)
      obtain ⟨c, hc, hlt, hcn⟩ := hex
      have := rankB_less (bs := F) hc hlt
      exact enough F m k c hc hcn (by omega)
theorem thruB_min (bs : List Bare) (m : Nat) : min m (fineB bs).length ≤ (thruB bs m).length := by
  rw [thruB_count]
  by_cases hall : ∀ c ∈ fineB bs, rankB (fineB bs) c ≤ m
  · rw [List.filter_eq_self.2 (fun c hc => by simpa using hall c hc)]
    exact Nat.min_le_right _ _
  · have hex : ∃ c, c ∈ fineB bs ∧ ¬ rankB (fineB bs) c ≤ m := by
      apply Classical.byContradiction
      intro hc
      exact hall (fun c h1 => Classical.byContradiction fun h3 => hc ⟨c, h1, h3⟩)
    obtain ⟨c, hc, hcn⟩ := hex
    have := enough (fineB bs) m (rankB (fineB bs) c).toNat c hc hcn (by omega)
    omega
/-- those who are out don't go on -/
theorem thruB_not {ns : List ByteArray} {bs : List Bare} {m : Int} {s : ByteArray} (h : hasS ns s = true) : hasS (thruB (restB ns bs) m) s = false := by
  cases hh : hasS (thruB (restB ns bs) m) s
  · rfl
  · unfold hasS at hh
    rw [List.any_eq_true] at hh
    obtain ⟨t, ht, he⟩ := hh
    obtain ⟨b, hb, rfl, _⟩ := thruB_mem.1 ht
    have hb2 : b ∈ restB ns bs := (List.mem_filter.1 hb).1
    have hb3 := (List.mem_filter.1 hb2).2
    have : hasS ns b.nm = true := by
      unfold hasS at h ⊢
      rw [List.any_eq_true] at h ⊢
      obtain ⟨u, hu, hue⟩ := h
      exact ⟨u, hu, by rw [beq_iff_eq] at he hue ⊢; rw [← he, hue]⟩
    rw [this] at hb3
    cases hb3
theorem restB_two (ns ms : List ByteArray) (bs : List Bare) : restB ms (restB ns bs) = restB (ns ++ ms) bs := by
  unfold restB
  rw [List.filter_filter]
  congr 1
  funext b
  unfold hasS
  rw [List.any_append]
  cases (ns.any fun t => b.nm.toList == t.toList) <;> cases (ms.any fun t => b.nm.toList == t.toList) <;> rfl
theorem restB_comm (x y : ByteArray) (bs : List Bare) : restB [x, y] bs = restB [y, x] bs := by
  unfold restB
  congr 1
  funext b
  simp [hasS, Bool.or_comm]
theorem nodup_inj {α β : Type} {f : α → β} : ∀ {l : List α}, (l.map f).Nodup → ∀ {a b : α}, a ∈ l → b ∈ l → f a = f b → a = b
  | [], _, a, b, ha, _, _ => by cases ha
  | x :: l, h, a, b, ha, hb, e => by
    rw [List.map_cons, List.nodup_cons] at h
    rcases List.mem_cons.1 ha with ea | ha'
    · rcases List.mem_cons.1 hb with eb | hb'
      · rw [ea, eb]
      · subst ea
        exact absurd (e ▸ List.mem_map_of_mem hb') h.1
    · rcases List.mem_cons.1 hb with eb | hb'
      · subst eb
        exact absurd (e ▸ List.mem_map_of_mem ha') h.1
      · exact nodup_inj h.2 ha' hb' e
theorem cmpB_less {d c b : Bare} (h1 : cmpB d c < 0) (h2 : cmpB c b < 0) : cmpB d b < 0 := by
  have h := cmpB_trans d c b (by omega) (by omega)
  rcases Int.lt_or_eq_of_le h with h3 | h3
  · exact h3
  · have f1 := cmpB_flip d b
    have f2 := cmpB_flip d c
    have := cmpB_trans c b d (by omega) (by omega)
    omega
/-- two sorted lists with the same elements at each rank up to m -/
theorem sorted_same_le {P Q : List PlR} (hP : P.Pairwise fun a b => a.rk ≤ b.rk) (hQ : Q.Pairwise fun a b => a.rk ≤ b.rk) (h1 : ∀ p ∈ P, 1 ≤ p.rk) (h2 : ∀ p ∈ Q, 1 ≤ p.rk) : ∀ m : Nat, (∀ r : Int, r ≤ m → P.filter (fun p => p.rk == r) = Q.filter fun p => p.rk == r) → P.filter (fun p => decide (p.rk ≤ (m : Int))) = Q.filter fun p => decide (p.rk ≤ (m : Int))
  | 0, _ => by
    rw [List.filter_eq_nil_iff.2 (fun p hp => by have := h1 p hp; simp; omega), List.filter_eq_nil_iff.2 (fun p hp => by have := h2 p hp; simp; omega)]
  | m + 1, h => by
    have e1 := sorted_next (m := m) P hP
    have e2 := sorted_next (m := m) Q hQ
    have := sorted_same_le hP hQ h1 h2 m (fun r hr => h r (by omega))
    rw [show ((m + 1 : Nat) : Int) = (m : Int) + 1 by omega, e1, e2, this, h _ (by omega)]
theorem srt_rank (F : List Bare) (r : Int) : (srtP (F.map fun b => ⟨b.nm, rankB F b⟩)).filter (fun p => p.rk == r) = (F.filter fun b => rankB F b == r).map fun b => ⟨b.nm, r⟩ := by
  rw [srtP_filter, List.filter_map]
  apply List.map_congr_left
  intro b hb
  have := (List.mem_filter.1 hb).2
  simp at this
  rw [this]
theorem srt_one (F : List Bare) : ∀ p ∈ srtP (F.map fun b => ⟨b.nm, rankB F b⟩), 1 ≤ p.rk := fun p hp => by
  rw [(srtP_spec _).1.mem_iff, List.mem_map] at hp
  obtain ⟨b, _, rfl⟩ := hp
  show 1 ≤ rankB F b
  unfold rankB; omega
/-- without one who doesn't go on, the same go on -/
theorem thruB_drop {bs : List Bare} (hV : ValidB bs) (m : Nat) (x : ByteArray) (hx : hasS (thruB bs m) x = false) : thruB (restB [x] bs) m = thruB bs m := by
  have hno : ∀ c ∈ fineB bs, c.nm.toList = x.toList → (m : Int) < rankB (fineB bs) c := fun c hc e => by
    apply Classical.byContradiction
    intro h
    have : c.nm ∈ thruB bs m := thruB_mem.2 ⟨c, hc, rfl, by omega⟩
    have h2 : hasS (thruB bs m) x = true := by
      unfold hasS; rw [List.any_eq_true]; exact ⟨c.nm, this, by rw [e]; simp⟩
    rw [hx] at h2; cases h2
  have hF : fineB (restB [x] bs) = (fineB bs).filter fun b => !hasS [x] b.nm := by
    unfold fineB restB; rw [List.filter_filter, List.filter_filter]; congr 1; funext b; rw [Bool.and_comm]
  have hone : ∀ b : Bare, hasS [x] b.nm = (b.nm.toList == x.toList) := fun b => by simp [hasS]
  have hap : ((fineB bs).map fun b => b.nm.toList).Nodup := hV.apart.sublist (List.filter_sublist.map _)
  have hrk : ∀ b, (∀ c ∈ fineB bs, c.nm.toList = x.toList → ¬ cmpB c b < 0) → rankB (fineB (restB [x] bs)) b = rankB (fineB bs) b := fun b h => by
    rw [hF]
    unfold rankB
    rw [List.countP_filter]
    congr 2
    apply List.countP_congr
    intro c hc
    simp only [hone, Bool.and_eq_true, decide_eq_true_eq, Bool.not_eq_true', beq_eq_false_iff_ne]
    exact ⟨fun q => q.1, fun q => ⟨q, fun e => h c hc e q⟩⟩
  unfold thruB goOn ranksB
  rw [pls_map, pls_map]
  congr 1
  refine sorted_same_le (srtP_pairwise _) (srtP_pairwise _) (srt_one _) (srt_one _) m (fun r hr => ?_)
  rw [srt_rank, srt_rank]
  congr 1
  conv => lhs; rw [hF]
  rw [List.filter_filter]
  apply List.filter_congr
  intro b hb
  rw [← hF, hone, Bool.eq_iff_iff]
  simp only [Bool.and_eq_true, Bool.not_eq_true', beq_iff_eq, beq_eq_false_iff_ne]
  constructor
  · rintro ⟨h1, h2⟩
    rw [← hrk b ?_]
    · exact h1
    · intro c hc e hlt
      have hcm := hno c hc e
      have hsub : (fineB bs).countP (fun d => decide (cmpB d c < 0)) ≤ (fineB (restB [x] bs)).countP fun d => decide (cmpB d b < 0) := by
        rw [hF, List.countP_filter]
        refine List.countP_mono_left (fun d hd h => ?_)
        simp only [decide_eq_true_eq] at h
        simp only [hone, Bool.and_eq_true, decide_eq_true_eq, Bool.not_eq_true', beq_eq_false_iff_ne]
        refine ⟨cmpB_less h hlt, fun e2 => ?_⟩
        have := nodup_inj hap hd hc (by rw [e2, e])
        subst this
        have := cmpB_self d
        omega
      have q1 : rankB (fineB bs) c = 1 + ((fineB bs).countP fun d => decide (cmpB d c < 0) : Nat) := rfl
      have q2 : rankB (fineB (restB [x] bs)) b = 1 + ((fineB (restB [x] bs)).countP fun d => decide (cmpB d b < 0) : Nat) := rfl
      omega
  · intro h
    have hne : ∀ c ∈ fineB bs, c.nm.toList = x.toList → ¬ cmpB c b < 0 := fun c hc e hlt => by
      have := rankB_less (bs := fineB bs) hc hlt
      have := hno c hc e
      omega
    exact ⟨by rw [hrk b hne]; exact h, fun e => by have := hno b hb e; omega⟩
end Go.Proofs.YtebnbjaaogfikaaGreatDoor
namespace Go.Proofs.YtebnbjaaogfikaaGreatDoor
open Go.RowKit Go.Lib
set_option linter.unusedSimpArgs false
set_option linter.unusedVariables false
/-- the first element with a property, from a place on -/
def idxQ {α : Type} (Q : α → Bool) (xs : List α) : Nat → Nat → Int
  | 0, _ => -1
  | k + 1, i => match xs[i]? with
    | some x => if Q x then i else idxQ Q xs k (i + 1)
    | none => -1
theorem idxQ_step {α : Type} {Q : α → Bool} {xs : List α} {i n : Nat} {x : α} (h : xs[i]? = some x) (hi : i < n) : idxQ Q xs (n - i) i = if Q x then (i : Int) else idxQ Q xs (n - (i + 1)) (i + 1) := by
  obtain ⟨k, hk⟩ : ∃ k, n - i = k + 1 := ⟨n - i - 1, by omega⟩
  rw [hk, show n - (i + 1) = k by omega]
  simp only [idxQ, h]
theorem idxQ_end {α : Type} {Q : α → Bool} {xs : List α} {i n : Nat} (h : n ≤ i) : idxQ Q xs (n - i) i = -1 := by
  rw [show n - i = 0 by omega]; rfl
theorem idxQ_any {α : Type} (Q : α → Bool) (xs : List α) : ∀ (k i : Nat), i + k ≤ xs.length → decide (0 ≤ idxQ Q xs k i) = ((xs.drop i).take k).any Q
  | 0, i, h => by simp [idxQ]
  | k + 1, i, h => by
    have hi : i < xs.length := by omega
    rw [List.drop_eq_getElem_cons hi, List.take_succ_cons, List.any_cons, ← idxQ_any Q xs k (i + 1) (by omega)]
    simp only [idxQ, List.getElem?_eq_getElem hi]
    cases Q xs[i] <;> simp
/-- the first error, from a place on -/
def errG {α : Type} (E : Nat → α → Int) (xs : List α) : Nat → Nat → Int
  | 0, _ => 0
  | k + 1, i => match xs[i]? with
    | some x => if E i x = 0 then errG E xs k (i + 1) else E i x
    | none => 0
theorem errG_step {α : Type} {E : Nat → α → Int} {xs : List α} {n i : Nat} {x : α} (hi : i < n) (h : xs[i]? = some x) : errG E xs (n - i) i = if E i x = 0 then errG E xs (n - (i + 1)) (i + 1) else E i x := by
  obtain ⟨k, hk⟩ : ∃ k, n - i = k + 1 := ⟨n - i - 1, by omega⟩
  have hk2 : n - (i + 1) = k := by omega
  rw [hk, hk2]
  simp only [errG, h]
theorem errG_zero {α : Type} {E : Nat → α → Int} {xs : List α} : ∀ (k i : Nat), errG E xs k i = 0 → i + k ≤ xs.length → ∀ j x, i ≤ j → j < i + k → xs[j]? = some x → E j x = 0
  | 0, i, _, _, j, x, h1, h2, _ => by omega
  | k + 1, i, h, hl, j, x, h1, h2, hx => by
    have hi : i < xs.length := by omega
    simp only [errG, List.getElem?_eq_getElem hi] at h
    split at h
    · rename_i h0
      rcases Nat.lt_or_ge i j with h3 | h3
      · exact errG_zero k (i + 1) h (by omega) j x (by omega) (by omega) hx
      · obtain rfl : i = j := by omega
        rw [List.getElem?_eq_getElem hi] at hx
        simp only [Option.some.injEq] at hx
        rw [← hx]; exact h0
    · rename_i h0
      exact absurd h h0
/-- the error of a list of at most so many elements -/
def listE {α : Type} (m : Nat) (E : Nat → α → Int) (xs : List α) : Int := if m < xs.length then 5 else errG E xs xs.length 0
/-- whether a name stands before -/
def dupN {α : Type} (f : α → ByteArray) (xs : List α) (i : Nat) (nm : ByteArray) : Bool := (xs.take i).any fun y => (f y).toList == nm.toList
def isN {α : Type} (f : α → ByteArray) (nm : ByteArray) (y : α) : Bool := (f y).toList == nm.toList
/-- the error of a name -/
def nmE (s : ByteArray) : Int := if Nm s then 0 else 8
theorem bx5 (w : World) (a0 a1 a2 a3 a4 : Value) (T : Nat) : ∃ W, w.alloc (.cells #[a0, a1, a2, a3, a4] T) = W ∧ Gr w W ∧ W.cell? ⟨w.heap.size, 0, none⟩ = some a0 ∧ W.cell? ⟨w.heap.size, 1, none⟩ = some a1 ∧ W.cell? ⟨w.heap.size, 2, none⟩ = some a2 ∧ W.cell? ⟨w.heap.size, 3, none⟩ = some a3 ∧ W.cell? ⟨w.heap.size, 4, none⟩ = some a4 :=
  ⟨_, rfl, (Gr.refl w).alloc _, cell_new w #[a0, a1, a2, a3, a4] T 0 (by simp), cell_new w #[a0, a1, a2, a3, a4] T 1 (by simp), cell_new w #[a0, a1, a2, a3, a4] T 2 (by simp), cell_new w #[a0, a1, a2, a3, a4] T 3 (by simp), cell_new w #[a0, a1, a2, a3, a4] T 4 (by simp)⟩
theorem fst5 (x y z u q : Int) (b cap : Nat) (w : World) (hx : w.cell? ⟨b, 0, none⟩ = some (.int .i64 x)) (hy : w.cell? ⟨b, 1, none⟩ = some (.int .i64 y)) (hz : w.cell? ⟨b, 2, none⟩ = some (.int .i64 z)) (hu : w.cell? ⟨b, 3, none⟩ = some (.int .i64 u)) (hq : w.cell? ⟨b, 4, none⟩ = some (.int .i64 q)) :
    Calls Tryz.prog 21 #[.slice (some ⟨b, 0, none⟩) 5 cap] w fun e w' => e = .returned (.int .i64 (firstE [x, y, z, u, q])) ∧ w = w' :=
  first_c0 b 5 cap [x, y, z, u, q] w rfl (fun i v h => by
    rcases i with _ | _ | _ | _ | _ | i <;> simp at h <;> subst h <;> assumption) (by omega)
theorem box_two (w : World) (a0 b0 : Value) (T U : Nat) : ∃ W, (w.alloc (.cells #[a0] T)).alloc (.cells #[b0] U) = W ∧ Gr w W ∧ W.cell? ⟨w.heap.size, 0, none⟩ = some a0 ∧ W.cell? ⟨w.heap.size + 1, 0, none⟩ = some b0 := by
  obtain ⟨W1, h1, g1, a1⟩ := box1 w a0 T
  obtain ⟨W2, h2, g2, a2⟩ := box1 W1 b0 U
  refine ⟨W2, by rw [h1, h2], g1.trans g2, g2.cell a1, ?_⟩
  have : W1.heap.size = w.heap.size + 1 := by rw [← h1]; simp
  rw [← this]; exact a2
/-- the range with its answer under a name -/
theorem range_e (n l h : Int) : ∃ z, z = outE n l h ∧ ∀ W, Calls Tryz.prog 22 #[.int .i64 n, .int .i64 l, .int .i64 h] W fun e w' => e = .returned (.int .i64 z) ∧ W = w' :=
  ⟨_, rfl, fun W => range_c n l h W⟩
end Go.Proofs.YtebnbjaaogfikaaGreatDoor
namespace Go.Proofs.YtebnbjaaogfikaaGreatDoor
open Go.RowKit Go.Lib
set_option linter.unusedSimpArgs false
set_option linter.unusedVariables false
theorem seaName_c (s : ByteArray) (w : World) :
    Calls Tryz.prog 57 #[.string s] w fun e w' => e = .returned (.int .i64 (nmE s)) ∧ Gr w w' := by
  have H1 := Lib.hid (isName_c s w)
  have H2 := Lib.hid (if_e (!decide (Nm s)) 8)
  have HE : Hid (nmE s = if (!decide (Nm s)) then 8 else 0) := by
    unfold Hid nmE
    by_cases h : Nm s <;> simp [h]
  generalize decide (Nm s) = b at *
  obtain ⟨z, hz, H3⟩ := H2.out
  rw [← hz] at HE
  generalize nmE s = y at *
  have H4 := Lib.hid H3
  clear H3 H2 hz
  go_enter Tryz.func57, Tryz.ntmps57
  go_wp2_with fail
  refine H1.out.mono ?_
  rintro e W1 ⟨rfl, hg⟩
  go_wp2_with fail
  refine (H4.out _).mono ?_
  rintro e w' ⟨rfl, rfl⟩
  go_wp2_with fail
  go_ret
  exact ⟨by rw [HE.out]; rfl, hg⟩
theorem seaName_e (s : ByteArray) : ∃ z, z = nmE s ∧ ∀ W, Calls Tryz.prog 57 #[.string s] W fun e w' => e = .returned (.int .i64 z) ∧ Gr W w' :=
  ⟨_, rfl, fun W => seaName_c s W⟩
structure QenR where
  cl : ByteArray
  na : ByteArray
/-- the cells of one at a place -/
structure QenAt (w : World) (b off : Nat) (x : QenR) : Prop where
  cl : w.cell? ⟨b, off, none⟩ = some (.string x.cl)
  na : w.cell? ⟨b, off + 1, none⟩ = some (.string x.na)
theorem QenAt.gr {w w' : World} {b off : Nat} {x : QenR} (h : QenAt w b off x) (k : Gr w w') : QenAt w' b off x := ⟨k.cell h.cl, k.cell h.na⟩
def qenV (x : QenR) : Value := .agg #[.string x.cl, .string x.na]
/-- the slice v reads as these -/
structure QenAts (w : World) (v : Value) (xs : List QenR) : Prop where
  mk' ::
  out : ∃ p cap, v = .slice p xs.length cap ∧ (xs.length ≤ cap ∧ cap ≤ maxLen) ∧ (0 < xs.length → ∃ b off, p = some ⟨b, off, none⟩ ∧ ∀ i x, xs[i]? = some x → QenAt w b (off + i * 2) x)
theorem QenAts.gr {w w' : World} {v : Value} {xs : List QenR} (h : QenAts w v xs) (k : Gr w w') : QenAts w' v xs := by
  obtain ⟨⟨p, cap, rfl, hcap, hh⟩⟩ := h
  refine ⟨p, cap, rfl, hcap, fun h0 => ?_⟩
  obtain ⟨b, off, h1, h2⟩ := hh h0
  exact ⟨b, off, h1, fun i x hx => (h2 i x hx).gr k⟩
theorem sameQen_c (y : QenR) (B : Nat) (nm : ByteArray) (w : World) (h : w.cell? ⟨B, 0, none⟩ = some (.string nm)) :
    Calls Tryz.prog 85 #[qenV y, .pointer (some ⟨B, 0, none⟩)] w fun e w' => e = .returned (.bool (isN (fun y : QenR => y.cl) nm y)) ∧ Gr w w' := by
  unfold qenV isN
  obtain ⟨W, hW, g, a0, a1⟩ := box2 w (.string y.cl) (.string y.na) 42
  have hB := g.cell h
  rw [← hW] at hB
  have HG := Lib.hid (show Gr w (w.alloc (.cells #[.string y.cl, .string y.na] 42)) from (Gr.refl w).alloc _)
  clear hW h g a0 a1
  go_enter Tryz.func85, Tryz.ntmps85
  go_wp2_with fail
  go_ret
  exact ⟨rfl, HG.out⟩
set_option maxHeartbeats 1000000 in
set_option maxRecDepth 100000 in
theorem indexQen_pos (xs : List QenR) (n b off cap : Nat) (B : Nat) (nm : ByteArray) (w : World) (hn : n ≤ xs.length) (h1 : n ≤ 1000) (hc : ∀ i x, xs[i]? = some x → QenAt w b (off + i * 2) x) (hB : w.cell? ⟨B, 0, none⟩ = some (.string nm)) :
    Calls Tryz.prog 110 #[.slice (some ⟨b, off, none⟩) n cap, .func (.func 85) #[] #[.pointer (some ⟨B, 0, none⟩)]] w fun e w' => e = .returned (.int .i64 (idxQ (isN (fun y : QenR => y.cl) nm) xs n 0)) ∧ Gr w w' := by
  have HC := Lib.hid hc
  have HN := Lib.hid hn
  have HE : Hid (idxQ (isN (fun y : QenR => y.cl) nm) xs n 0 = idxQ (isN (fun y : QenR => y.cl) nm) xs (n - 0) 0) := rfl
  clear hc hn
  go_enter Tryz.func110, Tryz.ntmps110
  go_wp2_with fail
  go_loopg [8] n (fun gk s8 wr => ∃ i : Nat, s8 = .int .i64 i ∧ gk + i = n ∧ Gr w wr ∧ Hid (idxQ (isN (fun y : QenR => y.cl) nm) xs (n - i) i = idxQ (isN (fun y : QenR => y.cl) nm) xs (n - 0) 0))
  case atStart => exact ⟨0, rfl, by omega, Gr.refl _, rfl⟩
  case round =>
    obtain ⟨i, rfl, hi, hg, HF⟩ := hrel
    by_cases hlt : i < n
    · obtain ⟨x, hx⟩ : ∃ x, xs[i]? = some x := ⟨xs[i]'(by have := HN.out; omega), List.getElem?_eq_getElem _⟩
      obtain ⟨c0, c1⟩ := (HC.out i x hx).gr hg
      have hf := idxQ_step (Q := (isN (fun y : QenR => y.cl) nm)) hx hlt
      have hi2 : (i : Int) < n := by omega
      have HT := Lib.hid (sameQen_c x B nm wr (hg.cell hB))
      clear hx
      try unfold qenV at HT
      cases e1 : (isN (fun y : QenR => y.cl) nm) x
      · rw [e1] at hf HT
        simp only [Bool.false_eq_true, if_false] at hf
        have HF2 := Lib.hid hf
        clear hf e1
        go_wp2_with (refine HT.out.mono ?_; rintro e w4 ⟨rfl, hg2⟩)
        go_roundg (gk - 1)
        case measure => omega
        case rel => exact ⟨i + 1, by go_num, by omega, hg.trans hg2, by unfold Hid; rw [← HF2.out, HF.out]⟩
      · rw [e1] at hf HT
        simp only [if_true] at hf
        have HF2 := Lib.hid hf
        clear hf e1
        go_wp2_with (refine HT.out.mono ?_; rintro e w4 ⟨rfl, hg2⟩)
        go_ret
        exact ⟨by rw [HE.out, ← HF.out, HF2.out]; rfl, hg.trans hg2⟩
    · have HE2 := Lib.hid (idxQ_end (Q := (isN (fun y : QenR => y.cl) nm)) (xs := xs) (i := i) (n := n) (by omega))
      have hi2 : (n : Int) ≤ i := by omega
      go_wp2_with fail
      go_ret
      exact ⟨by rw [HE.out, ← HF.out, HE2.out]; rfl, hg⟩
theorem containsQen_pos (xs : List QenR) (n b off cap : Nat) (B : Nat) (nm : ByteArray) (w : World) (hn : n ≤ xs.length) (h1 : n ≤ 1000) (hc : ∀ i x, xs[i]? = some x → QenAt w b (off + i * 2) x) (hB : w.cell? ⟨B, 0, none⟩ = some (.string nm)) :
    Calls Tryz.prog 86 #[.slice (some ⟨b, off, none⟩) n cap, .func (.func 85) #[] #[.pointer (some ⟨B, 0, none⟩)]] w fun e w' => e = .returned (.bool (dupN (fun y : QenR => y.cl) xs n nm)) ∧ Gr w w' := by
  have HI := Lib.hid (indexQen_pos xs n b off cap B nm w hn h1 hc hB)
  have HE : Hid ((dupN (fun y : QenR => y.cl) xs n nm) = decide (0 ≤ idxQ (isN (fun y : QenR => y.cl) nm) xs n 0)) := by
    unfold Hid
    rw [idxQ_any (isN (fun y : QenR => y.cl) nm) xs n 0 (by omega), List.drop_zero]
    all_goals rfl
  clear hc
  generalize idxQ (isN (fun y : QenR => y.cl) nm) xs n 0 = z at *
  go_enter Tryz.func86, Tryz.ntmps86
  go_wp2_with fail
  refine HI.out.mono ?_
  rintro e w4 ⟨rfl, hg⟩
  go_wp2_with fail
  go_ret
  exact ⟨by rw [HE.out]; rfl, hg⟩
/-- the error of an entry -/
def qenE (xs : List QenR) (i : Nat) (x : QenR) : Int := firstE [nmE x.cl, nmE x.na, if dupN (fun y : QenR => y.cl) xs i x.cl then 9 else 0]
set_option maxHeartbeats 1000000 in
set_option maxRecDepth 100000 in
theorem oneQen_c (xs : List QenR) (i n b off cap L : Nat) (x : QenR) (w : World) (hn : xs.length = n) (hi : i < n) (h1 : n ≤ 1000) (hcap : n ≤ cap) (hmx : cap ≤ maxLen) (hc : ∀ i x, xs[i]? = some x → QenAt w b (off + i * 2) x) (hL : w.cell? ⟨L, 0, none⟩ = some (.slice (some ⟨b, off, none⟩) n cap)) :
    Calls Tryz.prog 84 #[.int .i64 i, qenV x, .pointer (some ⟨L, 0, none⟩)] w fun e w' => e = .returned (.int .i64 (qenE xs i x)) ∧ Gr w w' := by
  have hR : qenE xs i x = firstE [nmE x.cl, nmE x.na, if dupN (fun y : QenR => y.cl) xs i x.cl then 9 else 0] := rfl
  have HD := Lib.hid (fun (Bx : Nat) (W : World) (g : Gr w W) hB => containsQen_pos xs i b off cap Bx x.cl W (by omega) (by omega) (fun i x hx => (hc i x hx).gr g) hB)
  generalize dupN (fun y : QenR => y.cl) xs i x.cl = d at *
  obtain ⟨e1, h1', H1⟩ := seaName_e x.cl
  obtain ⟨e2, h2', H2⟩ := seaName_e x.na
  obtain ⟨e3, h3', H3⟩ := if_e d 9
  rw [← h1', ← h2', ← h3'] at hR
  have hF := first_three e1 e2 e3
  rw [← hR] at hF
  generalize qenE xs i x = err at *
  have HN1 := Lib.hid H1
  have HN2 := Lib.hid H2
  replace H3 := Lib.hid H3
  have HF := Lib.hid hF
  unfold qenV
  obtain ⟨W, hW, g, a0, a1⟩ := box2 w (.string x.cl) (.string x.na) 42
  have l0 := g.cell hL
  have HW := Lib.hid hW
  have hi1 : (i : Int) ≤ cap := by omega
  have hi0 : (0 : Int) ≤ i := by omega
  clear hW hc hF hR h1' h2' h3' hL hn H1 H2
  go_enter Tryz.func84, Tryz.ntmps84
  go_wp2_with fail
  rw [HW.out]
  generalize w.heap.size = Bx at *
  clear HW
  have gd := (Gr.refl W).drew
  replace a0 := gd.cell a0
  replace a1 := gd.cell a1
  replace l0 := gd.cell l0
  replace g := g.trans gd
  clear gd
  refine wp_region_held_drew (S := (fun w' => (w'.cell? ⟨Bx, 0, none⟩ = some (.string x.cl) ∧ w'.cell? ⟨Bx, 1, none⟩ = some (.string x.na)) ∧ w'.cell? ⟨L, 0, none⟩ = some (.slice (some ⟨b, off, none⟩) n cap))) (by kernel_rfl) ⟨⟨a0, a1⟩, l0⟩ (fun hHeld => ?_)
  generalize W.drew = V at *
  refine wpAnyH_take (i := 0) (v := (.pointer (some ⟨Bx, 0, none⟩))) (op_at rfl) (by kernel_rfl) (by kernel_rfl) (by kernel_rfl) (fun _ _ _ h => h) (Or.inl ⟨rfl, fun w hSw => ?_⟩) (by assumption) ?_
  · (try dsimp only at hSw); go_simp; try with_reducible rfl
  (try simp only [Act.put, List.setIfInBounds_toArray, List.set_cons_zero, List.set_cons_succ])
  refine wpAnyH_take (i := 1) (v := (.string x.cl)) (op_at rfl) (by kernel_rfl) (by kernel_rfl) (by kernel_rfl) (fun _ _ _ h => h) (Or.inl ⟨rfl, fun w hSw => ?_⟩) (by assumption) ?_
  · (try dsimp only at hSw); go_simp; try with_reducible rfl
  (try simp only [Act.put, List.setIfInBounds_toArray, List.set_cons_zero, List.set_cons_succ])
  refine wpAnyH_take (i := 3) (v := (.pointer (some ⟨Bx, 1, none⟩))) (op_at rfl) (by kernel_rfl) (by kernel_rfl) (by kernel_rfl) (fun _ _ _ h => h) (Or.inl ⟨rfl, fun w hSw => ?_⟩) (by assumption) ?_
  · (try dsimp only at hSw); go_simp; try with_reducible rfl
  (try simp only [Act.put, List.setIfInBounds_toArray, List.set_cons_zero, List.set_cons_succ])
  refine wpAnyH_take (i := 4) (v := (.string x.na)) (op_at rfl) (by kernel_rfl) (by kernel_rfl) (by kernel_rfl) (fun _ _ _ h => h) (Or.inl ⟨rfl, fun w hSw => ?_⟩) (by assumption) ?_
  · (try dsimp only at hSw); go_simp; try with_reducible rfl
  (try simp only [Act.put, List.setIfInBounds_toArray, List.set_cons_zero, List.set_cons_succ])
  refine wpAnyH_take (i := 6) (v := (.slice (some ⟨b, off, none⟩) n cap)) (op_at rfl) (by kernel_rfl) (by kernel_rfl) (by kernel_rfl) (fun _ _ _ h => h) (Or.inl ⟨rfl, fun w hSw => ?_⟩) (by assumption) ?_
  · (try dsimp only at hSw); go_simp; try with_reducible rfl
  (try simp only [Act.put, List.setIfInBounds_toArray, List.set_cons_zero, List.set_cons_succ])
  refine wpAnyH_take (i := 7) (v := (.int .i64 i)) (op_at rfl) (by kernel_rfl) (by kernel_rfl) (by kernel_rfl) (fun _ _ _ h => h) (Or.inl ⟨rfl, fun w hSw => ?_⟩) (by assumption) ?_
  · (try dsimp only at hSw); go_simp; try with_reducible rfl
  (try simp only [Act.put, List.setIfInBounds_toArray, List.set_cons_zero, List.set_cons_succ])
  refine wpAnyH_take (i := 8) (v := (.slice (some ⟨b, off, none⟩) i cap)) (op_at rfl) (by kernel_rfl) (by kernel_rfl) (by kernel_rfl) (fun _ _ _ h => h) (Or.inl ⟨rfl, fun w hSw => ?_⟩) (by assumption) ?_
  · (try dsimp only at hSw); go_simp; try with_reducible rfl
  (try simp only [Act.put, List.setIfInBounds_toArray, List.set_cons_zero, List.set_cons_succ])
  refine wpAnyH_take (i := 9) (v := (.func (.func 85) #[] #[.pointer (some ⟨Bx, 0, none⟩)])) (op_at rfl) (by kernel_rfl) (by kernel_rfl) (by kernel_rfl) (fun _ _ _ h => h) (Or.inl ⟨rfl, fun w hSw => ?_⟩) (by assumption) ?_
  · (try dsimp only at hSw); go_simp; try with_reducible rfl
  (try simp only [Act.put, List.setIfInBounds_toArray, List.set_cons_zero, List.set_cons_succ])
  refine wpAnyH_ready (rs := [2]) (by kernel_rfl) (by simp) (AllReadyH.cons (op_at rfl) (fun K hK => ?_) AllReadyH.nil)
  go_simp
  (refine (HN1.out _).mono ?_; rintro e W1 ⟨rfl, hg⟩; replace a0 := hg.cell a0; replace a1 := hg.cell a1; replace l0 := hg.cell l0; replace g := g.trans hg; clear hg)
  go_wp2_with fail
  refine hK.out _ _ ⟨⟨a0, a1⟩, l0⟩ (fun hHeld => ?_)
  clear hK K
  (try simp only [Act.put, List.setIfInBounds_toArray, List.set_cons_zero, List.set_cons_succ])
  refine wpAnyH_ready (rs := [5]) (by kernel_rfl) (by simp) (AllReadyH.cons (op_at rfl) (fun K hK => ?_) AllReadyH.nil)
  go_simp
  (refine (HN2.out _).mono ?_; rintro e W2 ⟨rfl, hg⟩; replace a0 := hg.cell a0; replace a1 := hg.cell a1; replace l0 := hg.cell l0; replace g := g.trans hg; clear hg)
  go_wp2_with fail
  refine hK.out _ _ ⟨⟨a0, a1⟩, l0⟩ (fun hHeld => ?_)
  clear hK K
  (try simp only [Act.put, List.setIfInBounds_toArray, List.set_cons_zero, List.set_cons_succ])
  refine wpAnyH_ready (rs := [10]) (by kernel_rfl) (by simp) (AllReadyH.cons (op_at rfl) (fun K hK => ?_) AllReadyH.nil)
  go_simp
  (refine (HD.out Bx _ g a0).mono ?_; rintro e W3 ⟨rfl, hg⟩; replace a0 := hg.cell a0; replace a1 := hg.cell a1; replace l0 := hg.cell l0; replace g := g.trans hg; clear hg)
  go_wp2_with fail
  refine hK.out _ _ ⟨⟨a0, a1⟩, l0⟩ (fun hHeld => ?_)
  clear hK K
  (try simp only [Act.put, List.setIfInBounds_toArray, List.set_cons_zero, List.set_cons_succ])
  refine wpAnyH_ready (rs := [11]) (by kernel_rfl) (by simp) (AllReadyH.cons (op_at rfl) (fun K hK => ?_) AllReadyH.nil)
  go_simp
  (refine (H3.out _).mono ?_; rintro e w' ⟨rfl, rfl⟩)
  go_wp2_with fail
  refine hK.out _ _ ⟨⟨a0, a1⟩, l0⟩ (fun hHeld => ?_)
  clear hK K
  (try simp only [Act.put, List.setIfInBounds_toArray, List.set_cons_zero, List.set_cons_succ])
  refine wpAnyH_ready (rs := [12]) (by kernel_rfl) (by simp) (AllReadyH.cons (op_at rfl) (fun K hK => ?_) AllReadyH.nil)
  go_simp
  obtain ⟨WW, hWW, gW, s0, s1, s2⟩ := box3 W3 (.int .i64 e1) (.int .i64 e2) (.int .i64 e3) 28
  rw [hWW]
  clear hWW
  replace a0 := gW.cell a0
  replace a1 := gW.cell a1
  replace l0 := gW.cell l0
  replace g := g.trans gW
  refine hK.out _ _ ⟨⟨a0, a1⟩, l0⟩ (fun hHeld => ?_)
  clear hK K
  (try simp only [Act.put, List.setIfInBounds_toArray, List.set_cons_zero, List.set_cons_succ])
  refine wpAnyH_ready (rs := [13]) (by kernel_rfl) (by simp) (AllReadyH.cons (op_at rfl) (fun K hK => ?_) AllReadyH.nil)
  go_simp
  (refine (HF.out _ _ WW s0 s1 s2).mono ?_; rintro e w8 ⟨rfl, rfl⟩)
  go_wp2_with fail
  refine hK.out _ _ ⟨⟨a0, a1⟩, l0⟩ (fun hHeld => ?_)
  clear hK K
  (try simp only [Act.put, List.setIfInBounds_toArray, List.set_cons_zero, List.set_cons_succ])
  refine wpAnyH_take (i := 14) (v := (.int .i64 err)) (op_at rfl) (by kernel_rfl) (by kernel_rfl) (by kernel_rfl) (fun _ _ _ h => h) (Or.inl ⟨rfl, fun w hSw => ?_⟩) (by assumption) ?_
  · (try dsimp only at hSw); go_simp; try with_reducible rfl
  (try simp only [Act.put, List.setIfInBounds_toArray, List.set_cons_zero, List.set_cons_succ])
  refine wpAnyH_done (by kernel_rfl) ?_ _
  go_wp2_with fail
  go_ret
  exact ⟨rfl, g⟩
end Go.Proofs.YtebnbjaaogfikaaGreatDoor
namespace Go.Proofs.YtebnbjaaogfikaaGreatDoor
open Go.RowKit Go.Lib
set_option linter.unusedSimpArgs false
set_option linter.unusedVariables false
/-- the cell of a word -/
structure StrAt (w : World) (b off : Nat) (x : ByteArray) : Prop where
  nm : w.cell? ⟨b, off, none⟩ = some (.string x)
theorem StrAt.gr {w w' : World} {b off : Nat} {x : ByteArray} (h : StrAt w b off x) (k : Gr w w') : StrAt w' b off x := ⟨k.cell h.nm⟩
/-- the slice v reads as these words -/
structure StrAts (w : World) (v : Value) (xs : List ByteArray) : Prop where
  mk' ::
  out : ∃ p cap, v = .slice p xs.length cap ∧ (xs.length ≤ cap ∧ cap ≤ maxLen) ∧ (0 < xs.length → ∃ b off, p = some ⟨b, off, none⟩ ∧ ∀ i x, xs[i]? = some x → StrAt w b (off + i) x)
theorem StrAts.gr {w w' : World} {v : Value} {xs : List ByteArray} (h : StrAts w v xs) (k : Gr w w') : StrAts w' v xs := by
  obtain ⟨⟨p, cap, rfl, hcap, hh⟩⟩ := h
  refine ⟨p, cap, rfl, hcap, fun h0 => ?_⟩
  obtain ⟨b, off, h1, h2⟩ := hh h0
  exact ⟨b, off, h1, fun i x hx => (h2 i x hx).gr k⟩
end Go.Proofs.YtebnbjaaogfikaaGreatDoor
namespace Go.Proofs.YtebnbjaaogfikaaGreatDoor
open Go.RowKit Go.Lib
set_option linter.unusedSimpArgs false
set_option linter.unusedVariables false
theorem dupN_succ {α : Type} (f : α → ByteArray) {xs : List α} {k : Nat} {y : α} (h : xs[k]? = some y) (nm : ByteArray) : dupN f xs (k + 1) nm = (dupN f xs k nm || ((f y).toList == nm.toList)) := by
  unfold dupN
  rw [List.take_add_one, h]
  simp
theorem dupN_le {α : Type} (f : α → ByteArray) {xs : List α} {k i : Nat} (hk : k ≤ i) {nm : ByteArray} (h : dupN f xs k nm = true) : dupN f xs i nm = true := by
  unfold dupN at *
  simp only [List.any_eq_true] at *
  obtain ⟨y, hy, e⟩ := h
  exact ⟨y, List.take_subset_take_left _ hk hy, e⟩
end Go.Proofs.YtebnbjaaogfikaaGreatDoor
namespace Go.Proofs.YtebnbjaaogfikaaGreatDoor
open Go.RowKit Go.Lib
set_option linter.unusedSimpArgs false
set_option linter.unusedVariables false
/-- the error of a name in a list -/
def strE (xs : List ByteArray) (i : Nat) (x : ByteArray) : Int := firstE [nmE x, if hasS (xs.take i) x then 9 else 0]
theorem strE_eq (xs : List ByteArray) (i : Nat) (x : ByteArray) : strE xs i x = if (!decide (Nm x)) = true then 8 else if hasS (xs.take i) x = true then 9 else 0 := by
  unfold strE nmE
  by_cases q0 : Nm x <;> cases hasS (xs.take i) x <;> simp [firstE, q0]
end Go.Proofs.YtebnbjaaogfikaaGreatDoor
