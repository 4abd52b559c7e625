/- The world at the start of a law, and awake(). -/
import Derived.Test.YtenhodepaoaiiaaGreatDoorRows
import Derived.Test.YtenhodepaoaiiaaGreatDoorGNat
import Derived.Test.YtenhodepaoaiiaaGreatDoorAwake
import Derived.ProofKit
import Derived.LaidMore
import Derived.OpenShut
import Derived.Stop.Joined
import Derived.Test.YtenhodepaoaiiaaGreatDoorGRow0
import Derived.Carry
import Derived.ChangeSlices
import Derived.Deep.Slices
import Derived.Deep.Strs
namespace Go.Proofs.YtenhodepaoaiiaaGreatDoor
open Go.ChangeShapes Go.WideShapes Go.ChangeAt Go.WideMaps Go.WideElems Go.RowKit
theorem own : ownKnob Tryz.prog.godebug = none := by kernel_rfl
theorem gBeaten : Tryz.prog.globalNamed "crux/start.beaten" = some 0 := by kernel_rfl
theorem tBeaten : (Tryz.prog.globals[0]?).map (·.type) = some 125 := by kernel_rfl
theorem cells3 : Tryz.prog.cellsOf 3 = 1 := by kernel_rfl
theorem cells5 : Tryz.prog.cellsOf 5 = 1 := by kernel_rfl
theorem cells40 : Tryz.prog.cellsOf 82 = 2 := by kernel_rfl
theorem cells41 : Tryz.prog.cellsOf 39 = 2 := by kernel_rfl
theorem cells46 : Tryz.prog.cellsOf 125 = 4 := by kernel_rfl
abbrev laidB : ∀ {H : Type}, List (String × DataW H) := fun {_} => [("crux/start.beaten", Rows.laid_crux_start_beaten)]
theorem door_met (os : Os) (args : Array Value) : laidMetH Tryz.prog laidB ((World.doorLaid Tryz.prog 400 os).forCall (fun _ _ => 0) ⟨#[], args, []⟩).memory :=
  laidMetH_of_parts3 (fuel := 8) (laidMet_of_run' 8 (by kernel_rfl) (by kernel_rfl)) (by kernel_rfl) (by kernel_rfl)
set_option maxRecDepth 100000 in
theorem of_laid {W : World} (h : laidMetH Tryz.prog laidB W) : ∃ t fr, W.heap[0]? = some (.cells #[.int .i64 0, .int .i64 2, .int .i64 1, .int .i64 0] t fr) := by
  rw [MakeChecks.laidMetH_plain _ _ _ (by kernel_rfl)] at h
  obtain ⟨ps, h, _, _⟩ := h
  obtain ⟨g0, t0, cs0, f0, p0, q0, hg0, ht0, hv0, hd0, _, _⟩ := h
  obtain rfl := Option.some.inj (gBeaten.symm.trans hg0)
  obtain rfl := Option.some.inj (tBeaten.symm.trans ht0)
  obtain ⟨xs, m1, rfl, hx1, hlen, hn, hel⟩ := DataW.trod_array Tryz.underlying125 hd0
  have e0 := hel 0 (by decide)
  have e1 := hel 1 (by decide)
  have e2 := hel 2 (by decide)
  have e3 := hel 3 (by decide)
  simp only [Prod.mk.injEq, Rows.laid_crux_start_beaten, DataW.agg.injEq] at hx1
  match xs, hn, hx1, e0, e1, e2, e3 with
  | [x0, x1, x2, x3], _, hx1, e0, e1, e2, e3 =>
    simp only [List.map_cons, List.map_nil, List.cons.injEq, and_true] at hx1
    obtain ⟨⟨a0, a1, a2, a3⟩, _⟩ := hx1
    rw [cells46] at hlen
    obtain ⟨l⟩ := cs0
    match l, hlen with
    | [c0, c1, c2, c3], _ =>
      rw [cells3] at e0 e1 e2 e3
      simp at e0 e1 e2 e3
      obtain ⟨k0, b0, d0, _⟩ := DataW.trod_int Tryz.underlying3 e0
      obtain ⟨k1, b1, d1, _⟩ := DataW.trod_int Tryz.underlying3 e1
      obtain ⟨k2, b2, d2, _⟩ := DataW.trod_int Tryz.underlying3 e2
      obtain ⟨k3, b3, d3, _⟩ := DataW.trod_int Tryz.underlying3 e3
      rw [d0] at a0
      rw [d1] at a1
      rw [d2] at a2
      rw [d3] at a3
      simp at a0 a1 a2 a3 b0 b1 b2 b3
      subst a0 a1 a2 a3 b0 b1 b2 b3
      unfold World.var? at hv0
      rw [hg0] at hv0
      simp only [Option.bind_some] at hv0
      split at hv0
      · rename_i cs t fr hh
        simp only [Option.some.injEq] at hv0
        subst hv0
        exact ⟨t, fr, hh⟩
      · cases hv0
/-- what the small machine asks of the world -/
theorem laid_in {W : World} (hs : W.ShapedOpen Tryz.prog) (h : laidMetH Tryz.prog laidB W) : Go.Ev.LaidIn A6.gs0 W := by
  obtain ⟨t, fr, h1⟩ := of_laid h
  have hz : ((begin Tryz.prog (fun _ _ => 0) default).world.heap[0]?).bind Obj.row? = some (#[.int .i64 0, .int .i64 0, .int .i64 0, .int .i64 0], 125) := by kernel_rfl
  obtain ⟨cs, h2, _⟩ := hs.1 0 _ _ (by decide +kernel) hz
  rw [h1] at h2
  simp only [Option.some.injEq, Obj.cells.injEq] at h2
  obtain ⟨rfl, rfl, rfl⟩ := h2
  intro x hx
  simp only [A6.gs0, List.mem_singleton] at hx
  subst hx
  exact ⟨(0, 0), h1, fun i _ => by simp⟩
theorem env : Go.Ev.Env Tryz.prog where
  names := fun f fn h => by
    have hall : (Tryz.prog.funcs.toList.all fun fn => !(fn.name == "runtime.NumGoroutine")) = true := by kernel_rfl
    have := List.all_eq_true.1 hall fn (List.mem_iff_getElem?.2 ⟨f, by simpa using h⟩)
    simpa using this
  mixed := by kernel_rfl
theorem orcKp : Go.Ev.OrcKp A6.orc := by
  intro f args s r s' h
  have h' : (none : Option Go.Ev.Res) = some (some (r, s')) := h
  cases h'
theorem awake_c {W : World} (hs : W.ShapedOpen Tryz.prog) (h : laidMetH Tryz.prog laidB W) (W1 : World) (hg : Gr W W1) :
    Calls Tryz.prog 5 #[] W1 fun e w' => e = .returned (.bool true) ∧ Gr W1 w' := by
  have hl := laid_in hs h
  refine A6.top W1 (fun x hx => ?_) env ?_ orcKp
  · obtain ⟨fr, h1, h2⟩ := hl x hx
    exact ⟨fr, hg.block h1, h2⟩
  · intro f args s r s' h
    have h' : (none : Option Go.Ev.Res) = some (some (r, s')) := h
    cases h'
end Go.Proofs.YtenhodepaoaiiaaGreatDoor
namespace Go.Proofs.YtenhodepaoaiiaaGreatDoor
open Go.ChangeShapes Go.WideShapes Go.ChangeAt Go.WideMaps Go.WideElems Go.RowKit
theorem cells9 : Tryz.prog.cellsOf 9 = 1 := by kernel_rfl
theorem cellsRes : Tryz.prog.cellsOf 42 = 3 := by kernel_rfl
theorem cellsInts : Tryz.prog.cellsOf 40 = 1 := by kernel_rfl
theorem recRs : Tryz.prog.readableRec 22 = true := by kernel_rfl
theorem rowRs : 22 < Tryz.prog.types.size := of_decide_eq_true (by kernel_rfl)
theorem cellsStr : Tryz.prog.cellsOf 9 = 1 := by kernel_rfl
theorem recSs : Tryz.prog.readableRec 23 = true := by kernel_rfl
theorem rowSs : 23 < Tryz.prog.types.size := of_decide_eq_true (by kernel_rfl)
theorem laidOutRs : laidOutB Tryz.prog = true := by kernel_rfl
section
variable {H : Type} {enc : TypeId × Value → H}
set_option maxRecDepth 100000 in
/-- a slice of integers, read -/
theorem intsV_of {W : World} {cs : List Value} {fuel : Nat} {x : DataW H × List MemPlace} (h : DataW.trod enc Tryz.prog W 0 (fun _ => true) true fuel 40 cs = some x) : ∃ v xs, cs = [v] ∧ IntsV W v xs := by
  rcases open_ints Tryz.underlying40 Tryz.underlying3 cells3 h with ⟨rfl, _⟩ | ⟨a, len, cap, zs, rfl, _, hle, _, hlen, _, hcell, _⟩
  · exact ⟨_, [], rfl, ⟨none, 0, rfl, fun h => absurd h (by simp)⟩⟩
  · simp only [if_true] at hlen
    have hl : (zs.take len).length = len := by rw [List.length_take, hlen]; omega
    refine ⟨_, zs.take len, rfl, ⟨some a, cap, by rw [hl], fun h0 => ?_⟩⟩
    rw [hl] at h0
    obtain ⟨b, off, rfl, hc⟩ := ints_at hcell (by omega)
    refine ⟨b, off, rfl, fun i z hz => ?_⟩
    have hi : i < len := by
      have := (List.getElem?_eq_some_iff.1 hz).1
      omega
    rw [hc i (by omega)]
    rw [List.getElem?_take, if_pos hi] at hz
    simp [List.getD_eq_getElem?_getD, hz]
set_option maxRecDepth 100000 in
/-- one result, read -/
theorem row0_of {W : World} {a : Addr} {cs : List Value} {fuel : Nat} {x : DataW H × List MemPlace} (hc : W.cells? 0 a 3 = some cs) (h : DataW.trod enc Tryz.prog W 0 (fun _ => true) true fuel 42 cs = some x) :
    ∃ y : RowR, W.cell? (a.add 0) = some (.string y.nm) ∧ W.cell? (a.add 1) = some (.string y.st) ∧ W.cell? (a.add 2) = some y.u ∧ IntsV W y.u y.xs := by
  obtain ⟨_, hlen, hcell⟩ := World.cells?_some hc
  match cs, hlen with
  | [c0, c1, c2], _ =>
  obtain ⟨ys, m, _, hx, _, hl, hfs⟩ := DataW.trod_struct Tryz.underlying42 h
  match ys, hl, hx with
  | [y0, y1, y2], _, hx =>
    have e0 := hfs 0 _ rfl
    have e1 := hfs 1 _ rfl
    have e2 := hfs 2 _ rfl
    simp [cells9, cellsInts] at e0 e1 e2
    obtain ⟨c, q0, _, _⟩ := DataW.trod_string Tryz.underlying9 e0
    obtain ⟨s, q1, _, _⟩ := DataW.trod_string Tryz.underlying9 e1
    obtain ⟨u, xs, q2, hI⟩ := intsV_of e2
    simp at q0 q1 q2
    subst q0 q1 q2
    exact ⟨⟨c, s, _, xs⟩, hcell 0 (by omega), hcell 1 (by omega), hcell 2 (by omega), hI⟩
set_option maxRecDepth 100000 in
/-- results, read -/
theorem open_rows {W : World} {b0 : Nat} {v : Value} {d : DataW H} {ps : List MemPlace} (hv : Value.okWide Tryz.prog W .any b0 22 v) (h : DataW.Trod enc Tryz.prog W 0 (fun _ => true) true 22 v d ps) :
    ∃ xs, Rows0V W v xs := by
  obtain ⟨a0, l0, c0, rfl⟩ := okWide_slice Tryz.underlying22 hv
  obtain ⟨fuel, hf⟩ := h
  rcases Go.Deep.open_slice Tryz.underlying22 hf with ⟨e, _⟩ | ⟨a, len, cap, m, n, D, Pl, e, _, hle, hmx, hm, _, hel⟩
  · simp [Value.cells] at e
    obtain ⟨rfl, rfl, rfl⟩ := e
    exact ⟨[], ⟨none, 0, rfl, ⟨by simp, by unfold maxLen; omega⟩, fun h => absurd h (by simp)⟩⟩
  · simp [Value.cells] at e
    obtain ⟨rfl, rfl, rfl⟩ := e
    simp only [if_true] at hm
    rw [cellsRes] at hel
    obtain ⟨V, hV⟩ := Go.Deep.choose_lt (α := RowR) (p := fun i y => W.cell? ((a.add (i * 3)).add 0) = some (.string y.nm) ∧ W.cell? ((a.add (i * 3)).add 1) = some (.string y.st) ∧ W.cell? ((a.add (i * 3)).add 2) = some y.u ∧ IntsV W y.u y.xs) (fun i (hi : i < m) => by
      obtain ⟨cs', h1, h2⟩ := hel i hi
      exact row0_of h1 h2)
    have hlen : ((List.range l0).map V).length = l0 := by simp
    refine ⟨(List.range l0).map V, ⟨some a, c0, by rw [hlen], ⟨by rw [hlen]; exact hle, hmx⟩, fun h0 => ?_⟩⟩
    rw [hlen] at h0
    obtain ⟨b, off, spot⟩ := a
    have hspot : spot = none := by
      have := World.cell?_spot (hV 0 (by omega)).1
      simpa [Addr.add] using this
    subst hspot
    refine ⟨b, off, rfl, fun i x hx => ?_⟩
    have hi : i < l0 := by
      have := (List.getElem?_eq_some_iff.1 hx).1
      rwa [hlen] at this
    obtain rfl : V i = x := by
      rw [List.getElem?_map, List.getElem?_range hi] at hx
      simpa using hx
    obtain ⟨k0, k1, k2, k3⟩ := hV i (by omega)
    rw [add_plain, add_plain] at k0 k1 k2
    exact ⟨k0, k1, k2, k3⟩
set_option maxRecDepth 100000 in
/-- names, read -/
theorem open_words {W : World} {b0 : Nat} {v : Value} {d : DataW H} {ps : List MemPlace} (hv : Value.okWide Tryz.prog W .any b0 23 v) (h : DataW.Trod enc Tryz.prog W 0 (fun _ => true) true 23 v d ps) :
    ∃ ns, WordsV W v ns := by
  obtain ⟨a0, l0, c0, rfl⟩ := okWide_slice Tryz.underlying23 hv
  obtain ⟨fuel, hf⟩ := h
  rcases Go.Deep.open_strs Tryz.underlying23 Tryz.underlying9 cellsStr hf with ⟨e, _⟩ | ⟨a, len, cap, m, Sx, e, _, hle, hmx, hm, _, hel⟩
  · simp [Value.cells] at e
    obtain ⟨rfl, rfl, rfl⟩ := e
    exact ⟨[], ⟨none, 0, rfl, ⟨by simp, by unfold maxLen; omega⟩, fun h => absurd h (by simp)⟩⟩
  · simp [Value.cells] at e
    obtain ⟨rfl, rfl, rfl⟩ := e
    simp only [if_true] at hm
    have hlen : ((List.range l0).map Sx).length = l0 := by simp
    refine ⟨(List.range l0).map Sx, ⟨some a, c0, by rw [hlen], ⟨by rw [hlen]; exact hle, hmx⟩, fun h0 => ?_⟩⟩
    rw [hlen] at h0
    obtain ⟨b, off, spot⟩ := a
    have hspot : spot = none := by
      have := World.cell?_spot (hel 0 (by omega)).1
      simpa [Addr.add] using this
    subst hspot
    refine ⟨b, off, rfl, fun i x hx => ?_⟩
    have hi : i < l0 := by
      have := (List.getElem?_eq_some_iff.1 hx).1
      rwa [hlen] at this
    obtain rfl : Sx i = x := by
      rw [List.getElem?_map, List.getElem?_range hi] at hx
      simpa using hx
    have k0 := (hel i (by omega)).1
    rwa [add_plain] at k0
end
end Go.Proofs.YtenhodepaoaiiaaGreatDoor
namespace Go.Proofs.YtenhodepaoaiiaaGreatDoor
open Go.RowKit Go.Lib
set_option linter.unusedSimpArgs false
set_option linter.unusedVariables false
theorem thruB_count (bs : List Bare) (m : Int) : (thruB bs m).length = ((fineB bs).filter fun b => decide (rankB (fineB bs) b ≤ m)).length := by
  unfold thruB goOn ranksB
  rw [pls_map, List.length_map, ((srtP_spec _).1.filter _).length_eq, List.filter_map, List.length_map]
  rfl
theorem thruB_good (bs : List Bare) (m : Int) : (thruB bs m).length ≤ (fineB bs).length := by
  rw [thruB_count]; exact List.length_filter_le _ _
theorem fineB_perm {bs cs : List Bare} (h : bs.Perm cs) : (fineB bs).Perm (fineB cs) := h.filter _
theorem thruB_perm_len {bs cs : List Bare} (h : bs.Perm cs) (m : Int) : (thruB bs m).length = (thruB cs m).length := by
  rw [thruB_count, thruB_count]
  have hf := fineB_perm h
  have : (fun b => decide (rankB (fineB bs) b ≤ m)) = fun b => decide (rankB (fineB cs) b ≤ m) := by
    funext b; rw [rankB_perm hf]
  rw [this]
  exact (hf.filter _).length_eq
theorem thruB_perm_mem {bs cs : List Bare} (h : bs.Perm cs) {m : Int} {s : ByteArray} (hs : s ∈ thruB bs m) : s ∈ thruB cs m := by
  obtain ⟨b, hb, e, hr⟩ := thruB_mem.1 hs
  have hf := fineB_perm h
  exact thruB_mem.2 ⟨b, hf.mem_iff.1 hb, e, by rw [← rankB_perm hf]; exact hr⟩
/-- with one who doesn't go on there are enough who do -/
theorem enough (F : List Bare) (m : Nat) : ∀ (k : Nat) (x : Bare), x ∈ F → ¬ rankB F x ≤ m → rankB F x ≤ k → m ≤ (F.filter fun b => decide (rankB F b ≤ (m : Int))).length
  | 0, x, _, _, h => by
    have : 1 ≤ rankB F x := by unfold rankB; omega
    omega
  | k + 1, x, hx, hn, hk => by
    by_cases hall : ∀ c ∈ F, cmpB c x < 0 → rankB F c ≤ m
    · have h1 : (F.countP fun c => decide (cmpB c x < 0)) ≤ F.countP fun c => decide (rankB F c ≤ (m : Int)) :=
        List.countP_mono_left (fun c hc h => by simpa using hall c hc (by simpa using h))
      have h2 : rankB F x = 1 + (F.countP fun c => decide (cmpB c x < 0) : Nat) := rfl
      rw [List.countP_eq_length_filter (p := fun c => decide (rankB F c ≤ (m : Int)))] at h1
      omega
    · have hex : ∃ c, c ∈ F ∧ cmpB c x < 0 ∧ ¬ rankB F c ≤ m := by
        apply Classical.byContradiction
        intro hc
        exact hall (fun c h1 h2 => Classical.byContradiction fun h3 => hc ⟨c, h1, h2, h3⟩)
      obtain ⟨c, hc, hlt, hcn⟩ := hex
      have := rankB_less (bs := F) hc hlt
      exact enough F m k c hc hcn (by omega)
theorem thruB_min (bs : List Bare) (m : Nat) : min m (fineB bs).length ≤ (thruB bs m).length := by
  rw [thruB_count]
  by_cases hall : ∀ c ∈ fineB bs, rankB (fineB bs) c ≤ m
  · rw [List.filter_eq_self.2 (fun c hc => by simpa using hall c hc)]
    exact Nat.min_le_right _ _
  · have hex : ∃ c, c ∈ fineB bs ∧ ¬ rankB (fineB bs) c ≤ m := by
      apply Classical.byContradiction
      intro hc
      exact hall (fun c h1 => Classical.byContradiction fun h3 => hc ⟨c, h1, h3⟩)
    obtain ⟨c, hc, hcn⟩ := hex
    have := enough (fineB bs) m (rankB (fineB bs) c).toNat c hc hcn (by omega)
    omega
/-- those who are out don't go on -/
theorem thruB_not {ns : List ByteArray} {bs : List Bare} {m : Int} {s : ByteArray} (h : hasS ns s = true) : hasS (thruB (restB ns bs) m) s = false := by
  cases hh : hasS (thruB (restB ns bs) m) s
  · rfl
  · unfold hasS at hh
    rw [List.any_eq_true] at hh
    obtain ⟨t, ht, he⟩ := hh
    obtain ⟨b, hb, rfl, _⟩ := thruB_mem.1 ht
    have hb2 : b ∈ restB ns bs := (List.mem_filter.1 hb).1
    have hb3 := (List.mem_filter.1 hb2).2
    have : hasS ns b.nm = true := by
      unfold hasS at h ⊢
      rw [List.any_eq_true] at h ⊢
      obtain ⟨u, hu, hue⟩ := h
      exact ⟨u, hu, by rw [beq_iff_eq] at he hue ⊢; rw [← he, hue]⟩
    rw [this] at hb3
    cases hb3
theorem restB_two (ns ms : List ByteArray) (bs : List Bare) : restB ms (restB ns bs) = restB (ns ++ ms) bs := by
  unfold restB
  rw [List.filter_filter]
  congr 1
  funext b
  unfold hasS
  rw [List.any_append]
  cases (ns.any fun t => b.nm.toList == t.toList) <;> cases (ms.any fun t => b.nm.toList == t.toList) <;> rfl
theorem restB_comm (x y : ByteArray) (bs : List Bare) : restB [x, y] bs = restB [y, x] bs := by
  unfold restB
  congr 1
  funext b
  simp [hasS, Bool.or_comm]
theorem nodup_inj {α β : Type} {f : α → β} : ∀ {l : List α}, (l.map f).Nodup → ∀ {a b : α}, a ∈ l → b ∈ l → f a = f b → a = b
  | [], _, a, b, ha, _, _ => by cases ha
  | x :: l, h, a, b, ha, hb, e => by
    rw [List.map_cons, List.nodup_cons] at h
    rcases List.mem_cons.1 ha with ea | ha'
    · rcases List.mem_cons.1 hb with eb | hb'
      · rw [ea, eb]
      · subst ea
        exact absurd (e ▸ List.mem_map_of_mem hb') h.1
    · rcases List.mem_cons.1 hb with eb | hb'
      · subst eb
        exact absurd (e ▸ List.mem_map_of_mem ha') h.1
      · exact nodup_inj h.2 ha' hb' e
theorem cmpB_less {d c b : Bare} (h1 : cmpB d c < 0) (h2 : cmpB c b < 0) : cmpB d b < 0 := by
  have h := cmpB_trans d c b (by omega) (by omega)
  rcases Int.lt_or_eq_of_le h with h3 | h3
  · exact h3
  · have f1 := cmpB_flip d b
    have f2 := cmpB_flip d c
    have := cmpB_trans c b d (by omega) (by omega)
    omega
/-- two sorted lists with the same elements at each rank up to m -/
theorem sorted_same_le {P Q : List PlR} (hP : P.Pairwise fun a b => a.rk ≤ b.rk) (hQ : Q.Pairwise fun a b => a.rk ≤ b.rk) (h1 : ∀ p ∈ P, 1 ≤ p.rk) (h2 : ∀ p ∈ Q, 1 ≤ p.rk) : ∀ m : Nat, (∀ r : Int, r ≤ m → P.filter (fun p => p.rk == r) = Q.filter fun p => p.rk == r) → P.filter (fun p => decide (p.rk ≤ (m : Int))) = Q.filter fun p => decide (p.rk ≤ (m : Int))
  | 0, _ => by
    rw [List.filter_eq_nil_iff.2 (fun p hp => by have := h1 p hp; simp; omega), List.filter_eq_nil_iff.2 (fun p hp => by have := h2 p hp; simp; omega)]
  | m + 1, h => by
    have e1 := sorted_next (m := m) P hP
    have e2 := sorted_next (m := m) Q hQ
    have := sorted_same_le hP hQ h1 h2 m (fun r hr => h r (by omega))
    rw [show ((m + 1 : Nat) : Int) = (m : Int) + 1 by omega, e1, e2, this, h _ (by omega)]
theorem srt_rank (F : List Bare) (r : Int) : (srtP (F.map fun b => ⟨b.nm, rankB F b⟩)).filter (fun p => p.rk == r) = (F.filter fun b => rankB F b == r).map fun b => ⟨b.nm, r⟩ := by
  rw [srtP_filter, List.filter_map]
  apply List.map_congr_left
  intro b hb
  have := (List.mem_filter.1 hb).2
  simp at this
  rw [this]
theorem srt_one (F : List Bare) : ∀ p ∈ srtP (F.map fun b => ⟨b.nm, rankB F b⟩), 1 ≤ p.rk := fun p hp => by
  rw [(srtP_spec _).1.mem_iff, List.mem_map] at hp
  obtain ⟨b, _, rfl⟩ := hp
  show 1 ≤ rankB F b
  unfold rankB; omega
/-- without one who doesn't go on, the same go on -/
theorem thruB_drop {bs : List Bare} (hV : ValidB bs) (m : Nat) (x : ByteArray) (hx : hasS (thruB bs m) x = false) : thruB (restB [x] bs) m = thruB bs m := by
  have hno : ∀ c ∈ fineB bs, c.nm.toList = x.toList → (m : Int) < rankB (fineB bs) c := fun c hc e => by
    apply Classical.byContradiction
    intro h
    have : c.nm ∈ thruB bs m := thruB_mem.2 ⟨c, hc, rfl, by omega⟩
    have h2 : hasS (thruB bs m) x = true := by
      unfold hasS; rw [List.any_eq_true]; exact ⟨c.nm, this, by rw [e]; simp⟩
    rw [hx] at h2; cases h2
  have hF : fineB (restB [x] bs) = (fineB bs).filter fun b => !hasS [x] b.nm := by
    unfold fineB restB; rw [List.filter_filter, List.filter_filter]; congr 1; funext b; rw [Bool.and_comm]
  have hone : ∀ b : Bare, hasS [x] b.nm = (b.nm.toList == x.toList) := fun b => by simp [hasS]
  have hap : ((fineB bs).map fun b => b.nm.toList).Nodup := hV.apart.sublist (List.filter_sublist.map _)
  have hrk : ∀ b, (∀ c ∈ fineB bs, c.nm.toList = x.toList → ¬ cmpB c b < 0) → rankB (fineB (restB [x] bs)) b = rankB (fineB bs) b := fun b h => by
    rw [hF]
    unfold rankB
    rw [List.countP_filter]
    congr 2
    apply List.countP_congr
    intro c hc
    simp only [hone, Bool.and_eq_true, decide_eq_true_eq, Bool.not_eq_true', beq_eq_false_iff_ne]
    exact ⟨fun q => q.1, fun q => ⟨q, fun e => h c hc e q⟩⟩
  unfold thruB goOn ranksB
  rw [pls_map, pls_map]
  congr 1
  refine sorted_same_le (srtP_pairwise _) (srtP_pairwise _) (srt_one _) (srt_one _) m (fun r hr => ?_)
  rw [srt_rank, srt_rank]
  congr 1
  conv => lhs; rw [hF]
  rw [List.filter_filter]
  apply List.filter_congr
  intro b hb
  rw [← hF, hone, Bool.eq_iff_iff]
  simp only [Bool.and_eq_true, Bool.not_eq_true', beq_iff_eq, beq_eq_false_iff_ne]
  constructor
  · rintro ⟨h1, h2⟩
    rw [← hrk b ?_]
    · exact h1
    · intro c hc e hlt
      have hcm := hno c hc e
      have hsub : (fineB bs).countP (fun d => decide (cmpB d c < 0)) ≤ (fineB (restB [x] bs)).countP fun d => decide (cmpB d b < 0) := by
        rw [hF, List.countP_filter]
        refine List.countP_mono_left (fun d hd h => ?_)
        simp only [decide_eq_true_eq] at h
        simp only [hone, Bool.and_eq_true, decide_eq_true_eq, Bool.not_eq_true', beq_eq_false_iff_ne]
        refine ⟨cmpB_less h hlt, fun e2 => ?_⟩
        have := nodup_inj hap hd hc (by rw [e2, e])
        subst this
        have := cmpB_self d
        omega
      have q1 : rankB (fineB bs) c = 1 + ((fineB bs).countP fun d => decide (cmpB d c < 0) : Nat) := rfl
      have q2 : rankB (fineB (restB [x] bs)) b = 1 + ((fineB (restB [x] bs)).countP fun d => decide (cmpB d b < 0) : Nat) := rfl
      omega
  · intro h
    have hne : ∀ c ∈ fineB bs, c.nm.toList = x.toList → ¬ cmpB c b < 0 := fun c hc e hlt => by
      have := rankB_less (bs := fineB bs) hc hlt
      have := hno c hc e
      omega
    exact ⟨by rw [hrk b hne]; exact h, fun e => by have := hno b hb e; omega⟩
end Go.Proofs.YtenhodepaoaiiaaGreatDoor
namespace Go.Proofs.YtenhodepaoaiiaaGreatDoor
open Go.RowKit Go.Lib
set_option linter.unusedSimpArgs false
set_option linter.unusedVariables false
/-- the error of a result but for its name -/
def formE (s : ByteArray) (xs : List Int) : Int := if gradeZ s.toList == -1 then 13 else if !s.toList.isEmpty && decide (0 < xs.length) then 1 else if decide ((8 : Int) < xs.length) then 5 else valsE xs
theorem resE_form (c s : ByteArray) (xs : List Int) : resE c s xs = if decide (Nm c) then formE s xs else 8 := by
  rw [resE_eq]
  unfold formE
  cases decide (Nm c) <;> rfl
theorem outside6_c (n l h : Int) (w : World) :
    Calls Tryz.prog 12 #[.int .i64 n, .int .i64 l, .int .i64 h] w fun e w' => e = .returned (.int .i64 (outE n l h)) ∧ w = w' := by
  have HE : Hid (outE n l h = if (decide (n < l) || decide (h < n)) = true then 3 else 0) := rfl
  cases h1 : decide (n < l) <;> cases h2 : decide (h < n)
  all_goals
    rw [h1, h2] at HE
    go_enter Tryz.func12, Tryz.ntmps12
    go_wp2_with fail
    go_ret
    exact ⟨by rw [HE.out]; rfl, rfl⟩
set_option maxHeartbeats 1000000 in
set_option maxRecDepth 100000 in
theorem refOne6_c (c s : ByteArray) (v : Value) (xs : List Int) (w : World) (h : IntsV w v xs) :
    Calls Tryz.prog 38 #[.agg #[.string c, .string s, v]] w fun e w' => e = .returned (.int .i64 (formE s xs)) ∧ Gr w w' := by
  have HF : ∀ z, formE s xs = z → Hid (formE s xs = z) := fun z h => h
  obtain ⟨p, cap, rfl, hh⟩ := h.out
  rcases grade_of s.toList with h1 | h1 | h1 | h1 | ⟨h0, h1, h2, h3⟩
  case other =>
    replace HF := HF 13 (by unfold formE; rw [gradeZ_other h0 h1 h2 h3]; rfl)
    clear hh h
    go_enter Tryz.func38, Tryz.ntmps38
    go_wp2_with fail
    go_ret
    exact ⟨by rw [HF.out]; rfl, (Gr.refl w).alloc _⟩
  case none =>
    rcases Nat.lt_or_ge 8 xs.length with hl | hl
    · have hl2 : decide ((8 : Int) < xs.length) = true := decide_eq_true (by omega)
      replace HF := HF 5 (by unfold formE; rw [h1, hl2]; rfl)
      clear hh h
      go_enter Tryz.func38, Tryz.ntmps38
      go_wp2_with fail
      go_ret
      exact ⟨by rw [HF.out]; rfl, (Gr.refl w).alloc _⟩
    · have hl2 : decide ((8 : Int) < xs.length) = false := decide_eq_false (by omega)
      replace HF := HF (valsE xs) (by unfold formE; rw [h1, hl2]; rfl)
      obtain ⟨W, hW, g, a0, a1, a2⟩ := box3 w (.string c) (.string s) (.slice p xs.length cap) 42
      have HW := Lib.hid hW
      have HX := Lib.hid (fun k (h : k < xs.length) => (show ∃ x, xs[k]? = some x from ⟨xs[k]'(by omega), List.getElem?_eq_getElem _⟩))
      have HH := Lib.hid hh
      have HO := Lib.hid (fun n W => outside6_c n (-999999999) 999999999 W)
      have HE := Lib.hid (fun k (h : xs.length ≤ k) => (show valsE (xs.drop k) = 0 from by rw [List.drop_of_length_le h]; rfl))
      clear hh h hW
      generalize xs.length = n at *
      go_enter Tryz.func38, Tryz.ntmps38
      go_wp2_with fail
      rw [HW.out]
      generalize w.heap.size = B at *
      clear HW
      go_loopg [3] n (fun gk s3 wr => ∃ k : Nat, s3 = .int .i64 k ∧ gk + k = n ∧ wr = W ∧ Hid (valsE (xs.drop k) = valsE xs))
      case atStart => exact ⟨0, rfl, by omega, rfl, by simp [Hid]⟩
      case round =>
        obtain ⟨k, rfl, hk, rfl, HV⟩ := hrel
        by_cases hlt : k < n
        · obtain ⟨x, hx⟩ := HX.out k hlt
          obtain ⟨b, off, rfl, hc⟩ := HH.out (by omega)
          have d0 := g.cell (hc k x hx)
          have hk2 : (k : Int) < n := by omega
          have hf := valsE_drop hx
          have HT := Lib.hid (HO.out x)
          clear hx hc
          rcases outE_or x (-999999999) 999999999 with h0 | h0
          · rw [h0] at HT hf
            rw [if_pos rfl] at hf
            have HF2 := Lib.hid hf
            clear hf h0
            go_wp2_with fail
            refine (HT.out _).mono ?_
            rintro e w4 ⟨rfl, rfl⟩
            go_wp2_with fail
            go_roundg (gk - 1)
            case measure => omega
            case rel => exact ⟨k + 1, by go_num, by omega, rfl, by unfold Hid; rw [← HF2.out, HV.out]⟩
          · rw [h0] at HT hf
            rw [if_neg (by decide)] at hf
            have HF2 := Lib.hid hf
            clear hf h0
            go_wp2_with fail
            refine (HT.out _).mono ?_
            rintro e w4 ⟨rfl, rfl⟩
            go_wp2_with fail
            go_ret
            exact ⟨by rw [HF.out, ← HV.out, HF2.out]; rfl, g⟩
        · have hk2 : ¬ (k : Int) < n := by omega
          have HZ : Hid (valsE xs = 0) := by unfold Hid; rw [← HV.out]; exact HE.out k (by omega)
          go_wp2_with fail
          go_ret
          exact ⟨by rw [HF.out, HZ.out]; rfl, g⟩
  all_goals
    have hne : s.toList.isEmpty = false := by rw [h1]; rfl
    have hg : (gradeZ s.toList == -1) = false := by rw [h1]; rfl
    by_cases hl : 0 < xs.length
    · have hl2 : decide ((0 : Int) < xs.length) = true := decide_eq_true (by omega)
      replace HF := HF 1 (by unfold formE; rw [hg, hne, decide_eq_true hl]; rfl)
      clear hh h hg hne
      go_enter Tryz.func38, Tryz.ntmps38
      go_wp2_with fail
      go_ret
      exact ⟨by rw [HF.out]; rfl, (Gr.refl w).alloc _⟩
    · have hz : xs = [] := List.length_eq_zero_iff.1 (by omega)
      replace HF := HF 0 (by unfold formE; rw [hg, hne, hz]; rfl)
      rw [show xs.length = 0 by omega]
      clear hh h hl hg hne hz
      go_enter Tryz.func38, Tryz.ntmps38
      go_wp2_with fail
      refine wp_loop_rounds 1 ?_
      rw [rounds_succ]
      go_wp2_with fail
      go_ret
      exact ⟨by rw [HF.out]; rfl, (Gr.refl w).alloc _⟩
end Go.Proofs.YtenhodepaoaiiaaGreatDoor
namespace Go.Proofs.YtenhodepaoaiiaaGreatDoor
open Go.RowKit Go.Lib
set_option linter.unusedSimpArgs false
set_option linter.unusedVariables false
theorem shortRs_any {xs : List RowR} {p : Option Addr} {n c : Nat} {w : World} (h : Rows0V w (.slice p n c) xs) :
    Calls Tryz.prog 6 #[.slice p n c, .int .i64 10] w fun e w' => ShoRet e xs ∧ w = w' := by
  obtain ⟨⟨p', c', e, hcap, hh⟩⟩ := h
  cases e
  by_cases h0 : 0 < xs.length
  · obtain ⟨b, off, rfl, hc⟩ := hh h0
    exact shortRs_pos xs _ b off c 10 w rfl (Nat.le_trans hcap.1 hcap.2) hc
  · have hz : xs = [] := List.length_eq_zero_iff.1 (by omega)
    subst hz
    refine (shortRs_nil p c 10 (by omega) w).mono ?_
    rintro e w' ⟨rfl, rfl⟩
    exact ⟨⟨true, rfl, fun _ x hx => by cases hx⟩, rfl⟩
/-- what karabinerResults returns -/
structure KRet (e : Ending) (xs : List RowR) (n : Nat) : Prop where
  out : ∃ r, e = .returned (.bool r) ∧ (r = true → Good xs n)
end Go.Proofs.YtenhodepaoaiiaaGreatDoor
