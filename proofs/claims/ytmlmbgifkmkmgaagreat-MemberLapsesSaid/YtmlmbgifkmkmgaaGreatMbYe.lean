/- Members: the days of licences, gone through by an iterator. -/
import Derived.RangeFuncNested
import Derived.RangeFuncBound
import Derived.RangeFuncCalls
import Derived.RangeFuncLeaves
import Derived.RangeFuncFrom
import Derived.RangeFuncWrites
import Derived.Shelf.Abstract
import Derived.Shelf.RegionOpen
import Derived.OwnWalkIn
import Derived.TacticsInMore
import Derived.LoopNIn
import Derived.LoopIn
import Derived.Test.YtmlmbgifkmkmgaaGreatGMbYc
namespace Go.Proofs.YtmlmbgifkmkmgaaGreat
open Go.RowKit Go.Shelf
set_option linter.unusedSimpArgs false
set_option linter.unusedVariables false
attribute [local go_sem] Oper.semAt_some
/-- the day on which licences lapse: the first one from d on, in at most k steps, on which none holds -/
def lapseZ (h : Int → Bool) : Nat → Int → Int
  | 0, d => d
  | k + 1, d => if h d then lapseZ h k (d + 1) else d
/-- a day -/
abbrev DayT := { x : Int // 0 ≤ x ∧ x ≤ 99999 }
def lastD (d : Int) (pre : List DayT) : Int := match pre.getLast? with
  | none => d
  | some x => x.1 + 1
theorem lastD_add (d : Int) (pre : List DayT) (x : DayT) : lastD d (pre ++ [x]) = x.1 + 1 := by unfold lastD; simp
/-- blocks that lay below n₀ lie as they lay, but for one -/
def KeepX (n₀ x : Nat) (W W' : World) : Prop := ∀ k, k < n₀ → k ≠ x → W'.heap[k]? = W.heap[k]?
theorem keepX_t {n₀ x : Nat} {A B C : World} (h : KeepX n₀ x A B) (k : KeepX n₀ x B C) : KeepX n₀ x A C := fun j h1 h2 => (k j h1 h2).trans (h j h1 h2)
theorem keepX_cat {n₀ x b o : Nat} {W W' : World} {y : CatR} (h : KeepX n₀ x W W') (hb : b < n₀) (hx : b ≠ x) (hc : CatAt W b o y) : CatAt W' b o y :=
  ⟨(World.cell?_of_block (a := ⟨b, o, none⟩) (h b hb hx)).trans hc.nm, (World.cell?_of_block (a := ⟨b, o + 1, none⟩) (h b hb hx)).trans hc.lo, (World.cell?_of_block (a := ⟨b, o + 2, none⟩) (h b hb hx)).trans hc.hi⟩
/-- the slice v reads as these, and lies below n₀, apart from block x -/
structure CatsIn (n₀ x : Nat) (w : World) (v : Value) (xs : List CatR) : Prop where
  mk' ::
  out : ∃ p cap, v = .slice p xs.length cap ∧ (xs.length ≤ cap ∧ cap ≤ maxLen) ∧ (0 < xs.length → ∃ b off, p = some ⟨b, off, none⟩ ∧ b < n₀ ∧ b ≠ x ∧ ∀ (i : Nat) (y : CatR), xs[i]? = some y → CatAt w b (off + i * 3) y)
theorem CatsIn.keep {n₀ x : Nat} {w w' : World} {v : Value} {xs : List CatR} (h : CatsIn n₀ x w v xs) (k : KeepX n₀ x w w') : CatsIn n₀ x w' v xs := by
  obtain ⟨⟨p, cap, rfl, hc, hh⟩⟩ := h
  refine ⟨p, cap, rfl, hc, fun h0 => ?_⟩
  obtain ⟨b, off, h1, h2, h3, h4⟩ := hh h0
  exact ⟨b, off, h1, h2, h3, fun i y hy => keepX_cat k h2 h3 (h4 i y hy)⟩
theorem CatsIn.gr {n₀ x : Nat} {w w' : World} {v : Value} {xs : List CatR} (h : CatsIn n₀ x w v xs) (k : Gr w w') : CatsIn n₀ x w' v xs := by
  obtain ⟨⟨p, cap, rfl, hc, hh⟩⟩ := h
  refine ⟨p, cap, rfl, hc, fun h0 => ?_⟩
  obtain ⟨b, off, h1, h2, h3, h4⟩ := hh h0
  exact ⟨b, off, h1, h2, h3, fun i y hy => (h4 i y hy).gr k⟩
theorem CatsIn.ats {n₀ x : Nat} {w : World} {v : Value} {xs : List CatR} (h : CatsIn n₀ x w v xs) : CatAts w v xs := by
  obtain ⟨⟨p, cap, rfl, hc, hh⟩⟩ := h
  refine ⟨p, cap, rfl, hc, fun h0 => ?_⟩
  obtain ⟨b, off, h1, _, _, h4⟩ := hh h0
  exact ⟨b, off, h1, h4⟩
theorem gr_grown {w w' : World} (h : Gr w w') : w.grownBy w' none := ⟨h.os, h.tape, h.output, Below.size h, fun k hk _ => Below.block h k hk⟩
set_option maxHeartbeats 1000000 in
set_option maxRecDepth 100000 in
theorem days_in (l Bf Bl n₀ x : Nat) (v : Value) (ys : List CatR) (d : Int) (hd0 : 0 ≤ d) (hd : d ≤ 100000) (h1 : ys.length ≤ 1000) (hhi : ∀ y ∈ ys, y.hi ≤ 99999) (J Jx : List DayT → World → Prop) (W : World)
    (hJ : ∀ (s : List DayT) (A B : World), J s A → Gr A B → J s B)
    (hY : ∀ pre y W1, J pre W1 → pre.length < 100001 → YieldAt Fence.wide 2 Tryz.prog l #[.int .i64 y.1] W1 fun e W' =>
      (e = .returned (.bool true) ∧ J (pre ++ [y]) W' ∧ KeepX n₀ x W1 W') ∨ (e = .returned (.bool false) ∧ Jx (pre ++ [y]) W'))
    (hBl : Bl < n₀ ∧ Bl ≠ x) (hf : W.cell? ⟨Bf, 0, none⟩ = some (.int .i64 d)) (hl : W.cell? ⟨Bl, 0, none⟩ = some v) (hys : CatsIn n₀ x W v ys) (h0 : J [] W) :
    CallsIn Fence.wide 3 Tryz.prog 133 #[.func (.yield l) #[] #[], .pointer (some ⟨Bf, 0, none⟩), .pointer (some ⟨Bl, 0, none⟩)] W fun e W' => (∃ v, e = .returned v) ∧
      ((∃ zs, lastD d zs = lapseZ (holdsB ys) 100001 d ∧ J zs W') ∨ (∃ pre, True ∧ Jx pre W')) := by
  refine callsIn_of_wp Tryz.func133 rfl trivial ?_ rfl
  simp only [Tryz.ntmps133, List.size_toArray, List.length_cons, List.length_nil, Nat.reduceAdd, Nat.reduceSub, Array.replicate_succ, Array.replicate_zero, List.push_toArray, List.append_toArray, List.nil_append, List.cons_append]
  gi_wp2
  gi_loopw [4] (fun dv wr => ∃ (pre : List DayT) (k : Nat), dv = .int .i64 (d + k) ∧ k ≤ 100000 ∧ d + k ≤ 100000 ∧ pre.length = k ∧ lastD d pre = d + k ∧ lapseZ (holdsB ys) 100001 d = lapseZ (holdsB ys) (100001 - k) (d + k) ∧ J pre wr ∧ wr.cell? ⟨Bl, 0, none⟩ = some v ∧ CatsIn n₀ x wr v ys) (fun dv _ => (100001 - intOf dv).toNat)
  case atStart => exact ⟨[], 0, by simp, by omega, by omega, rfl, by simp [lastD], by simp, h0, hl, hys⟩
  case round =>
    obtain ⟨pre, k, rfl, hk, hdk, hpl, hla, hz, hJs, hl2, hys2⟩ := hrel
    have HH := Lib.hid (holds_c (d + k) hys2.ats h1)
    have hzk : lapseZ (holdsB ys) (100001 - k) (d + k) = if holdsB ys (d + k) then lapseZ (holdsB ys) (100001 - (k + 1)) (d + k + 1) else d + k := by
      rw [show 100001 - k = (100001 - (k + 1)) + 1 by omega]; rfl
    cases hb : holdsB ys (d + k)
    · rw [hb] at HH hzk
      simp only [Bool.false_eq_true, if_false] at hzk
      have HZK := Lib.hid (hla.trans (hzk.symm.trans hz.symm))
      have HJ2 := Lib.hid (fun W2 (g : Gr wr W2) => hJ pre _ W2 hJs g)
      clear hb hzk hz hla hJs hys2
      gi_wp2_with (refine ⟨trivial, ?_⟩; gi_at_call 134; refine (callsIn_wide.2 HH.out).mono ?_; rintro e W2 ⟨rfl, hg⟩)
      refine ⟨fun _ h => (by cases h), ?_⟩
      gi_wp2
      go_end0
      exact ⟨⟨_, rfl⟩, .inl ⟨pre, HZK.out, HJ2.out W2 hg⟩⟩
    · have hle : d + k ≤ 99999 := by
        unfold holdsB at hb
        rw [List.any_eq_true] at hb
        obtain ⟨y, hy, hyb⟩ := hb
        have := hhi y hy
        unfold holdB at hyb
        rw [Bool.and_eq_true, decide_eq_true_eq, decide_eq_true_eq] at hyb
        omega
      rw [hb] at HH hzk
      simp only [if_true] at hzk
      have HZK := Lib.hid (hz.trans hzk)
      clear hla
      have q2 : pre.length < 100001 := by omega
      have q1 : 0 ≤ d + (k : Int) := by omega
      have HYY := Lib.hid (fun W2 (g : Gr wr W2) => hY pre ⟨d + k, q1, hle⟩ W2 (hJ pre _ W2 hJs g) q2)
      have HYS := Lib.hid hys2
      clear hb hzk hz hys2
      gi_wp2_with (refine ⟨trivial, ?_⟩; gi_at_call 134; refine (callsIn_wide.2 HH.out).mono ?_; rintro e W2 ⟨rfl, hg⟩; have hl3 := hg.cell hl2; obtain ⟨fn, tmps, assign, body, hy, hR⟩ := HYY.out W2 hg)
      refine hR.mono ?_
      rintro e W3 (⟨rfl, hJ3, hk3⟩ | ⟨rfl, hJx3⟩)
      · have hl4 : W3.cell? ⟨Bl, 0, none⟩ = some v := (World.cell?_of_block (a := ⟨Bl, 0, none⟩) (hk3 Bl hBl.1 hBl.2)).trans hl3
        gi_wp2
        have z1 : k + 1 ≤ 100000 := by omega
        have z2 : d + ((k + 1 : Nat) : Int) ≤ 100000 := by omega
        have z3 : d + (k : Int) + 1 = d + ((k + 1 : Nat) : Int) := by omega
        refine ⟨⟨pre ++ [⟨d + k, q1, hle⟩], k + 1, by rw [z3], z1, z2, by simp [hpl], by rw [lastD_add]; exact z3, by rw [HZK.out, z3], hJ3, hl4, (HYS.out.gr hg).keep hk3⟩, ?_⟩
        simp [intOf]
        omega
      · gi_wp2
        go_end0
        exact ⟨⟨_, rfl⟩, .inr ⟨_, trivial, hJx3⟩⟩
end Go.Proofs.YtmlmbgifkmkmgaaGreat
