/- Places: what they are; rounds gone through backwards. -/
import Derived.Test.YthfmgficbnmmnaaGreatDoorGPlD
namespace Go.Proofs.YthfmgficbnmmnaaGreatDoor
open Go.RowKit Go.Shelf
set_option linter.unusedSimpArgs false
set_option linter.unusedVariables false
attribute [local go_sem] Oper.semAt_some
/-- a place -/
structure PlR where
  nm : ByteArray
  k : Int
def plC (x : PlR) : List Value := [.string x.nm, .int .i64 x.k]
def plCs (l : List PlR) : List Value := l.flatMap plC
theorem plCs_add (l : List PlR) (r : PlR) : plCs (l ++ [r]) = plCs l ++ plC r := by simp [plCs]
/-- the place of a climber, who has not won -/
def plOf (m : Int) (y : RaR × Int) : List PlR := if y.2 = y.1.w then [] else [⟨inR y.1 y.2, m⟩]
/-- the places of a round -/
def rndP (l : List RaR) : List PlR := (clL l).flatMap (plOf ((l.length : Int) + 1))
/-- the place of the winner -/
def topP (ls : List (List RaR)) : List PlR := if (winR ((ls.getLastD []).getD 0 ⟨⟨#[]⟩, ⟨#[]⟩, 0⟩)).toList = [] then [] else [⟨winR ((ls.getLastD []).getD 0 ⟨⟨#[]⟩, ⟨#[]⟩, 0⟩), 1⟩]
/-- all places -/
def placesL (ls : List (List RaR)) : List PlR := topP ls ++ ls.reverse.flatMap rndP
theorem plOf_len (m : Int) (y : RaR × Int) : (plOf m y).length ≤ 1 := by unfold plOf; split <;> simp
theorem flat_len {α β : Type} (f : α → List β) (c : Nat) (l : List α) (h : ∀ x, (f x).length ≤ c) : (l.flatMap f).length ≤ l.length * c := by
  induction l with
  | nil => simp
  | cons x xs ih =>
    have := h x
    simp only [List.flatMap_cons, List.length_append, List.length_cons]
    have e : (xs.length + 1) * c = xs.length * c + c := Nat.succ_mul _ _
    omega
theorem rndP_len (l : List RaR) : (rndP l).length ≤ 2 * l.length := by
  have h1 := flat_len (plOf ((l.length : Int) + 1)) 1 (clL l) (plOf_len _)
  have h2 := clL_len l
  unfold rndP
  omega
instance : Inhabited Rd := ⟨⟨none, 0, 0, []⟩⟩
theorem cell1_of {w : World} {g : Nat} {a : Value} {T : TypeId} {z : Nat × Nat} (h : w.heap[g]? = some (.cells #[a] T z)) : w.cell? ⟨g, 0, none⟩ = some a := by
  simp [World.cell?, h]
/-- the rounds, as the iterator finds them -/
structure BkF (Bl b off n cap : Nat) (xs : List Rd) (w : World) : Prop where
  mk' ::
  box : w.heap[Bl]? = some (.cells #[.slice (some ⟨b, off, none⟩) n cap] 22 (0, 0))
  row : ∀ i x, xs[i]? = some x → w.cell? ⟨b, off + i, none⟩ = some (.slice x.p x.n x.c)
theorem BkF.gr {Bl b off n cap : Nat} {xs : List Rd} {w w' : World} (h : BkF Bl b off n cap xs w) (k : Gr w w') : BkF Bl b off n cap xs w' := ⟨Gr.block k h.box, fun i x hx => k.cell (h.row i x hx)⟩
theorem drop_rev {n j : Nat} (h : j < n) : ((List.range n).drop j).reverse = ((List.range n).drop (j + 1)).reverse ++ [j] := by
  rw [List.drop_eq_getElem_cons (by simpa using h), List.reverse_cons, List.getElem_range]
set_option maxHeartbeats 4000000 in
set_option maxRecDepth 100000 in
theorem backward_in (lp Bl n b off cap : Nat) (xs : List Rd) (hn : xs.length = n) (h1 : n ≤ 1000) (hc : n ≤ cap) (Kp : World → World → Prop) (hKp : ∀ A B, Kp A B → BkF Bl b off n cap xs A → BkF Bl b off n cap xs B) (J Jx : List { i : Nat // i < n } → World → Prop) (W : World)
    (hJ : ∀ (s : List { i : Nat // i < n }) (A B : World), J s A → Gr A B → J s B)
    (hY : ∀ pre (y : { i : Nat // i < n }) W1, J pre W1 → pre.length < n → YieldAt Fence.wide 4 Tryz.prog lp #[.int .i64 (y.1 : Int), .slice (xs.getD y.1 default).p (xs.getD y.1 default).n (xs.getD y.1 default).c] W1 fun e W' =>
      (e = .returned (.bool true) ∧ J (pre ++ [y]) W' ∧ Kp W1 W') ∨ (e = .returned (.bool false) ∧ Jx (pre ++ [y]) W'))
    (hB : BkF Bl b off n cap xs W) (h0 : J [] W) :
    CallsIn Fence.wide 5 Tryz.prog 90 #[.func (.yield lp) #[] #[], .pointer (some ⟨Bl, 0, none⟩)] W fun e W' => (∃ v, e = .returned v) ∧
      ((∃ zs : List { i : Nat // i < n }, Hid (zs.map (fun y => y.1) = (List.range n).reverse) ∧ J zs W') ∨ (∃ pre, True ∧ Jx pre W')) := by
  refine callsIn_of_wp Tryz.func90 rfl trivial ?_ rfl
  simp only [Tryz.ntmps90, List.size_toArray, List.length_cons, List.length_nil, Nat.reduceAdd, Nat.reduceSub, Array.replicate_succ, Array.replicate_zero, List.push_toArray, List.append_toArray, List.nil_append, List.cons_append]
  have HN := Lib.hid hn
  have HKP := Lib.hid hKp
  have HJ := Lib.hid hJ
  have HY := Lib.hid hY
  have HB := Lib.hid hB
  have hbox := cell1_of hB.box
  clear hn hKp hJ hY hB
  gi_wp2
  gi_loopw [3] (fun dv wr => ∃ (pre : List { i : Nat // i < n }) (k : Nat), dv = .int .i64 ((k : Int) - 1) ∧ Hid (k + pre.length = n) ∧ k ≤ n ∧ Hid (pre.map (fun y => y.1) = ((List.range n).drop k).reverse) ∧ J pre wr ∧ BkF Bl b off n cap xs wr) (fun dv _ => (intOf dv + 1).toNat)
  case atStart => exact ⟨[], n, rfl, by simp [Hid], Nat.le_refl _, by simp [Hid], h0, HB.out⟩
  case round =>
    obtain ⟨pre, k, rfl, HK, hkn, HM, hJs, hB⟩ := hrel
    rcases Nat.eq_zero_or_pos k with hk0 | hk0
    · subst hk0
      have HZ : Hid (pre.map (fun y => y.1) = (List.range n).reverse) := by rw [Hid, HM.out, List.drop_zero]
      have HJS := Lib.hid hJs
      clear hJs h0 hbox hB
      gi_wp2
      go_end0
      exact ⟨⟨_, rfl⟩, .inl ⟨_, HZ, HJS.out⟩⟩
    · obtain ⟨j, rfl⟩ : ∃ j, k = j + 1 := ⟨k - 1, by omega⟩
      have e1 : ((j + 1 : Nat) : Int) - 1 = (j : Int) := by omega
      rw [e1]
      obtain ⟨x, hx⟩ : ∃ x, xs[j]? = some x := ⟨xs[j]'(by have := HN.out; omega), List.getElem?_eq_getElem _⟩
      have hjn : j < n := by omega
      have hjn2 : (j : Int) < (n : Int) := by omega
      have hpl : pre.length < n := by have := HK.out; omega
      have cx := hB.row j x hx
      have cb := cell1_of hB.box
      have hgx : xs.getD j default = x := by rw [List.getD_eq_getElem?_getD, hx]; rfl
      have hy0 := HY.out pre ⟨j, hjn⟩ wr hJs hpl
      simp only [hgx] at hy0
      have HM2 : Hid ((pre ++ [⟨j, hjn⟩] : List { i : Nat // i < n }).map (fun y => y.1) = ((List.range n).drop j).reverse) := by
        rw [Hid, drop_rev hjn, List.map_append, HM.out]; rfl
      have HK2 : Hid (j + (pre ++ [⟨j, hjn⟩] : List { i : Nat // i < n }).length = n) := by
        have := HK.out
        rw [Hid, List.length_append, List.length_singleton]; omega
      have HBB := Lib.hid hB
      obtain ⟨fn, tmps, assign, body, hy, hR⟩ := hy0
      have HRR := Lib.hid hR
      have wj : wrap64 ((j : Int) - 1) = (j : Int) - 1 := by unfold wrap64; omega
      clear hx hJs hB hgx h0 hbox hR e1
      gi_wp2_with fail
      refine HRR.out.mono ?_
      rintro e W3 (⟨rfl, hj, hk⟩ | ⟨rfl, hj⟩)
      · have hB3 := HKP.out _ _ hk HBB.out
        clear hy
        gi_wp2_with fail
        refine ⟨⟨_, j, by first | rfl | (rw [wj]) | go_num, HK2, by omega, HM2, hj, hB3⟩, ?_⟩
        simp [intOf]
        try omega
      · clear hy
        gi_wp2_with fail
        first
          | (refine bodyPost_ret (v := .tuple #[]) (by simp [results, Tryz.results90, go_sem]) rfl ?_; exact ⟨⟨_, rfl⟩, .inr ⟨_, trivial, hj⟩⟩)
          | (refine ⟨rfl, _, by simp [results, Tryz.results90, go_sem]; rfl, ?_⟩; exact ⟨⟨_, rfl⟩, .inr ⟨_, trivial, hj⟩⟩)
theorem backward_stops (Bl n b off cap : Nat) (xs : List Rd) (hn : xs.length = n) (h1 : n ≤ 1000) (hc : n ≤ cap) (Kp : World → World → Prop) (hKp : ∀ A B, Kp A B → BkF Bl b off n cap xs A → BkF Bl b off n cap xs B) (w : World) (hB : BkF Bl b off n cap xs w) :
    SeqStopsK Fence.wide 5 Tryz.prog 90 #[.pointer (some ⟨Bl, 0, none⟩)] (fun y : { i : Nat // i < n } => #[.int .i64 (y.1 : Int), .slice (xs.getD y.1 default).p (xs.getD y.1 default).n (xs.getD y.1 default).c]) Kp (fun zs => Hid (zs.map (fun y => y.1) = (List.range n).reverse)) (fun _ => True) n w := fun lp J Jx W hW hJ hJx hY h0 =>
  backward_in lp Bl n b off cap xs hn h1 hc Kp hKp J Jx W (fun s A B h g => hJ s A B none h (gr_grown6 g) (fun r e => by cases e)) hY (hB.gr hW) h0
theorem backward_c (p : Option Addr) (n c : Nat) (w : World) :
    Calls Tryz.prog 47 #[.slice p n c] w fun e w' => e = .returned (.func (.func 90) #[] #[.pointer (some ⟨w.heap.size, 0, none⟩)]) ∧ w' = w.alloc (.cells #[.slice p n c] 22) := by
  go_enter Tryz.func47, Tryz.ntmps47
  go_wp2_with fail
  go_ret
  exact ⟨rfl, rfl⟩
end Go.Proofs.YthfmgficbnmmnaaGreatDoor
