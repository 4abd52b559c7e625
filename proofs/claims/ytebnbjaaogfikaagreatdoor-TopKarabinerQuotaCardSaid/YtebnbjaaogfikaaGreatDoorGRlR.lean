/- Laws of chapter 7: results in memory of their own (the law's copy of a list of results). -/
import Derived.Test.YtebnbjaaogfikaaGreatDoorGThF
import Derived.Test.YtebnbjaaogfikaaGreatDoorGRkE
import Derived.Test.YtebnbjaaogfikaaGreatDoorGResB
import Derived.Laws.AppendOwnNone
import Derived.Test.YtebnbjaaogfikaaGreatDoorGCmp
import Derived.BigQuiet
import Derived.Test.YtebnbjaaogfikaaGreatDoorGQuC
import Derived.Test.YtebnbjaaogfikaaGreatDoorGStG
import Derived.Test.YtebnbjaaogfikaaGreatDoorGOrN
import Derived.Test.YtebnbjaaogfikaaGreatDoorGRoC
namespace Go.Proofs.YtebnbjaaogfikaaGreatDoor
open Go.RowKit Go.Lib
set_option linter.unusedSimpArgs false
set_option linter.unusedVariables false
theorem run_append_owned_nil {P : Program} {w : World} (base : Nat) (t ty e : TypeId) (i : TypeInfo) (size : Nat) (ht : P.underlying t = some (.slice e)) (hi : P.info? e = some i)
    (v : Value) (n c : Nat) (xs : List Value) (hown : w.ownsRow base e size v n xs) :
    (Builtin.append_ #[t, t] ty #[v, .slice none 0 c]).run P w = .ok v w := by
  rcases hown.2 with ⟨rfl, rfl⟩ | ⟨g, cap, cur, rfl, _, _, hnc, _⟩
  · simp [Builtin.append_, run_underlying ht, sizeOf, typeInfo, hi, Builtin.lenOf, Builtin.firstCells]
  · simp [Builtin.append_, run_underlying ht, sizeOf, typeInfo, hi, Builtin.lenOf, Builtin.firstCells, hnc, storeCells]
theorem wpList_append_own_nil {P : Program} {w : World} {ops : Array Oper} {rest : List Oper} {o : Oper} {a : Act} {Q : Exit → Act → World → Prop} (hgd : o.guard = none) (s x : Operand) (t : TypeId)
    (ho : o.op = .call { callee := .builtin .append, args := #[s, x], argTypes := #[t, t] })
    (base : Nat) (e : TypeId) (i : TypeInfo) (size : Nat) (ht : P.underlying t = some (.slice e)) (hi : P.info? e = some i)
    (v : Value) (n c : Nat) (xs : List Value) (hs : a.eval s = v) (hown : w.ownsRow base e size v n xs) (hx : a.eval x = .slice none 0 c)
    (h : wpList P ops Q rest (a.put o.dst v) w) : wpList P ops Q (o :: rest) a w := by
  refine wpList_plain hgd fun K hK => ?_
  have hrun := run_append_owned_nil (P := P) (w := w) base t o.type e i size ht hi v n c xs hown
  unfold Oper.wp
  simp [execOp, ho, resolve, invoke, builtin, hs, hx, hrun, Result.andThen]
  exact hK _ _ h
/-- append([]int{}, xs...) -/
theorem wpList_copy {w : World} {ops : Array Oper} {rest : List Oper} {o : Oper} {a : Act} {Q : Exit → Act → World → Prop} (hgd : o.guard = none) (s x : Operand)
    (ho : o.op = .call { callee := .builtin .append, args := #[s, x], argTypes := #[27, 27] })
    (g0 : Nat) (v : Value) (xs : List Int) (hs : a.eval s = .slice (some ⟨g0, 0, none⟩) 0 0) (h0 : w.heap[g0]? = some (.cells #[] 3 (0, 0))) (hx : a.eval x = v) (hv : IntsV w v xs) (hl : xs.length ≤ 1000)
    (h : ∀ g cap cur w1, w1.heap[g]? = some (.cells cur 3 (0, 0)) → cur.toList.take xs.length = ints xs → g0 ≤ g → xs.length ≤ cap → cap ≤ maxLen → w.grownBy w1 (some g0) → wpList Tryz.prog ops Q rest (a.put o.dst (.slice (some ⟨g, 0, none⟩) xs.length cap)) w1) :
    wpList Tryz.prog ops Q (o :: rest) a w := by
  obtain ⟨i1, hj, hy0, hy1, hy2⟩ := info_parts info3
  have hlt := (Array.getElem?_eq_some_iff.1 h0).1
  have hown : w.ownsRow g0 3 1 (.slice (some ⟨g0, 0, none⟩) 0 0) 0 [] := ⟨by simp, .inr ⟨g0, 0, #[], rfl, Nat.le_refl _, h0, Nat.le_refl _, by unfold maxLen; omega, rfl, by simp⟩⟩
  obtain ⟨⟨p, cap, rfl, hc⟩⟩ := hv
  rcases p with _ | ad
  · have hz : xs.length = 0 := by
      rcases Nat.eq_zero_or_pos xs.length with h | h
      · exact h
      · obtain ⟨b, off, e, _⟩ := hc h
        cases e
    rw [hz] at hx
    refine wpList_append_own_nil hgd s x 27 ho g0 3 i1 1 Tryz.underlying27 hj _ 0 cap [] hs hown hx ?_
    have := h g0 0 #[] w h0 (by rw [hz]; simp [ints, List.length_eq_zero_iff.1 hz]) (Nat.le_refl _) (by omega) (by unfold maxLen; omega) ⟨rfl, rfl, rfl, Nat.le_refl _, fun _ _ _ => rfl⟩
    rwa [hz] at this
  · refine wpList_append_own _ hgd s x 27 ho g0 3 i1 (.int .i64 0) 1 8 Tryz.underlying27 hj hy0 hy1 hy2 rfl (by decide) _ 0 [] hs hown ad xs.length cap (ints xs) hx (by simp [ints]) (fun j u hu => ?_) (fun u hu => ?_) (by unfold maxLen; omega) (by omega) (by omega) (fun v1 w1 hown1 hgrow1 hnil1 => ?_)
    · have hj' : j < xs.length := by have := (List.getElem?_eq_some_iff.1 hu).1; simpa [ints] using this
      obtain ⟨b, off, e, hcc⟩ := hc (by omega)
      cases e
      simp only [ints, List.getElem?_map, Option.map_eq_some_iff] at hu
      obtain ⟨z, hz, rfl⟩ := hu
      have := hcc j z hz
      rw [show (⟨b, off, none⟩ : Addr).add j = ⟨b, off + j, none⟩ by unfold Addr.add; split <;> simp_all]
      exact this
    · simp [ints] at hu
      obtain ⟨z, _, rfl⟩ := hu
      rfl
    · rw [Nat.zero_add] at hown1
      obtain ⟨g, capg, cur, rfl, hbg, h1, h2, hg, ht⟩ := own_some hown1 (fun e => by have := (hnil1.1 e).1; cases this)
      exact h g capg cur w1 hg ht hbg h1 h2 hgrow1
end Go.Proofs.YtebnbjaaogfikaaGreatDoor
namespace Go.Proofs.YtebnbjaaogfikaaGreatDoor
open Go.RowKit Go.Lib
set_option linter.unusedSimpArgs false
set_option linter.unusedVariables false
/-- the error of two results that are compared -/
def twoE (c s c2 s2 : ByteArray) (xs ys : List Int) : Int := firstE [resE c s xs, resE c2 s2 ys, if !fitB s s2 xs ys then 2 else 0]
end Go.Proofs.YtebnbjaaogfikaaGreatDoor
namespace Go.Proofs.YtebnbjaaogfikaaGreatDoor
open Go.RowKit Go.Lib
set_option linter.unusedSimpArgs false
set_option linter.unusedVariables false
end Go.Proofs.YtebnbjaaogfikaaGreatDoor
namespace Go.Proofs.YtebnbjaaogfikaaGreatDoor
open Go.RowKit Go.Lib
set_option linter.unusedSimpArgs false
set_option linter.unusedVariables false
theorem cmp_ne {x y : Int} (h : ¬ x = y) : ¬ cmpZ y x = 0 := fun e => h (cmpZ_zero e).symm
end Go.Proofs.YtebnbjaaogfikaaGreatDoor
namespace Go.Proofs.YtebnbjaaogfikaaGreatDoor
open Go.RowKit Go.Lib
set_option linter.unusedSimpArgs false
set_option linter.unusedVariables false
/-- a short result -/
inductive ShortR (c s : ByteArray) (n : Nat) : Bool → Prop where
  | name (h : 40 < c.size) : ShortR c s n false
  | state (h : c.size ≤ 40) (h2 : 40 < s.size) : ShortR c s n false
  | values (h : c.size ≤ 40) (h2 : s.size ≤ 40) (h3 : 10 < n) : ShortR c s n false
  | yes (h : c.size ≤ 40) (h2 : s.size ≤ 40) (h3 : n ≤ 10) : ShortR c s n true
theorem shortR (c s : ByteArray) (n : Nat) : ∃ b, ShortR c s n b := by
  rcases Nat.lt_or_ge 40 c.size with h | h
  · exact ⟨_, .name h⟩
  rcases Nat.lt_or_ge 40 s.size with h2 | h2
  · exact ⟨_, .state h h2⟩
  rcases Nat.lt_or_ge 10 n with h3 | h3
  · exact ⟨_, .values h h2 h3⟩
  · exact ⟨_, .yes h h2 h3⟩
end Go.Proofs.YtebnbjaaogfikaaGreatDoor
namespace Go.Proofs.YtebnbjaaogfikaaGreatDoor
open Go.RowKit Go.Lib
set_option linter.unusedSimpArgs false
set_option linter.unusedVariables false
/-- all results are short -/
def AllShort (xs : List RowR) : Prop := ∀ x ∈ xs, ShortR x.nm x.st x.xs.length true
/-- what Short returns -/
structure ShRet (e : Ending) (xs : List RowR) (n : Nat) (m : Int) : Prop where
  out : ∃ r, e = .returned (.bool r) ∧ (r = true ↔ ((n : Int) ≤ m ∨ (160 < n ∧ n ≤ 162)) ∧ AllShort xs)
theorem shortR_not {c s : ByteArray} {n : Nat} (h : ShortR c s n false) : ¬ ShortR c s n true := fun k => by
  cases k with
  | yes a b c => cases h <;> omega
end Go.Proofs.YtebnbjaaogfikaaGreatDoor
namespace Go.Proofs.YtebnbjaaogfikaaGreatDoor
open Go.RowKit Go.Lib
set_option linter.unusedSimpArgs false
set_option linter.unusedVariables false
/-- two valid results compare without an error -/
theorem twoE_zero {bs : List Bare} (h : ValidB bs) {a b : Bare} (ha : a ∈ bs) (hb : b ∈ bs) : twoE a.nm a.st b.nm b.st a.xs b.xs = 0 := by
  unfold twoE
  rw [h.each a ha, h.each b hb]
  have : fitB a.st b.st a.xs b.xs = true := by
    unfold fitB
    cases h1 : a.st.toList.isEmpty
    · simp
    · cases h2 : b.st.toList.isEmpty
      · simp
      · rw [h.even a ha b hb h1 h2]; simp
  rw [this]; rfl
theorem rowCs_set {ys : List RowR} {k : Nat} {y y' : RowR} (hy : ys[k]? = some y) (h : rowC y' = rowC y) : rowCs (ys.set k y') = rowCs ys := by
  unfold rowCs
  rw [List.flatMap_def, List.flatMap_def]
  congr 1
  apply List.ext_getElem?
  intro i
  rw [List.getElem?_map, List.getElem?_map, List.getElem?_set]
  by_cases hki : k = i
  · subst hki
    rw [if_pos rfl, if_pos (List.getElem?_eq_some_iff.1 hy).1, hy]
    simp [h]
  · rw [if_neg hki]
theorem raised_rows {w : World} {base n : Nat} {xs ys : List RowR} {gs : List Nat} {v : Value} {T : TypeId} (hc : Cps w base xs gs ys) (ho : w.ownsRow base T 3 v n (rowCs ys)) (hn : xs.length = n) (hT : (3 : TypeId) ≠ T) {k g : Nat} {x y : RowR} (hx : xs[k]? = some x) (hy : ys[k]? = some y) (hg : gs[k]? = some g)
    {a : Int} {t : List Int} (hxs : x.xs = a :: t) (hl : ∀ x ∈ xs, x.xs.length ≤ 1000) (b' : Int) :
    RowsV (w.setCell ⟨g, 0, none⟩ (.int .i64 b')) v (ys.set k ⟨y.nm, y.st, y.u, b' :: t⟩) := by
  have hyn : ys.length = n := by rw [hc.leny, hn]
  have hcy := hc.cpy k x y g hx hy hg
  obtain ⟨cur, hgc, hgt⟩ := hcy.cells
  have hoth : ∀ (b : Nat) (o : Obj), b ≠ g → w.heap[b]? = some o → (w.setCell ⟨g, 0, none⟩ (.int .i64 b')).heap[b]? = some o := fun b o hb h => by rw [heap_setCell_other _ _ _ _ hb]; exact h
  have hset := heap_setCell_same w g 0 cur 3 (.int .i64 b') hgc
  have ho' : (w.setCell ⟨g, 0, none⟩ (.int .i64 b')).ownsRow base T 3 v n (rowCs (ys.set k ⟨y.nm, y.st, y.u, b' :: t⟩)) := by
    rw [rowCs_set (y' := ⟨y.nm, y.st, y.u, b' :: t⟩) hy rfl]
    refine ⟨ho.1, ?_⟩
    rcases ho.2 with h2 | ⟨gv, cap, cv, rfl, hb, hcv, r⟩
    · exact .inl h2
    · refine .inr ⟨gv, cap, cv, rfl, hb, hoth gv _ (fun e => ?_) hcv, r⟩
      subst e
      rw [hgc] at hcv
      cases hcv
      exact hT rfl
  have hn0 : 0 < n := by have := (List.getElem?_eq_some_iff.1 hx).1; omega
  have hlen : (ys.set k ⟨y.nm, y.st, y.u, b' :: t⟩).length = n := by rw [List.length_set, hyn]
  obtain ⟨gv, cap, rfl, _, h1, h2, h3⟩ := rows_of_owns (ys := ys.set k ⟨y.nm, y.st, y.u, b' :: t⟩) (by rw [hlen]; exact ho') (by omega) (fun i z hz => by
    rw [List.getElem?_set] at hz
    by_cases hki : k = i
    · subst hki
      rw [if_pos rfl, if_pos (by have := (List.getElem?_eq_some_iff.1 hy).1; exact this)] at hz
      cases hz
      have hlx := hl x (List.mem_of_getElem? hx)
      rw [hxs] at hlx hgt
      refine ⟨?_, by simpa using hlx⟩
      obtain ⟨capu, hu, _, _⟩ := hcy.u
      rw [hxs] at hu
      show IntsV _ y.u (b' :: t)
      rw [hu]
      refine ⟨_, capu, rfl, fun _ => ⟨g, 0, rfl, fun j q hj => ?_⟩⟩
      rw [Nat.zero_add, cell_of_row _ g j _ 3 (0, 0) hset, Array.getElem?_setIfInBounds]
      have hcs : 0 < cur.size := by
        have := congrArg List.length hgt
        simp [ints] at this
        omega
      by_cases hj0 : 0 = j
      · subst hj0
        rw [if_pos rfl, if_pos hcs]
        simp at hj
        rw [hj]
      · rw [if_neg hj0]
        have e : (cur.toList.take (a :: t).length)[j]? = some (.int .i64 q) := by
          rw [hgt]
          obtain ⟨j', rfl⟩ : ∃ j', j = j' + 1 := ⟨j - 1, by omega⟩
          simp only [List.getElem?_cons_succ] at hj
          simp [ints, hj]
        have hjl := (List.getElem?_eq_some_iff.1 hj).1
        rw [List.getElem?_take, if_pos (by simpa using hjl), Array.getElem?_toList] at e
        exact e
    · rw [if_neg hki] at hz
      have hil := (List.getElem?_eq_some_iff.1 hz).1
      have hxi : i < xs.length := by rw [← hc.leny]; exact hil
      have hgi : i < gs.length := by rw [hc.leng]; exact hxi
      have ci := hc.cpy i _ z _ (List.getElem?_eq_getElem hxi) hz (List.getElem?_eq_getElem hgi)
      have hne : gs[i] ≠ g := fun e => by
        have := hc.apart i k g (by rw [List.getElem?_eq_getElem hgi, e]) hg
        omega
      obtain ⟨ci2, e1, _⟩ := ci.cells
      exact ⟨(ci.gr (by rw [hoth _ _ hne e1, e1])).val, by rw [ci.xs]; exact hl _ (List.getElem_mem hxi)⟩)
  rw [hlen]
  exact ⟨_, cap, by rw [hlen], ⟨by rw [hlen]; omega, by omega⟩, fun _ => ⟨gv, 0, rfl, fun i x hx => h3 i x hx⟩⟩
theorem raised_bare {xs ys : List RowR} {k : Nat} {x y : RowR} {a : Int} {t : List Int} (h : ys.map bare = xs.map bare) (hx : xs[k]? = some x) (hy : ys[k]? = some y) (hxs : x.xs = a :: t) : (ys.set k ⟨y.nm, y.st, y.u, (a + 1) :: t⟩).map bare = (xs.map bare).set k (up (bare x) a t) := by
  rw [List.map_set, h]
  congr 1
  have : (ys.map bare)[k]? = (xs.map bare)[k]? := by rw [h]
  rw [List.getElem?_map, List.getElem?_map, hx, hy] at this
  simp only [Option.map_some, Option.some.injEq] at this
  have e1 : y.nm = x.nm := congrArg Bare.nm this
  have e2 : y.st = x.st := congrArg Bare.st this
  simp [bare, up, e1, e2]
theorem rank_raised (hS : SortFOK) {zs : List RowR} {v : Value} {W : World} {n k : Nat} {z : RowR} {rk : Int} (h : RowsV W v zs) (hn : zs.length = n) (h0 : 0 < n) (h1 : n ≤ 160) (hSt : StatesIn W) (hV : ValidB (zs.map bare)) (hz : zs[k]? = some z) (hle : rankB (zs.map bare) (bare z) ≤ rk) :
    Calls Tryz.prog 7 #[v] W fun e w' => ∃ R t, e = .returned (.tuple #[.slice (some ⟨R, 0, none⟩) n n, .int .i64 0]) ∧ w'.cell? ⟨R, k, none⟩ = some (.int .i64 t) ∧ t ≤ rk ∧ Gr W w' := by
  refine (rank_ok hS zs h (by omega) (by omega) hSt (zero_of_valid hV)).mono ?_
  rintro e w' ⟨R, rfl, hR, hh, g⟩
  rw [ranksL_bare] at hh
  exact ⟨R, _, by rw [hn], cell_ints hh (ranksB_at (by rw [List.getElem?_map, hz]; rfl)), hle, g⟩
end Go.Proofs.YtebnbjaaogfikaaGreatDoor
namespace Go.Proofs.YtebnbjaaogfikaaGreatDoor
open Go.RowKit Go.Lib
set_option linter.unusedSimpArgs false
set_option linter.unusedVariables false
section
set_option maxHeartbeats 1000000
set_option maxRecDepth 100000
end
theorem rowsV_slice {w : World} {v : Value} {xs : List RowR} (h : RowsV w v xs) : ∃ p c, v = .slice p xs.length c := by
  obtain ⟨⟨p, c, rfl, _⟩⟩ := h
  exact ⟨p, c, rfl⟩
theorem valid_any {xs : List RowR} (h : roundE xs = 0) : ValidB (xs.map bare) ∧ xs.length ≤ 160 := by
  unfold roundE at h
  by_cases h1 : 160 < xs.length
  · rw [if_pos h1] at h; omega
  · rw [if_neg h1] at h
    exact ⟨valid_of_zero h, by omega⟩
theorem rank_good (hS : SortFOK) {W : World} {p : Option Addr} {n c : Nat} {ys : List RowR} (h : RowsV W (.slice p n c) ys) (hn : ys.length = n) (h1 : n ≤ 160) (hSt : StatesIn W) (hV : ValidB (ys.map bare)) :
    Calls Tryz.prog 7 #[.slice p n c] W fun e w' => ∃ q k, e = .returned (.tuple #[.slice q n k, .int .i64 0]) ∧ ReadsI w' (.slice q n k) (ranksB (ys.map bare)) ∧ Gr W w' := by
  have hrl : (ranksB (ys.map bare)).length = n := by rw [ranksB_len, List.length_map, hn]
  by_cases h0 : 0 < n
  · refine (rank_ok hS ys h (by omega) (by omega) hSt (zero_of_valid hV)).mono ?_
    rintro e w' ⟨R, rfl, _, hh, g⟩
    rw [ranksL_bare] at hh
    refine ⟨some ⟨R, 0, none⟩, n, by rw [hn], ⟨_, n, by rw [hrl], fun _ => ⟨R, rfl, fun i x hx => cell_ints hh hx⟩⟩, g⟩
  · have hz : n = 0 := by omega
    subst hz
    refine (rank_none p c W).mono ?_
    rintro e w' ⟨q, k, rfl, g⟩
    exact ⟨q, k, rfl, ⟨_, k, by rw [hrl], fun h => by omega⟩, g⟩
theorem through_good (hS : SortFOK) (I : InsOK) {W : World} {p : Option Addr} {n c : Nat} {ys : List RowR} (h : RowsV W (.slice p n c) ys) (hn : ys.length = n) (h1 : n < 20) (hSt : StatesIn W) (hV : ValidB (ys.map bare)) (m : Int) (hm : outE m 0 160 = 0) :
    Calls Tryz.prog 8 #[.slice p n c, .int .i64 m] W fun e w' => ∃ q l k, e = .returned (.tuple #[.slice q l k, .int .i64 0]) ∧ StrsV w' (.slice q l k) (thruB (ys.map bare) m) ∧ Gr W w' := by
  by_cases h0 : 0 < n
  · refine (through_ok hS I h (by omega) (by omega) hSt hV m (outE_zero.1 hm)).mono ?_
    rintro e w' ⟨u, rfl, hu, g⟩
    obtain ⟨q, k, rfl, _, _⟩ := id hu.out
    exact ⟨q, _, k, rfl, hu, g⟩
  · have hz : n = 0 := by omega
    subst hz
    refine (through_none p c m hm W).mono ?_
    rintro e w' ⟨rfl, g⟩
    have hnil : thruB (ys.map bare) m = [] := List.length_eq_zero_iff.1 (by have := thruB_len (ys.map bare) m; rw [List.length_map, hn] at this; omega)
    rw [hnil]
    exact ⟨none, 0, 0, rfl, ⟨none, 0, rfl, ⟨Nat.le_refl _, by unfold maxLen; omega⟩, .inl ⟨rfl, rfl, rfl⟩⟩, g⟩
set_option maxHeartbeats 2000000
set_option maxRecDepth 100000
end Go.Proofs.YtebnbjaaogfikaaGreatDoor
namespace Go.Proofs.YtebnbjaaogfikaaGreatDoor
open Go.RowKit Go.Lib
set_option linter.unusedSimpArgs false
set_option linter.unusedVariables false
theorem errG_none {α : Type} {E : Nat → α → Int} {xs : List α} (h : ∀ i x, xs[i]? = some x → E i x = 0) : ∀ (k i : Nat), i + k ≤ xs.length → errG E xs k i = 0
  | 0, _, _ => rfl
  | k + 1, i, hk => by
    have hx : xs[i]? = some (xs[i]'(by omega)) := List.getElem?_eq_getElem _
    have := errG_step (E := E) (xs := xs) (n := i + (k + 1)) (i := i) (by omega) hx
    rw [h i _ hx, if_pos rfl] at this
    rw [show i + (k + 1) - i = k + 1 by omega, show i + (k + 1) - (i + 1) = k by omega] at this
    rw [this]
    exact errG_none h k (i + 1) (by omega)
theorem nm_of_valid {bs : List Bare} (hV : ValidB bs) {b : Bare} (hb : b ∈ bs) : nmE b.nm = 0 := by
  have h := hV.each b hb
  unfold resE at h
  have h2 := firstE_zero h _ (List.mem_cons_self ..)
  unfold nmE
  by_cases hN : Nm b.nm
  · rw [if_pos hN]
  · simp [hN] at h2
theorem thruB_nodup {bs : List Bare} (hV : ValidB bs) {G : List Bare} (hp : (fineB bs).Perm G) (h : G.Pairwise fun a b => cmpB a b < 0) (hl : bs.length ≤ 10) : thruB bs bs.length = G.map (fun b => b.nm) ∧ (G.map fun b => b.nm.toList).Nodup ∧ ∀ b ∈ G, nmE b.nm = 0 := by
  have hGl : G.length ≤ bs.length := by rw [← hp.length_eq]; exact List.length_filter_le _ _
  refine ⟨by rw [thruB_sorted hp h, List.take_of_length_le hGl], (hp.map fun b => b.nm.toList).nodup_iff.1 (hV.apart.sublist (List.filter_sublist.map _)), fun b hb => nm_of_valid hV (List.mem_filter.1 (hp.symm.subset hb)).1⟩
theorem dupN_none {α : Type} {f : α → ByteArray} {xs : List α} (h : (xs.map fun x => (f x).toList).Nodup) {i : Nat} {x : α} (hx : xs[i]? = some x) : dupN f xs i (f x) = false := by
  unfold dupN
  rw [List.any_eq_false]
  intro y hy
  obtain ⟨j, hj, hjy⟩ := List.mem_iff_getElem.1 hy
  rw [List.length_take] at hj
  rw [List.getElem_take] at hjy
  simp only [beq_iff_eq]
  intro e
  obtain ⟨hi, hx2⟩ := List.getElem?_eq_some_iff.1 hx
  have h2 := (List.pairwise_iff_getElem.1 h) j i (by simp; omega) (by simp; omega) (by omega)
  simp only [List.getElem_map, hjy, hx2] at h2
  exact h2 e
theorem nmA : nmE ⟨#[65]⟩ = 0 := by
  unfold nmE
  refine if_pos ⟨fun i c h => ?_, by decide, by decide⟩
  rcases i with _ | i
  · have : (65 : UInt8) = c := by simpa using h
    subst this
    decide
  · exact absurd (List.getElem?_eq_some_iff.1 h).1 (by simp)
def rnd : ByteArray := ⟨#[114, 111, 117, 110, 100]⟩
theorem nmR : nmE rnd = 0 := by
  unfold nmE
  refine if_pos ⟨fun i c h => ?_, by decide, by decide⟩
  have h2 : ([114, 111, 117, 110, 100] : List UInt8)[i]? = some c := h
  rcases i with _ | _ | _ | _ | _ | i
  · cases h2; decide
  · cases h2; decide
  · cases h2; decide
  · cases h2; decide
  · cases h2; decide
  · exact absurd (List.getElem?_eq_some_iff.1 h2).1 (by simp)
theorem qens_zero {es : List QenR} (h : ∀ e ∈ es, nmE e.cl = 0 ∧ nmE e.na = 0) (hn : (es.map fun e => e.cl.toList).Nodup) (hl : es.length ≤ 160) : listE 160 (qenE es) es = 0 := by
  unfold listE
  rw [if_neg (by omega)]
  refine errG_none (fun i x hx => ?_) _ _ (by omega)
  obtain ⟨h1, h2⟩ := h x (List.mem_of_getElem? hx)
  unfold qenE
  rw [h1, h2, dupN_none (f := fun y : QenR => y.cl) hn hx]
  rfl
theorem outs_zero {xs : List RowR} {ns : List ByteArray} (hV : ValidB (xs.map bare)) (hO : OutOK xs ns) (hl : ns.length ≤ 160) : listE 256 (strE ns) ns = 0 := by
  unfold listE
  rw [if_neg (by omega)]
  refine errG_none (fun i s hs => ?_) _ _ (by omega)
  have h1 := hO.has s (List.mem_of_getElem? hs)
  have h2 := hO.apart i s hs
  unfold strE
  rw [h2]
  unfold dupR at h1
  rw [List.any_eq_true] at h1
  obtain ⟨y, hy, hys⟩ := h1
  have hym : bare y ∈ xs.map bare := List.mem_map.2 ⟨y, List.mem_of_mem_take hy, rfl⟩
  have h3 := nm_of_valid hV hym
  have e : y.nm = s := by
    have := of_decide_eq_true (show decide (y.nm.toList = s.toList) = true by simpa using hys)
    rw [ByteArray.toList_eq, ByteArray.toList_eq] at this
    exact ByteArray.ext (Array.toList_inj.1 this)
  rw [show (bare y).nm = s from e] at h3
  rw [h3]
  rfl
theorem plE_zero {xs : List RowR} {G : List Bare} {ns : List ByteArray} (hV : ValidB (xs.map bare)) (hp : (fineB (xs.map bare)).Perm G) (h : G.Pairwise fun a b => cmpB a b < 0) (hl : xs.length ≤ 10) (hO : OutOK xs ns) (hln : ns.length ≤ 160) (q : Nat) (hq : q ≤ 160) (u : Value) :
    plE [⟨rnd, q, u, (thruB (xs.map bare) (xs.map bare).length).map entA⟩] 160 ns = 0 := by
  obtain ⟨h1, h2, h3⟩ := thruB_nodup hV hp h (by rw [List.length_map]; omega)
  have hGl : G.length ≤ 10 := by
    rw [← hp.length_eq]
    exact Nat.le_trans (List.length_filter_le _ _) (by rw [List.length_map]; exact hl)
  have he : listE 160 (qenE ((thruB (xs.map bare) (xs.map bare).length).map entA)) ((thruB (xs.map bare) (xs.map bare).length).map entA) = 0 := by
    rw [h1, List.map_map]
    refine qens_zero (fun e hm => ?_) ?_ (by rw [List.length_map]; omega)
    · obtain ⟨b, hb, rfl⟩ := List.mem_map.1 hm
      exact ⟨h3 b hb, nmA⟩
    · rw [List.map_map]
      exact h2
  unfold plE quotaE
  rw [if_neg (by simp), outs_zero hV hO hln]
  have e1 : errG (liE [⟨rnd, q, u, (thruB (xs.map bare) (xs.map bare).length).map entA⟩]) [⟨rnd, q, u, (thruB (xs.map bare) (xs.map bare).length).map entA⟩] 1 0 = 0 := by
    refine errG_none (fun i x hx => ?_) 1 0 (by simp)
    rcases i with _ | i
    · simp only [List.getElem?_cons_zero, Option.some.injEq] at hx
      subst hx
      unfold liE
      simp only []
      rw [nmR, he, outE_zero.2 (show (0 : Int) ≤ q ∧ (q : Int) ≤ 160 by omega)]
      rfl
    · simp at hx
  rw [show ([⟨rnd, q, u, (thruB (xs.map bare) (xs.map bare).length).map entA⟩] : List LiR).length = 1 from rfl, e1, outE_zero.2 (show (1 : Int) ≤ 160 ∧ (160 : Int) ≤ 160 by omega)]
  rfl
def enC (e : QenR) : List Value := [.string e.cl, .string e.na]
def enCs (l : List QenR) : List Value := l.flatMap enC
theorem enCs_len (l : List QenR) : (enCs l).length = l.length * 2 := by
  induction l with
  | nil => rfl
  | cons p r ih => simp [enCs, enC] at *; omega
theorem enCs_add (l : List QenR) (e : QenR) : enCs (l ++ [e]) = enCs l ++ enC e := by simp [enCs]
theorem enCs_at : ∀ {l : List QenR} {i : Nat} {e : QenR}, l[i]? = some e → ∀ j, j < 2 → (enCs l)[i * 2 + j]? = (enC e)[j]?
  | [], i, e, h, j, hj => by simp at h
  | x :: l, 0, e, h, j, hj => by
    simp only [List.getElem?_cons_zero, Option.some.injEq] at h
    subst h
    show (enC x ++ enCs l)[0 * 2 + j]? = _
    rw [List.getElem?_append_left (by simp [enC]; omega)]
    simp
  | x :: l, i + 1, e, h, j, hj => by
    have ih := enCs_at (l := l) (i := i) (e := e) (by simpa using h) j hj
    show (enC x ++ enCs l)[(i + 1) * 2 + j]? = _
    rw [List.getElem?_append_right (by simp [enC]; omega), ← ih]
    congr 1
    simp [enC]
    omega
theorem qens_of_own {w : World} {base : Nat} {v : Value} {es : List QenR} {T : TypeId} (h : w.ownsRow base T 2 v es.length (enCs es)) : QenAts w v es := by
  rcases h.2 with ⟨rfl, h0⟩ | ⟨g, cap, cur, rfl, _, _, hle, hmx, _⟩
  · exact ⟨none, 0, by rw [h0], ⟨by omega, by unfold maxLen; omega⟩, fun h => by omega⟩
  · refine ⟨some ⟨g, 0, none⟩, cap, rfl, ⟨hle, hmx⟩, fun _ => ⟨g, 0, rfl, fun i e he => ?_⟩⟩
    have ea : ∀ j, (⟨g, 0, none⟩ : Addr).add j = ⟨g, j, none⟩ := fun j => by unfold Addr.add; split <;> simp_all
    have k0 := h.cells (g := g) rfl (i * 2 + 0) (.string e.cl) (by rw [enCs_at he 0 (by omega)]; rfl)
    have k1 := h.cells (g := g) rfl (i * 2 + 1) (.string e.na) (by rw [enCs_at he 1 (by omega)]; rfl)
    rw [ea] at k0 k1
    exact ⟨by simpa using k0, by simpa using k1⟩
/-- the quota that the law makes, in memory -/
structure QAt (w : World) (base LB QB : Nat) (q : Int) (ev : Value) (es : List QenR) : Prop where
  lb : w.heap[LB]? = some (.cells #[.string rnd, .int .i64 q, ev] 37 (0, 0))
  qb : w.heap[QB]? = some (.cells #[.slice (some ⟨LB, 0, none⟩) 1 1, .int .i64 160] 40 (0, 0))
  own : w.ownsRow base 42 2 ev es.length (enCs es)
  low : base ≤ LB ∧ base ≤ QB
theorem QAt.gr {w w' : World} {base LB QB : Nat} {q : Int} {ev : Value} {es : List QenR} (h : QAt w base LB QB q ev es) (k : Gr w w') : QAt w' base LB QB q ev es := ⟨k.block h.lb, k.block h.qb, own_gr2 h.own k, h.low⟩
theorem QAt.cells {w : World} {base LB QB : Nat} {q : Int} {ev : Value} {es : List QenR} (h : QAt w base LB QB q ev es) : w.cell? ⟨QB, 0, none⟩ = some (.slice (some ⟨LB, 0, none⟩) 1 1) ∧ w.cell? ⟨QB, 1, none⟩ = some (.int .i64 160) ∧ w.cell? ⟨LB, 2, none⟩ = some ev := by
  refine ⟨?_, ?_, ?_⟩
  · rw [cell_of_row w QB _ _ _ (0, 0) h.qb]; rfl
  · rw [cell_of_row w QB _ _ _ (0, 0) h.qb]; rfl
  · rw [cell_of_row w LB _ _ _ (0, 0) h.lb]; rfl
theorem en_ne_l : (42 : TypeId) ≠ 37 := by decide
theorem en_ne_q : (42 : TypeId) ≠ 40 := by decide
theorem q_ne_l : (40 : TypeId) ≠ 37 := by decide
theorem QAt.put {W0 w w1 : World} {LB QB : Nat} {q : Int} {ev ev1 : Value} {es : List QenR} {e : QenR} {o : Obj} (h : QAt w W0.heap.size LB QB q ev es) (k : Gr W0 w)
    (ho : w1.ownsRow W0.heap.size 42 2 ev1 (es.length + 1) (enCs (es ++ [e]))) (hg : (w.alloc o).grownBy w1 ev.ownBlock) (hat : ev1.ownBlock = ev.ownBlock ∨ ev1.ownBlock = some (w.alloc o).heap.size) :
    w1.cell? ⟨QB, 0, none⟩ = some (.slice (some ⟨LB, 0, none⟩) 1 1) ∧ w1.cell? ⟨LB, 2, none⟩ = some ev ∧ w1.frozen? ⟨LB, 2, none⟩ = false ∧ QAt (w1.setCell ⟨LB, 2, none⟩ ev1) W0.heap.size LB QB q ev1 (es ++ [e]) ∧ Gr W0 (w1.setCell ⟨LB, 2, none⟩ ev1) := by
  have ka : Gr w (w.alloc o) := (Gr.refl w).alloc o
  have hA := h.gr ka
  have b1 : w1.heap[LB]? = (w.alloc o).heap[LB]? := hg.block LB (Array.getElem?_eq_some_iff.1 hA.lb).1 (fun x => own_ne_cells hA.own hA.lb en_ne_l x.symm)
  have b2 : w1.heap[QB]? = (w.alloc o).heap[QB]? := hg.block QB (Array.getElem?_eq_some_iff.1 hA.qb).1 (fun x => own_ne_cells hA.own hA.qb en_ne_q x.symm)
  have c1 := b1.trans hA.lb
  have c2 := b2.trans hA.qb
  have hn1 : ev1.ownBlock ≠ some LB := by
    rcases hat with x | x
    · rw [x]; exact own_ne_cells hA.own hA.lb en_ne_l
    · rw [x]; intro y; cases y; have := (Array.getElem?_eq_some_iff.1 hA.lb).1; omega
  refine ⟨?_, ?_, ?_, ⟨?_, ?_, ?_, h.low⟩, ?_⟩
  · rw [cell_of_row w1 QB _ _ _ (0, 0) c2]; rfl
  · rw [cell_of_row w1 LB _ _ _ (0, 0) c1]; rfl
  · exact frozen_of_row w1 LB _ _ _ c1
  · have := heap_setCell_same w1 LB 2 _ _ ev1 c1
    simpa using this
  · rw [heap_setCell_other _ _ _ _ (show QB ≠ LB from ne_types hA.qb hA.lb q_ne_l)]
    exact c2
  · rw [List.length_append]
    exact own_same2 ho fun g x => heap_setCell_other _ _ _ _ (fun r => hn1 (by rw [x]; exact congrArg some r))
  · refine Below.setCell (Below.grown (k.trans ka) hg ?_ (fun j hj => (own_in2 hA.own hj).2)) (p := ⟨LB, 2, none⟩) h.low.1 ev1
    exact (k.trans ka).size
theorem QAt.lists {w : World} {base LB QB : Nat} {q : Int} {ev : Value} {es : List QenR} (h : QAt w base LB QB q ev es) : LiAts w (.slice (some ⟨LB, 0, none⟩) 1 1) [⟨rnd, q, ev, es⟩] := by
  refine ⟨some ⟨LB, 0, none⟩, 1, rfl, ⟨Nat.le_refl _, by unfold maxLen; omega⟩, fun _ => ⟨LB, 0, rfl, fun i x hx => ?_⟩⟩
  rcases i with _ | i
  · simp only [List.getElem?_cons_zero, Option.some.injEq] at hx
    subst hx
    refine ⟨?_, ?_, ?_, qens_of_own h.own⟩ <;> rw [cell_of_row w LB _ _ _ (0, 0) h.lb] <;> rfl
  · simp at hx
theorem infoEn : (Tryz.prog.info? 42).map (fun i => (i.zero, i.size, i.bytes)) = some (some (.agg #[.string ⟨#[]⟩, .string ⟨#[]⟩]), 2, 32) := by kernel_rfl
set_option maxRecDepth 10000 in
/-- append of an entry, as an operation of a drawn region -/
theorem step_entry {w : World} {o : Oper} {a : Act} {K : Act → World → Prop} {Q : Exit → Act → World → Prop} (s x : Operand) (ho : o.op = .call { callee := .builtin .append, args := #[s, x], argTypes := #[35, 35] })
    (base : Nat) (v : Value) (es : List QenR) (e : QenR) (n : Nat) (hn : es.length = n) (hs : a.eval s = v) (hown : w.ownsRow base 42 2 v n (enCs es)) (g c : Nat) (hx : a.eval x = .slice (some ⟨g, 0, none⟩) 1 c)
    (h0 : w.cell? ⟨g, 0, none⟩ = some (.string e.cl)) (h1 : w.cell? ⟨g, 1, none⟩ = some (.string e.na)) (hb : n ≤ 5000) (hbase : base ≤ w.heap.size)
    (h : ∀ v' w', w'.ownsRow base 42 2 v' (n + 1) (enCs (es ++ [e])) → w.grownBy w' v.ownBlock → (v'.ownBlock = v.ownBlock ∨ v'.ownBlock = some w.heap.size) → K (a.put o.dst v') w') : Oper.wp Tryz.prog o a w K Q := by
  obtain ⟨i1, hj, hy0, hy1, hy2⟩ := info_parts infoEn
  obtain ⟨v', w', hr, h2, h3, h4, h5⟩ := run_append_own_at (P := Tryz.prog) w base 35 o.type 42 i1 (.agg #[.string ⟨#[]⟩, .string ⟨#[]⟩]) 2 32 Tryz.underlying35 hj hy0 hy1 hy2 rfl (by decide) v n (enCs es) hown ⟨g, 0, none⟩ 1 c (enC e) (by simp [enC])
    (fun j u hu => by
      have ea : (⟨g, 0, none⟩ : Addr).add j = ⟨g, j, none⟩ := by unfold Addr.add; split <;> simp_all
      rw [ea]
      unfold enC at hu
      rcases j with _ | _ | j <;> simp at hu <;> subst hu <;> assumption)
    (fun u hu => by unfold enC at hu; simp at hu; rcases hu with rfl | rfl <;> rfl) (by unfold maxLen; omega) (by omega) hbase
  rw [← enCs_add] at h2
  unfold Oper.wp
  simp [execOp, ho, resolve, invoke, builtin, hs, hx, hr, Result.andThen]
  exact h v' w' h2 h3 h5
theorem pqCs_at : ∀ {l : List PlQ} {i : Nat} {e : PlQ}, l[i]? = some e → ∀ j, j < 2 → (pqCs l)[i * 2 + j]? = (pqC e)[j]?
  | [], i, e, h, j, hj => by simp at h
  | x :: l, 0, e, h, j, hj => by
    simp only [List.getElem?_cons_zero, Option.some.injEq] at h
    subst h
    show (pqC x ++ pqCs l)[0 * 2 + j]? = _
    rw [List.getElem?_append_left (by simp [pqC]; omega)]
    simp
  | x :: l, i + 1, e, h, j, hj => by
    have ih := pqCs_at (l := l) (i := i) (e := e) (by simpa using h) j hj
    show (pqC x ++ pqCs l)[(i + 1) * 2 + j]? = _
    rw [List.getElem?_append_right (by simp [pqC]; omega), ← ih]
    congr 1
    simp [pqC]
    omega
theorem places_cells {w : World} {B : Nat} {u : Value} {tl : List ByteArray} {T : TypeId} (h : w.ownsRow B T 2 u (tl.map fun s => (entA s, 0)).length (pqCs (tl.map fun s => (entA s, 0)))) :
    ∃ pp pc, u = .slice pp tl.length pc ∧ (0 < tl.length → ∃ PG, pp = some ⟨PG, 0, none⟩ ∧ ∀ k s, tl[k]? = some s → w.cell? ⟨PG, k * 2, none⟩ = some (.string s) ∧ w.cell? ⟨PG, k * 2 + 1, none⟩ = some (.int .i64 0)) := by
  rcases h.2 with ⟨rfl, h0⟩ | ⟨g, cap, cur, rfl, _, _, hle, hmx, _⟩
  · rw [List.length_map] at h0
    exact ⟨none, 0, by rw [h0], fun h => by omega⟩
  · refine ⟨_, cap, by rw [List.length_map], fun _ => ⟨g, rfl, fun k s hs => ?_⟩⟩
    have ea : ∀ j, (⟨g, 0, none⟩ : Addr).add j = ⟨g, j, none⟩ := fun j => by unfold Addr.add; split <;> simp_all
    have hm : (tl.map fun s => (entA s, 0))[k]? = some (entA s, 0) := by rw [List.getElem?_map, hs]; rfl
    have k0 := h.cells (g := g) rfl (k * 2 + 0) (.string s) (by rw [pqCs_at hm 0 (by omega)]; rfl)
    have k1 := h.cells (g := g) rfl (k * 2 + 1) (.int .i64 0) (by rw [pqCs_at hm 1 (by omega)]; rfl)
    rw [ea] at k0 k1
    exact ⟨by simpa using k0, by simpa using k1⟩
theorem QAt.new (w : World) (q : Int) : ∃ W, (w.alloc (.cells #[.string ⟨#[114, 111, 117, 110, 100]⟩, .int .i64 q, .slice none 0 0] 37)).alloc (.cells #[.slice (some ⟨w.heap.size, 0, none⟩) 1 1, .int .i64 160] 40) = W ∧ QAt W w.heap.size w.heap.size (w.heap.size + 1) q (.slice none 0 0) [] ∧ Gr w W := by
  have e : (w.alloc (.cells #[.string ⟨#[114, 111, 117, 110, 100]⟩, .int .i64 q, .slice none 0 0] 37)).heap.size = w.heap.size + 1 := by simp
  refine ⟨_, rfl, ⟨?_, ?_, World.ownsRow_nil _ _ _ _, Nat.le_refl _, by omega⟩, ((Gr.refl w).alloc _).alloc _⟩
  · exact ((Gr.refl _).alloc _).block (heap_alloc_new _ _)
  · rw [← e]
    exact heap_alloc_new _ _
end Go.Proofs.YtebnbjaaogfikaaGreatDoor
