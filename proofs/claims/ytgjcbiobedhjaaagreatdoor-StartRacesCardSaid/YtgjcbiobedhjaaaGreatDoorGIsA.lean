/- Numbers in memory; append of any numbers. -/
import Derived.Test.YtgjcbiobedhjaaaGreatDoorGNames
import Derived.Maps.AppendAt
import Derived.BigQuiet
import Derived.KernelRfl
namespace Go.Proofs.YtgjcbiobedhjaaaGreatDoor
open Go.RowKit Go.Lib
set_option linter.unusedSimpArgs false
set_option linter.unusedVariables false
theorem addr_add (b o j : Nat) : (⟨b, o, none⟩ : Addr).add j = ⟨b, o + j, none⟩ := by unfold Addr.add; split <;> simp_all
theorem own_shape {w : World} {b s n : Nat} {T : TypeId} {v : Value} {l : List Value} (h : w.ownsRow b T s v n l) : ∃ p c, v = .slice p n c ∧ n ≤ c ∧ c ≤ maxLen := by
  rcases h.2 with ⟨rfl, rfl⟩ | ⟨g, cap, cur, rfl, _, _, h1, h2, _⟩
  · exact ⟨none, 0, rfl, Nat.le_refl _, by unfold maxLen; omega⟩
  · exact ⟨_, cap, rfl, h1, h2⟩
/-- the slice holds these integers -/
structure IntS (w : World) (q : Option Addr) (m : Nat) (zs : List Int) : Prop where
  mk' ::
  len : zs.length = m
  out : 0 < m → ∃ b off, q = some ⟨b, off, none⟩ ∧ ∀ (i : Nat) (z : Int), zs[i]? = some z → w.cell? ⟨b, off + i, none⟩ = some (.int .i64 z)
theorem IntS.gr {w w' : World} {q : Option Addr} {m : Nat} {zs : List Int} (h : IntS w q m zs) (k : Gr w w') : IntS w' q m zs := ⟨h.len, fun h0 => by
  obtain ⟨g, off, e, hc⟩ := h.out h0
  exact ⟨g, off, e, fun i a ha => k.cell (hc i a ha)⟩⟩
theorem IntS.at_ {w : World} {ad : Addr} {m : Nat} {zs : List Int} (h : IntS w (some ad) m zs) : ∀ (j : Nat) (u : Value), (ints zs)[j]? = some u → w.cell? (ad.add j) = some u := fun j u hu => by
  unfold ints at hu
  rw [List.getElem?_map] at hu
  cases hz : zs[j]? with
  | none => rw [hz] at hu; cases hu
  | some z =>
    rw [hz] at hu
    cases hu
    obtain ⟨b, off, e, hc⟩ := h.out (by have := (List.getElem?_eq_some_iff.1 hz).1; have := h.len; omega)
    cases e
    rw [addr_add]
    exact hc j z hz
theorem IntS.of_own {w : World} {b n : Nat} {q : Option Addr} {c : Nat} {zs : List Int} (h : w.ownsRow b 3 1 (.slice q n c) n (ints zs)) : IntS w q n zs := by
  have hl : zs.length = n := by have := h.1; unfold ints at this; simpa using this
  refine ⟨hl, fun h0 => ?_⟩
  obtain ⟨g, c2, e, _, _, _, hc⟩ := own_at h h0
  simp only [Value.slice.injEq] at e
  exact ⟨g, 0, e.1, fun i z hz => by rw [Nat.zero_add]; exact hc i _ (by unfold ints; rw [List.getElem?_map, hz]; rfl)⟩
theorem IntS.reads {w : World} {q : Option Addr} {c m : Nat} {zs : List Int} (h : IntS w q m zs) (h0 : ∀ b off, q = some ⟨b, off, none⟩ → off = 0) : ReadsI w (.slice q m c) zs := by
  refine ⟨q, c, by rw [h.len], fun hp => ?_⟩
  obtain ⟨b, off, e, hc⟩ := h.out (by rw [← h.len]; exact hp)
  obtain rfl := h0 b off e
  exact ⟨b, e, fun i x hx => by have := hc i x hx; rwa [Nat.zero_add] at this⟩
theorem ints_one (zs : List Int) : ∀ u ∈ ints zs, u.oneCell' = true := fun u hu => by
  unfold ints at hu
  obtain ⟨z, _, rfl⟩ := List.mem_map.1 hu
  rfl
theorem ints_len' (zs : List Int) : (ints zs).length = zs.length := by unfold ints; simp
theorem ints_append (a b : List Int) : ints (a ++ b) = ints a ++ ints b := by unfold ints; simp
/-- append(own, v...) of whatever numbers -/
theorem run_append_ints {w : World} {ty : TypeId} (base : Nat) (v : Value) (n : Nat) (xs : List Value) (hown : w.ownsRow base 3 1 v n xs) (q : Option Addr) (m c : Nat) (zs : List Int) (hz : IntS w q m zs) (h1 : n + m ≤ 100000) (hbase : base ≤ w.heap.size) :
    ∃ v' w', (Builtin.append_ #[71, 71] ty #[v, .slice q m c]).run Tryz.prog w = .ok v' w' ∧ w'.ownsRow base 3 1 v' (n + m) (xs ++ ints zs) ∧ w.grownBy w' v.ownBlock := by
  obtain ⟨i1, hj, hy0, hy1, hy2⟩ := info_parts info3
  cases q with
  | none =>
    have hm : m = 0 := by
      rcases Nat.eq_zero_or_pos m with h0 | h0
      · exact h0
      · obtain ⟨_, _, e, _⟩ := hz.out h0; cases e
    subst hm
    have hzz : zs = [] := List.eq_nil_of_length_eq_zero hz.len
    subst hzz
    refine ⟨v, w, ?_, by simpa [ints] using hown, ⟨rfl, rfl, rfl, Nat.le_refl _, fun _ _ _ => rfl⟩⟩
    rcases hown.2 with ⟨rfl, rfl⟩ | ⟨g, cap, cur, rfl, _, _, hnc, _⟩
    · simp [Builtin.append_, run_underlying Tryz.underlying71, sizeOf, typeInfo, hj, Builtin.lenOf, Builtin.firstCells]
    · simp [Builtin.append_, run_underlying Tryz.underlying71, sizeOf, typeInfo, hj, Builtin.lenOf, Builtin.firstCells, hnc, storeCells]
  | some ad =>
    obtain ⟨v', w', hr, h2, h3, _, _⟩ := run_append_own_at (P := Tryz.prog) w base 71 ty 3 i1 (.int .i64 0) 1 8 Tryz.underlying71 hj hy0 hy1 hy2 rfl (by decide) v n xs hown ad m c (ints zs) (by rw [ints_len', hz.len, Nat.mul_one]) hz.at_ (ints_one zs) (by unfold maxLen; omega) (by omega) hbase
    exact ⟨v', w', hr, h2, h3⟩
theorem wpList_append_ints {ops : Array Oper} {rest : List Oper} {o : Oper} {a : Act} {w : World} {Q : Exit → Act → World → Prop} (hgd : o.guard = none) (s x : Operand) (ho : o.op = .call { callee := .builtin .append, args := #[s, x], argTypes := #[71, 71] })
    (base : Nat) (v : Value) (n : Nat) (xs : List Value) (hs : a.eval s = v) (hown : w.ownsRow base 3 1 v n xs) (q : Option Addr) (m c : Nat) (zs : List Int) (hx : a.eval x = .slice q m c) (hz : IntS w q m zs) (h1 : n + m ≤ 100000) (hbase : base ≤ w.heap.size)
    (h : ∀ v' w', w'.ownsRow base 3 1 v' (n + m) (xs ++ ints zs) → w.grownBy w' v.ownBlock → wpList Tryz.prog ops Q rest (a.put o.dst v') w') : wpList Tryz.prog ops Q (o :: rest) a w := by
  refine wpList_plain hgd fun K hK => ?_
  obtain ⟨v', w', hr, h2, h3⟩ := run_append_ints (ty := o.type) base v n xs hown q m c zs hz h1 hbase
  unfold Oper.wp execOp
  simp only [ho, resolve, invoke, builtin, Sem.run_bind, Sem.run_pure, Result.andThen_ok, List.map_toArray, List.map_cons, List.map_nil, hs, hx, hr]
  exact hK _ _ (h v' w' h2 h3)
theorem step_ints {w : World} {o : Oper} {a : Act} {K : Act → World → Prop} {Q : Exit → Act → World → Prop} (s x : Operand) (ho : o.op = .call { callee := .builtin .append, args := #[s, x], argTypes := #[71, 71] })
    (base : Nat) (v : Value) (n : Nat) (xs : List Value) (hs : a.eval s = v) (hown : w.ownsRow base 3 1 v n xs) (q : Option Addr) (m c : Nat) (zs : List Int) (hx : a.eval x = .slice q m c) (hz : IntS w q m zs) (h1 : n + m ≤ 100000) (hbase : base ≤ w.heap.size)
    (h : ∀ v' w', w'.ownsRow base 3 1 v' (n + m) (xs ++ ints zs) → w.grownBy w' v.ownBlock → K (a.put o.dst v') w') : Oper.wp Tryz.prog o a w K Q := by
  obtain ⟨v', w', hr, h2, h3⟩ := run_append_ints (ty := o.type) base v n xs hown q m c zs hz h1 hbase
  unfold Oper.wp
  simp [execOp, ho, resolve, invoke, builtin, hs, hx, hr, Result.andThen]
  exact h v' w' h2 h3
end Go.Proofs.YtgjcbiobedhjaaaGreatDoor
namespace Go.Proofs.YtgjcbiobedhjaaaGreatDoor
open Go.RowKit Go.Lib
set_option linter.unusedSimpArgs false
set_option linter.unusedVariables false
theorem intS_two (V : World) (a b : Int) (T : TypeId) : IntS (V.alloc (.cells #[.int .i64 a, .int .i64 b] T)) (some ⟨V.heap.size, 0, none⟩) 2 [a, b] := ⟨rfl, fun _ => ⟨V.heap.size, 0, rfl, fun i z hz => by
  match i, hz with
  | 0, hz => simp at hz; subst hz; exact cell_new V #[.int .i64 a, .int .i64 b] T 0 (by simp)
  | 1, hz => simp at hz; subst hz; exact cell_new V #[.int .i64 a, .int .i64 b] T 1 (by simp)
  | i + 2, hz => simp at hz⟩⟩
end Go.Proofs.YtgjcbiobedhjaaaGreatDoor
namespace Go.Proofs.YtgjcbiobedhjaaaGreatDoor
open Go.RowKit Go.Lib
set_option linter.unusedSimpArgs false
set_option linter.unusedVariables false
set_option maxHeartbeats 1000000 in
set_option maxRecDepth 100000 in
theorem index_c (xs : List Int) (g c L r : Nat) (x : Int) (hL : xs.length = L) (hs : L ≤ 1000) (hr : xs[r]? = some x) (hf : ∀ j y, j < r → xs[j]? = some y → (x == y) = false) (w : World) (hc : ∀ i y, xs[i]? = some y → w.cell? ⟨g, i, none⟩ = some (.int .i64 y)) :
    Calls Tryz.prog 87 #[.slice (some ⟨g, 0, none⟩) L c, .int .i64 x] w fun e w' => e = .returned (.int .i64 r) ∧ Gr w w' := by
  have hrL : r < L := by
    obtain ⟨h, _⟩ := List.getElem?_eq_some_iff.1 hr
    omega
  have HC := Lib.hid hc
  have HF := Lib.hid hf
  have HR := Lib.hid hr
  have HL := Lib.hid hL
  clear hc hf hr hL
  go_enter Tryz.func87, Tryz.ntmps87
  go_wp2_with fail
  go_loopw [8] (fun i wr => ∃ k : Nat, k ≤ r ∧ i = .int .i64 k ∧ Gr w wr) (fun i _ => r - (intOf i).toNat)
  case atStart => exact ⟨0, Nat.zero_le _, rfl, Gr.refl _⟩
  case round =>
    obtain ⟨k, hk, rfl, hg⟩ := hrel
    have hkL : (k : Int) < L := by omega
    have hkl : k < xs.length := by have := HL.out; omega
    have hx : xs[k]? = some xs[k] := List.getElem?_eq_getElem hkl
    have hcell := hg.cell (HC.out k _ hx)
    by_cases hkr : k = r
    · subst hkr
      have he : xs[k] = x := by
        have h1 := HR.out
        rw [hx] at h1
        exact Option.some.inj h1
      rw [he] at hcell
      clear hx he
      go_wp2_with fail
      go_ret
      exact ⟨rfl, hg⟩
    · have hne := HF.out k _ (by omega) hx
      generalize xs[k] = y at *
      clear hx
      go_wp2_with fail
      go_roundw
      case rel => exact ⟨k + 1, by omega, by go_num, hg⟩
      case measure => simp [intOf]; omega
theorem bracketE_c (n : Int) (hn : 1 ≤ n ∧ n ≤ 64) (w : World) :
    Calls Tryz.prog 41 #[.int .i64 n] w fun x w' => ∃ v k, x = .returned (.tuple #[v, .int .i64 0]) ∧ (n ≤ ((2 ^ k : Nat) : Int)) ∧ (((2 ^ k : Nat) : Int) < 2 * n) ∧ w'.ownsRow w.heap.size 3 1 v (2 ^ k) (ints (zK n (growB k))) ∧ Gr w w' := by
  have HR : ∀ W, _ := fun W => range_c n 1 64 W
  rw [outE_zero.2 hn] at HR
  replace HR := Lib.hid HR
  have HB := Lib.hid (bracket_c n hn)
  go_enter Tryz.func41, Tryz.ntmps41
  go_wp2_with fail
  refine (HR.out _).mono ?_
  rintro e w4 ⟨rfl, rfl⟩
  go_wp2_with fail
  refine (HB.out _).mono ?_
  rintro e w4 ⟨v, k, rfl, h1, h2, h3, h4⟩
  go_wp2_with fail
  exact bodyPost_ret (v := .tuple #[v, .int .i64 0]) (by simp [results, Tryz.results41, go_sem]) rfl ⟨v, k, rfl, h1, h2, h3, h4⟩
theorem byte_getD (b : ByteArray) (i : Nat) (h : i < b.size) : b[i] = (b.data.toList[i]?).getD 0 := by
  have h' : i < b.data.toList.length := by simpa using h
  rw [List.getElem?_eq_getElem h']
  rfl
/-- how many digits to the base 2 -/
def bl (d : Int) : Int := if d < 1 then 0 else if d < 2 then 1 else if d < 4 then 2 else if d < 8 then 3 else if d < 16 then 4 else if d < 32 then 5 else 6
set_option maxHeartbeats 1000000 in
set_option maxRecDepth 100000 in
theorem len64_c (d : Int) (hd : 0 ≤ d ∧ d ≤ 63) (w : World) :
    Calls Tryz.prog 128 #[.int .u64 d] w fun e w' => e = .returned (.int .i64 (bl d)) ∧ w = w' := by
  obtain ⟨b, hb⟩ : ∃ b, b = bl d := ⟨_, rfl⟩
  rw [← hb]
  have HB := Lib.hid hb
  clear hb
  go_enter Tryz.func128, Tryz.ntmps128
  go_wp2_with fail
  go_ret
  refine ⟨?_, rfl⟩
  rw [HB.out]
  clear HB
  change Ending.returned (.int .i64 _) = Ending.returned (.int .i64 _)
  refine congrArg (fun z => Ending.returned (Value.int .i64 z)) ?_
  rw [byte_getD]
  have hc : d = 0 ∨ d = 1 ∨ d = 2 ∨ d = 3 ∨ d = 4 ∨ d = 5 ∨ d = 6 ∨ d = 7 ∨ d = 8 ∨ d = 9 ∨ d = 10 ∨ d = 11 ∨ d = 12 ∨ d = 13 ∨ d = 14 ∨ d = 15 ∨ d = 16 ∨ d = 17 ∨ d = 18 ∨ d = 19 ∨ d = 20 ∨ d = 21 ∨ d = 22 ∨ d = 23 ∨ d = 24 ∨ d = 25 ∨ d = 26 ∨ d = 27 ∨ d = 28 ∨ d = 29 ∨ d = 30 ∨ d = 31 ∨ d = 32 ∨ d = 33 ∨ d = 34 ∨ d = 35 ∨ d = 36 ∨ d = 37 ∨ d = 38 ∨ d = 39 ∨ d = 40 ∨ d = 41 ∨ d = 42 ∨ d = 43 ∨ d = 44 ∨ d = 45 ∨ d = 46 ∨ d = 47 ∨ d = 48 ∨ d = 49 ∨ d = 50 ∨ d = 51 ∨ d = 52 ∨ d = 53 ∨ d = 54 ∨ d = 55 ∨ d = 56 ∨ d = 57 ∨ d = 58 ∨ d = 59 ∨ d = 60 ∨ d = 61 ∨ d = 62 ∨ d = 63 := by omega
  rcases hc with rfl | rfl | rfl | rfl | rfl | rfl | rfl | rfl | rfl | rfl | rfl | rfl | rfl | rfl | rfl | rfl | rfl | rfl | rfl | rfl | rfl | rfl | rfl | rfl | rfl | rfl | rfl | rfl | rfl | rfl | rfl | rfl | rfl | rfl | rfl | rfl | rfl | rfl | rfl | rfl | rfl | rfl | rfl | rfl | rfl | rfl | rfl | rfl | rfl | rfl | rfl | rfl | rfl | rfl | rfl | rfl | rfl | rfl | rfl | rfl | rfl | rfl | rfl | rfl
  all_goals (clear hd; decide +kernel)
set_option maxRecDepth 100000 in
theorem len_c (d : Int) (hd : 0 ≤ d ∧ d ≤ 63) (w : World) :
    Calls Tryz.prog 86 #[.int .u64 d] w fun e w' => e = .returned (.int .i64 (bl d)) ∧ w = w' := by
  have HL := Lib.hid (fun W => len64_c d hd W)
  generalize bl d = b at *
  go_enter Tryz.func86, Tryz.ntmps86
  go_wp2_with fail
  refine (HL.out _).mono ?_
  rintro e w4 ⟨rfl, rfl⟩
  go_wp2_with fail
  go_ret
  exact ⟨rfl, rfl⟩
end Go.Proofs.YtgjcbiobedhjaaaGreatDoor
namespace Go.Proofs.YtgjcbiobedhjaaaGreatDoor
open Go.RowKit Go.Lib
/-- where x stands -/
def posOf (x : Int) : List Int → Nat
  | [] => 0
  | s :: l => if s = x then 0 else posOf x l + 1
theorem posOf_get {x : Int} : ∀ {l : List Int}, x ∈ l → l[posOf x l]? = some x ∧ ∀ j y, j < posOf x l → l[j]? = some y → y ≠ x
  | [], h => by cases h
  | s :: l, h => by
    unfold posOf
    split
    · rename_i hs
      subst hs
      exact ⟨by simp, fun j y hj => by omega⟩
    · rename_i hs
      have hl : x ∈ l := by
        cases h with
        | head => exact absurd rfl hs
        | tail _ h => exact h
      obtain ⟨h1, h2⟩ := posOf_get hl
      refine ⟨by simpa using h1, fun j y hj hy => ?_⟩
      cases j with
      | zero => simp at hy; subst hy; exact hs
      | succ j => exact h2 j y (by omega) (by simpa using hy)
theorem zK_get (n : Int) : ∀ (l : List Int) (j : Nat), (zK n l)[j]? = (l[j]?).map fun s => if n < s then 0 else s
  | [], j => by simp [zK]
  | s :: l, 0 => by simp [zK]
  | s :: l, j + 1 => by simpa [zK] using zK_get n l j
/-- the round in which two seeds meet -/
def mtK (l : List Int) (x y : Int) : Int := bl (bits BinOp.xor .i64 (posOf x l) (posOf y l))
/-- what the law says of two seeds -/
structure Pair (k : Nat) (x y : Int) : Prop where
  low : 0 ≤ bits BinOp.xor .i64 (posOf x (growB k)) (posOf y (growB k))
  high : bits BinOp.xor .i64 (posOf x (growB k)) (posOf y (growB k)) ≤ 63
  same : mtK (growB k) x y = mtK (growB k) y x
  pos : 1 ≤ mtK (growB k) x y
  most : mtK (growB k) x y ≤ k
  best : ∀ last, 1 ≤ last → last ≤ k → x ≤ 2 ^ last → y ≤ 2 ^ last → k - (last : Int) < mtK (growB k) x y
def pairB (l : List Int) (k : Nat) (x y : Int) : Bool :=
  decide (0 ≤ bits BinOp.xor .i64 (posOf x l) (posOf y l)) && decide (bits BinOp.xor .i64 (posOf x l) (posOf y l) ≤ 63) && decide (mtK l x y = mtK l y x) && decide (1 ≤ mtK l x y) && decide (mtK l x y ≤ k) &&
    (List.range 7).all fun last => decide (last < 1) || decide (k < last) || decide (2 ^ last < x) || decide (2 ^ last < y) || decide (k - (last : Int) < mtK l x y)
def allB (l : List Int) (k : Nat) : Bool := (List.range (2 ^ k)).all fun i => l.contains ((i : Int) + 1) && (List.range (2 ^ k)).all fun j => Nat.beq i j || pairB l k (i + 1) (j + 1)
theorem grow1 : growB 1 = [1, 2] := by decide +kernel
theorem all1 : allB [1, 2] 1 = true := by decide +kernel
theorem grow2 : growB 2 = [1, 4, 2, 3] := by decide +kernel
theorem all2 : allB [1, 4, 2, 3] 2 = true := by decide +kernel
theorem grow3 : growB 3 = [1, 8, 4, 5, 2, 7, 3, 6] := by decide +kernel
theorem all3 : allB [1, 8, 4, 5, 2, 7, 3, 6] 3 = true := by decide +kernel
theorem grow4 : growB 4 = [1, 16, 8, 9, 4, 13, 5, 12, 2, 15, 7, 10, 3, 14, 6, 11] := by decide +kernel
theorem all4 : allB [1, 16, 8, 9, 4, 13, 5, 12, 2, 15, 7, 10, 3, 14, 6, 11] 4 = true := by decide +kernel
theorem grow5 : growB 5 = [1, 32, 16, 17, 8, 25, 9, 24, 4, 29, 13, 20, 5, 28, 12, 21, 2, 31, 15, 18, 7, 26, 10, 23, 3, 30, 14, 19, 6, 27, 11, 22] := by decide +kernel
theorem all5 : allB [1, 32, 16, 17, 8, 25, 9, 24, 4, 29, 13, 20, 5, 28, 12, 21, 2, 31, 15, 18, 7, 26, 10, 23, 3, 30, 14, 19, 6, 27, 11, 22] 5 = true := by decide +kernel
theorem grow6 : growB 6 = [1, 64, 32, 33, 16, 49, 17, 48, 8, 57, 25, 40, 9, 56, 24, 41, 4, 61, 29, 36, 13, 52, 20, 45, 5, 60, 28, 37, 12, 53, 21, 44, 2, 63, 31, 34, 15, 50, 18, 47, 7, 58, 26, 39, 10, 55, 23, 42, 3, 62, 30, 35, 14, 51, 19, 46, 6, 59, 27, 38, 11, 54, 22, 43] := by decide +kernel
theorem all6 : allB [1, 64, 32, 33, 16, 49, 17, 48, 8, 57, 25, 40, 9, 56, 24, 41, 4, 61, 29, 36, 13, 52, 20, 45, 5, 60, 28, 37, 12, 53, 21, 44, 2, 63, 31, 34, 15, 50, 18, 47, 7, 58, 26, 39, 10, 55, 23, 42, 3, 62, 30, 35, 14, 51, 19, 46, 6, 59, 27, 38, 11, 54, 22, 43] 6 = true := by decide +kernel
theorem allB_all {k : Nat} (h1 : 1 ≤ k) (h6 : k ≤ 6) : allB (growB k) k = true := by
  have : k = 1 ∨ k = 2 ∨ k = 3 ∨ k = 4 ∨ k = 5 ∨ k = 6 := by omega
  rcases this with rfl | rfl | rfl | rfl | rfl | rfl
  · rw [grow1]; exact all1
  · rw [grow2]; exact all2
  · rw [grow3]; exact all3
  · rw [grow4]; exact all4
  · rw [grow5]; exact all5
  · rw [grow6]; exact all6
theorem pair_all {k : Nat} (h1 : 1 ≤ k) (h6 : k ≤ 6) {x y : Int} (hx : 1 ≤ x ∧ x ≤ 2 ^ k) (hy : 1 ≤ y ∧ y ≤ 2 ^ k) : x ∈ growB k ∧ (x ≠ y → Pair k x y) := by
  have h := allB_all h1 h6
  have hp : ((2 ^ k : Nat) : Int) = 2 ^ k := by simp
  unfold allB at h
  rw [List.all_eq_true] at h
  have hi := h (x - 1).toNat (by rw [List.mem_range]; omega)
  simp only [Bool.and_eq_true, List.all_eq_true] at hi
  obtain ⟨hi1, hi2⟩ := hi
  have ex : (((x - 1).toNat : Nat) : Int) + 1 = x := by omega
  rw [ex] at hi1 hi2
  refine ⟨by simpa using hi1, fun hne => ?_⟩
  have hj := hi2 (y - 1).toNat (by rw [List.mem_range]; omega)
  have ey : (((y - 1).toNat : Nat) : Int) + 1 = y := by omega
  rw [ey] at hj
  have hb : Nat.beq (x - 1).toNat (y - 1).toNat = false := by
    cases hb : Nat.beq (x - 1).toNat (y - 1).toNat
    · rfl
    · exact absurd (Nat.eq_of_beq_eq_true hb) (by omega)
  rw [hb, Bool.false_or] at hj
  unfold pairB at hj
  simp only [Bool.and_eq_true, decide_eq_true_eq, List.all_eq_true, Bool.or_eq_true, List.mem_range] at hj
  obtain ⟨⟨⟨⟨⟨a, b⟩, c⟩, d⟩, e⟩, f⟩ := hj
  refine ⟨a, b, c, d, e, fun last l1 l2 l3 l4 => ?_⟩
  have := f last (by omega)
  omega
end Go.Proofs.YtgjcbiobedhjaaaGreatDoor
namespace Go.Proofs.YtgjcbiobedhjaaaGreatDoor
open Go.RowKit Go.Lib
set_option linter.unusedSimpArgs false
set_option linter.unusedVariables false
theorem pow_one {n : Int} {k j : Nat} (h1 : n ≤ ((2 ^ k : Nat) : Int)) (h2 : ((2 ^ k : Nat) : Int) < 2 * n) (h3 : n ≤ ((2 ^ j : Nat) : Int)) (h4 : ((2 ^ j : Nat) : Int) < 2 * n) : k = j := by
  rcases Nat.lt_trichotomy k j with h | h | h
  · have := Nat.pow_le_pow_right (show 0 < 2 by decide) (show k + 1 ≤ j from h)
    rw [Nat.pow_succ] at this
    omega
  · exact h
  · have := Nat.pow_le_pow_right (show 0 < 2 by decide) (show j + 1 ≤ k from h)
    rw [Nat.pow_succ] at this
    omega
theorem first_three0 (b cap : Nat) (w : World) (hx : w.cell? ⟨b, 0, none⟩ = some (.int .i64 0)) (hy : w.cell? ⟨b, 1, none⟩ = some (.int .i64 0)) (hz : w.cell? ⟨b, 2, none⟩ = some (.int .i64 0)) :
    Calls Tryz.prog 54 #[.slice (some ⟨b, 0, none⟩) 3 cap] w fun e w' => e = .returned (.int .i64 0) ∧ w = w' := first_three 0 0 0 b cap w hx hy hz
/-- k is a number of rounds for n -/
structure Rnd (n : Int) (k : Nat) : Prop where
  n2 : 2 ≤ n
  n64 : n ≤ 64
  low : n ≤ ((2 ^ k : Nat) : Int)
  high : ((2 ^ k : Nat) : Int) < 2 * n
theorem Rnd.k {n : Int} {k : Nat} (h : Rnd n k) : 1 ≤ k ∧ k ≤ 6 := by
  obtain ⟨h1, h2, h3, h4⟩ := h
  constructor
  · rcases k with _ | k
    · simp at h3; omega
    · omega
  · apply Nat.le_of_not_lt
    intro h
    have := Nat.pow_le_pow_right (show 0 < 2 by decide) (show 7 ≤ k from h)
    omega
/-- what the two places are -/
structure Two (n x y : Int) (k : Nat) : Prop where
  r : Rnd n k
  x1 : 1 ≤ x
  xn : x ≤ n
  y1 : 1 ≤ y
  yn : y ≤ n
  ne : x ≠ y
theorem Two.at {n x y : Int} {k : Nat} (h : Two n x y k) : (∀ z, z = x ∨ z = y → (zK n (growB k))[posOf z (growB k)]? = some z ∧ posOf z (growB k) < 2 ^ k ∧ ∀ j u, j < posOf z (growB k) → (zK n (growB k))[j]? = some u → (z == u) = false) ∧ Pair k x y := by
  have hk := h.r.k
  have h3 := h.r.low
  have hp : ((2 ^ k : Nat) : Int) = 2 ^ k := by simp
  have hx := h.x1
  have hxn := h.xn
  have hy := h.y1
  have hyn := h.yn
  refine ⟨fun z hz => ?_, (pair_all hk.1 hk.2 (by omega) (by omega)).2 h.ne⟩
  have hz1 : 1 ≤ z ∧ z ≤ n := by rcases hz with rfl | rfl <;> constructor <;> assumption
  have hm := (pair_all (x := z) (y := z) hk.1 hk.2 (by omega) (by omega)).1
  obtain ⟨q1, q2⟩ := posOf_get hm
  refine ⟨by rw [zK_get, q1]; simp; omega, ?_, fun j u hj hu => ?_⟩
  · obtain ⟨hh, _⟩ := List.getElem?_eq_some_iff.1 q1
    rwa [growB_len] at hh
  · rw [zK_get] at hu
    cases he : (growB k)[j]? with
    | none => rw [he] at hu; cases hu
    | some s =>
      rw [he] at hu
      have := q2 j s hj he
      simp at hu ⊢
      split at hu <;> omega
set_option maxHeartbeats 2000000 in
set_option maxRecDepth 100000 in
theorem Meet_c (n x y : Int) (k : Nat) (h : Two n x y k) (w : World) :
    Calls Tryz.prog 42 #[.int .i64 n, .int .i64 x, .int .i64 y] w fun e w' => e = .returned (.tuple #[.int .i64 (mtK (growB k) x y), .int .i64 0]) ∧ Gr w w' := by
  have HR : ∀ W, _ := fun W => range_c n 1 64 W
  have hr1 := h.r.n2
  have hr2 := h.r.n64
  rw [outE_zero.2 ⟨by omega, by omega⟩] at HR
  replace HR := Lib.hid HR
  have HI := Lib.hid (fun b m W => if_c b m W)
  have HF := Lib.hid first_three0
  have HB := Lib.hid (bracket_c n ⟨by omega, by omega⟩)
  obtain ⟨W, hW, g, a0, a1, a2⟩ := box3 w (.int .i64 0) (.int .i64 0) (.int .i64 0) 28
  have HW := Lib.hid hW
  obtain ⟨ha, hp⟩ := h.at
  have hX := ha x (.inl rfl)
  have hY := ha y (.inr rfl)
  have hlo := hp.low
  have hhi := hp.high
  have hL := fun W => len_c _ ⟨hlo, hhi⟩ W
  have hx1 : decide (x < 1) = false := by have := h.x1; simp; omega
  have hxn : decide (n < x) = false := by have := h.xn; simp; omega
  have hy1 : decide (y < 1) = false := by have := h.y1; simp; omega
  have hyn : decide (n < y) = false := by have := h.yn; simp; omega
  have hne : (x == y) = false := by have := h.ne; simpa using this
  have hu : IntKind.u64.wrap (bits BinOp.xor .i64 (posOf x (growB k)) (posOf y (growB k))) = bits BinOp.xor .i64 (posOf x (growB k)) (posOf y (growB k)) := by
    generalize bits BinOp.xor .i64 (posOf x (growB k)) (posOf y (growB k)) = d at *
    rw [IntKind.wrap_u64]
    omega
  have hpl : posOf x (growB k) < 1000 ∧ posOf y (growB k) < 1000 := by
    have := hX.2.1
    have := hY.2.1
    have := h.r.high
    omega
  have HM : Hid (mtK (growB k) x y = bl (bits BinOp.xor .i64 (posOf x (growB k)) (posOf y (growB k)))) := rfl
  have h2k := h.r.high
  have HRN := Lib.hid h.r
  clear ha hp hlo hhi h
  generalize mtK (growB k) x y = mt at *
  generalize posOf x (growB k) = px at *
  generalize posOf y (growB k) = py at *
  obtain ⟨d, hd⟩ : ∃ d, d = bits BinOp.xor .i64 px py := ⟨_, rfl⟩
  rw [← hd] at hL HM hu
  have HL := Lib.hid hL
  have HX := Lib.hid hX
  have HY := Lib.hid hY
  clear hX hY hL hW
  go_enter Tryz.func42, Tryz.ntmps42
  go_wp2_with fail
  refine (HR.out _).mono ?_
  rintro e w4 ⟨rfl, rfl⟩
  go_wp2_with fail
  refine (HI.out _ _ _).mono ?_
  rintro e w4 ⟨rfl, rfl⟩
  go_wp2_with fail
  refine (HI.out _ _ _).mono ?_
  rintro e w4 ⟨rfl, rfl⟩
  go_wp2_with fail
  rw [HW.out]
  refine (HF.out _ _ W a0 a1 a2).mono ?_
  rintro e w4 ⟨rfl, rfl⟩
  go_wp2_with fail
  refine (HB.out _).mono ?_
  rintro e w4 ⟨v, j, rfl, h1, h2, h3, hg⟩
  have hkj := pow_one h1 h2 HRN.out.low HRN.out.high
  subst hkj
  obtain ⟨g1, cap, rfl, hbg, hgw, hcell⟩ := reads_pos h3 (Nat.two_pow_pos _)
  have HC := Lib.hid hcell
  have HZ : Hid ((zK n (growB j)).length = 2 ^ j) := by unfold Hid; rw [zK_len, growB_len]
  clear h1 h2 h3 hcell
  have hL1 : 2 ^ j ≤ 1000 := by omega
  generalize 2 ^ j = L at *
  generalize zK n (growB j) = xs at *
  go_wp2_with fail
  refine (index_c xs g1 cap L px x HZ.out hL1 (HX.out).1 (HX.out).2.2 _ HC.out).mono ?_
  rintro e w5 ⟨rfl, hg1⟩
  have HC1 := Lib.hid fun i y hy => hg1.cell (HC.out i y hy)
  go_wp2_with fail
  refine (index_c xs g1 cap L py y HZ.out hL1 (HY.out).1 (HY.out).2.2 _ HC1.out).mono ?_
  rintro e w6 ⟨rfl, hg2⟩
  go_wp2_with fail
  rw [← hd, hu]
  refine (HL.out _).mono ?_
  rintro e w7 ⟨rfl, rfl⟩
  go_wp2_with fail
  exact bodyPost_ret (v := .tuple #[.int .i64 (bl d), .int .i64 0]) (by simp [results, Tryz.results42, go_sem]; rw [hd]) rfl ⟨by rw [HM.out], ((g.trans hg).trans hg1).trans hg2⟩
end Go.Proofs.YtgjcbiobedhjaaaGreatDoor
namespace Go.Proofs.YtgjcbiobedhjaaaGreatDoor
open Go.RowKit Go.Lib
set_option linter.unusedSimpArgs false
set_option linter.unusedVariables false
/-- the first element with a property, from a place on -/
def idxQ {α : Type} (Q : α → Bool) (xs : List α) : Nat → Nat → Int
  | 0, _ => -1
  | k + 1, i => match xs[i]? with
    | some x => if Q x then i else idxQ Q xs k (i + 1)
    | none => -1
theorem idxQ_step {α : Type} {Q : α → Bool} {xs : List α} {i n : Nat} {x : α} (h : xs[i]? = some x) (hi : i < n) : idxQ Q xs (n - i) i = if Q x then (i : Int) else idxQ Q xs (n - (i + 1)) (i + 1) := by
  obtain ⟨k, hk⟩ : ∃ k, n - i = k + 1 := ⟨n - i - 1, by omega⟩
  rw [hk, show n - (i + 1) = k by omega]
  simp only [idxQ, h]
theorem idxQ_end {α : Type} {Q : α → Bool} {xs : List α} {i n : Nat} (h : n ≤ i) : idxQ Q xs (n - i) i = -1 := by
  rw [show n - i = 0 by omega]; rfl
theorem idxQ_any {α : Type} (Q : α → Bool) (xs : List α) : ∀ (k i : Nat), i + k ≤ xs.length → decide (0 ≤ idxQ Q xs k i) = ((xs.drop i).take k).any Q
  | 0, i, h => by simp [idxQ]
  | k + 1, i, h => by
    have hi : i < xs.length := by omega
    rw [List.drop_eq_getElem_cons hi, List.take_succ_cons, List.any_cons, ← idxQ_any Q xs k (i + 1) (by omega)]
    simp only [idxQ, List.getElem?_eq_getElem hi]
    cases Q xs[i] <;> simp
/-- the first error, from a place on -/
def errG {α : Type} (E : Nat → α → Int) (xs : List α) : Nat → Nat → Int
  | 0, _ => 0
  | k + 1, i => match xs[i]? with
    | some x => if E i x = 0 then errG E xs k (i + 1) else E i x
    | none => 0
theorem errG_step {α : Type} {E : Nat → α → Int} {xs : List α} {n i : Nat} {x : α} (hi : i < n) (h : xs[i]? = some x) : errG E xs (n - i) i = if E i x = 0 then errG E xs (n - (i + 1)) (i + 1) else E i x := by
  obtain ⟨k, hk⟩ : ∃ k, n - i = k + 1 := ⟨n - i - 1, by omega⟩
  have hk2 : n - (i + 1) = k := by omega
  rw [hk, hk2]
  simp only [errG, h]
theorem errG_zero {α : Type} {E : Nat → α → Int} {xs : List α} : ∀ (k i : Nat), errG E xs k i = 0 → i + k ≤ xs.length → ∀ j x, i ≤ j → j < i + k → xs[j]? = some x → E j x = 0
  | 0, i, _, _, j, x, h1, h2, _ => by omega
  | k + 1, i, h, hl, j, x, h1, h2, hx => by
    have hi : i < xs.length := by omega
    simp only [errG, List.getElem?_eq_getElem hi] at h
    split at h
    · rename_i h0
      rcases Nat.lt_or_ge i j with h3 | h3
      · exact errG_zero k (i + 1) h (by omega) j x (by omega) (by omega) hx
      · obtain rfl : i = j := by omega
        rw [List.getElem?_eq_getElem hi] at hx
        simp only [Option.some.injEq] at hx
        rw [← hx]; exact h0
    · rename_i h0
      exact absurd h h0
/-- the error of a list of at most so many elements -/
def listE {α : Type} (m : Nat) (E : Nat → α → Int) (xs : List α) : Int := if m < xs.length then 5 else errG E xs xs.length 0
/-- whether a name stands before -/
def dupN {α : Type} (f : α → ByteArray) (xs : List α) (i : Nat) (nm : ByteArray) : Bool := (xs.take i).any fun y => (f y).toList == nm.toList
def isN {α : Type} (f : α → ByteArray) (nm : ByteArray) (y : α) : Bool := (f y).toList == nm.toList
/-- the error of a name -/
def nmE (s : ByteArray) : Int := if Nm s then 0 else 8
theorem bx5 (w : World) (a0 a1 a2 a3 a4 : Value) (T : Nat) : ∃ W, w.alloc (.cells #[a0, a1, a2, a3, a4] T) = W ∧ Gr w W ∧ W.cell? ⟨w.heap.size, 0, none⟩ = some a0 ∧ W.cell? ⟨w.heap.size, 1, none⟩ = some a1 ∧ W.cell? ⟨w.heap.size, 2, none⟩ = some a2 ∧ W.cell? ⟨w.heap.size, 3, none⟩ = some a3 ∧ W.cell? ⟨w.heap.size, 4, none⟩ = some a4 :=
  ⟨_, rfl, (Gr.refl w).alloc _, cell_new w #[a0, a1, a2, a3, a4] T 0 (by simp), cell_new w #[a0, a1, a2, a3, a4] T 1 (by simp), cell_new w #[a0, a1, a2, a3, a4] T 2 (by simp), cell_new w #[a0, a1, a2, a3, a4] T 3 (by simp), cell_new w #[a0, a1, a2, a3, a4] T 4 (by simp)⟩
theorem fst5 (x y z u q : Int) (b cap : Nat) (w : World) (hx : w.cell? ⟨b, 0, none⟩ = some (.int .i64 x)) (hy : w.cell? ⟨b, 1, none⟩ = some (.int .i64 y)) (hz : w.cell? ⟨b, 2, none⟩ = some (.int .i64 z)) (hu : w.cell? ⟨b, 3, none⟩ = some (.int .i64 u)) (hq : w.cell? ⟨b, 4, none⟩ = some (.int .i64 q)) :
    Calls Tryz.prog 54 #[.slice (some ⟨b, 0, none⟩) 5 cap] w fun e w' => e = .returned (.int .i64 (firstE [x, y, z, u, q])) ∧ w = w' :=
  first_c0 b 5 cap [x, y, z, u, q] w rfl (fun i v h => by
    rcases i with _ | _ | _ | _ | _ | i <;> simp at h <;> subst h <;> assumption) (by omega)
theorem box_two (w : World) (a0 b0 : Value) (T U : Nat) : ∃ W, (w.alloc (.cells #[a0] T)).alloc (.cells #[b0] U) = W ∧ Gr w W ∧ W.cell? ⟨w.heap.size, 0, none⟩ = some a0 ∧ W.cell? ⟨w.heap.size + 1, 0, none⟩ = some b0 := by
  obtain ⟨W1, h1, g1, a1⟩ := box1 w a0 T
  obtain ⟨W2, h2, g2, a2⟩ := box1 W1 b0 U
  refine ⟨W2, by rw [h1, h2], g1.trans g2, g2.cell a1, ?_⟩
  have : W1.heap.size = w.heap.size + 1 := by rw [← h1]; simp
  rw [← this]; exact a2
/-- the range with its answer under a name -/
theorem range_e (n l h : Int) : ∃ z, z = outE n l h ∧ ∀ W, Calls Tryz.prog 75 #[.int .i64 n, .int .i64 l, .int .i64 h] W fun e w' => e = .returned (.int .i64 z) ∧ W = w' :=
  ⟨_, rfl, fun W => range_c n l h W⟩
end Go.Proofs.YtgjcbiobedhjaaaGreatDoor
namespace Go.Proofs.YtgjcbiobedhjaaaGreatDoor
open Go.RowKit Go.Lib
set_option linter.unusedSimpArgs false
set_option linter.unusedVariables false
/-- how often two places are halved until they are the same -/
def rndN : Nat → Nat → Nat → Nat
  | 0, _, _ => 0
  | f + 1, x, y => if x = y then 0 else rndN f (x / 2) (y / 2) + 1
theorem xor_all : ((List.range 64).all fun p => (List.range 64).all fun q => decide (bl (bits BinOp.xor .i64 (p : Int) (q : Int)) = (rndN 7 p q : Int))) = true := by decide +kernel
theorem xor_rnd {p q : Nat} (hp : p < 64) (hq : q < 64) : bl (bits BinOp.xor .i64 (p : Int) (q : Int)) = (rndN 7 p q : Int) := by
  have h1 := List.all_eq_true.1 xor_all p (List.mem_range.2 hp)
  have h2 := List.all_eq_true.1 h1 q (List.mem_range.2 hq)
  exact of_decide_eq_true h2
theorem grow_nodup {k : Nat} (h1 : 1 ≤ k) (h6 : k ≤ 6) : (growB k).Nodup := by
  have hc : k = 1 ∨ k = 2 ∨ k = 3 ∨ k = 4 ∨ k = 5 ∨ k = 6 := by omega
  rcases hc with rfl | rfl | rfl | rfl | rfl | rfl
  · rw [grow1]; decide +kernel
  · rw [grow2]; decide +kernel
  · rw [grow3]; decide +kernel
  · rw [grow4]; decide +kernel
  · rw [grow5]; decide +kernel
  · rw [grow6]; decide +kernel
/-- a seed stands at one place alone -/
theorem Two.only {n x y : Int} {k : Nat} (h : Two n x y k) {z : Int} (hz : z = x ∨ z = y) {j : Nat} (hj : (zK n (growB k))[j]? = some z) : j = posOf z (growB k) := by
  have hk := h.r.k
  have h1 := (h.at.1 z hz).1
  have hz1 : 1 ≤ z := by rcases hz with rfl | rfl; exact h.x1; exact h.y1
  have back : ∀ i, (zK n (growB k))[i]? = some z → (growB k)[i]? = some z := fun i hi => by
    rw [zK_get] at hi
    cases he : (growB k)[i]? with
    | none => rw [he] at hi; cases hi
    | some s =>
      rw [he] at hi
      simp at hi
      split at hi
      · omega
      · rw [hi]
  have a := back j hj
  have b := back _ h1
  exact (List.getElem?_inj (List.getElem?_eq_some_iff.1 a).1 (grow_nodup hk.1 hk.2)).1 (a.trans b.symm)
theorem bracket_bad (n : Int) (h : outE n 1 64 ≠ 0) (w : World) :
    Calls Tryz.prog 41 #[.int .i64 n] w fun e w' => e = .returned (.tuple #[.slice none 0 0, .int .i64 (outE n 1 64)]) ∧ Gr w w' := by
  obtain ⟨z, hz, HR0⟩ := range_e n 1 64
  rw [← hz] at h ⊢
  have HR := Lib.hid HR0
  have z1 : (z != 0) = true := bne_iff_ne.2 h
  clear hz HR0 h
  go_enter Tryz.func41, Tryz.ntmps41
  go_wp2_with fail
  refine (HR.out _).mono ?_
  rintro e w4 ⟨rfl, rfl⟩
  go_wp2_with fail
  exact bodyPost_ret (v := .tuple #[.slice none 0 0, .int .i64 z]) (by simp [results, Tryz.results41, go_sem]) rfl ⟨rfl, Gr.refl _⟩
end Go.Proofs.YtgjcbiobedhjaaaGreatDoor
namespace Go.Proofs.YtgjcbiobedhjaaaGreatDoor
open Go.RowKit Go.Lib
set_option linter.unusedSimpArgs false
set_option linter.unusedVariables false
/-- the cell of a word -/
structure StrAt (w : World) (b off : Nat) (x : ByteArray) : Prop where
  nm : w.cell? ⟨b, off, none⟩ = some (.string x)
theorem StrAt.gr {w w' : World} {b off : Nat} {x : ByteArray} (h : StrAt w b off x) (k : Gr w w') : StrAt w' b off x := ⟨k.cell h.nm⟩
/-- the slice v reads as these words -/
structure StrAts (w : World) (v : Value) (xs : List ByteArray) : Prop where
  mk' ::
  out : ∃ p cap, v = .slice p xs.length cap ∧ (xs.length ≤ cap ∧ cap ≤ maxLen) ∧ (0 < xs.length → ∃ b off, p = some ⟨b, off, none⟩ ∧ ∀ i x, xs[i]? = some x → StrAt w b (off + i) x)
theorem StrAts.gr {w w' : World} {v : Value} {xs : List ByteArray} (h : StrAts w v xs) (k : Gr w w') : StrAts w' v xs := by
  obtain ⟨⟨p, cap, rfl, hcap, hh⟩⟩ := h
  refine ⟨p, cap, rfl, hcap, fun h0 => ?_⟩
  obtain ⟨b, off, h1, h2⟩ := hh h0
  exact ⟨b, off, h1, fun i x hx => (h2 i x hx).gr k⟩
end Go.Proofs.YtgjcbiobedhjaaaGreatDoor
namespace Go.Proofs.YtgjcbiobedhjaaaGreatDoor
open Go.RowKit Go.Lib
set_option linter.unusedSimpArgs false
set_option linter.unusedVariables false
/-- whether a name is among names -/
def hasS (ns : List ByteArray) (s : ByteArray) : Bool := ns.any fun t => s.toList == t.toList
/-- the first place of a name, from a place on -/
def findS (s : ByteArray) (ns : List ByteArray) : Nat → Nat → Int
  | 0, _ => -1
  | k + 1, i => match ns[i]? with
    | some t => if s.toList == t.toList then i else findS s ns k (i + 1)
    | none => -1
theorem findS_step {s : ByteArray} {ns : List ByteArray} {i n : Nat} {t : ByteArray} (h : ns[i]? = some t) (hi : i < n) : findS s ns (n - i) i = if s.toList == t.toList then (i : Int) else findS s ns (n - (i + 1)) (i + 1) := by
  obtain ⟨k, hk⟩ : ∃ k, n - i = k + 1 := ⟨n - i - 1, by omega⟩
  rw [hk, show n - (i + 1) = k by omega]
  simp only [findS, h]
theorem findS_any (s : ByteArray) (ns : List ByteArray) : ∀ (k i : Nat), i + k ≤ ns.length → decide (0 ≤ findS s ns k i) = hasS ((ns.drop i).take k) s
  | 0, i, h => by simp [findS, hasS]
  | k + 1, i, h => by
    have hi : i < ns.length := by omega
    have ih := findS_any s ns k (i + 1) (by omega)
    unfold hasS at *
    rw [List.drop_eq_getElem_cons hi, List.take_succ_cons, List.any_cons, ← ih]
    simp only [findS, List.getElem?_eq_getElem hi]
    cases s.toList == ns[i].toList <;> simp
set_option maxHeartbeats 1000000 in
set_option maxRecDepth 100000 in
theorem indexS_pos (ns : List ByteArray) (n b off cap : Nat) (s : ByteArray) (w : World) (hn : n ≤ ns.length) (h1 : n ≤ 1000) (hc : ∀ i t, ns[i]? = some t → w.cell? ⟨b, off + i, none⟩ = some (.string t)) :
    Calls Tryz.prog 134 #[.slice (some ⟨b, off, none⟩) n cap, .string s] w fun e w' => e = .returned (.int .i64 (findS s ns n 0)) ∧ w = w' := by
  have HC := Lib.hid hc
  have HX := Lib.hid (fun k (h : k < n) => (show ∃ x, ns[k]? = some x from ⟨ns[k]'(by omega), List.getElem?_eq_getElem _⟩))
  have HS := Lib.hid (fun i t (h : ns[i]? = some t) (hi : i < n) => findS_step (s := s) h hi)
  have HE : Hid (findS s ns 0 n = -1) := rfl
  clear hc hn
  generalize findS s ns = F at *
  go_enter Tryz.func134, Tryz.ntmps134
  go_wp2_with fail
  go_loopg [8] n (fun gk s8 wr => ∃ i : Nat, s8 = .int .i64 i ∧ gk + i = n ∧ wr = w ∧ Hid (F (n - i) i = F n 0))
  case atStart => exact ⟨0, rfl, by omega, rfl, by simp [Hid]⟩
  case round =>
    obtain ⟨i, rfl, hi, rfl, HF⟩ := hrel
    by_cases hlt : i < n
    · obtain ⟨t, ht⟩ := HX.out i hlt
      have c0 := HC.out i t ht
      have hst := HS.out i t ht hlt
      have hi2 : (i : Int) < n := by omega
      cases hh : (s.toList == t.toList)
      · rw [hh] at hst
        have HST := Lib.hid hst
        have hne : ¬ s.toList = t.toList := by simpa using hh
        clear hst ht
        go_wp2_with fail
        go_roundg (gk - 1)
        case measure => omega
        case rel => exact ⟨i + 1, by go_num, by omega, rfl, by have := HF.out; rw [HST.out] at this; simpa [Hid] using this⟩
      · rw [hh] at hst
        have HST := Lib.hid hst
        have hne : s.toList = t.toList := by simpa using hh
        clear hst ht
        go_wp2_with fail
        go_ret
        have q : F n 0 = i := by have := HF.out; rw [HST.out] at this; simpa using this.symm
        exact ⟨by rw [q]; rfl, rfl⟩
    · obtain rfl : i = n := by omega
      have := HF.out
      rw [Nat.sub_self, HE.out] at this
      have HT := Lib.hid this
      clear this
      go_wp2_with fail
      go_ret
      exact ⟨by rw [← HT.out]; rfl, rfl⟩
theorem containsS_pos (ns : List ByteArray) (n b off cap : Nat) (s : ByteArray) (w : World) (hn : n ≤ ns.length) (h1 : n ≤ 1000) (hc : ∀ i t, ns[i]? = some t → w.cell? ⟨b, off + i, none⟩ = some (.string t)) :
    Calls Tryz.prog 91 #[.slice (some ⟨b, off, none⟩) n cap, .string s] w fun e w' => e = .returned (.bool (hasS (ns.take n) s)) ∧ w = w' := by
  have HI := Lib.hid (indexS_pos ns n b off cap s w hn h1 hc)
  have HE : Hid (hasS (ns.take n) s = decide (0 ≤ findS s ns n 0)) := by
    unfold Hid; rw [findS_any s ns n 0 (by omega), List.drop_zero]
  clear hc
  generalize findS s ns n 0 = z at *
  go_enter Tryz.func91, Tryz.ntmps91
  go_wp2_with (refine HI.out.mono ?_; rintro e w4 ⟨rfl, rfl⟩)
  go_ret
  exact ⟨by rw [HE.out]; rfl, rfl⟩
theorem indexS_nil (p : Option Addr) (cap : Nat) (s : ByteArray) (w : World) :
    Calls Tryz.prog 134 #[.slice p 0 cap, .string s] w fun e w' => e = .returned (.int .i64 (-1)) ∧ w = w' := by
  go_enter Tryz.func134, Tryz.ntmps134
  go_wp2_with fail
  refine wp_loop_rounds 2 ?_
  rw [rounds_succ]
  go_wp2_with fail
  go_ret
  exact ⟨rfl, rfl⟩
theorem containsS_nil (p : Option Addr) (cap : Nat) (s : ByteArray) (w : World) :
    Calls Tryz.prog 91 #[.slice p 0 cap, .string s] w fun e w' => e = .returned (.bool false) ∧ w = w' := by
  have HI := Lib.hid (indexS_nil p cap s w)
  go_enter Tryz.func91, Tryz.ntmps91
  go_wp2_with (refine HI.out.mono ?_; rintro e w4 ⟨rfl, rfl⟩)
  go_ret
  exact ⟨rfl, rfl⟩
theorem hasS_succ {ns : List ByteArray} {k : Nat} {t : ByteArray} (h : ns[k]? = some t) (s : ByteArray) : hasS (ns.take (k + 1)) s = (hasS (ns.take k) s || (s.toList == t.toList)) := by
  rw [List.take_add_one, h]; unfold hasS; simp
theorem hasS_le {ns : List ByteArray} {s : ByteArray} {j n : Nat} (hj : j ≤ n) (h : hasS (ns.take j) s = true) : hasS (ns.take n) s = true := by
  unfold hasS at *
  rw [List.any_eq_true] at *
  obtain ⟨t, ht, he⟩ := h
  exact ⟨t, (List.take_subset_take_left ns hj) ht, he⟩
set_option maxHeartbeats 1000000 in
set_option maxRecDepth 100000 in
theorem hasWordT_c (ns : List ByteArray) (q : Option Addr) (n c : Nat) (s : ByteArray) (w : World) (hn : n ≤ ns.length) (h1 : n ≤ 1000) (hh : 0 < n → ∃ b off, q = some ⟨b, off, none⟩ ∧ ∀ i t, ns[i]? = some t → w.cell? ⟨b, off + i, none⟩ = some (.string t)) :
    Calls Tryz.prog 31 #[.slice q n c, .string s] w fun e w' => e = .returned (.bool (hasS (ns.take n) s)) ∧ w = w' := by
  have HS := Lib.hid (fun k (h : k < n) => (show ∃ x, ns[k]? = some x from ⟨ns[k]'(by omega), List.getElem?_eq_getElem _⟩))
  have HH := Lib.hid hh
  have HL := Lib.hid (fun j (h : hasS (ns.take j) s = true) (hj : j ≤ n) => hasS_le hj h)
  clear hh hn
  go_enter Tryz.func31, Tryz.ntmps31
  go_wp2_with fail
  go_loopg [5] n (fun gk s5 wr => ∃ i : Nat, s5 = .int .i64 i ∧ gk + i = n ∧ wr = w ∧ Hid (hasS (ns.take i) s = false))
  case atStart => exact ⟨0, rfl, by omega, rfl, by simp [Hid, hasS]⟩
  case round =>
    obtain ⟨i, rfl, hi, rfl, HF⟩ := hrel
    by_cases hlt : i < n
    · obtain ⟨t, ht⟩ := HS.out i hlt
      obtain ⟨b, off, rfl, hc⟩ := HH.out (by omega)
      have c0 := hc i t ht
      have hst := hasS_succ ht s
      rw [HF.out, Bool.false_or] at hst
      have hi2 : (i : Int) < n := by omega
      clear ht hc
      by_cases hne : t.toList = s.toList
      · have hb : (s.toList == t.toList) = true := by rw [hne]; simp
        have hb2 : (t.toList == s.toList) = true := by rw [hne]; simp
        rw [hb] at hst
        have HQ : Hid (hasS (ns.take n) s = true) := HL.out _ hst (by omega)
        clear hst hb
        go_wp2_with fail
        go_ret
        exact ⟨by rw [HQ.out]; rfl, rfl⟩
      · have hb : (s.toList == t.toList) = false := beq_eq_false_iff_ne.2 (fun e => hne e.symm)
        have hb2 : (t.toList == s.toList) = false := beq_eq_false_iff_ne.2 hne
        rw [hb] at hst
        have HST := Lib.hid hst
        clear hst hb
        go_wp2_with fail
        go_roundg (gk - 1)
        case measure => omega
        case rel => exact ⟨i + 1, by go_num, by omega, rfl, HST⟩
    · obtain rfl : i = n := by omega
      have HQ : Hid (hasS (ns.take i) s = false) := HF
      go_wp2_with fail
      go_ret
      exact ⟨by rw [HQ.out]; rfl, rfl⟩
end Go.Proofs.YtgjcbiobedhjaaaGreatDoor
namespace Go.Proofs.YtgjcbiobedhjaaaGreatDoor
open Go.RowKit Go.Lib
set_option linter.unusedSimpArgs false
set_option linter.unusedVariables false
theorem dupN_succ {α : Type} (f : α → ByteArray) {xs : List α} {k : Nat} {y : α} (h : xs[k]? = some y) (nm : ByteArray) : dupN f xs (k + 1) nm = (dupN f xs k nm || ((f y).toList == nm.toList)) := by
  unfold dupN
  rw [List.take_add_one, h]
  simp
theorem dupN_le {α : Type} (f : α → ByteArray) {xs : List α} {k i : Nat} (hk : k ≤ i) {nm : ByteArray} (h : dupN f xs k nm = true) : dupN f xs i nm = true := by
  unfold dupN at *
  simp only [List.any_eq_true] at *
  obtain ⟨y, hy, e⟩ := h
  exact ⟨y, List.take_subset_take_left _ hk hy, e⟩
end Go.Proofs.YtgjcbiobedhjaaaGreatDoor
namespace Go.Proofs.YtgjcbiobedhjaaaGreatDoor
open Go.RowKit Go.Lib
set_option linter.unusedSimpArgs false
set_option linter.unusedVariables false
/-- the error of a name in a list -/
def strE (xs : List ByteArray) (i : Nat) (x : ByteArray) : Int := firstE [nmE x, if hasS (xs.take i) x then 9 else 0]
theorem strE_eq (xs : List ByteArray) (i : Nat) (x : ByteArray) : strE xs i x = if (!decide (Nm x)) = true then 8 else if hasS (xs.take i) x = true then 9 else 0 := by
  unfold strE nmE
  by_cases q0 : Nm x <;> cases hasS (xs.take i) x <;> simp [firstE, q0]
end Go.Proofs.YtgjcbiobedhjaaaGreatDoor
