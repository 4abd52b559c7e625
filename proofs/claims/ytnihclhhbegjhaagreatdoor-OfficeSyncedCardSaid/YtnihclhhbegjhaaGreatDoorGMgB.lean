/- Archives (chapter 10): a list of entries, copied. -/
import Derived.Test.YtnihclhhbegjhaaGreatDoorGOvY
import Derived.Sort.Grow
import Derived.Shelf.SlSortCmp.InsertionK
import Derived.Deep.CutBlock
namespace Go.Proofs.YtnihclhhbegjhaaGreatDoor
open Go.RowKit Go.Lib
set_option linter.unusedSimpArgs false
set_option linter.unusedVariables false
structure RetEs (base : Nat) (e : Ending) (w' : World) (L : List EnR) : Prop where
  mk' ::
  out : ∃ q c es, e = .returned (.slice q L.length c) ∧ es.length = L.length ∧ es.map ek = L.map ek ∧ w'.ownsRow base 77 7 (.slice q L.length c) L.length (enCs es) ∧ (∀ f ∈ es, CpS w' base f.p f.n f.cap f.xs) ∧ (L.length ≤ c ∧ c ≤ maxLen)
set_option maxHeartbeats 4000000 in
set_option maxRecDepth 100000 in
theorem copiedE_c {w : World} {p : Option Addr} {l : List EnR} {n cap : Nat} (hn : n = l.length) (h1 : n ≤ 1000) (hr : EnS w p l) (hs : ∀ e ∈ l, e.n ≤ 1000) (hl : ∀ e ∈ l, ∀ x ∈ e.xs, x.xs.length ≤ 1000) :
    Calls Tryz.prog 105 #[.slice p n cap, .func (.func 77) #[] #[]] w fun e w' => RetEs w.heap.size e w' l ∧ Gr w w' := by
  obtain ⟨i0, hi, hz0, hz1, hz2⟩ := info_parts infoEnP
  have HI0 := Lib.hid (And.intro hi (And.intro hz0 (And.intro hz1 hz2)))
  have HN := Lib.hid hn
  have HR := Lib.hid hr.out
  have HFW := Lib.hid hl
  have HSS := Lib.hid hs
  clear hr hl hs hn hi hz0 hz1 hz2
  go_enter Tryz.func105, Tryz.ntmps105
  go_wp2_with fail
  go_loopg [5, 10] n (fun gk s5 s10 wr => ∃ (i : Nat) (es : List EnR), s10 = .int .i64 (i : Int) ∧ gk + i = n ∧ Hid (wr.ownsRow w.heap.size 77 7 s5 i (enCs es)) ∧ Hid (es.length = i) ∧ Hid (es.map ek = (l.take i).map ek) ∧ Hid (∀ f ∈ es, CpS wr w.heap.size f.p f.n f.cap f.xs) ∧ Hid (Gr w wr))
  case atStart => exact ⟨0, [], rfl, by omega, World.ownsRow_nil _ _ _ _, rfl, rfl, (fun f hf => by cases hf), Gr.refl _⟩
  case round =>
    obtain ⟨i, es, rfl, hgk2, HOWN, HEL, HEK, HCP, HG2⟩ := hrel
    have hsz := HG2.out.size
    by_cases hlt : i < n
    · obtain ⟨x, hx⟩ : ∃ x, l[i]? = some x := ⟨l[i]'(by have := HN.out; omega), List.getElem?_eq_getElem _⟩
      obtain ⟨b, off, rfl, hc⟩ := HR.out (by have := HN.out; omega)
      have hat := (hc i x hx).gr HG2.out
      obtain ⟨a0, a1, a2, a3, a4, a5, a6, hrx⟩ := hat
      have hlt2 : (i : Int) < (n : Int) := by omega
      have HTT : Hid ((l.take (i + 1)).map ek = (l.take i).map ek ++ [ek x]) := by rw [Hid, List.take_add_one, hx]; simp
      have g1 := (Gr.refl wr).alloc (.cells #[.string x.de, .int .i64 x.nu, .int .i64 x.ck, .string x.ro, .int .i64 x.va, .string x.st, .slice x.p x.n x.cap] 77)
      have HCE0 := Lib.hid (copyEn_c (hrx.gr g1) (HSS.out x (List.mem_of_getElem? hx)) (fun y hy => HFW.out x (List.mem_of_getElem? hx) y hy))
      unfold enV at HCE0
      simp only at HCE0
      have HG1 := Lib.hid g1
      clear hx hc hrx g1
      go_wp2_with fail
      refine HCE0.out.mono ?_
      rintro e V ⟨pq, pk, ys, rfl, hcp, hrk, hg⟩
      have gV := HG1.out.trans hg
      have hownV := own_kept HOWN.out gV
      have HGV : Hid (Gr w V) := HG2.out.trans gV
      have hszV := HGV.out.size
      have hcpl := hcp.low (show w.heap.size ≤ _ from Nat.le_trans HG2.out.size HG1.out.size)
      have HCV : Hid (∀ f ∈ es, CpS V w.heap.size f.p f.n f.cap f.xs) := fun f hf => (HCP.out f hf).gr gV
      obtain ⟨hi, hz0, hz1, hz2⟩ := HI0.out
      have gA := (Gr.refl V).alloc (.cells #[.string x.de, .int .i64 x.nu, .int .i64 x.ck, .string x.ro, .int .i64 x.va, .string x.st, .slice pq x.n pk] 77)
      have hownA := own_kept hownV gA
      clear hg gV hcp HCP HOWN HCE0 a0 a1 a2 a3 a4 a5 a6
      go_wp2_with (at_builtin; refine wpList_append_own _ rfl _ _ 22 rfl w.heap.size 77 i0 (.agg #[.string ⟨#[]⟩, .int .i64 0, .int .i64 0, .string ⟨#[]⟩, .int .i64 0, .string ⟨#[]⟩, .slice none 0 0]) 7 96 Tryz.underlying22 hi hz0 hz1 hz2 rfl (by decide) _ _ _ rfl (hownA) ⟨V.heap.size, 0, none⟩ 1 1 [.string x.de, .int .i64 x.nu, .int .i64 x.ck, .string x.ro, .int .i64 x.va, .string x.st, .slice pq x.n pk] rfl rfl (cell_seven _ _ _ _ _ _ _ _ _) (one_seven _ _ _ _ _ _ _ _ _) (by unfold maxLen; omega) (by omega) (by simp; omega) ?_; intro v1 w1 hown1 hgrow1 hnil)
      have HGR : Hid (Gr w w1) := Below.grown (HGV.out.alloc _) hgrow1 (by simp; omega) (fun q hq => (own_in hownV hq).2)
      have HO1 := Lib.hid hown1
      have HC1 : Hid (∀ f ∈ es ++ [({ x with p := pq, cap := pk, xs := ys } : EnR)], CpS w1 w.heap.size f.p f.n f.cap f.xs) := by
        intro f hf
        rcases List.mem_append.1 hf with hf | hf
        · exact ((HCV.out f hf).gr gA).apart hownA (by decide) (by decide) hgrow1
        · rw [List.mem_singleton] at hf
          subst hf
          exact (hcpl.gr gA).apart hownA (by decide) (by decide) hgrow1
      have hek : ek ({ x with p := pq, cap := pk, xs := ys } : EnR) = ek x := by unfold ek; simp only; rw [hrk]
      have HEK1 : Hid ((es ++ [({ x with p := pq, cap := pk, xs := ys } : EnR)]).map ek = (l.take (i + 1)).map ek) := by
        rw [Hid, List.map_append, HTT.out, HEK.out, List.map_singleton, hek]
      have HEL1 : Hid ((es ++ [({ x with p := pq, cap := pk, xs := ys } : EnR)]).length = i + 1) := by
        rw [Hid, List.length_append, HEL.out]; rfl
      clear hown1 hgrow1 hownV hownA hnil gA hi hz0 hz1 hz2 hcpl hrk hek HCV
      go_wp2_with fail
      go_roundg (gk - 1)
      case measure => omega
      case rel => exact ⟨i + 1, _, by go_num, by omega, by rw [enCs_add]; exact HO1.out, HEL1.out, HEK1.out, HC1.out, HGR.out⟩
    · obtain rfl : n = i := by omega
      have hlt2 : ¬ (n : Int) < (n : Int) := by omega
      have hli : l.take n = l := List.take_of_length_le (by have := HN.out; omega)
      have ho := HOWN.out
      rw [hli] at HEK
      obtain ⟨qq, cc, rfl, hc1, hc2⟩ := own_shape ho
      have HRET : Hid (RetEs w.heap.size (.returned (.slice qq n cc)) wr l) := by
        have hnl := HN.out
        exact ⟨qq, cc, es, by rw [← hnl], by rw [HEL.out, hnl], HEK.out, by rw [← hnl]; exact ho, HCP.out, by omega, hc2⟩
      clear ho HOWN hc1 hc2
      go_wp2_with fail
      go_ret
      exact ⟨HRET.out, HG2.out⟩
end Go.Proofs.YtnihclhhbegjhaaGreatDoor
namespace Go.Proofs.YtnihclhhbegjhaaGreatDoor
open Go.RowKit Go.Lib
set_option linter.unusedSimpArgs false
set_option linter.unusedVariables false
end Go.Proofs.YtnihclhhbegjhaaGreatDoor
namespace Go.Proofs.YtnihclhhbegjhaaGreatDoor
open Go.RowKit Go.Lib
set_option linter.unusedSimpArgs false
set_option linter.unusedVariables false
theorem run_append_any {P : Program} {w : World} (base : Nat) (t ty e : TypeId) (i : TypeInfo) (z : Value) (size bytes : Nat) (ht : P.underlying t = some (.slice e)) (hi : P.info? e = some i) (hz : i.zero = some z)
    (hsize : i.size = size) (hby : i.bytes = bytes) (hzs : z.cells.size = size) (hsz : 0 < size)
    (v : Value) (n : Nat) (xs : List Value) (hown : w.ownsRow base e size v n xs)
    (q : Option Addr) (m c : Nat) (hq : q = none → m = 0) (news : List Value) (hl : news.length = m * size) (hnews : ∀ ad, q = some ad → ∀ j u, news[j]? = some u → w.cell? (ad.add j) = some u) (h1 : ∀ u ∈ news, u.oneCell' = true)
    (h63 : n + m ≤ maxLen) (hbytes : (n + m) * bytes ≤ 140737488355328) (hbase : base ≤ w.heap.size) :
    ∃ v' w', (Builtin.append_ #[t, t] ty #[v, .slice q m c]).run P w = .ok v' w' ∧ w'.ownsRow base e size v' (n + m) (xs ++ news) ∧ ∀ w0 : World, Gr w0 w → w0.heap.size ≤ base → Gr w0 w' := by
  cases q with
  | none =>
    obtain rfl := hq rfl
    have hn0 : news = [] := List.eq_nil_of_length_eq_zero (by simpa using hl)
    subst hn0
    refine ⟨v, w, ?_, by simpa using hown, fun w0 g _ => g⟩
    subst hsize
    rcases hown.2 with ⟨rfl, rfl⟩ | ⟨g, cap, cur, rfl, _, _, hnc, _⟩
    · simp [Builtin.append_, run_underlying ht, sizeOf, typeInfo, hi, Builtin.lenOf, Builtin.firstCells]
    · simp [Builtin.append_, run_underlying ht, sizeOf, typeInfo, hi, Builtin.lenOf, Builtin.firstCells, hnc, storeCells]
  | some ad =>
    obtain ⟨v', w', hr, h2, h3, _, _⟩ := run_append_own_at (P := P) w base t ty e i z size bytes ht hi hz hsize hby hzs hsz v n xs hown ad m c news hl (hnews ad rfl) h1 h63 hbytes hbase
    exact ⟨v', w', hr, h2, fun w0 g hb => Below.grown g h3 g.size (fun j hj => Nat.le_trans hb (hown.lt j hj).1)⟩
theorem step_append_any {P : Program} {w : World} {o : Oper} {a : Act} {K : Act → World → Prop} {Q : Exit → Act → World → Prop} (s x : Operand) (t : TypeId) (ho : o.op = .call { callee := .builtin .append, args := #[s, x], argTypes := #[t, t] })
    (base : Nat) (e : TypeId) (i : TypeInfo) (z : Value) (size bytes : Nat) (ht : P.underlying t = some (.slice e)) (hi : P.info? e = some i) (hz : i.zero = some z)
    (hsize : i.size = size) (hby : i.bytes = bytes) (hzs : z.cells.size = size) (hsz : 0 < size)
    (v : Value) (n : Nat) (xs : List Value) (hs : a.eval s = v) (hown : w.ownsRow base e size v n xs)
    (q : Option Addr) (m c : Nat) (hq : q = none → m = 0) (news : List Value) (hx : a.eval x = .slice q m c) (hl : news.length = m * size) (hnews : ∀ ad, q = some ad → ∀ j u, news[j]? = some u → w.cell? (ad.add j) = some u) (h1 : ∀ u ∈ news, u.oneCell' = true)
    (h63 : n + m ≤ maxLen) (hbytes : (n + m) * bytes ≤ 140737488355328) (hbase : base ≤ w.heap.size)
    (h : ∀ v' w', w'.ownsRow base e size v' (n + m) (xs ++ news) → (∀ w0 : World, Gr w0 w → w0.heap.size ≤ base → Gr w0 w') → K (a.put o.dst v') w') : Oper.wp P o a w K Q := by
  obtain ⟨v', w', hr, h2, h3⟩ := run_append_any (P := P) (w := w) base t o.type e i z size bytes ht hi hz hsize hby hzs hsz v n xs hown q m c hq news hl hnews h1 h63 hbytes hbase
  unfold Oper.wp execOp
  simp only [ho, resolve, invoke, builtin, Sem.run_bind, Sem.run_pure, Result.andThen_ok, List.map_toArray, List.map_cons, List.map_nil, hs, hx, hr]
  exact h v' w' h2 h3
theorem wpList_append_any {P : Program} {w : World} {ops : Array Oper} {rest : List Oper} {o : Oper} {a : Act} {Q : Exit → Act → World → Prop} (hgd : o.guard = none) (s x : Operand) (t : TypeId) (ho : o.op = .call { callee := .builtin .append, args := #[s, x], argTypes := #[t, t] })
    (base : Nat) (e : TypeId) (i : TypeInfo) (z : Value) (size bytes : Nat) (ht : P.underlying t = some (.slice e)) (hi : P.info? e = some i) (hz : i.zero = some z)
    (hsize : i.size = size) (hby : i.bytes = bytes) (hzs : z.cells.size = size) (hsz : 0 < size)
    (v : Value) (n : Nat) (xs : List Value) (hs : a.eval s = v) (hown : w.ownsRow base e size v n xs)
    (q : Option Addr) (m c : Nat) (hq : q = none → m = 0) (news : List Value) (hx : a.eval x = .slice q m c) (hl : news.length = m * size) (hnews : ∀ ad, q = some ad → ∀ j u, news[j]? = some u → w.cell? (ad.add j) = some u) (h1 : ∀ u ∈ news, u.oneCell' = true)
    (h63 : n + m ≤ maxLen) (hbytes : (n + m) * bytes ≤ 140737488355328) (hbase : base ≤ w.heap.size)
    (h : ∀ v' w', w'.ownsRow base e size v' (n + m) (xs ++ news) → (∀ w0 : World, Gr w0 w → w0.heap.size ≤ base → Gr w0 w') → wpList P ops Q rest (a.put o.dst v') w') :
    wpList P ops Q (o :: rest) a w := by
  refine wpList_plain hgd fun K hK => ?_
  exact step_append_any s x t ho base e i z size bytes ht hi hz hsize hby hzs hsz v n xs hs hown q m c hq news hx hl hnews h1 h63 hbytes hbase fun v' w' h2 h3 => hK _ _ (h v' w' h2 h3)
end Go.Proofs.YtnihclhhbegjhaaGreatDoor
namespace Go.Proofs.YtnihclhhbegjhaaGreatDoor
open Go.RowKit Go.Lib Go.Sort Go.Proofs
set_option linter.unusedSimpArgs false
set_option linter.unusedVariables false
theorem ltS_irr (a : ByteArray) : ltS a a = false := less_self _
theorem arch_clocks {l : List EnR} (h : archE l = 0) : l.Pairwise fun a b => befB a b = true ∧ (a.de.toList = b.de.toList → a.ck < b.ck) := by
  have ha := errG_all l.length 0 (by omega) h
  have hf : ∀ x y : Int, firstE [x, y] = if x = 0 then (if y = 0 then 0 else y) else x := fun _ _ => rfl
  have h1 : ∀ i x, l[i]? = some x → ordE l i x = false := fun i x hx => by
    have h0 := ha i x (Nat.zero_le _) hx
    unfold enE at h0
    rw [hf] at h0
    by_cases he : enErr x = 0
    · cases ho : ordE l i x with
      | false => rfl
      | true => rw [he, ho] at h0; simp at h0
    · rw [if_neg he] at h0; exact absurd h0 he
  have hadj : ∀ i a b, l[i]? = some a → l[i + 1]? = some b → befB a b = true ∧ (a.de.toList = b.de.toList → a.ck < b.ck) := fun i a b hia hib => by
    have := h1 (i + 1) b hib
    simp only [ordE, hia, ordB] at this
    rw [Bool.or_eq_false_iff] at this
    refine ⟨by simpa using this.1, fun e => ?_⟩
    have h2 := this.2
    rw [e] at h2
    simpa using h2
  have htr : ∀ a b c : EnR, (befB a b = true ∧ (a.de.toList = b.de.toList → a.ck < b.ck)) → (befB b c = true ∧ (b.de.toList = c.de.toList → b.ck < c.ck)) → (befB a c = true ∧ (a.de.toList = c.de.toList → a.ck < c.ck)) := by
    intro a b c ⟨p1, p2⟩ ⟨q1, q2⟩
    refine ⟨befB_trans p1 q1, fun e => ?_⟩
    have hab : a.de.toList = b.de.toList := by
      unfold befB at p1 q1
      simp only [Bool.or_eq_true, Bool.and_eq_true, beq_iff_eq] at p1 q1
      rcases p1 with p1 | ⟨p1, _⟩
      · rcases q1 with q1 | ⟨q1, _⟩
        · have := less_trans _ _ _ p1 q1
          rw [← e, less_self] at this; cases this
        · exact e.trans q1.symm
      · exact p1
    have := p2 hab
    have := q2 (hab.symm.trans e)
    omega
  rw [List.pairwise_iff_getElem]
  intro i j hi hj hij
  obtain ⟨d, rfl⟩ : ∃ d, j = i + 1 + d := ⟨j - (i + 1), by omega⟩
  clear hij
  induction d with
  | zero => exact hadj i _ _ (List.getElem?_eq_getElem hi) (List.getElem?_eq_getElem hj)
  | succ d ih =>
    have hj2 : i + 1 + d < l.length := by omega
    exact htr _ _ _ (ih hj2) (hadj (i + 1 + d) _ _ (List.getElem?_eq_getElem hj2) (List.getElem?_eq_getElem hj))
end Go.Proofs.YtnihclhhbegjhaaGreatDoor
namespace Go.Proofs.YtnihclhhbegjhaaGreatDoor
open Go.RowKit Go.Lib
set_option linter.unusedSimpArgs false
set_option linter.unusedVariables false
def mrgE : List EnR → List EnR → List EnR
  | [], b => b
  | x :: a, [] => x :: a
  | x :: a, y :: b => if mkO x y < 0 then x :: mrgE a (y :: b) else if mkO x y = 0 then x :: mrgE a b else y :: mrgE (x :: a) b
termination_by a b => a.length + b.length
theorem mrgE_nil (b : List EnR) : mrgE [] b = b := by rw [mrgE]
theorem mrgE_nil2 (a : List EnR) : mrgE a [] = a := by cases a <;> rw [mrgE]
theorem mrgE_lt {x y : EnR} {a b : List EnR} (h : mkO x y < 0) : mrgE (x :: a) (y :: b) = x :: mrgE a (y :: b) := by rw [mrgE, if_pos h]
theorem mrgE_eq {x y : EnR} {a b : List EnR} (h : mkO x y = 0) : mrgE (x :: a) (y :: b) = x :: mrgE a b := by rw [mrgE, if_neg (by omega), if_pos h]
theorem mrgE_gt {x y : EnR} {a b : List EnR} (h : 0 < mkO x y) : mrgE (x :: a) (y :: b) = y :: mrgE (x :: a) b := by rw [mrgE, if_neg (by omega), if_neg (by omega)]
theorem mrgE_len : ∀ (n : Nat) (a b : List EnR), a.length + b.length ≤ n → (mrgE a b).length ≤ a.length + b.length := by
  intro n
  induction n with
  | zero =>
    intro a b h
    have h1 : a = [] := List.eq_nil_of_length_eq_zero (by omega)
    subst h1
    rw [mrgE_nil]; simp
  | succ n ih =>
    intro a b h
    cases a with
    | nil => rw [mrgE_nil]; simp
    | cons x a =>
      cases b with
      | nil => rw [mrgE_nil2]; simp
      | cons y b =>
        simp only [List.length_cons] at h
        rcases Int.lt_trichotomy (mkO x y) 0 with h1 | h1 | h1
        · rw [mrgE_lt h1]; have := ih a (y :: b) (by simp only [List.length_cons]; omega); simp only [List.length_cons] at this ⊢; omega
        · rw [mrgE_eq h1]; have := ih a b (by omega); simp only [List.length_cons] at this ⊢; omega
        · rw [mrgE_gt h1]; have := ih (x :: a) b (by simp only [List.length_cons]; omega); simp only [List.length_cons] at this ⊢; omega
theorem mrgE_len_le (a b : List EnR) : (mrgE a b).length ≤ a.length + b.length := mrgE_len _ a b (Nat.le_refl _)
theorem mrgE_mem : ∀ (n : Nat) (a b : List EnR), a.length + b.length ≤ n → ∀ e ∈ mrgE a b, e ∈ a ∨ e ∈ b := by
  intro n
  induction n with
  | zero =>
    intro a b h e he
    have h1 : a = [] := List.eq_nil_of_length_eq_zero (by omega)
    subst h1
    rw [mrgE_nil] at he; exact .inr he
  | succ n ih =>
    intro a b h e he
    cases a with
    | nil => rw [mrgE_nil] at he; exact .inr he
    | cons x a =>
      cases b with
      | nil => rw [mrgE_nil2] at he; exact .inl he
      | cons y b =>
        simp only [List.length_cons] at h
        rcases Int.lt_trichotomy (mkO x y) 0 with h1 | h1 | h1
        · rw [mrgE_lt h1] at he
          rcases List.mem_cons.1 he with rfl | he
          · exact .inl (List.mem_cons_self ..)
          · rcases ih a (y :: b) (by simp only [List.length_cons]; omega) e he with h2 | h2
            · exact .inl (List.mem_cons_of_mem _ h2)
            · exact .inr h2
        · rw [mrgE_eq h1] at he
          rcases List.mem_cons.1 he with rfl | he
          · exact .inl (List.mem_cons_self ..)
          · rcases ih a b (by omega) e he with h2 | h2
            · exact .inl (List.mem_cons_of_mem _ h2)
            · exact .inr (List.mem_cons_of_mem _ h2)
        · rw [mrgE_gt h1] at he
          rcases List.mem_cons.1 he with rfl | he
          · exact .inr (List.mem_cons_self ..)
          · rcases ih (x :: a) b (by simp only [List.length_cons]; omega) e he with h2 | h2
            · exact .inl h2
            · exact .inr (List.mem_cons_of_mem _ h2)
theorem mrgE_sub {a b : List EnR} {e : EnR} (he : e ∈ mrgE a b) : e ∈ a ∨ e ∈ b := mrgE_mem _ a b (Nat.le_refl _) e he
theorem mkO_ek {x y x' y' : EnR} (hx : ek x = ek x') (hy : ek y = ek y') : mkO x y = mkO x' y' := by
  have a1 : x.de = x'.de := congrArg (fun z => z.1) hx
  have a2 : x.nu = x'.nu := congrArg (fun z => z.2.1) hx
  have b1 : y.de = y'.de := congrArg (fun z => z.1) hy
  have b2 : y.nu = y'.nu := congrArg (fun z => z.2.1) hy
  unfold mkO; rw [a1, a2, b1, b2]
theorem mrgE_ek : ∀ (n : Nat) (a b a' b' : List EnR), a.length + b.length ≤ n → a.map ek = a'.map ek → b.map ek = b'.map ek → (mrgE a b).map ek = (mrgE a' b').map ek := by
  intro n
  induction n with
  | zero =>
    intro a b a' b' h ha hb
    have h1 : a = [] := List.eq_nil_of_length_eq_zero (by omega)
    subst h1
    have h2 : a' = [] := by simpa using ha.symm
    subst h2
    rw [mrgE_nil, mrgE_nil]; exact hb
  | succ n ih =>
    intro a b a' b' h ha hb
    cases a with
    | nil =>
      have h2 : a' = [] := by simpa using ha.symm
      subst h2
      rw [mrgE_nil, mrgE_nil]; exact hb
    | cons x a =>
      cases a' with
      | nil => simp at ha
      | cons x' a' =>
        simp only [List.map_cons, List.cons.injEq] at ha
        cases b with
        | nil =>
          have h2 : b' = [] := by simpa using hb.symm
          subst h2
          rw [mrgE_nil2, mrgE_nil2]; simp only [List.map_cons, ha.1, ha.2]
        | cons y b =>
          cases b' with
          | nil => simp at hb
          | cons y' b' =>
            simp only [List.map_cons, List.cons.injEq] at hb
            simp only [List.length_cons] at h
            have hk := mkO_ek ha.1 hb.1
            rcases Int.lt_trichotomy (mkO x y) 0 with h1 | h1 | h1
            · rw [mrgE_lt h1, mrgE_lt (hk ▸ h1)]
              simp only [List.map_cons, ha.1]
              rw [ih a (y :: b) a' (y' :: b') (by simp only [List.length_cons]; omega) ha.2 (by simp only [List.map_cons, hb.1, hb.2])]
            · rw [mrgE_eq h1, mrgE_eq (hk ▸ h1)]
              simp only [List.map_cons, ha.1]
              rw [ih a b a' b' (by omega) ha.2 hb.2]
            · rw [mrgE_gt h1, mrgE_gt (hk ▸ h1)]
              simp only [List.map_cons, hb.1]
              rw [ih (x :: a) b (x' :: a') b' (by simp only [List.length_cons]; omega) (by simp only [List.map_cons, ha.1, ha.2]) hb.2]
theorem mrgE_same {a b a' b' : List EnR} (ha : a.map ek = a'.map ek) (hb : b.map ek = b'.map ek) : (mrgE a b).map ek = (mrgE a' b').map ek := mrgE_ek _ a b a' b' (Nat.le_refl _) ha hb
def selL (P : Nat → Bool) : Nat → List EnR → List EnR
  | _, [] => []
  | i, x :: t => if P i = true then x :: selL P (i + 1) t else selL P (i + 1) t
theorem selL_sub (P : Nat → Bool) : ∀ (l : List EnR) (i : Nat), (selL P i l).Sublist l
  | [], i => by simp [selL]
  | x :: t, i => by
    unfold selL
    split
    · exact (selL_sub P t (i + 1)).cons_cons x
    · exact (selL_sub P t (i + 1)).cons x
theorem selL_app (P : Nat → Bool) : ∀ (l m : List EnR) (i : Nat), selL P i (l ++ m) = selL P i l ++ selL P (i + l.length) m
  | [], m, i => by simp [selL]
  | x :: t, m, i => by
    simp only [List.cons_append, selL, List.length_cons]
    rw [selL_app P t m (i + 1), show i + 1 + t.length = i + (t.length + 1) by omega]
    split <;> rfl
theorem cmpS_neg (x y : ByteArray) : cmpS x y = - cmpS y x := by
  unfold cmpS
  by_cases h1 : ltS x y = true
  · have h2 : ltS y x = false := by
      cases h : ltS y x
      · rfl
      · have := less_trans _ _ _ h1 h
        rw [show Op.bytesLess x.toList x.toList = ltS x x from rfl, ltS_irr] at this; cases this
    have h3 : ¬ x.toList = y.toList := fun e => by
      have := ltS_eq e; rw [h1] at this; cases this
    rw [if_pos h1, h2]
    have : (y.toList == x.toList) = false := beq_eq_false_iff_ne.2 (fun e => h3 e.symm)
    rw [this]; simp
  · have h1' : ltS x y = false := by simpa using h1
    rw [if_neg h1, h1']
    by_cases he : x.toList = y.toList
    · have e2 := ltS_eq he.symm
      rw [e2]
      simp [he]
    · have h2 : ltS y x = true := by
        have := less_tri y.toList x.toList
        unfold ltS at *
        rw [h1'] at this
        rw [this]
        simp [he]
      have h3 : (x.toList == y.toList) = false := beq_eq_false_iff_ne.2 he
      rw [h3, if_pos h2]; simp
def AscE (l : List EnR) : Prop := l.Pairwise fun a b => befB a b = true
theorem AscE.of_arch {l : List EnR} (h : archE l = 0) : AscE l := (arch_clocks h).imp (fun h => h.1)
end Go.Proofs.YtnihclhhbegjhaaGreatDoor
namespace Go.Proofs.YtnihclhhbegjhaaGreatDoor
open Go.RowKit Go.Lib
set_option linter.unusedSimpArgs false
set_option linter.unusedVariables false
theorem en_cells {w : World} {b off : Nat} {l : List EnR} (h : ∀ (i : Nat) (e : EnR), l[i]? = some e → EnAt w b (off + i * 7) e) : ∀ (j : Nat) (u : Value), (enCs l)[j]? = some u → w.cell? ((⟨b, off, none⟩ : Addr).add j) = some u := fun j u hu => by
  rw [addr_add]
  have hj := (List.getElem?_eq_some_iff.1 hu).1
  rw [enCs_len] at hj
  obtain ⟨e, he⟩ : ∃ e, l[j / 7]? = some e := ⟨l[j / 7]'(by omega), List.getElem?_eq_getElem _⟩
  obtain ⟨c0, c1, c2, c3, c4, c5, c6, _⟩ := h _ e he
  have hr : j % 7 < 7 := Nat.mod_lt _ (by omega)
  have hs : j = j / 7 * 7 + j % 7 := by omega
  have hc := enCs_at he (j % 7) hr
  rw [← hs, hu] at hc
  have ho : off + j = off + j / 7 * 7 + j % 7 := by omega
  rw [ho]
  generalize j % 7 = r at *
  unfold enC at hc
  match r, hr with
  | 0, _ => simp at hc; rw [hc]; exact c0
  | 1, _ => simp at hc; rw [hc]; exact c1
  | 2, _ => simp at hc; rw [hc]; exact c2
  | 3, _ => simp at hc; rw [hc]; exact c3
  | 4, _ => simp at hc; rw [hc]; exact c4
  | 5, _ => simp at hc; rw [hc]; exact c5
  | 6, _ => simp at hc; rw [hc]; exact c6
theorem one_enCs (l : List EnR) : ∀ u ∈ enCs l, u.oneCell' = true := fun u hu => by
  unfold enCs at hu
  obtain ⟨e, _, he⟩ := List.mem_flatMap.1 hu
  exact one_seven _ _ _ _ _ _ _ _ _ u he
theorem EnS.rowsX {w : World} {q : Option Addr} {l : List EnR} (h : EnS w q l) : ∀ e ∈ l, RowsX w e.p e.n e.cap e.xs := fun e he => by
  obtain ⟨i, hi⟩ := List.getElem?_of_mem he
  obtain ⟨b, off, _, hc⟩ := h.out (by have := (List.getElem?_eq_some_iff.1 hi).1; omega)
  exact (hc i e hi).rows
end Go.Proofs.YtnihclhhbegjhaaGreatDoor
namespace Go.Proofs.YtnihclhhbegjhaaGreatDoor
open Go.RowKit Go.Lib
set_option linter.unusedSimpArgs false
set_option linter.unusedVariables false
theorem en_none {w : World} {q : Option Addr} {l : List EnR} (h : EnS w q l) (hq : q = none) : l.length = 0 := by
  rcases Nat.eq_zero_or_pos l.length with h0 | h0
  · exact h0
  · obtain ⟨b, off, e, _⟩ := h.out h0
    rw [hq] at e; cases e
theorem en_news {w : World} {q : Option Addr} {l : List EnR} (h : EnS w q l) : ∀ ad, q = some ad → ∀ (j : Nat) (u : Value), (enCs l)[j]? = some u → w.cell? (ad.add j) = some u := fun ad e j u hu => by
  have h0 : 0 < l.length := by
    rcases Nat.eq_zero_or_pos l.length with h0 | h0
    · rw [List.eq_nil_of_length_eq_zero h0] at hu; simp [enCs] at hu
    · exact h0
  obtain ⟨b, off, e2, hc⟩ := h.out h0
  rw [e] at e2; cases e2
  exact en_cells hc j u hu
theorem en_tail {w : World} {b off c : Nat} {x : EnR} {l : List EnR} (h : EnS w (some ⟨b, off, none⟩) (x :: l)) (hc : l.length + 1 ≤ c) : EnS w (if c = 1 then some ⟨b, off, none⟩ else some ⟨b, off + 7, none⟩) l := ⟨fun h0 => by
  obtain ⟨b', off', e, hh⟩ := h.out (by simp)
  cases e
  refine ⟨b, off + 7, by rw [if_neg (by omega)], fun i e he => ?_⟩
  have := hh (i + 1) e (by simpa using he)
  rwa [show off + (i + 1) * 7 = off + 7 + i * 7 by omega] at this⟩
structure RetEq (e : Ending) (w' : World) (L : List EnR) : Prop where
  mk' ::
  out : ∃ q c, e = .returned (.slice q L.length c) ∧ (L.length ≤ c ∧ c ≤ maxLen) ∧ EnS w' q L
set_option maxHeartbeats 8000000 in
set_option maxRecDepth 100000 in
theorem merged_c {w : World} {pa pc : Option Addr} {a c : List EnR} {ma mc ka kc : Nat} (hma : ma = a.length) (hmc : mc = c.length) (h1 : ma ≤ 1000) (h2 : mc ≤ 1000) (hka : ma ≤ ka ∧ ka ≤ maxLen) (hkc : mc ≤ kc ∧ kc ≤ maxLen) (ha : EnS w pa a) (hc : EnS w pc c) :
    Calls Tryz.prog 106 #[.slice pa ma ka, .slice pc mc kc, .func (.func 97) #[] #[]] w fun e w' => RetEq e w' (mrgE a c) ∧ Gr w w' := by
  obtain ⟨i0, hi, hz0, hz1, hz2⟩ := info_parts infoEnP
  have HI0 := Lib.hid (And.intro hi (And.intro hz0 (And.intro hz1 hz2)))
  have HRA := Lib.hid ha.rowsX
  have HRC := Lib.hid hc.rowsX
  have HBM0 := Lib.hid (fun x y U => byMark_c x y U)
  have HA := Lib.hid ha
  have HC := Lib.hid hc
  have hlen0 := mrgE_len_le a c
  have HL0 : Hid ((mrgE a c).length ≤ 2000) := by rw [Hid]; omega
  have HMA := Lib.hid hma
  have HMC := Lib.hid hmc
  clear ha hc hi hz0 hz1 hz2 hlen0 hma hmc
  go_enter Tryz.func106, Tryz.ntmps106
  go_wp2_with fail
  go_loopg [0, 1, 7] (ma + mc) (fun gk s0 s1 s7 wr => ∃ (A' B' out : List EnR) (qa qb : Option Addr) (na nb ca cb k : Nat), s0 = .slice qa na ca ∧ s1 = .slice qb nb cb ∧ gk = na + nb ∧ na ≤ 1000 ∧ nb ≤ 1000 ∧ (na ≤ ca ∧ ca ≤ maxLen) ∧ (nb ≤ cb ∧ cb ≤ maxLen) ∧ Hid (na = A'.length) ∧ Hid (nb = B'.length) ∧ Hid (k = out.length) ∧ Hid (EnS w qa A') ∧ Hid (EnS w qb B') ∧ Hid (out ++ mrgE A' B' = mrgE a c) ∧ Hid (wr.ownsRow w.heap.size 77 7 s7 k (enCs out)) ∧ Hid (Gr w wr))
  case atStart => exact ⟨a, c, [], pa, pc, ma, mc, ka, kc, 0, rfl, rfl, rfl, h1, h2, hka, hkc, HMA, HMC, rfl, HA, HC, rfl, World.ownsRow_nil _ _ _ _, Gr.refl _⟩
  case round =>
    obtain ⟨A', B', out, qa, qb, na, nb, ca, cb, k, rfl, rfl, hgk, hna, hnb, ⟨hca1, hca2⟩, ⟨hcb1, hcb2⟩, HNA, HNB, HK, HEA, HEB, HMR, HOWN, HG⟩ := hrel
    have hk0 : k ≤ 2000 := by
      have := congrArg List.length HMR.out
      rw [List.length_append, ← HK.out] at this
      have := HL0.out
      omega
    have hszw := HG.out.size
    rcases Nat.eq_zero_or_pos na with h0 | h0
    · obtain rfl : A' = [] := List.eq_nil_of_length_eq_zero (by have := HNA.out; omega)
      subst h0
      have HALL : Hid (out ++ ([] : List EnR) ++ B' = mrgE a c) := by
        rw [Hid, ← HMR.out, List.append_assoc]
        congr 1
        rw [mrgE_nil]; rfl
      have hlen : (mrgE a c).length = k + 0 + nb := by rw [← HALL.out, List.length_append, List.length_append, ← HK.out, ← HNA.out, ← HNB.out]
      have HLE := Lib.hid hlen
      have hk2 : k + (0 + nb) ≤ 2000 := by have := HL0.out; omega
      clear hlen
      obtain ⟨hi, hz0, hz1, hz2⟩ := HI0.out
      have eA := HEA.out.gr HG.out
      have eB := HEB.out
      have hown := HOWN.out
      go_wp2_with (at_builtin; first | (refine wpList_append_any rfl _ _ 22 rfl w.heap.size 77 i0 (.agg #[.string ⟨#[]⟩, .int .i64 0, .int .i64 0, .string ⟨#[]⟩, .int .i64 0, .string ⟨#[]⟩, .slice none 0 0]) 7 96 Tryz.underlying22 hi hz0 hz1 hz2 rfl (by decide) _ k _ rfl hown qa 0 ca (fun h => by have := en_none eA h; have := HNA.out; omega) (enCs ([] : List EnR)) rfl (by rw [enCs_len, ← HNA.out]) (en_news eA) (one_enCs _) (by unfold maxLen; omega) (by omega) HG.out.size ?_; intro v1 W1 hown1 hgg1; have G1 := Lib.hid (hgg1 w HG.out (Nat.le_refl _)); have eB1 := eB.gr G1.out) | (refine wpList_append_any rfl _ _ 22 rfl w.heap.size 77 i0 (.agg #[.string ⟨#[]⟩, .int .i64 0, .int .i64 0, .string ⟨#[]⟩, .int .i64 0, .string ⟨#[]⟩, .slice none 0 0]) 7 96 Tryz.underlying22 hi hz0 hz1 hz2 rfl (by decide) _ (k + 0) _ rfl hown1 qb nb cb (fun h => by have := en_none eB1 h; have := HNB.out; omega) (enCs B') rfl (by rw [enCs_len, ← HNB.out]) (en_news eB1) (one_enCs _) (by unfold maxLen; omega) (by omega) G1.out.size ?_; intro v2 W2 hown2 hgg2))
      clear hgg1 hown HOWN
      have G2 := Lib.hid (hgg2 w G1.out (Nat.le_refl _))
      have hcs : enCs out ++ enCs ([] : List EnR) ++ enCs B' = enCs (mrgE a c) := by rw [← HALL.out]; simp [enCs]
      rw [hcs] at hown2
      obtain ⟨q3, c3, rfl, hc31, hc32⟩ := own_shape hown2
      have HEN : Hid (EnS W2 q3 (mrgE a c)) := EnS.of_own hown2 HLE.out (fun e he => by
        rcases mrgE_sub he with h | h
        · exact (HRA.out e h).gr G2.out
        · exact (HRC.out e h).gr G2.out)
      clear hown1 hown2 hgg2 hcs eA eB eB1 hi hz0 hz1 hz2
      go_wp2_with fail
      go_ret
      exact ⟨⟨q3, c3, by rw [HLE.out]; rfl, by rw [HLE.out]; exact ⟨hc31, hc32⟩, HEN.out⟩, G2.out⟩
    rcases Nat.eq_zero_or_pos nb with h3 | h3
    · obtain rfl : B' = [] := List.eq_nil_of_length_eq_zero (by have := HNB.out; omega)
      subst h3
      have hp1 : (0 : Int) < (na : Int) := by omega
      have HALL : Hid (out ++ A' ++ ([] : List EnR) = mrgE a c) := by
        rw [Hid, ← HMR.out, List.append_assoc]
        congr 1
        rw [mrgE_nil2, List.append_nil]
      have hlen : (mrgE a c).length = k + na + 0 := by rw [← HALL.out, List.length_append, List.length_append, ← HK.out, ← HNA.out, ← HNB.out]
      have HLE := Lib.hid hlen
      have hk2 : k + (na + 0) ≤ 2000 := by have := HL0.out; omega
      clear hlen
      obtain ⟨hi, hz0, hz1, hz2⟩ := HI0.out
      have eA := HEA.out.gr HG.out
      have eB := HEB.out
      have hown := HOWN.out
      go_wp2_with (at_builtin; first | (refine wpList_append_any rfl _ _ 22 rfl w.heap.size 77 i0 (.agg #[.string ⟨#[]⟩, .int .i64 0, .int .i64 0, .string ⟨#[]⟩, .int .i64 0, .string ⟨#[]⟩, .slice none 0 0]) 7 96 Tryz.underlying22 hi hz0 hz1 hz2 rfl (by decide) _ k _ rfl hown qa na ca (fun h => by have := en_none eA h; have := HNA.out; omega) (enCs A') rfl (by rw [enCs_len, ← HNA.out]) (en_news eA) (one_enCs _) (by unfold maxLen; omega) (by omega) HG.out.size ?_; intro v1 W1 hown1 hgg1; have G1 := Lib.hid (hgg1 w HG.out (Nat.le_refl _)); have eB1 := eB.gr G1.out) | (refine wpList_append_any rfl _ _ 22 rfl w.heap.size 77 i0 (.agg #[.string ⟨#[]⟩, .int .i64 0, .int .i64 0, .string ⟨#[]⟩, .int .i64 0, .string ⟨#[]⟩, .slice none 0 0]) 7 96 Tryz.underlying22 hi hz0 hz1 hz2 rfl (by decide) _ (k + na) _ rfl hown1 qb 0 cb (fun h => by have := en_none eB1 h; have := HNB.out; omega) (enCs ([] : List EnR)) rfl (by rw [enCs_len, ← HNB.out]) (en_news eB1) (one_enCs _) (by unfold maxLen; omega) (by omega) G1.out.size ?_; intro v2 W2 hown2 hgg2))
      clear hgg1 hown HOWN
      have G2 := Lib.hid (hgg2 w G1.out (Nat.le_refl _))
      have hcs : enCs out ++ enCs A' ++ enCs ([] : List EnR) = enCs (mrgE a c) := by rw [← HALL.out]; simp [enCs]
      rw [hcs] at hown2
      obtain ⟨q3, c3, rfl, hc31, hc32⟩ := own_shape hown2
      have HEN : Hid (EnS W2 q3 (mrgE a c)) := EnS.of_own hown2 HLE.out (fun e he => by
        rcases mrgE_sub he with h | h
        · exact (HRA.out e h).gr G2.out
        · exact (HRC.out e h).gr G2.out)
      clear hown1 hown2 hgg2 hcs eA eB eB1 hi hz0 hz1 hz2
      go_wp2_with fail
      go_ret
      exact ⟨⟨q3, c3, by rw [HLE.out]; rfl, by rw [HLE.out]; exact ⟨hc31, hc32⟩, HEN.out⟩, G2.out⟩
    obtain ⟨x, A2, rfl⟩ : ∃ x A2, A' = x :: A2 := by
      cases A' with
      | nil => have := HNA.out; simp at this; omega
      | cons x A2 => exact ⟨x, A2, rfl⟩
    obtain ⟨y, B2, rfl⟩ : ∃ y B2, B' = y :: B2 := by
      cases B' with
      | nil => have := HNB.out; simp at this; omega
      | cons y B2 => exact ⟨y, B2, rfl⟩
    obtain ⟨na, rfl⟩ : ∃ a, na = a + 1 := ⟨na - 1, by omega⟩
    obtain ⟨nb, rfl⟩ : ∃ a, nb = a + 1 := ⟨nb - 1, by omega⟩
    obtain ⟨b, off, rfl, hcx⟩ := HEA.out.out (by simp)
    obtain ⟨b2, o2, rfl, hcy⟩ := HEB.out.out (by simp)
    have hx := hcx 0 x rfl
    have hy := hcy 0 y rfl
    rw [Nat.zero_mul, Nat.add_zero] at hx hy
    have ATX := Lib.hid hx
    have ATY := Lib.hid hy
    have HBM := Lib.hid (fun U => HBM0.out x y U)
    unfold enV at HBM
    have hp1 : (0 : Int) < (na : Int) + 1 := by omega
    have hp2 : (0 : Int) < (nb : Int) + 1 := by omega
    have hlo1 : ¬ ((na : Int) + 1 < 1) := by omega
    have hlo2 : ¬ ((nb : Int) + 1 < 1) := by omega
    have gd := (Gr.refl wr).drew
    have g := HG.out.trans gd
    have gQ := gd
    obtain ⟨x0, x1, x2, x3, x4, x5, x6, _⟩ := hx.gr g
    obtain ⟨y0, y1, y2, y3, y4, y5, y6, _⟩ := hy.gr g
    obtain ⟨qq, hqq⟩ : ∃ qq, (if ca = 1 then some (⟨b, off, none⟩ : Addr) else some ⟨b, off + 7, none⟩) = some qq := by
      by_cases e : ca = 1
      · exact ⟨_, by rw [if_pos e]⟩
      · exact ⟨_, by rw [if_neg e]⟩
    obtain ⟨qr, hqr⟩ : ∃ qq, (if cb = 1 then some (⟨b2, o2, none⟩ : Addr) else some ⟨b2, o2 + 7, none⟩) = some qq := by
      by_cases e : cb = 1
      · exact ⟨_, by rw [if_pos e]⟩
      · exact ⟨_, by rw [if_neg e]⟩
    have HTA : Hid (EnS w (some qq) A2) := by rw [Hid, ← hqq]; exact en_tail HEA.out (by have := HNA.out; simp at this; omega)
    have HTB : Hid (EnS w (some qr) B2) := by rw [Hid, ← hqr]; exact en_tail HEB.out (by have := HNB.out; simp at this; omega)
    have HQA := Lib.hid hqq
    have HQB := Lib.hid hqr
    clear gd hcx hcy hx hy hqq hqr
    go_wp2_with fail
    refine wp_region_held_drew (S := (fun w' => w'.cell? ⟨b, off, none⟩ = some (.string x.de) ∧ w'.cell? ⟨b, off + 1, none⟩ = some (.int .i64 x.nu) ∧ w'.cell? ⟨b, off + 2, none⟩ = some (.int .i64 x.ck) ∧ w'.cell? ⟨b, off + 3, none⟩ = some (.string x.ro) ∧ w'.cell? ⟨b, off + 4, none⟩ = some (.int .i64 x.va) ∧ w'.cell? ⟨b, off + 5, none⟩ = some (.string x.st) ∧ w'.cell? ⟨b, off + 6, none⟩ = some (.slice x.p x.n x.cap) ∧ w'.cell? ⟨b2, o2, none⟩ = some (.string y.de) ∧ w'.cell? ⟨b2, o2 + 1, none⟩ = some (.int .i64 y.nu) ∧ w'.cell? ⟨b2, o2 + 2, none⟩ = some (.int .i64 y.ck) ∧ w'.cell? ⟨b2, o2 + 3, none⟩ = some (.string y.ro) ∧ w'.cell? ⟨b2, o2 + 4, none⟩ = some (.int .i64 y.va) ∧ w'.cell? ⟨b2, o2 + 5, none⟩ = some (.string y.st) ∧ w'.cell? ⟨b2, o2 + 6, none⟩ = some (.slice y.p y.n y.cap))) (by kernel_rfl) ⟨x0, x1, x2, x3, x4, x5, x6, y0, y1, y2, y3, y4, y5, y6⟩ (fun hHeld => ?_)
    generalize wr.drew = V at *
    refine wpAnyH_take (i := 0) (v := (.func (.func 97) #[] #[])) (op_at rfl) (by kernel_rfl) (by kernel_rfl) (by kernel_rfl) (fun _ _ _ h => h) (Or.inl ⟨rfl, fun w hSw => ?_⟩) (by assumption) ?_
    · (try dsimp only at hSw); go_simp; try with_reducible rfl
    (try simp only [Act.put, tz0, tz1, tz2])
    refine wpAnyH_take (i := 1) (v := (.slice (some ⟨b, off, none⟩) (na + 1) ca)) (op_at rfl) (by kernel_rfl) (by kernel_rfl) (by kernel_rfl) (fun _ _ _ h => h) (Or.inl ⟨rfl, fun w hSw => ?_⟩) (by assumption) ?_
    · (try dsimp only at hSw); go_simp; try with_reducible rfl
    (try simp only [Act.put, tz0, tz1, tz2])
    refine wpAnyH_take (i := 2) (v := (.pointer (some ⟨b, off, none⟩))) (op_at rfl) (by kernel_rfl) (by kernel_rfl) (by kernel_rfl) (fun _ _ _ h => h) (Or.inl ⟨rfl, fun w hSw => ?_⟩) (by assumption) ?_
    · (try dsimp only at hSw); go_simp; try with_reducible rfl
    (try simp only [Act.put, tz0, tz1, tz2])
    refine wpAnyH_take (i := 3) (v := (.agg #[.string x.de, .int .i64 x.nu, .int .i64 x.ck, .string x.ro, .int .i64 x.va, .string x.st, .slice x.p x.n x.cap])) (op_at rfl) (by kernel_rfl) (by kernel_rfl) (by kernel_rfl) (fun _ _ _ h => h) (Or.inl ⟨rfl, fun w hSw => ?_⟩) (by assumption) ?_
    · (try dsimp only at hSw); go_simp; try with_reducible rfl
    (try simp only [Act.put, tz0, tz1, tz2])
    refine wpAnyH_take (i := 4) (v := (.slice (some ⟨b2, o2, none⟩) (nb + 1) cb)) (op_at rfl) (by kernel_rfl) (by kernel_rfl) (by kernel_rfl) (fun _ _ _ h => h) (Or.inl ⟨rfl, fun w hSw => ?_⟩) (by assumption) ?_
    · (try dsimp only at hSw); go_simp; try with_reducible rfl
    (try simp only [Act.put, tz0, tz1, tz2])
    refine wpAnyH_take (i := 5) (v := (.pointer (some ⟨b2, o2, none⟩))) (op_at rfl) (by kernel_rfl) (by kernel_rfl) (by kernel_rfl) (fun _ _ _ h => h) (Or.inl ⟨rfl, fun w hSw => ?_⟩) (by assumption) ?_
    · (try dsimp only at hSw); go_simp; try with_reducible rfl
    (try simp only [Act.put, tz0, tz1, tz2])
    refine wpAnyH_take (i := 6) (v := (.agg #[.string y.de, .int .i64 y.nu, .int .i64 y.ck, .string y.ro, .int .i64 y.va, .string y.st, .slice y.p y.n y.cap])) (op_at rfl) (by kernel_rfl) (by kernel_rfl) (by kernel_rfl) (fun _ _ _ h => h) (Or.inl ⟨rfl, fun w hSw => ?_⟩) (by assumption) ?_
    · (try dsimp only at hSw); go_simp; try with_reducible rfl
    (try simp only [Act.put, tz0, tz1, tz2])
    refine wpAnyH_ready (rs := [7]) (by kernel_rfl) (by simp) (AllReadyH.cons (op_at rfl) (fun K hK => ?_) AllReadyH.nil)
    go_simp
    (refine (HBM.out _).mono ?_; rintro e W4 ⟨rfl, hg⟩; replace x0 := hg.cell x0; replace x1 := hg.cell x1; replace x2 := hg.cell x2; replace x3 := hg.cell x3; replace x4 := hg.cell x4; replace x5 := hg.cell x5; replace x6 := hg.cell x6; replace y0 := hg.cell y0; replace y1 := hg.cell y1; replace y2 := hg.cell y2; replace y3 := hg.cell y3; replace y4 := hg.cell y4; replace y5 := hg.cell y5; replace y6 := hg.cell y6; replace g := g.trans hg; replace gQ := gQ.trans hg; clear hg)
    go_wp2_with fail
    refine hK.out _ _ ⟨x0, x1, x2, x3, x4, x5, x6, y0, y1, y2, y3, y4, y5, y6⟩ (fun hHeld => ?_)
    clear hK K
    (try simp only [Act.put, tz0, tz1, tz2])
    refine wpAnyH_take (i := 8) (v := (.int .i64 (mkO x y))) (op_at rfl) (by kernel_rfl) (by kernel_rfl) (by kernel_rfl) (fun _ _ _ h => h) (Or.inl ⟨rfl, fun w hSw => ?_⟩) (by assumption) ?_
    · (try dsimp only at hSw); go_simp; try with_reducible rfl
    (try simp only [Act.put, tz0, tz1, tz2])
    refine wpAnyH_done (by kernel_rfl) ?_ _
    have HNA2 : Hid (na = A2.length) := by have := HNA.out; simp at this; rw [Hid]; omega
    have HNB2 : Hid (nb = B2.length) := by have := HNB.out; simp at this; rw [Hid]; omega
    rcases Int.lt_trichotomy (mkO x y) 0 with hm | hm | hm
    · have HM2 : Hid (out ++ [x] ++ mrgE A2 (y :: B2) = mrgE a c) := by rw [Hid, ← HMR.out, mrgE_lt hm]; simp
      generalize mkO x y = z at *
      have hz1 : z ≤ 0 := by omega
      clear HBM HBM0
      obtain ⟨ex0, ex1, ex2, ex3, ex4, ex5, ex6, _⟩ := ATX.out
      have hqq := HQA.out
      have gd := (Gr.refl W4).drew
      have hownV2 := own_kept (own_kept HOWN.out gQ) gd
      have G1d := Lib.hid (g.trans gd)
      replace x0 := gd.cell x0
      replace x1 := gd.cell x1
      replace x2 := gd.cell x2
      replace x3 := gd.cell x3
      replace x4 := gd.cell x4
      replace x5 := gd.cell x5
      replace x6 := gd.cell x6
      obtain ⟨hi, hz0, hz1, hz2⟩ := HI0.out
      clear gd y0 y1 y2 y3 y4 y5 y6 g gQ
      go_wp2_with fail
      refine wp_region_held_drew (S := (fun w' => w'.cell? ⟨b, off, none⟩ = some (.string x.de) ∧ w'.cell? ⟨b, off + 1, none⟩ = some (.int .i64 x.nu) ∧ w'.cell? ⟨b, off + 2, none⟩ = some (.int .i64 x.ck) ∧ w'.cell? ⟨b, off + 3, none⟩ = some (.string x.ro) ∧ w'.cell? ⟨b, off + 4, none⟩ = some (.int .i64 x.va) ∧ w'.cell? ⟨b, off + 5, none⟩ = some (.string x.st) ∧ w'.cell? ⟨b, off + 6, none⟩ = some (.slice x.p x.n x.cap))) (by kernel_rfl) ⟨x0, x1, x2, x3, x4, x5, x6⟩ (fun hHeld => ?_)
      generalize W4.drew = V2 at *
      refine wpAnyH_take (i := 0) (v := u7) (op_at rfl) (by kernel_rfl) (by kernel_rfl) (by kernel_rfl) (fun _ _ _ h => h) (Or.inl ⟨rfl, fun w hSw => ?_⟩) (by assumption) ?_
      · (try dsimp only at hSw); go_simp; try with_reducible rfl
      (try simp only [Act.put, tz0, tz1, tz2])
      refine wpAnyH_take (i := 1) (v := (.slice (some ⟨b, off, none⟩) (na + 1) ca)) (op_at rfl) (by kernel_rfl) (by kernel_rfl) (by kernel_rfl) (fun _ _ _ h => h) (Or.inl ⟨rfl, fun w hSw => ?_⟩) (by assumption) ?_
      · (try dsimp only at hSw); go_simp; try with_reducible rfl
      (try simp only [Act.put, tz0, tz1, tz2])
      refine wpAnyH_take (i := 2) (v := (.pointer (some ⟨b, off, none⟩))) (op_at rfl) (by kernel_rfl) (by kernel_rfl) (by kernel_rfl) (fun _ _ _ h => h) (Or.inl ⟨rfl, fun w hSw => ?_⟩) (by assumption) ?_
      · (try dsimp only at hSw); go_simp; try with_reducible rfl
      (try simp only [Act.put, tz0, tz1, tz2])
      refine wpAnyH_take (i := 3) (v := (.agg #[.string x.de, .int .i64 x.nu, .int .i64 x.ck, .string x.ro, .int .i64 x.va, .string x.st, .slice x.p x.n x.cap])) (op_at rfl) (by kernel_rfl) (by kernel_rfl) (by kernel_rfl) (fun _ _ _ h => h) (Or.inl ⟨rfl, fun w hSw => ?_⟩) (by assumption) ?_
      · (try dsimp only at hSw); go_simp; try with_reducible rfl
      (try simp only [Act.put, tz0, tz1, tz2])
      refine wpAnyH_take (i := 6) (v := (.slice (some ⟨b, off, none⟩) (na + 1) ca)) (op_at rfl) (by kernel_rfl) (by kernel_rfl) (by kernel_rfl) (fun _ _ _ h => h) (Or.inl ⟨rfl, fun w hSw => ?_⟩) (by assumption) ?_
      · (try dsimp only at hSw); go_simp; try with_reducible rfl
      (try simp only [Act.put, tz0, tz1, tz2])
      refine wpAnyH_take (i := 7) (v := (.slice (some qq) na (ca - 1))) (op_at rfl) (by kernel_rfl) (by kernel_rfl) (by kernel_rfl) (fun _ _ _ h => h) (Or.inl ⟨rfl, fun w hSw => ?_⟩) (by assumption) ?_
      · (try dsimp only at hSw); go_simp; try with_reducible rfl
      (try simp only [Act.put, tz0, tz1, tz2])
      refine wpAnyH_ready (rs := [4]) (by kernel_rfl) (by simp) (AllReadyH.cons (op_at rfl) (fun K hK => ?_) AllReadyH.nil)
      go_simp
      have gX := (Gr.refl V2).alloc (.cells #[.string x.de, .int .i64 x.nu, .int .i64 x.ck, .string x.ro, .int .i64 x.va, .string x.st, .slice x.p x.n x.cap] 77)
      have hXc := cell_seven V2 (.string x.de) (.int .i64 x.nu) (.int .i64 x.ck) (.string x.ro) (.int .i64 x.va) (.string x.st) (.slice x.p x.n x.cap) 77
      have hownV3 := own_kept hownV2 gX
      have G3 := Lib.hid (G1d.out.trans gX)
      replace x0 := gX.cell x0
      replace x1 := gX.cell x1
      replace x2 := gX.cell x2
      replace x3 := gX.cell x3
      replace x4 := gX.cell x4
      replace x5 := gX.cell x5
      replace x6 := gX.cell x6
      refine hK.out _ _ ⟨x0, x1, x2, x3, x4, x5, x6⟩ (fun hHeld => ?_)
      clear gX hownV2
      clear hK K
      (try simp only [Act.put, tz0, tz1, tz2])
      generalize V2.alloc (.cells #[.string x.de, .int .i64 x.nu, .int .i64 x.ck, .string x.ro, .int .i64 x.va, .string x.st, .slice x.p x.n x.cap] 77) = V3 at *
      refine wpAnyH_ready (rs := [5]) (by kernel_rfl) (by simp) (AllReadyH.cons (op_at rfl) (fun K hK => ?_) AllReadyH.nil)
      rw [if_pos (show Region.wanted _ _ = true from rfl)]
      refine step_append_any _ _ 22 rfl w.heap.size 77 i0 (.agg #[.string ⟨#[]⟩, .int .i64 0, .int .i64 0, .string ⟨#[]⟩, .int .i64 0, .string ⟨#[]⟩, .slice none 0 0]) 7 96 Tryz.underlying22 hi hz0 hz1 hz2 rfl (by decide) u7 k _ rfl hownV3 (some ⟨V2.heap.size, 0, none⟩) 1 1 (by intro h; cases h) [.string x.de, .int .i64 x.nu, .int .i64 x.ck, .string x.ro, .int .i64 x.va, .string x.st, .slice x.p x.n x.cap] rfl rfl (fun ad e j u hu => by cases e; exact hXc j u hu) (one_seven _ _ _ _ _ _ _ _ _) (by unfold maxLen; omega) (by omega) G3.out.size (fun v2 W5 hown2 hgg2 => ?_)
      have G2 := Lib.hid (hgg2 w G3.out (Nat.le_refl _))
      have hgw := G2.out
      replace x0 := hgw.cell ex0
      replace x1 := hgw.cell ex1
      replace x2 := hgw.cell ex2
      replace x3 := hgw.cell ex3
      replace x4 := hgw.cell ex4
      replace x5 := hgw.cell ex5
      replace x6 := hgw.cell ex6
      refine hK.out _ _ ⟨x0, x1, x2, x3, x4, x5, x6⟩ (fun hHeld => ?_)
      clear hownV3 hgg2 hXc
      clear hK K
      (try simp only [Act.put, tz0, tz1, tz2])
      refine wpAnyH_take (i := 8) (v := v2) (op_at rfl) (by kernel_rfl) (by kernel_rfl) (by kernel_rfl) (fun _ _ _ h => h) (Or.inl ⟨rfl, fun w hSw => ?_⟩) (by assumption) ?_
      · (try dsimp only at hSw); go_simp; try with_reducible rfl
      (try simp only [Act.put, tz0, tz1, tz2])
      refine wpAnyH_take (i := 9) (v := (.slice (some qq) na (ca - 1))) (op_at rfl) (by kernel_rfl) (by kernel_rfl) (by kernel_rfl) (fun _ _ _ h => h) (Or.inl ⟨rfl, fun w hSw => ?_⟩) (by assumption) ?_
      · (try dsimp only at hSw); go_simp; try with_reducible rfl
      (try simp only [Act.put, tz0, tz1, tz2])
      refine wpAnyH_done (by kernel_rfl) ?_ _
      have HEO : Hid (enCs out ++ [.string x.de, .int .i64 x.nu, .int .i64 x.ck, .string x.ro, .int .i64 x.va, .string x.st, .slice x.p x.n x.cap] = enCs (out ++ [x])) := by rw [Hid, enCs_add]; rfl
      rw [HEO.out] at hown2
      have HO2 := Lib.hid hown2
      clear hown2 hgw ex0 ex1 ex2 ex3 ex4 ex5 ex6 x0 x1 x2 x3 x4 x5 x6 hi hz0 hz1 hz2 hHeld
      go_wp2_with fail
      go_roundg (na + (nb + 1))
      case measure => omega
      case rel => exact ⟨A2, y :: B2, out ++ [x], some qq, some ⟨b2, o2, none⟩, na, nb + 1, ca - 1, cb, k + 1, rfl, rfl, rfl, by omega, by omega, by omega, by omega, HNA2, HNB, by rw [Hid, List.length_append, ← HK.out]; rfl, HTA, HEB, HM2, HO2, G2⟩
    · have HM2 : Hid (out ++ [x] ++ mrgE A2 B2 = mrgE a c) := by rw [Hid, ← HMR.out, mrgE_eq hm]; simp
      rw [hm]
      clear HBM HBM0 hm
      obtain ⟨ex0, ex1, ex2, ex3, ex4, ex5, ex6, _⟩ := ATX.out
      have hqq := HQA.out
      have gd := (Gr.refl W4).drew
      have hownV2 := own_kept (own_kept HOWN.out gQ) gd
      have G1d := Lib.hid (g.trans gd)
      replace x0 := gd.cell x0
      replace x1 := gd.cell x1
      replace x2 := gd.cell x2
      replace x3 := gd.cell x3
      replace x4 := gd.cell x4
      replace x5 := gd.cell x5
      replace x6 := gd.cell x6
      obtain ⟨hi, hz0, hz1, hz2⟩ := HI0.out
      clear gd y0 y1 y2 y3 y4 y5 y6 g gQ
      go_wp2_with fail
      refine wp_region_held_drew (S := (fun w' => w'.cell? ⟨b, off, none⟩ = some (.string x.de) ∧ w'.cell? ⟨b, off + 1, none⟩ = some (.int .i64 x.nu) ∧ w'.cell? ⟨b, off + 2, none⟩ = some (.int .i64 x.ck) ∧ w'.cell? ⟨b, off + 3, none⟩ = some (.string x.ro) ∧ w'.cell? ⟨b, off + 4, none⟩ = some (.int .i64 x.va) ∧ w'.cell? ⟨b, off + 5, none⟩ = some (.string x.st) ∧ w'.cell? ⟨b, off + 6, none⟩ = some (.slice x.p x.n x.cap))) (by kernel_rfl) ⟨x0, x1, x2, x3, x4, x5, x6⟩ (fun hHeld => ?_)
      generalize W4.drew = V2 at *
      refine wpAnyH_take (i := 0) (v := u7) (op_at rfl) (by kernel_rfl) (by kernel_rfl) (by kernel_rfl) (fun _ _ _ h => h) (Or.inl ⟨rfl, fun w hSw => ?_⟩) (by assumption) ?_
      · (try dsimp only at hSw); go_simp; try with_reducible rfl
      (try simp only [Act.put, tz0, tz1, tz2])
      refine wpAnyH_take (i := 1) (v := (.slice (some ⟨b, off, none⟩) (na + 1) ca)) (op_at rfl) (by kernel_rfl) (by kernel_rfl) (by kernel_rfl) (fun _ _ _ h => h) (Or.inl ⟨rfl, fun w hSw => ?_⟩) (by assumption) ?_
      · (try dsimp only at hSw); go_simp; try with_reducible rfl
      (try simp only [Act.put, tz0, tz1, tz2])
      refine wpAnyH_take (i := 2) (v := (.pointer (some ⟨b, off, none⟩))) (op_at rfl) (by kernel_rfl) (by kernel_rfl) (by kernel_rfl) (fun _ _ _ h => h) (Or.inl ⟨rfl, fun w hSw => ?_⟩) (by assumption) ?_
      · (try dsimp only at hSw); go_simp; try with_reducible rfl
      (try simp only [Act.put, tz0, tz1, tz2])
      refine wpAnyH_take (i := 3) (v := (.agg #[.string x.de, .int .i64 x.nu, .int .i64 x.ck, .string x.ro, .int .i64 x.va, .string x.st, .slice x.p x.n x.cap])) (op_at rfl) (by kernel_rfl) (by kernel_rfl) (by kernel_rfl) (fun _ _ _ h => h) (Or.inl ⟨rfl, fun w hSw => ?_⟩) (by assumption) ?_
      · (try dsimp only at hSw); go_simp; try with_reducible rfl
      (try simp only [Act.put, tz0, tz1, tz2])
      refine wpAnyH_take (i := 6) (v := (.slice (some ⟨b, off, none⟩) (na + 1) ca)) (op_at rfl) (by kernel_rfl) (by kernel_rfl) (by kernel_rfl) (fun _ _ _ h => h) (Or.inl ⟨rfl, fun w hSw => ?_⟩) (by assumption) ?_
      · (try dsimp only at hSw); go_simp; try with_reducible rfl
      (try simp only [Act.put, tz0, tz1, tz2])
      refine wpAnyH_take (i := 7) (v := (.slice (some qq) na (ca - 1))) (op_at rfl) (by kernel_rfl) (by kernel_rfl) (by kernel_rfl) (fun _ _ _ h => h) (Or.inl ⟨rfl, fun w hSw => ?_⟩) (by assumption) ?_
      · (try dsimp only at hSw); go_simp; try with_reducible rfl
      (try simp only [Act.put, tz0, tz1, tz2])
      refine wpAnyH_ready (rs := [4]) (by kernel_rfl) (by simp) (AllReadyH.cons (op_at rfl) (fun K hK => ?_) AllReadyH.nil)
      go_simp
      have gX := (Gr.refl V2).alloc (.cells #[.string x.de, .int .i64 x.nu, .int .i64 x.ck, .string x.ro, .int .i64 x.va, .string x.st, .slice x.p x.n x.cap] 77)
      have hXc := cell_seven V2 (.string x.de) (.int .i64 x.nu) (.int .i64 x.ck) (.string x.ro) (.int .i64 x.va) (.string x.st) (.slice x.p x.n x.cap) 77
      have hownV3 := own_kept hownV2 gX
      have G3 := Lib.hid (G1d.out.trans gX)
      replace x0 := gX.cell x0
      replace x1 := gX.cell x1
      replace x2 := gX.cell x2
      replace x3 := gX.cell x3
      replace x4 := gX.cell x4
      replace x5 := gX.cell x5
      replace x6 := gX.cell x6
      refine hK.out _ _ ⟨x0, x1, x2, x3, x4, x5, x6⟩ (fun hHeld => ?_)
      clear gX hownV2
      clear hK K
      (try simp only [Act.put, tz0, tz1, tz2])
      generalize V2.alloc (.cells #[.string x.de, .int .i64 x.nu, .int .i64 x.ck, .string x.ro, .int .i64 x.va, .string x.st, .slice x.p x.n x.cap] 77) = V3 at *
      refine wpAnyH_ready (rs := [5]) (by kernel_rfl) (by simp) (AllReadyH.cons (op_at rfl) (fun K hK => ?_) AllReadyH.nil)
      rw [if_pos (show Region.wanted _ _ = true from rfl)]
      refine step_append_any _ _ 22 rfl w.heap.size 77 i0 (.agg #[.string ⟨#[]⟩, .int .i64 0, .int .i64 0, .string ⟨#[]⟩, .int .i64 0, .string ⟨#[]⟩, .slice none 0 0]) 7 96 Tryz.underlying22 hi hz0 hz1 hz2 rfl (by decide) u7 k _ rfl hownV3 (some ⟨V2.heap.size, 0, none⟩) 1 1 (by intro h; cases h) [.string x.de, .int .i64 x.nu, .int .i64 x.ck, .string x.ro, .int .i64 x.va, .string x.st, .slice x.p x.n x.cap] rfl rfl (fun ad e j u hu => by cases e; exact hXc j u hu) (one_seven _ _ _ _ _ _ _ _ _) (by unfold maxLen; omega) (by omega) G3.out.size (fun v2 W5 hown2 hgg2 => ?_)
      have G2 := Lib.hid (hgg2 w G3.out (Nat.le_refl _))
      have hgw := G2.out
      replace x0 := hgw.cell ex0
      replace x1 := hgw.cell ex1
      replace x2 := hgw.cell ex2
      replace x3 := hgw.cell ex3
      replace x4 := hgw.cell ex4
      replace x5 := hgw.cell ex5
      replace x6 := hgw.cell ex6
      refine hK.out _ _ ⟨x0, x1, x2, x3, x4, x5, x6⟩ (fun hHeld => ?_)
      clear hownV3 hgg2 hXc
      clear hK K
      (try simp only [Act.put, tz0, tz1, tz2])
      refine wpAnyH_take (i := 8) (v := v2) (op_at rfl) (by kernel_rfl) (by kernel_rfl) (by kernel_rfl) (fun _ _ _ h => h) (Or.inl ⟨rfl, fun w hSw => ?_⟩) (by assumption) ?_
      · (try dsimp only at hSw); go_simp; try with_reducible rfl
      (try simp only [Act.put, tz0, tz1, tz2])
      refine wpAnyH_take (i := 9) (v := (.slice (some qq) na (ca - 1))) (op_at rfl) (by kernel_rfl) (by kernel_rfl) (by kernel_rfl) (fun _ _ _ h => h) (Or.inl ⟨rfl, fun w hSw => ?_⟩) (by assumption) ?_
      · (try dsimp only at hSw); go_simp; try with_reducible rfl
      (try simp only [Act.put, tz0, tz1, tz2])
      refine wpAnyH_done (by kernel_rfl) ?_ _
      have HEO : Hid (enCs out ++ [.string x.de, .int .i64 x.nu, .int .i64 x.ck, .string x.ro, .int .i64 x.va, .string x.st, .slice x.p x.n x.cap] = enCs (out ++ [x])) := by rw [Hid, enCs_add]; rfl
      rw [HEO.out] at hown2
      have HO2 := Lib.hid hown2
      clear hown2 hgw ex0 ex1 ex2 ex3 ex4 ex5 ex6 x0 x1 x2 x3 x4 x5 x6 hi hz0 hz1 hz2 hHeld
      have HTS : Hid ((cb = 1 → EnS w (some ⟨b2, o2, none⟩) B2) ∧ (¬ cb = 1 → EnS w (some ⟨b2, o2 + 7, none⟩) B2)) := by
        have h0 := HTB.out
        rw [← HQB.out] at h0
        exact ⟨fun h => by rwa [if_pos h] at h0, fun h => by rwa [if_neg h] at h0⟩
      clear HQB HTB
      go_wp2_with fail
      · go_roundg (na + nb)
        case measure => omega
        case rel => exact ⟨A2, B2, out ++ [x], some qq, some ⟨b2, o2, none⟩, na, nb, ca - 1, 0, k + 1, rfl, rfl, rfl, by omega, by omega, by omega, by omega, HNA2, HNB2, by rw [Hid, List.length_append, ← HK.out]; rfl, HTA, HTS.out.1 (by omega), HM2, HO2, G2⟩
      · go_roundg (na + nb)
        case measure => omega
        case rel => exact ⟨A2, B2, out ++ [x], some qq, some ⟨b2, o2 + 7, none⟩, na, nb, ca - 1, cb - 1, k + 1, rfl, rfl, rfl, by omega, by omega, by omega, by omega, HNA2, HNB2, by rw [Hid, List.length_append, ← HK.out]; rfl, HTA, HTS.out.2 (by omega), HM2, HO2, G2⟩
    · have HM2 : Hid (out ++ [y] ++ mrgE (x :: A2) B2 = mrgE a c) := by rw [Hid, ← HMR.out, mrgE_gt hm]; simp
      generalize mkO x y = z at *
      have hz1 : 0 ≤ z := by omega
      clear HBM HBM0
      have hownV := own_kept HOWN.out gQ
      have gA := (Gr.refl W4).alloc (.cells #[.string y.de, .int .i64 y.nu, .int .i64 y.ck, .string y.ro, .int .i64 y.va, .string y.st, .slice y.p y.n y.cap] 77)
      have hownA := own_kept hownV gA
      have HGA := Lib.hid (g.trans gA)
      have hszA := HGA.out.size
      obtain ⟨hi, hz0, hz1', hz2⟩ := HI0.out
      clear x0 x1 x2 x3 x4 x5 x6 hHeld gA
      go_upto_region 7 with (at_builtin; refine wpList_append_own _ rfl _ _ 22 rfl w.heap.size 77 i0 (.agg #[.string ⟨#[]⟩, .int .i64 0, .int .i64 0, .string ⟨#[]⟩, .int .i64 0, .string ⟨#[]⟩, .slice none 0 0]) 7 96 Tryz.underlying22 hi hz0 hz1' hz2 rfl (by decide) _ _ _ rfl (hownA) ⟨W4.heap.size, 0, none⟩ 1 1 [.string y.de, .int .i64 y.nu, .int .i64 y.ck, .string y.ro, .int .i64 y.va, .string y.st, .slice y.p y.n y.cap] rfl rfl (cell_seven _ _ _ _ _ _ _ _ _) (one_seven _ _ _ _ _ _ _ _ _) (by unfold maxLen; omega) (by omega) hszA ?_; intro v1 w1 hown1 hgrow1 hnil)
      have HGR : Hid (Gr w w1) := Below.grown HGA.out hgrow1 hszA (fun q hq => (own_in hownA hq).2)
      have HEO : Hid (enCs out ++ [.string y.de, .int .i64 y.nu, .int .i64 y.ck, .string y.ro, .int .i64 y.va, .string y.st, .slice y.p y.n y.cap] = enCs (out ++ [y])) := by rw [Hid, enCs_add]; rfl
      rw [HEO.out] at hown1
      have HO2 := Lib.hid hown1
      clear hown1 hgrow1 hownV hownA hnil hi hz0 hz1' hz2 y0 y1 y2 y3 y4 y5 y6
      have HTS : Hid ((cb = 1 → EnS w (some ⟨b2, o2, none⟩) B2) ∧ (¬ cb = 1 → EnS w (some ⟨b2, o2 + 7, none⟩) B2)) := by
        have h0 := HTB.out
        rw [← HQB.out] at h0
        exact ⟨fun h => by rwa [if_pos h] at h0, fun h => by rwa [if_neg h] at h0⟩
      clear HQB HTB
      go_wp2_with fail
      · go_roundg (na + 1 + nb)
        case measure => omega
        case rel => exact ⟨x :: A2, B2, out ++ [y], some ⟨b, off, none⟩, some ⟨b2, o2, none⟩, na + 1, nb, ca, 0, k + 1, rfl, rfl, rfl, by omega, by omega, by omega, by omega, HNA, HNB2, by rw [Hid, List.length_append, ← HK.out]; rfl, HEA, HTS.out.1 (by omega), HM2, HO2, HGR⟩
      · go_roundg (na + 1 + nb)
        case measure => omega
        case rel => exact ⟨x :: A2, B2, out ++ [y], some ⟨b, off, none⟩, some ⟨b2, o2 + 7, none⟩, na + 1, nb, ca, cb - 1, k + 1, rfl, rfl, rfl, by omega, by omega, by omega, by omega, HNA, HNB2, by rw [Hid, List.length_append, ← HK.out]; rfl, HEA, HTS.out.2 (by omega), HM2, HO2, HGR⟩
end Go.Proofs.YtnihclhhbegjhaaGreatDoor
