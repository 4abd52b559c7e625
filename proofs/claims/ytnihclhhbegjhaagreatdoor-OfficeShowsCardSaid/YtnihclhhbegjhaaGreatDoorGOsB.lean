/- Archives (chapter 10): append of what may be empty, onto a row of the call's own. -/
import Derived.Test.YtnihclhhbegjhaaGreatDoorGOvH
import Derived.Shelf.SlSortCmp.InsertionK
namespace Go.Proofs.YtnihclhhbegjhaaGreatDoor
open Go.RowKit Go.Lib
set_option linter.unusedSimpArgs false
set_option linter.unusedVariables false
theorem run_append_any {P : Program} {w : World} (base : Nat) (t ty e : TypeId) (i : TypeInfo) (z : Value) (size bytes : Nat) (ht : P.underlying t = some (.slice e)) (hi : P.info? e = some i) (hz : i.zero = some z)
    (hsize : i.size = size) (hby : i.bytes = bytes) (hzs : z.cells.size = size) (hsz : 0 < size)
    (v : Value) (n : Nat) (xs : List Value) (hown : w.ownsRow base e size v n xs)
    (q : Option Addr) (m c : Nat) (hq : q = none → m = 0) (news : List Value) (hl : news.length = m * size) (hnews : ∀ ad, q = some ad → ∀ j u, news[j]? = some u → w.cell? (ad.add j) = some u) (h1 : ∀ u ∈ news, u.oneCell' = true)
    (h63 : n + m ≤ maxLen) (hbytes : (n + m) * bytes ≤ 140737488355328) (hbase : base ≤ w.heap.size) :
    ∃ v' w', (Builtin.append_ #[t, t] ty #[v, .slice q m c]).run P w = .ok v' w' ∧ w'.ownsRow base e size v' (n + m) (xs ++ news) ∧ ∀ w0 : World, Gr w0 w → w0.heap.size ≤ base → Gr w0 w' := by
  cases q with
  | none =>
    obtain rfl := hq rfl
    have hn0 : news = [] := List.eq_nil_of_length_eq_zero (by simpa using hl)
    subst hn0
    refine ⟨v, w, ?_, by simpa using hown, fun w0 g _ => g⟩
    subst hsize
    rcases hown.2 with ⟨rfl, rfl⟩ | ⟨g, cap, cur, rfl, _, _, hnc, _⟩
    · simp [Builtin.append_, run_underlying ht, sizeOf, typeInfo, hi, Builtin.lenOf, Builtin.firstCells]
    · simp [Builtin.append_, run_underlying ht, sizeOf, typeInfo, hi, Builtin.lenOf, Builtin.firstCells, hnc, storeCells]
  | some ad =>
    obtain ⟨v', w', hr, h2, h3, _, _⟩ := run_append_own_at (P := P) w base t ty e i z size bytes ht hi hz hsize hby hzs hsz v n xs hown ad m c news hl (hnews ad rfl) h1 h63 hbytes hbase
    exact ⟨v', w', hr, h2, fun w0 g hb => Below.grown g h3 g.size (fun j hj => Nat.le_trans hb (hown.lt j hj).1)⟩
/-- the same, as an operation of a drawn region -/
theorem step_append_any {P : Program} {w : World} {o : Oper} {a : Act} {K : Act → World → Prop} {Q : Exit → Act → World → Prop} (s x : Operand) (t : TypeId) (ho : o.op = .call { callee := .builtin .append, args := #[s, x], argTypes := #[t, t] })
    (base : Nat) (e : TypeId) (i : TypeInfo) (z : Value) (size bytes : Nat) (ht : P.underlying t = some (.slice e)) (hi : P.info? e = some i) (hz : i.zero = some z)
    (hsize : i.size = size) (hby : i.bytes = bytes) (hzs : z.cells.size = size) (hsz : 0 < size)
    (v : Value) (n : Nat) (xs : List Value) (hs : a.eval s = v) (hown : w.ownsRow base e size v n xs)
    (q : Option Addr) (m c : Nat) (hq : q = none → m = 0) (news : List Value) (hx : a.eval x = .slice q m c) (hl : news.length = m * size) (hnews : ∀ ad, q = some ad → ∀ j u, news[j]? = some u → w.cell? (ad.add j) = some u) (h1 : ∀ u ∈ news, u.oneCell' = true)
    (h63 : n + m ≤ maxLen) (hbytes : (n + m) * bytes ≤ 140737488355328) (hbase : base ≤ w.heap.size)
    (h : ∀ v' w', w'.ownsRow base e size v' (n + m) (xs ++ news) → (∀ w0 : World, Gr w0 w → w0.heap.size ≤ base → Gr w0 w') → K (a.put o.dst v') w') : Oper.wp P o a w K Q := by
  obtain ⟨v', w', hr, h2, h3⟩ := run_append_any (P := P) (w := w) base t o.type e i z size bytes ht hi hz hsize hby hzs hsz v n xs hown q m c hq news hl hnews h1 h63 hbytes hbase
  unfold Oper.wp execOp
  simp only [ho, resolve, invoke, builtin, Sem.run_bind, Sem.run_pure, Result.andThen_ok, List.map_toArray, List.map_cons, List.map_nil, hs, hx, hr]
  exact h v' w' h2 h3
/-- the same, in a plain region -/
theorem wpList_append_any {P : Program} {w : World} {ops : Array Oper} {rest : List Oper} {o : Oper} {a : Act} {Q : Exit → Act → World → Prop} (hgd : o.guard = none) (s x : Operand) (t : TypeId) (ho : o.op = .call { callee := .builtin .append, args := #[s, x], argTypes := #[t, t] })
    (base : Nat) (e : TypeId) (i : TypeInfo) (z : Value) (size bytes : Nat) (ht : P.underlying t = some (.slice e)) (hi : P.info? e = some i) (hz : i.zero = some z)
    (hsize : i.size = size) (hby : i.bytes = bytes) (hzs : z.cells.size = size) (hsz : 0 < size)
    (v : Value) (n : Nat) (xs : List Value) (hs : a.eval s = v) (hown : w.ownsRow base e size v n xs)
    (q : Option Addr) (m c : Nat) (hq : q = none → m = 0) (news : List Value) (hx : a.eval x = .slice q m c) (hl : news.length = m * size) (hnews : ∀ ad, q = some ad → ∀ j u, news[j]? = some u → w.cell? (ad.add j) = some u) (h1 : ∀ u ∈ news, u.oneCell' = true)
    (h63 : n + m ≤ maxLen) (hbytes : (n + m) * bytes ≤ 140737488355328) (hbase : base ≤ w.heap.size)
    (h : ∀ v' w', w'.ownsRow base e size v' (n + m) (xs ++ news) → (∀ w0 : World, Gr w0 w → w0.heap.size ≤ base → Gr w0 w') → wpList P ops Q rest (a.put o.dst v') w') :
    wpList P ops Q (o :: rest) a w := by
  refine wpList_plain hgd fun K hK => ?_
  exact step_append_any s x t ho base e i z size bytes ht hi hz hsize hby hzs hsz v n xs hs hown q m c hq news hx hl hnews h1 h63 hbytes hbase fun v' w' h2 h3 => hK _ _ (h v' w' h2 h3)
/-- a row without elements, just laid -/
theorem own_emptyT {w : World} {g base k : Nat} {T : TypeId} (h : w.heap[g]? = some (.cells #[] T (0, 0))) (hb : base ≤ g) : w.ownsRow base T k (.slice (some ⟨g, 0, none⟩) 0 0) 0 [] :=
  ⟨by simp, .inr ⟨g, 0, #[], rfl, hb, h, Nat.le_refl _, by unfold maxLen; omega, by simp, by simp⟩⟩
end Go.Proofs.YtnihclhhbegjhaaGreatDoor
namespace Go.Proofs.YtnihclhhbegjhaaGreatDoor
open Go.RowKit Go.Lib Go.Sort Go.Proofs
set_option linter.unusedSimpArgs false
set_option linter.unusedVariables false
/-- an entry is newer than another one, as the reference has it -/
def newB (a b : EnR) : Bool := decide (b.ck < a.ck) || ((a.ck == b.ck) && !(ltS a.de b.de || a.de.toList == b.de.toList))
theorem gtS (a b : ByteArray) : (!(ltS a b || a.toList == b.toList)) = ltS b a := by
  unfold ltS
  rw [less_tri b.toList a.toList]
theorem newB_eq (a b : EnR) : newB a b = (decide (b.ck < a.ck) || ((a.ck == b.ck) && ltS b.de a.de)) := by
  unfold newB; rw [gtS]
theorem ckO_lt (a b : EnR) : ltOf ckO a b = newB b a := by
  rw [newB_eq]
  have hf : ∀ x y : Int, firstE [x, y] = if x = 0 then (if y = 0 then 0 else y) else x := fun _ _ => rfl
  unfold ltOf ckO
  rw [hf]
  unfold cmpS cmpZ
  cases hl : ltS a.de b.de with
  | true =>
    by_cases h1 : a.ck < b.ck
    · simp [h1]
    · by_cases h2 : b.ck < a.ck
      · have h3 : ¬ b.ck = a.ck := by omega
        simp [h1, h2, h3]
      · have h3 : b.ck = a.ck := by omega
        simp [h3]
  | false =>
    by_cases h1 : a.ck < b.ck
    · simp [h1]
    · by_cases h2 : b.ck < a.ck
      · simp [h1, h2]
      · cases he : (a.de.toList == b.de.toList) <;> simp [h1, h2]
theorem ltS_irr (a : ByteArray) : ltS a a = false := less_self _
theorem swo_ck : SWO (ltOf ckO) where
  irrefl x := by rw [ckO_lt, newB_eq]; simp [ltS_irr]
  trans x y z h1 h2 := by
    rw [ckO_lt, newB_eq] at *
    simp only [Bool.or_eq_true, Bool.and_eq_true, decide_eq_true_eq, beq_iff_eq] at *
    rcases h1 with h1 | ⟨h1, h1'⟩ <;> rcases h2 with h2 | ⟨h2, h2'⟩
    · left; omega
    · left; omega
    · left; omega
    · right; exact ⟨by omega, less_trans _ _ _ h1' h2'⟩
  ntrans x y z h1 h2 := by
    rw [ckO_lt, newB_eq] at *
    simp only [Bool.or_eq_false_iff, Bool.and_eq_false_iff, decide_eq_false_iff_not, beq_eq_false_iff_ne] at *
    obtain ⟨h1, h1'⟩ := h1
    obtain ⟨h2, h2'⟩ := h2
    refine ⟨by omega, ?_⟩
    by_cases e : z.ck = x.ck
    · right
      have e1 : y.ck = x.ck := by omega
      have e2 : z.ck = y.ck := by omega
      have k1 := h1'.resolve_left (by omega)
      have k2 := h2'.resolve_left (by omega)
      cases hh : ltS x.de z.de with
      | false => rfl
      | true =>
        have t1 : ltS y.de x.de = true ∨ y.de.toList = x.de.toList := by
          have := less_tri x.de.toList y.de.toList
          unfold ltS at k1 ⊢
          rw [k1] at this
          have this : Op.bytesLess y.de.toList x.de.toList = false → y.de.toList = x.de.toList := by simpa using this
          cases hq : Op.bytesLess y.de.toList x.de.toList with
          | true => exact .inl rfl
          | false => exact .inr (this hq)
        have t2 : ltS z.de y.de = true ∨ z.de.toList = y.de.toList := by
          have := less_tri y.de.toList z.de.toList
          unfold ltS at k2 ⊢
          rw [k2] at this
          have this : Op.bytesLess z.de.toList y.de.toList = false → z.de.toList = y.de.toList := by simpa using this
          cases hq : Op.bytesLess z.de.toList y.de.toList with
          | true => exact .inl rfl
          | false => exact .inr (this hq)
        unfold ltS at *
        rcases t1 with t1 | t1
        · have := less_trans _ _ _ t1 hh
          rw [this] at k2; cases k2
        · rw [← t1] at hh
          rw [hh] at k2; cases k2
    · left; exact e
/-- one entry more, at its place -/
def insAt (r : List EnR) (x : EnR) : Nat := (r.reverse.dropWhile fun y => newB y x).length
def insL (r : List EnR) (x : EnR) : List EnR := r.take (insAt r x) ++ x :: r.drop (insAt r x)
def isRo (ro : ByteArray) (e : EnR) : Bool := e.ro.toList == ro.toList
/-- the entries of a round, as the reference puts them -/
def hisL (l : List EnR) (ro : ByteArray) : List EnR := l.foldl (fun r x => if isRo ro x = true then insL r x else r) []
theorem hisL_add (l : List EnR) (e : EnR) (ro : ByteArray) : hisL (l ++ [e]) ro = if isRo ro e = true then insL (hisL l ro) e else hisL l ro := by
  unfold hisL; rw [List.foldl_append]; rfl
theorem insL_perm (r : List EnR) (x : EnR) : (insL r x).Perm (x :: r) := by
  unfold insL
  refine List.perm_middle.trans ?_
  rw [List.take_append_drop]
theorem insL_len (r : List EnR) (x : EnR) : (insL r x).length = r.length + 1 := by
  rw [(insL_perm r x).length_eq, List.length_cons]
theorem insAt_take (r : List EnR) (x : EnR) : r.take (insAt r x) = (r.reverse.dropWhile fun y => newB y x).reverse ∧ r.drop (insAt r x) = (r.reverse.takeWhile fun y => newB y x).reverse := by
  have h : r = (r.reverse.dropWhile fun y => newB y x).reverse ++ (r.reverse.takeWhile fun y => newB y x).reverse := by
    rw [← List.reverse_append, List.takeWhile_append_dropWhile, List.reverse_reverse]
  have hl : insAt r x = (r.reverse.dropWhile fun y => newB y x).reverse.length := by unfold insAt; simp
  have h2 : ∀ A B : List EnR, r = A ++ B → insAt r x = A.length → r.take (insAt r x) = A ∧ r.drop (insAt r x) = B := by
    intro A B e1 e2
    rw [e2, e1]
    exact ⟨List.take_left, List.drop_left⟩
  exact h2 _ _ h hl
/-- a place from which all are newer, and before which one is not, is the place -/
theorem insAt_of {r : List EnR} {x : EnR} {k : Nat} (hk : k ≤ r.length) (h1 : ∀ j y, k ≤ j → r[j]? = some y → newB y x = true) (h2 : 0 < k → ∃ y, r[k - 1]? = some y ∧ newB y x = false) : insAt r x = k := by
  have hs : r.reverse = (r.drop k).reverse ++ (r.take k).reverse := by rw [← List.reverse_append, List.take_append_drop]
  have ha : ∀ y ∈ (r.drop k).reverse, newB y x = true := fun y hy => by
    rw [List.mem_reverse] at hy
    obtain ⟨j, hj⟩ := List.getElem?_of_mem hy
    rw [List.getElem?_drop] at hj
    exact h1 _ y (by omega) hj
  unfold insAt
  rw [hs, List.dropWhile_append_of_pos ha]
  rcases Nat.eq_zero_or_pos k with h0 | h0
  · subst h0; simp
  · obtain ⟨y, hy, hn⟩ := h2 h0
    have hl := (List.getElem?_eq_some_iff.1 hy).1
    have ht : r.take k = r.take (k - 1) ++ [y] := by
      have : k = (k - 1) + 1 := by omega
      conv => lhs; rw [this]
      rw [List.take_add_one, hy]; rfl
    rw [ht, List.reverse_append, List.reverse_singleton, List.singleton_append, List.dropWhile_cons_of_neg (by rw [hn]; simp)]
    simp
    omega
def ckLe (a b : EnR) : Prop := ltOf ckO b a = false
theorem insL_sorted {r : List EnR} {x : EnR} (h : r.Pairwise ckLe) : (insL r x).Pairwise ckLe := by
  obtain ⟨e1, e2⟩ := insAt_take r x
  have hp := h
  rw [← List.take_append_drop (insAt r x) r, List.pairwise_append] at hp
  obtain ⟨p1, p2, p3⟩ := hp
  have hnew : ∀ y ∈ r.drop (insAt r x), newB y x = true := fun y hy => by
    rw [e2, List.mem_reverse] at hy
    have := List.all_takeWhile (p := fun y => newB y x) (l := r.reverse)
    rw [List.all_eq_true] at this
    exact this y hy
  have hold : ∀ y ∈ r.take (insAt r x), ckLe y x := fun y hy => by
    have hne : ∃ z, (r.take (insAt r x)).getLast? = some z ∧ newB z x = false := by
      rw [e1]
      cases hd : (r.reverse.dropWhile fun y => newB y x) with
      | nil => rw [e1, hd] at hy; simp at hy
      | cons z t =>
        refine ⟨z, by simp, ?_⟩
        have := List.head?_dropWhile_not (fun y => newB y x) r.reverse
        rw [hd] at this
        simpa using this
    obtain ⟨z, hz, hzn⟩ := hne
    unfold ckLe
    have hzx : ltOf ckO x z = false := by rw [ckO_lt]; exact hzn
    obtain ⟨i, hi⟩ := List.getElem?_of_mem hy
    have hil := (List.getElem?_eq_some_iff.1 hi).1
    rw [List.getLast?_eq_getElem?] at hz
    rcases Nat.lt_or_ge i ((r.take (insAt r x)).length - 1) with hlt | hge
    · have := List.pairwise_iff_getElem.1 p1 i ((r.take (insAt r x)).length - 1) hil (by omega) hlt
      obtain ⟨_, q1⟩ := List.getElem?_eq_some_iff.1 hi
      obtain ⟨_, q2⟩ := List.getElem?_eq_some_iff.1 hz
      rw [q1, q2] at this
      exact swo_ck.ntrans _ _ _ hzx this
    · have : i = (r.take (insAt r x)).length - 1 := by omega
      rw [← this, hi] at hz
      cases hz
      exact hzx
  unfold insL
  rw [List.pairwise_append]
  refine ⟨p1, List.pairwise_cons.2 ⟨fun y hy => ?_, p2⟩, fun a ha b hb => ?_⟩
  · unfold ckLe
    have := hnew y hy
    rw [← ckO_lt] at this
    exact swo_ck.asymmA this
  · rcases List.mem_cons.1 hb with rfl | hb
    · exact hold a ha
    · exact p3 a ha b hb
theorem hisL_sorted (l : List EnR) (ro : ByteArray) : (hisL l ro).Pairwise ckLe ∧ (hisL l ro).Perm (l.filter (isRo ro)) := by
  have key : ∀ (l r m : List EnR), r.Pairwise ckLe → r.Perm m → (l.foldl (fun r x => if isRo ro x = true then insL r x else r) r).Pairwise ckLe ∧ (l.foldl (fun r x => if isRo ro x = true then insL r x else r) r).Perm (m ++ l.filter (isRo ro)) := by
    intro l
    induction l with
    | nil => intro r m h1 h2; simpa using ⟨h1, h2⟩
    | cons x l ih =>
      intro r m h1 h2
      rw [List.foldl_cons]
      by_cases hx : isRo ro x = true
      · rw [if_pos hx]
        have := ih (insL r x) (m ++ [x]) (insL_sorted h1) ((insL_perm r x).trans ((h2.cons x).trans (List.perm_append_singleton x m).symm))
        refine ⟨this.1, ?_⟩
        rw [List.filter_cons_of_pos hx]
        simpa using this.2
      · rw [if_neg hx]
        have := ih r m h1 h2
        rw [List.filter_cons_of_neg hx]
        exact this
  simpa [hisL] using key l [] [] List.Pairwise.nil (List.Perm.refl _)
/-- entries of one desk have ascending clocks -/
theorem arch_clocks {l : List EnR} (h : archE l = 0) : l.Pairwise fun a b => befB a b = true ∧ (a.de.toList = b.de.toList → a.ck < b.ck) := by
  have ha := errG_all l.length 0 (by omega) h
  have hf : ∀ x y : Int, firstE [x, y] = if x = 0 then (if y = 0 then 0 else y) else x := fun _ _ => rfl
  have h1 : ∀ i x, l[i]? = some x → ordE l i x = false := fun i x hx => by
    have h0 := ha i x (Nat.zero_le _) hx
    unfold enE at h0
    rw [hf] at h0
    by_cases he : enErr x = 0
    · cases ho : ordE l i x with
      | false => rfl
      | true => rw [he, ho] at h0; simp at h0
    · rw [if_neg he] at h0; exact absurd h0 he
  have hadj : ∀ i a b, l[i]? = some a → l[i + 1]? = some b → befB a b = true ∧ (a.de.toList = b.de.toList → a.ck < b.ck) := fun i a b hia hib => by
    have := h1 (i + 1) b hib
    simp only [ordE, hia, ordB] at this
    rw [Bool.or_eq_false_iff] at this
    refine ⟨by simpa using this.1, fun e => ?_⟩
    have h2 := this.2
    rw [e] at h2
    simpa using h2
  have htr : ∀ a b c : EnR, (befB a b = true ∧ (a.de.toList = b.de.toList → a.ck < b.ck)) → (befB b c = true ∧ (b.de.toList = c.de.toList → b.ck < c.ck)) → (befB a c = true ∧ (a.de.toList = c.de.toList → a.ck < c.ck)) := by
    intro a b c ⟨p1, p2⟩ ⟨q1, q2⟩
    refine ⟨befB_trans p1 q1, fun e => ?_⟩
    have hab : a.de.toList = b.de.toList := by
      unfold befB at p1 q1
      simp only [Bool.or_eq_true, Bool.and_eq_true, beq_iff_eq] at p1 q1
      rcases p1 with p1 | ⟨p1, _⟩
      · rcases q1 with q1 | ⟨q1, _⟩
        · have := less_trans _ _ _ p1 q1
          rw [← e, less_self] at this; cases this
        · exact e.trans q1.symm
      · exact p1
    have := p2 hab
    have := q2 (hab.symm.trans e)
    omega
  rw [List.pairwise_iff_getElem]
  intro i j hi hj hij
  obtain ⟨d, rfl⟩ : ∃ d, j = i + 1 + d := ⟨j - (i + 1), by omega⟩
  clear hij
  induction d with
  | zero => exact hadj i _ _ (List.getElem?_eq_getElem hi) (List.getElem?_eq_getElem hj)
  | succ d ih =>
    have hj2 : i + 1 + d < l.length := by omega
    exact htr _ _ _ (ih hj2) (hadj (i + 1 + d) _ _ (List.getElem?_eq_getElem hj2) (List.getElem?_eq_getElem hj))
theorem ck_anti {l : List EnR} (h : archE l = 0) {a b : EnR} (ha : a ∈ l) (hb : b ∈ l) (h1 : ckLe a b) (h2 : ckLe b a) : a = b := by
  unfold ckLe at h1 h2
  rw [ckO_lt, newB_eq] at h1 h2
  simp only [Bool.or_eq_false_iff, Bool.and_eq_false_iff, decide_eq_false_iff_not, beq_eq_false_iff_ne] at h1 h2
  have e : a.ck = b.ck := by omega
  have k1 := h1.2.resolve_left (by omega)
  have k2 := h2.2.resolve_left (by omega)
  have hd : a.de.toList = b.de.toList := by
    have := less_tri b.de.toList a.de.toList
    unfold ltS at k1 k2
    rw [k1, k2] at this
    simpa using this
  have hp := arch_clocks h
  obtain ⟨i, hi⟩ := List.getElem?_of_mem ha
  obtain ⟨j, hj⟩ := List.getElem?_of_mem hb
  obtain ⟨hil, hie⟩ := List.getElem?_eq_some_iff.1 hi
  obtain ⟨hjl, hje⟩ := List.getElem?_eq_some_iff.1 hj
  rcases Nat.lt_trichotomy i j with hlt | rfl | hlt
  · have := (List.pairwise_iff_getElem.1 hp i j hil hjl hlt).2
    rw [hie, hje] at this
    have := this hd
    omega
  · rw [hi] at hj; cases hj; rfl
  · have := (List.pairwise_iff_getElem.1 hp j i hjl hil hlt).2
    rw [hie, hje] at this
    have := this hd.symm
    omega
/-- whoever sorts the entries of a round has them in the reference's order -/
theorem his_unique {l m : List EnR} {ro : ByteArray} (h : archE l = 0) (hp : m.Perm (l.filter (isRo ro))) (hs : m.Pairwise ckLe) : m = hisL l ro := by
  obtain ⟨h1, h2⟩ := hisL_sorted l ro
  refine List.Perm.eq_of_pairwise (fun a b ha hb p q => ck_anti h ?_ ?_ p q) hs h1 (hp.trans h2.symm)
  · exact (List.mem_filter.1 (hp.mem_iff.1 ha)).1
  · exact (List.mem_filter.1 (h2.mem_iff.1 hb)).1
set_option maxHeartbeats 4000000 in
set_option maxRecDepth 100000 in
theorem newer_c (a b : EnR) (w : World) :
    Calls Tryz.prog 73 #[enV a, enV b] w fun e w' => e = .returned (.bool (newB a b)) ∧ Gr w w' := by
  have HE : Hid (newB a b = (decide (b.ck < a.ck) || ((a.ck == b.ck) && !(ltS a.de b.de || a.de.toList == b.de.toList)))) := rfl
  have HG := runS_gtr a.de b.de
  unfold enV at *
  generalize newB a b = r at *
  obtain ⟨W1, hW1, gW1, a0, a1, a2, a3, a4, a5, a6⟩ := bx7 w (.string a.de) (.int .i64 a.nu) (.int .i64 a.ck) (.string a.ro) (.int .i64 a.va) (.string a.st) (.slice a.p a.n a.cap) 65
  obtain ⟨W2, hW2, gW2, b0, b1, b2, b3, b4, b5, b6⟩ := bx7 W1 (.string b.de) (.int .i64 b.nu) (.int .i64 b.ck) (.string b.ro) (.int .i64 b.va) (.string b.st) (.slice b.p b.n b.cap) 65
  replace a0 := gW2.cell a0
  replace a1 := gW2.cell a1
  replace a2 := gW2.cell a2
  replace a3 := gW2.cell a3
  replace a4 := gW2.cell a4
  replace a5 := gW2.cell a5
  replace a6 := gW2.cell a6
  have g := gW1.trans gW2
  have hsz : W1.heap.size = w.heap.size + 1 := by rw [← hW1]; simp
  rw [hsz] at b0 b1 b2 b3 b4 b5 b6
  rw [← hW1] at hW2
  have HW := Lib.hid hW2
  clear hW1 hW2 gW1 gW2 hsz
  cases h1 : decide (b.ck < a.ck) <;> cases h2 : (a.ck == b.ck) <;> cases h3 : (ltS a.de b.de || a.de.toList == b.de.toList)
  all_goals
    rw [h1, h2, h3] at HE
    rw [h3] at HG
    go_enter Tryz.func73, Tryz.ntmps73
    go_wp2_with fail
    rw [HW.out]
    clear HW
    generalize w.heap.size + 1 = Cx at *
    generalize w.heap.size = Bx at *
    go_wp2_with fail
    go_ret
    exact ⟨by rw [HE.out]; rfl, g⟩
end Go.Proofs.YtnihclhhbegjhaaGreatDoor
