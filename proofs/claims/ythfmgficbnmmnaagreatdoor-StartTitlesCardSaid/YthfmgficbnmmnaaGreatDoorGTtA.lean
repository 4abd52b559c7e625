/- Titles: brackets that are run round by round: names and errors (plain). -/
import Derived.Test.YthfmgficbnmmnaaGreatDoorPlL
namespace Go.Proofs.YthfmgficbnmmnaaGreatDoor
open Go.RowKit Go.Lib
set_option linter.unusedSimpArgs false
set_option linter.unusedVariables false
theorem ba_inj {s t : ByteArray} (h : s.toList = t.toList) : s = t := by
  rw [ByteArray.toList_eq, ByteArray.toList_eq] at h
  exact ByteArray.ext (Array.toList_inj.1 h)
/-- somebody -/
def isNb (s : ByteArray) : Bool := !s.toList.isEmpty
theorem isNb_yes {s : ByteArray} : isNb s = true ↔ s.toList ≠ [] := by unfold isNb; cases s.toList <;> simp
theorem isNb_no {s : ByteArray} : isNb s = false ↔ s.toList = [] := by unfold isNb; cases s.toList <;> simp
theorem isNb_nil : isNb ⟨#[]⟩ = false := by rw [isNb_no, ByteArray.toList_eq]
theorem nmsR_eq (r : RaR) : nmsR r = [r.a, r.b].filter isNb := by
  unfold nmsR
  cases ha : r.a.toList <;> cases hb : r.b.toList <;> simp [List.filter, isNb, ha, hb]
/-- who is in races, lane by lane -/
def lns (l : List RaR) : List ByteArray := l.flatMap fun r => [r.a, r.b]
theorem nmsL_eq (l : List RaR) : nmsL l = (lns l).filter isNb := by
  induction l with
  | nil => rfl
  | cons r l ih =>
    unfold nmsL lns at *
    rw [List.flatMap_cons, List.flatMap_cons, List.filter_append, ih, nmsR_eq]
theorem lns_pair : ∀ (n : Nat) (l : List ByteArray), l.length = 2 * n → lns (pairR l) = l
  | 0, [], _ => rfl
  | n + 1, a :: b :: r, h => by
    have := lns_pair n r (by simp at h; omega)
    unfold lns at *
    rw [pairR, List.flatMap_cons, this]
    rfl
theorem errG_nil {α : Type} {E : Nat → α → Int} {xs : List α} (h : ∀ i x, xs[i]? = some x → E i x = 0) : ∀ (k i : Nat), errG E xs k i = 0
  | 0, _ => rfl
  | k + 1, i => by
    unfold errG
    cases hx : xs[i]? with
    | none => rfl
    | some x => simp only [h i x hx, if_pos]; exact errG_nil h k (i + 1)
/-- a race that may be -/
structure Fit (r : RaR) : Prop where
  lo : 0 ≤ r.w
  hi : r.w ≤ 3
  keep : walkW r.a r.b = 0 ∨ r.w = walkW r.a r.b
theorem hasS_iff {ns : List ByteArray} {s : ByteArray} : hasS ns s = true ↔ s ∈ ns := by
  unfold hasS
  rw [List.any_eq_true]
  constructor
  · rintro ⟨t, ht, e⟩
    rw [ba_inj (beq_iff_eq.1 e)]
    exact ht
  · intro h
    exact ⟨s, h, by simp⟩
theorem raE_fit {l : List RaR} (hn : ∀ s ∈ nmsL l, Nm s) (hd : (nmsL l).Nodup) (hf : ∀ r ∈ l, Fit r) (i : Nat) (r : RaR) (hr : l[i]? = some r) : raE l i r = 0 := by
  have hm := List.mem_of_getElem? hr
  have F := hf r hm
  have hsplit : nmsL l = nmsL (l.take i) ++ nmsR r ++ nmsL (l.drop (i + 1)) := by
    have e : l = l.take i ++ r :: l.drop (i + 1) := by
      obtain ⟨hi, rfl⟩ := List.getElem?_eq_some_iff.1 hr
      rw [List.getElem_cons_drop, List.take_append_drop]
    conv => lhs; rw [e]
    simp [nmsL]
  have hin : ∀ s ∈ nmsR r, s ∈ nmsL l := fun s h => by rw [hsplit]; simp [h]
  have ha : isNb r.a = true → r.a ∈ nmsR r := fun h => by rw [nmsR_eq]; simp [h]
  have hb : isNb r.b = true → r.b ∈ nmsR r := fun h => by rw [nmsR_eq]; simp [h]
  rw [hsplit] at hd
  have hd1 := (List.nodup_append.1 hd).1
  have hno : ∀ s, (isNb s = true → s ∈ nmsR r) → hasS (nmsL (l.take i)) s = false := by
    intro s h
    cases hs : isNb s with
    | false => exact has_empty (by rw [isNb_no] at hs; rw [hs]; rfl)
    | true =>
      cases hh : hasS (nmsL (l.take i)) s with
      | false => rfl
      | true => exact absurd rfl ((List.nodup_append.1 hd1).2.2 s (hasS_iff.1 hh) s (h hs))
  have e1 : ((!r.a.toList.isEmpty && !decide (Nm r.a)) || (!r.b.toList.isEmpty && !decide (Nm r.b))) = false := by
    rw [Bool.or_eq_false_iff]
    constructor
    · cases h : (!r.a.toList.isEmpty) with
      | false => rfl
      | true => simp [hn _ (hin _ (ha h))]
    · cases h : (!r.b.toList.isEmpty) with
      | false => rfl
      | true => simp [hn _ (hin _ (hb h))]
  have e2 : ((!r.a.toList.isEmpty && r.a.toList == r.b.toList) || sharesB r.a r.b (l.take i)) = false := by
    rw [Bool.or_eq_false_iff]
    constructor
    · cases h : (!r.a.toList.isEmpty) with
      | false => rfl
      | true =>
        rw [Bool.true_and, beq_eq_false_iff_ne]
        intro e
        have e := ba_inj e
        have h2 : isNb r.b = true := by rw [← e]; exact h
        have := (List.nodup_append.1 hd1).2.1
        rw [nmsR_eq] at this
        simp [List.filter, h2, e] at this
    · rw [shares_has, hno _ ha, hno _ hb]; rfl
  have e3 : outE r.w 0 3 = 0 := by
    have := F.lo; have := F.hi
    unfold outE outB
    rw [if_neg (by simp; omega)]
  have e4 : (!(walkW r.a r.b == 0) && !(r.w == walkW r.a r.b)) = false := by
    rcases F.keep with h | h <;> simp [h]
  unfold raE raE0
  rw [e1, e2, e3, e4]
  rfl
theorem racesE_fit {l : List RaR} (hl : l.length ∈ [1, 2, 4, 8, 16, 32]) (hn : ∀ s ∈ nmsL l, Nm s) (hd : (nmsL l).Nodup) (hf : ∀ r ∈ l, Fit r) : racesE l = 0 := by
  unfold racesE
  rw [if_pos hl]
  exact errG_nil (raE_fit hn hd hf) _ _
/-- where a name stands, or how many there are -/
def seedN (ns : List ByteArray) (s : ByteArray) : Nat := ns.findIdx fun t => t.toList == s.toList
/-- a race that has been decided -/
structure DecA (ns : List ByteArray) (bt : Bool) (r r' : RaR) : Prop where
  a : r'.a = r.a
  b : r'.b = r.b
  lo : 1 ≤ r'.w
  hi : r'.w ≤ 3
  keep : r.w ≠ 0 → r'.w = r.w
  best : bt = true → r.w = 0 → r'.w = if seedN ns r.b < seedN ns r.a then 2 else 1
structure Dec (ns : List ByteArray) (bt : Bool) (l l' : List RaR) : Prop where
  len : l'.length = l.length
  at' : ∀ (i : Nat) (r r' : RaR), l[i]? = some r → l'[i]? = some r' → DecA ns bt r r'
theorem DecA.mono {ns : List ByteArray} {bt bt' : Bool} {r r' : RaR} (h : DecA ns bt r r') (hb : bt' = true → bt = true) : DecA ns bt' r r' := ⟨h.a, h.b, h.lo, h.hi, h.keep, fun h1 => h.best (hb h1)⟩
theorem Dec.mono {ns : List ByteArray} {bt bt' : Bool} {l l' : List RaR} (h : Dec ns bt l l') (hb : bt' = true → bt = true) : Dec ns bt' l l' := ⟨h.len, fun i r r' h1 h2 => (h.at' i r r' h1 h2).mono hb⟩
theorem Dec.cons {ns : List ByteArray} {bt : Bool} {r : RaR} {l L : List RaR} (h : Dec ns bt (r :: l) L) : ∃ r' l', L = r' :: l' ∧ DecA ns bt r r' ∧ Dec ns bt l l' := by
  cases L with
  | nil => have := h.len; simp at this
  | cons r' l' =>
    refine ⟨r', l', rfl, h.at' 0 r r' rfl rfl, by have := h.len; simpa using this, fun i a b ha hb => h.at' (i + 1) a b (by simpa using ha) (by simpa using hb)⟩
theorem Dec.lns {ns : List ByteArray} {bt : Bool} : ∀ {l L : List RaR}, Dec ns bt l L → lns L = lns l
  | [], L, h => by have := h.len; simp at this; subst this; rfl
  | r :: l, L, h => by
    obtain ⟨r', l', rfl, h1, h2⟩ := h.cons
    have := h2.lns
    unfold Go.Proofs.YthfmgficbnmmnaaGreatDoor.lns at *
    rw [List.flatMap_cons, List.flatMap_cons, this, h1.a, h1.b]
theorem Dec.nms {ns : List ByteArray} {bt : Bool} {l L : List RaR} (h : Dec ns bt l L) : nmsL L = nmsL l := by rw [nmsL_eq, nmsL_eq, h.lns]
theorem Dec.back {ns : List ByteArray} {bt : Bool} {l L : List RaR} (h : Dec ns bt l L) {i : Nat} {r' : RaR} (hr : L[i]? = some r') : ∃ r, l[i]? = some r ∧ DecA ns bt r r' := by
  obtain ⟨hi, _⟩ := List.getElem?_eq_some_iff.1 hr
  exact ⟨l[i]'(by rw [← h.len]; exact hi), by simp, h.at' i _ _ (by simp) hr⟩
/-- races at their beginning -/
def Beg (l : List RaR) : Prop := ∀ r ∈ l, r.w = walkW r.a r.b
theorem walk_le (a b : ByteArray) : 0 ≤ walkW a b ∧ walkW a b ≤ 3 := by unfold walkW; split <;> split <;> omega
theorem Beg.fit {l : List RaR} (h : Beg l) : ∀ r ∈ l, Fit r := fun r hr => by
  have := h r hr
  have h2 := walk_le r.a r.b
  exact ⟨by omega, by omega, .inr this⟩
theorem Dec.fit {ns : List ByteArray} {bt : Bool} {l L : List RaR} (h : Dec ns bt l L) (hb : Beg l) : ∀ r ∈ L, Fit r := fun r' hr => by
  obtain ⟨i, hi⟩ := List.getElem?_of_mem hr
  obtain ⟨r, h1, D⟩ := h.back hi
  have hw := hb r (List.mem_of_getElem? h1)
  have := D.lo; have := D.hi
  refine ⟨by omega, by omega, ?_⟩
  by_cases h0 : walkW r'.a r'.b = 0
  · exact .inl h0
  · right
    rw [D.a, D.b, ← hw] at h0 ⊢
    exact D.keep h0
theorem Dec.shut {ns : List ByteArray} {bt : Bool} {l L : List RaR} (h : Dec ns bt l L) : openR L = false := openR_no fun i r hr => by
  obtain ⟨_, _, D⟩ := h.back hr
  have := D.lo
  omega
/-- who goes on -/
def winL (l : List RaR) : List ByteArray := l.map winR
theorem win_in (r : RaR) : isNb (winR r) = true → winR r ∈ [r.a, r.b] := by
  unfold winR inR
  intro h
  split at h
  · rename_i h1; rw [if_pos h1]; simp
  · rename_i h1
    rw [if_neg h1]
    split at h
    · rename_i h2; rw [if_pos h2]; simp
    · rw [isNb_nil] at h; cases h
theorem win_sub (l : List RaR) : ((winL l).filter isNb).Sublist (nmsL l) := by
  induction l with
  | nil => exact List.Sublist.slnil
  | cons r l ih =>
    have e : winL (r :: l) = winR r :: winL l := rfl
    have e2 : nmsL (r :: l) = nmsR r ++ nmsL l := by simp [nmsL]
    rw [e, e2]
    cases hw : isNb (winR r) with
    | false =>
      rw [List.filter_cons_of_neg (by simp [hw])]
      exact ih.trans (List.sublist_append_right _ _)
    | true =>
      rw [List.filter_cons_of_pos hw]
      have h2 : [winR r].Sublist (nmsR r) := by
        rw [List.singleton_sublist, nmsR_eq, List.mem_filter]
        exact ⟨win_in r hw, hw⟩
      exact h2.append ih
end Go.Proofs.YthfmgficbnmmnaaGreatDoor
namespace Go.Proofs.YthfmgficbnmmnaaGreatDoor
open Go.RowKit Go.Lib
set_option linter.unusedSimpArgs false
set_option linter.unusedVariables false
theorem rcP_k {m : Int} {r : RaR} {p : PlR} (h : p ∈ rcP m r) : p.k = m := by
  unfold rcP at h
  obtain ⟨y, _, hy⟩ := List.mem_flatMap.1 h
  unfold plOf at hy
  split at hy
  · cases hy
  · simp at hy; rw [hy]
theorem rndP_k {l : List RaR} {p : PlR} (h : p ∈ rndP l) : p.k = (l.length : Int) + 1 := by
  rw [rndP_eq] at h
  obtain ⟨r, _, hr⟩ := List.mem_flatMap.1 h
  exact rcP_k hr
theorem rcP_a {m : Int} {r : RaR} (ha : isNb r.a = true) (hw : r.w ≠ 1) : (⟨r.a, m⟩ : PlR) ∈ rcP m r := by
  have h1 : ¬ r.a.toList = [] := isNb_yes.1 ha
  unfold rcP laneL
  rw [if_neg h1, List.flatMap_append, List.mem_append]
  left
  rw [List.flatMap_cons, List.flatMap_nil, List.append_nil]
  unfold plOf
  rw [if_neg (fun e => hw e.symm)]
  simp [inR]
theorem rcP_b {m : Int} {r : RaR} (hb : isNb r.b = true) (hw : r.w ≠ 2) : (⟨r.b, m⟩ : PlR) ∈ rcP m r := by
  have h1 : ¬ r.b.toList = [] := isNb_yes.1 hb
  unfold rcP laneL
  rw [if_neg h1, List.flatMap_append, List.mem_append]
  right
  rw [List.flatMap_cons, List.flatMap_nil, List.append_nil]
  unfold plOf
  rw [if_neg (fun e => hw e.symm)]
  simp [inR]
/-- a decided race: the winner and the losers are its climbers -/
theorem race_perm {m : Int} {r : RaR} (h1 : 1 ≤ r.w) (h3 : r.w ≤ 3) : ([winR r].filter isNb ++ (rcP m r).map PlR.nm).Perm (nmsR r) := by
  have hc : r.w = 1 ∨ r.w = 2 ∨ r.w = 3 := by omega
  have hn := isNb_nil
  obtain ⟨a, b, w⟩ := r
  simp only at hc
  have e1 : isNb a = !a.toList.isEmpty := rfl
  have e2 : isNb b = !b.toList.isEmpty := rfl
  unfold rcP laneL nmsR winR inR
  cases ha : a.toList <;> cases hb : b.toList <;> rw [ha] at e1 <;> rw [hb] at e2 <;> simp only [List.isEmpty_nil, List.isEmpty_cons, Bool.not_true, Bool.not_false] at e1 e2 <;> rcases hc with rfl | rfl | rfl <;> simp [plOf, inR, hn, e1, e2]
  exact List.Perm.swap _ _ _
theorem round_perm {l : List RaR} (h : ∀ r ∈ l, 1 ≤ r.w ∧ r.w ≤ 3) (m : Int) : ((winL l).filter isNb ++ (l.flatMap (rcP m)).map PlR.nm).Perm (nmsL l) := by
  induction l with
  | nil => exact List.Perm.refl _
  | cons r l ih =>
    have e : winL (r :: l) = [winR r] ++ winL l := rfl
    have e2 : nmsL (r :: l) = nmsR r ++ nmsL l := by simp [nmsL]
    rw [e, e2, List.filter_append, List.flatMap_cons, List.map_append]
    have h1 := race_perm (m := m) (h r (by simp)).1 (h r (by simp)).2
    have h2 := ih (fun r hr => h r (by simp [hr]))
    refine List.Perm.trans ?_ (h1.append h2)
    simp only [List.append_assoc]
    refine List.Perm.append_left _ ?_
    rw [← List.append_assoc, ← List.append_assoc]
    exact List.Perm.append_right _ List.perm_append_comm
/-- the rounds from here on to the end: j more behind this one -/
inductive Run (ns : List ByteArray) (bt : Bool) : Nat → List RaR → List (List RaR) → Prop
  | one {l L : List RaR} (h : l.length = 1) (d : Dec ns bt l L) : Run ns bt 0 l [L]
  | more {j : Nat} {l L : List RaR} {ls : List (List RaR)} (h : l.length = 2 ^ (j + 1)) (d : Dec ns bt l L) (r : Run ns bt j (pairR (L.map winR)) ls) : Run ns bt (j + 1) l (L :: ls)
theorem Run.len {ns : List ByteArray} {bt : Bool} {j : Nat} {l : List RaR} {ls : List (List RaR)} (h : Run ns bt j l ls) : ls.length = j + 1 := by
  induction h with
  | one => rfl
  | more _ _ _ ih => simp [ih]
theorem Run.ne {ns : List ByteArray} {bt : Bool} {j : Nat} {l : List RaR} {ls : List (List RaR)} (h : Run ns bt j l ls) : ls ≠ [] := by cases h <;> simp
theorem Run.size {ns : List ByteArray} {bt : Bool} {j : Nat} {l : List RaR} {ls : List (List RaR)} (h : Run ns bt j l ls) : l.length = 2 ^ j := by cases h <;> assumption
/-- how they came to be -/
inductive Fwd (ns : List ByteArray) (bt : Bool) (l₀ : List RaR) : Nat → List (List RaR) → List RaR → Prop
  | nil {J : Nat} (h : l₀.length = 2 ^ J) : Fwd ns bt l₀ J [] l₀
  | snoc {j : Nat} {ls : List (List RaR)} {l L : List RaR} (f : Fwd ns bt l₀ (j + 1) ls l) (d : Dec ns bt l L) : Fwd ns bt l₀ j (ls ++ [L]) (pairR (L.map winR))
theorem Fwd.size {ns : List ByteArray} {bt : Bool} {l₀ : List RaR} {j : Nat} {ls : List (List RaR)} {l : List RaR} (h : Fwd ns bt l₀ j ls l) : l.length = 2 ^ j := by
  induction h with
  | nil h => exact h
  | snoc f d ih =>
    refine pairR_len _ _ ?_
    rw [List.length_map, d.len, ih, Nat.pow_succ]
    omega
theorem Fwd.mono {ns : List ByteArray} {bt bt' : Bool} {l₀ : List RaR} {j : Nat} {ls : List (List RaR)} {l : List RaR} (h : Fwd ns bt l₀ j ls l) (hb : bt' = true → bt = true) : Fwd ns bt' l₀ j ls l := by
  induction h with
  | nil h => exact .nil h
  | snoc f d ih => exact .snoc ih (d.mono hb)
theorem Fwd.run {ns : List ByteArray} {bt : Bool} {l₀ : List RaR} {j : Nat} {ls : List (List RaR)} {l : List RaR} (h : Fwd ns bt l₀ j ls l) : ∀ tl, Run ns bt j l tl → Run ns bt (j + ls.length) l₀ (ls ++ tl) := by
  induction h with
  | nil h => intro tl r; exact r
  | @snoc j ls l L f d ih =>
    intro tl r
    have := ih (L :: tl) (.more f.size d r)
    rw [List.append_assoc, List.length_append, List.length_singleton, ← Nat.add_assoc, Nat.add_right_comm]
    exact this
theorem begin_pair (l : List RaR) : Beg (pairR (l.map winR)) := pairR_walk _
theorem nms_next {j : Nat} {L : List RaR} (h : L.length = 2 ^ (j + 1)) : nmsL (pairR (L.map winR)) = (winL L).filter isNb := by
  rw [nmsL_eq, lns_pair (2 ^ j) _ (by rw [List.length_map, h, Nat.pow_succ]; omega)]
  rfl
theorem next_sub {j : Nat} {L : List RaR} (h : L.length = 2 ^ (j + 1)) : (nmsL (pairR (L.map winR))).Sublist (nmsL L) := by
  rw [nms_next h]
  exact win_sub L
/-- what a beginning has to keep -/
structure Ok (l : List RaR) : Prop where
  beg : Beg l
  nm : ∀ s ∈ nmsL l, Nm s
  nd : (nmsL l).Nodup
theorem Ok.next {ns : List ByteArray} {bt : Bool} {j : Nat} {l L : List RaR} (h : Ok l) (hl : l.length = 2 ^ (j + 1)) (d : Dec ns bt l L) : Ok (pairR (L.map winR)) := by
  have s := next_sub (j := j) (L := L) (by rw [d.len, hl])
  rw [d.nms] at s
  exact ⟨begin_pair L, fun x hx => h.nm x (s.subset hx), h.nd.sublist s⟩
theorem Fwd.ok {ns : List ByteArray} {bt : Bool} {l₀ : List RaR} {j : Nat} {ls : List (List RaR)} {l : List RaR} (h : Fwd ns bt l₀ j ls l) (h0 : Ok l₀) : Ok l := by
  induction h with
  | nil h => exact h0
  | snoc f d ih => exact ih.next f.size d
theorem pow_in {j : Nat} (h : j ≤ 5) : 2 ^ j ∈ [1, 2, 4, 8, 16, 32] := by
  rcases j with _ | _ | _ | _ | _ | _ | j
  all_goals first | decide | omega
theorem Ok.races {l : List RaR} {j : Nat} (h : Ok l) (hl : l.length = 2 ^ j) (hj : j ≤ 5) : racesE l = 0 := racesE_fit (by rw [hl]; exact pow_in hj) h.nm h.nd h.beg.fit
theorem Ok.dec {ns : List ByteArray} {bt : Bool} {l L : List RaR} {j : Nat} (h : Ok l) (hl : l.length = 2 ^ j) (hj : j ≤ 5) (d : Dec ns bt l L) : racesE L = 0 :=
  racesE_fit (by rw [d.len, hl]; exact pow_in hj) (by rw [d.nms]; exact h.nm) (by rw [d.nms]; exact h.nd) (d.fit h.beg)
end Go.Proofs.YthfmgficbnmmnaaGreatDoor
namespace Go.Proofs.YthfmgficbnmmnaaGreatDoor
open Go.RowKit Go.Lib
set_option linter.unusedSimpArgs false
set_option linter.unusedVariables false
theorem Run.head {ns : List ByteArray} {bt : Bool} {j : Nat} {l : List RaR} {ls : List (List RaR)} (h : Run ns bt j l ls) : ∃ L tl, ls = L :: tl ∧ Dec ns bt l L := by
  cases h with
  | one h d => exact ⟨_, _, rfl, d⟩
  | more h d r => exact ⟨_, _, rfl, d⟩
theorem Run.races {ns : List ByteArray} {bt : Bool} {j : Nat} {l : List RaR} {ls : List (List RaR)} (h : Run ns bt j l ls) (hj : j ≤ 5) (h0 : Ok l) : ∀ L ∈ ls, racesE L = 0 := by
  induction h with
  | one h d =>
    intro L hL
    rw [List.mem_singleton] at hL
    subst hL
    exact h0.dec (j := 0) h (by omega) d
  | more h d r ih =>
    intro L hL
    rcases List.mem_cons.1 hL with rfl | hL
    · exact h0.dec h hj d
    · exact ih (by omega) (h0.next h d) L hL
theorem allR_true {l m : List RaR} (h : ∀ (i : Nat) (x y : RaR), l[i]? = some x → m[i]? = some y → x.a = y.a ∧ x.b = y.b) : ∀ n, allR l m n = true
  | 0 => rfl
  | n + 1 => by
    unfold allR
    rw [allR_true h n, Bool.true_and]
    cases hx : l[n]? with
    | none => rfl
    | some x =>
      cases hy : m[n]? with
      | none => rfl
      | some y =>
        obtain ⟨e1, e2⟩ := h n x y hx hy
        simp [e1, e2]
theorem Dec.same {ns : List ByteArray} {bt : Bool} {l L : List RaR} (h : Dec ns bt l L) : sameR L l = true := by
  unfold sameR
  rw [allR_true (fun i x y hx hy => ⟨(h.at' i y x hy hx).a, (h.at' i y x hy hx).b⟩), h.len]
  simp
theorem Run.beh {ns : List ByteArray} {bt : Bool} {j : Nat} {l : List RaR} {ls : List (List RaR)} (h : Run ns bt j l ls) : ∀ (i : Nat) (L M : List RaR), ls[i]? = some L → ls[i + 1]? = some M → behE L M = 0 := by
  induction h with
  | one h d => intro i L M h1 h2; simp at h2
  | @more j l L0 ls h d r ih =>
    intro i L M h1 h2
    rcases i with _ | i
    · simp at h1 h2
      subst h1
      obtain ⟨M', tl, rfl, dM⟩ := r.head
      simp at h2
      subst h2
      have e1 : 2 * M'.length = L0.length := by rw [dM.len, r.size, d.len, h, Nat.pow_succ]; omega
      rw [behE_same e1 d.shut, dM.same]
      rfl
    · exact ih i L M (by simpa using h1) (by simpa using h2)
theorem Run.last {ns : List ByteArray} {bt : Bool} {j : Nat} {l : List RaR} {ls : List (List RaR)} (h : Run ns bt j l ls) : (ls.getLastD []).length = 1 ∧ openR (ls.getLastD []) = false := by
  induction h with
  | one h d => exact ⟨by rw [List.getLastD_cons]; simpa [d.len] using h, by simpa using d.shut⟩
  | @more j l L ls h d r ih =>
    have : (L :: ls).getLastD [] = ls.getLastD [] := by
      have := r.ne
      cases ls with
      | nil => exact absurd rfl this
      | cons a t => simp [List.getLastD]
    rw [this]
    exact ih
theorem Run.rounds {ns : List ByteArray} {bt : Bool} {j : Nat} {l : List RaR} {ls : List (List RaR)} (h : Run ns bt j l ls) (hj : j ≤ 5) (h0 : Ok l) : roundsE ls = 0 := by
  have hl := h.len
  obtain ⟨l1, l2⟩ := h.last
  unfold roundsE
  rw [if_neg (by omega), if_neg (by omega), l1, l2]
  have : errG (rndE ls) ls ls.length 0 = 0 := by
    refine errG_nil (fun i L hL => ?_) _ _
    unfold rndE
    rw [if_pos (h.races hj h0 L (List.mem_of_getElem? hL))]
    rcases i with _ | i
    · rfl
    · rw [if_neg (by omega)]
      have hi := (List.getElem?_eq_some_iff.1 hL).1
      have e : ls[i]? = some (ls[i]'(by omega)) := List.getElem?_eq_getElem (by omega)
      rw [show i + 1 - 1 = i by omega, List.getD_eq_getElem?_getD, e]
      exact h.beh i _ L e hL
  rw [this]
  rfl
theorem places_one (r : RaR) : placesL [[r]] = (if (winR r).toList = [] then [] else [⟨winR r, 1⟩]) ++ rcP 2 r := by
  unfold placesL topP
  rw [List.reverse_singleton, List.flatMap_cons, List.flatMap_nil, List.append_nil, rndP_eq]
  simp [List.getLastD]
theorem places_more (L : List RaR) {ls : List (List RaR)} (h : ls ≠ []) : placesL (L :: ls) = placesL ls ++ rndP L := by
  have e : (L :: ls).getLastD [] = ls.getLastD [] := by
    cases ls with
    | nil => exact absurd rfl h
    | cons a t => simp [List.getLastD]
  unfold placesL topP
  rw [e, List.reverse_cons, List.flatMap_append, ← List.append_assoc]
  simp
/-- what the places of rounds are -/
structure PlOk (l : List RaR) (ls : List (List RaR)) : Prop where
  perm : ((placesL ls).map PlR.nm).Perm (nmsL l)
  pos : (placesL ls).Pairwise fun a b => a.k ≤ b.k ∧ 2 ≤ b.k
  le : ∀ p ∈ placesL ls, 1 ≤ p.k ∧ p.k ≤ (l.length : Int) + 1
  lost : ∀ L ∈ ls, ∀ r ∈ L, (isNb r.a = true → r.w ≠ 1 → (⟨r.a, (L.length : Int) + 1⟩ : PlR) ∈ placesL ls) ∧ (isNb r.b = true → r.w ≠ 2 → (⟨r.b, (L.length : Int) + 1⟩ : PlR) ∈ placesL ls)
theorem Dec.bounds {ns : List ByteArray} {bt : Bool} {l L : List RaR} (h : Dec ns bt l L) : ∀ r ∈ L, 1 ≤ r.w ∧ r.w ≤ 3 := fun r hr => by
  obtain ⟨i, hi⟩ := List.getElem?_of_mem hr
  obtain ⟨_, _, D⟩ := h.back hi
  exact ⟨D.lo, D.hi⟩
theorem lost_rnd {L : List RaR} {r : RaR} (hr : r ∈ L) : (isNb r.a = true → r.w ≠ 1 → (⟨r.a, (L.length : Int) + 1⟩ : PlR) ∈ rndP L) ∧ (isNb r.b = true → r.w ≠ 2 → (⟨r.b, (L.length : Int) + 1⟩ : PlR) ∈ rndP L) := by
  rw [rndP_eq]
  exact ⟨fun h1 h2 => List.mem_flatMap.2 ⟨r, hr, rcP_a h1 h2⟩, fun h1 h2 => List.mem_flatMap.2 ⟨r, hr, rcP_b h1 h2⟩⟩
theorem pw_every {α : Type} {R : α → α → Prop} : ∀ {l : List α}, (∀ a ∈ l, ∀ b ∈ l, R a b) → l.Pairwise R
  | [], _ => List.Pairwise.nil
  | a :: l, h => List.Pairwise.cons (fun b hb => h a (by simp) b (by simp [hb])) (pw_every fun x hx y hy => h x (by simp [hx]) y (by simp [hy]))
theorem Run.places {ns : List ByteArray} {bt : Bool} {j : Nat} {l : List RaR} {ls : List (List RaR)} (h : Run ns bt j l ls) : PlOk l ls := by
  induction h with
  | @one l L h d =>
    obtain ⟨r, rfl⟩ : ∃ r, L = [r] := List.length_eq_one_iff.1 (by rw [d.len]; exact h)
    have hb := d.bounds r (by simp)
    have hp := places_one r
    have e1 : ((if (winR r).toList = [] then [] else [⟨winR r, 1⟩] : List PlR)).map PlR.nm = [winR r].filter isNb := by
      cases hw : isNb (winR r) with
      | false => rw [if_pos (isNb_no.1 hw)]; simp [hw]
      | true => rw [if_neg (isNb_yes.1 hw)]; simp [hw]
    have hk : ∀ p ∈ rcP 2 r, p.k = 2 := fun p hp => rcP_k hp
    refine ⟨?_, ?_, ?_, ?_⟩
    · rw [hp, List.map_append, e1, ← d.nms]
      have := race_perm (m := 2) hb.1 hb.2
      unfold nmsL
      simpa using this
    · rw [hp, List.pairwise_append]
      refine ⟨?_, pw_every fun a ha b hb => ?_, fun a ha b hb => ?_⟩
      · split
        · exact List.Pairwise.nil
        · exact List.pairwise_singleton _ _
      · rw [hk a ha, hk b hb]; omega
      · have : a.k = 1 := by
          split at ha
          · cases ha
          · simp at ha; rw [ha]
        rw [this, hk b hb]; omega
    · intro p hp2
      rw [hp, List.mem_append] at hp2
      rw [h]
      rcases hp2 with hp2 | hp2
      · split at hp2
        · cases hp2
        · simp at hp2; rw [hp2]; simp
      · rw [hk p hp2]; simp
    · intro L hL x hx
      rw [List.mem_singleton] at hL
      subst hL
      have := lost_rnd hx
      have e : rndP [r] = rcP 2 r := by rw [rndP_eq]; simp
      rw [e] at this
      rw [hp]
      exact ⟨fun a b => List.mem_append_right _ (this.1 a b), fun a b => List.mem_append_right _ (this.2 a b)⟩
  | @more j l L ls h d r ih =>
    have hp := places_more L r.ne
    have hL : L.length = 2 ^ (j + 1) := by rw [d.len, h]
    have hs := r.size
    have h2 : (L.length : Int) = 2 * ((pairR (L.map winR)).length : Int) := by
      rw [hL, hs, Nat.pow_succ]; omega
    have hpos : 0 < (pairR (L.map winR)).length := by rw [hs]; exact Nat.two_pow_pos j
    have hk : ∀ p ∈ rndP L, p.k = (L.length : Int) + 1 := fun p hp => rndP_k hp
    refine ⟨?_, ?_, ?_, ?_⟩
    · rw [hp, List.map_append, ← d.nms]
      have h1 := round_perm d.bounds ((L.length : Int) + 1)
      rw [← rndP_eq] at h1
      refine List.Perm.trans ?_ h1
      refine List.Perm.append_right _ ?_
      have := ih.perm
      rwa [nms_next hL] at this
    · rw [hp, List.pairwise_append]
      refine ⟨ih.pos, pw_every fun a ha b hb => ?_, fun a ha b hb => ?_⟩
      · rw [hk a ha, hk b hb]; omega
      · have := ih.le a ha
        rw [hk b hb]; omega
    · intro p hp2
      rw [hp, List.mem_append] at hp2
      rw [← d.len]
      rcases hp2 with hp2 | hp2
      · have := ih.le p hp2; omega
      · rw [hk p hp2]; omega
    · intro M hM x hx
      rw [hp]
      rcases List.mem_cons.1 hM with rfl | hM
      · have := lost_rnd hx
        exact ⟨fun a b => List.mem_append_right _ (this.1 a b), fun a b => List.mem_append_right _ (this.2 a b)⟩
      · have := ih.lost M hM x hx
        exact ⟨fun a b => List.mem_append_left _ (this.1 a b), fun a b => List.mem_append_left _ (this.2 a b)⟩
end Go.Proofs.YthfmgficbnmmnaaGreatDoor
namespace Go.Proofs.YthfmgficbnmmnaaGreatDoor
open Go.RowKit Go.Lib
set_option linter.unusedSimpArgs false
set_option linter.unusedVariables false
/-- names as they have to be -/
structure NmOk (ns : List ByteArray) : Prop where
  lo : 1 ≤ ns.length
  nm : ∀ s ∈ ns, Nm s
  nd : ns.Nodup
theorem Nm.yes {s : ByteArray} (h : Nm s) : isNb s = true := by
  rw [isNb_yes]
  intro e
  have := h.2.1
  have e2 : s.toList.length = s.size := by rw [ByteArray.toList_eq]; exact Array.length_toList
  rw [e] at e2
  simp at e2
  omega
theorem namesE_ok {ns : List ByteArray} (h : namesE ns = 0) : NmOk ns := by
  have hl := namesE_zero h
  have h2 : errG (strE ns) ns ns.length 0 = 0 := by
    unfold namesE at h
    rw [if_neg (by omega), if_neg (by omega)] at h
    exact h
  have h3 : ∀ i x, ns[i]? = some x → Nm x ∧ hasS (ns.take i) x = false := by
    intro i x hx
    have := errG_zero _ _ h2 (by omega) i x (by omega) (by have := (List.getElem?_eq_some_iff.1 hx).1; omega) hx
    unfold strE nmE at this
    simp only [firstE] at this
    by_cases h4 : Nm x
    · refine ⟨h4, ?_⟩
      cases h5 : hasS (ns.take i) x with
      | false => rfl
      | true => rw [h5, if_pos h4] at this; simp at this
    · rw [if_neg h4] at this; simp at this
  refine ⟨hl.1, fun s hs => ?_, ?_⟩
  · obtain ⟨i, hi⟩ := List.getElem?_of_mem hs
    exact (h3 i s hi).1
  · unfold List.Nodup
    rw [List.pairwise_iff_getElem]
    intro i j hi hj hij e
    have := (h3 j _ (List.getElem?_eq_getElem hj)).2
    have h6 : hasS (ns.take j) ns[j] = true := by
      rw [hasS_iff, ← e, List.mem_iff_getElem]
      exact ⟨i, by rw [List.length_take]; omega, by simp⟩
    rw [h6] at this
    cases this
theorem range_take {α : Type} (ns : List α) : ∀ N, (List.range N).filterMap (fun i => ns[i]?) = ns.take N
  | 0 => rfl
  | N + 1 => by
    rw [List.range_succ, List.filterMap_append, range_take ns N, List.take_add_one]
    congr 1
theorem nmS_at {ns : List ByteArray} {t : Nat} (h1 : 1 ≤ t) (h2 : t ≤ ns.length) : ∃ x, ns[t - 1]? = some x ∧ nmS ns (t : Int) = x := by
  refine ⟨ns[t - 1]'(by omega), List.getElem?_eq_getElem _, ?_⟩
  unfold nmS
  rw [if_neg (by omega), show ((t : Int).toNat - 1) = t - 1 by omega, List.getD_eq_getElem?_getD, List.getElem?_eq_getElem (by omega)]
  rfl
theorem nmS_no (ns : List ByteArray) : nmS ns 0 = ⟨#[]⟩ := by unfold nmS; rw [if_pos rfl]
theorem seeds_filter {ns : List ByteArray} (h : NmOk ns) : ∀ L : List Int, (∀ s ∈ L, 1 ≤ s) → ((zK ns.length L).map (nmS ns)).filter isNb = L.filterMap fun s => ns[s.toNat - 1]?
  | [], _ => rfl
  | s :: L, hL => by
    have ih := seeds_filter h L fun x hx => hL x (by simp [hx])
    have h1 := hL s (by simp)
    obtain ⟨t, rfl⟩ : ∃ t : Nat, s = (t : Int) := ⟨s.toNat, by omega⟩
    rw [zK, List.map_cons, List.filterMap_cons]
    by_cases h2 : (ns.length : Int) < (t : Int)
    · rw [if_pos h2, nmS_no, List.filter_cons_of_neg (by rw [isNb_nil]; simp), ih, show ns[(t : Int).toNat - 1]? = none from List.getElem?_eq_none (by omega)]
    · obtain ⟨x, hx, e⟩ := nmS_at (ns := ns) (t := t) (by omega) (by omega)
      rw [if_neg h2, e, List.filter_cons_of_pos (Nm.yes (h.nm x (List.mem_of_getElem? hx))), ih, show (t : Int).toNat - 1 = t - 1 by omega, hx]
theorem grow_perm {k : Nat} (h : k ≤ 5) : (growB k).Perm ((List.range (2 ^ k)).map fun (i : Nat) => (i : Int) + 1) := by
  rcases k with _ | _ | _ | _ | _ | _ | k
  all_goals first | decide +kernel | omega
theorem seeds_perm {ns : List ByteArray} (h : NmOk ns) {k : Nat} (hk : k ≤ 5) (h2 : ns.length ≤ 2 ^ k) : (((zK ns.length (growB k)).map (nmS ns)).filter isNb).Perm ns := by
  rw [seeds_filter h _ fun s hs => (growB_range k s hs).1]
  refine ((grow_perm hk).filterMap _).trans ?_
  rw [List.filterMap_map]
  have : (List.range (2 ^ k)).filterMap ((fun (s : Int) => ns[s.toNat - 1]?) ∘ fun (i : Nat) => (i : Int) + 1) = (List.range (2 ^ k)).filterMap fun i => ns[i]? := by
    congr 1
  rw [this, range_take, List.take_of_length_le h2]
/-- the races in which the seeds meet, with 2 ^ J races -/
def seedR (ns : List ByteArray) (J : Nat) : List RaR := pairR ((zK ns.length (growB (J + 1))).map (nmS ns))
theorem seedR_len (ns : List ByteArray) (J : Nat) : (seedR ns J).length = 2 ^ J := pairR_len _ _ (by rw [List.length_map, zK_len, growB_len, Nat.pow_succ]; omega)
theorem seedR_ok {ns : List ByteArray} (h : NmOk ns) {J : Nat} (hJ : J ≤ 4) (h2 : ns.length ≤ 2 ^ (J + 1)) : Ok (seedR ns J) ∧ (nmsL (seedR ns J)).Perm ns := by
  have hp := seeds_perm h (k := J + 1) (by omega) h2
  have e : nmsL (seedR ns J) = ((zK ns.length (growB (J + 1))).map (nmS ns)).filter isNb := by
    unfold seedR
    rw [nmsL_eq, lns_pair (2 ^ J) _ (by rw [List.length_map, zK_len, growB_len, Nat.pow_succ]; omega)]
  rw [e]
  exact ⟨⟨pairR_walk _, fun s hs => h.nm s (hp.subset (e ▸ hs)), by rw [e]; exact hp.nodup_iff.2 h.nd⟩, hp⟩
theorem firstR_seed {ns : List ByteArray} {k : Nat} (h : 1 ≤ k) : firstR ns k = seedR ns (k - 1) := by
  unfold firstR lR seedR
  rw [if_neg (by omega), show k - 1 + 1 = k by omega]
theorem firstR_seed0 {ns : List ByteArray} (h : ns.length = 1) : firstR ns 0 = seedR ns 0 := by
  unfold firstR lR seedR
  rw [h]
  rfl
theorem seedN_at {ns : List ByteArray} (h : NmOk ns) {t : Nat} (h1 : 1 ≤ t) (h2 : t ≤ ns.length) : seedN ns (nmS ns (t : Int)) = t - 1 := by
  obtain ⟨x, hx, e⟩ := nmS_at (ns := ns) h1 h2
  rw [e]
  unfold seedN
  obtain ⟨hi, hxe⟩ := List.getElem?_eq_some_iff.1 hx
  rw [List.findIdx_eq hi]
  refine ⟨by rw [hxe]; simp, fun j hj => ?_⟩
  rw [beq_eq_false_iff_ne]
  intro e2
  have := ba_inj e2
  rw [← hxe] at this
  exact absurd this ((List.pairwise_iff_getElem.1 h.nd) j (t - 1) (by omega) hi hj)
theorem pair_dbl (ns : List ByteArray) (n N : Int) : ∀ L : List Int, pairR ((zK n (dblK N L)).map (nmS ns)) = L.map fun s => raB (nmS ns (if n < s then 0 else s)) (nmS ns (if n < 2 * N + 1 - s then 0 else 2 * N + 1 - s))
  | [] => rfl
  | s :: L => by
    have := pair_dbl ns n N L
    simp only [dblK, zK, List.map_cons, pairR, this]
theorem zK_same {n : Int} : ∀ {L : List Int}, (∀ s ∈ L, s ≤ n) → zK n L = L
  | [], _ => rfl
  | s :: L, h => by
    have := h s (by simp)
    rw [zK, if_neg (by omega), zK_same fun x hx => h x (by simp [hx])]
/-- the place of a seed that wins against all who are behind it -/
structure Desc (ns : List ByteArray) (j : Nat) (p : PlR) : Prop where
  mk' ::
  out : ∃ t : Nat, 1 ≤ t ∧ t ≤ ns.length ∧ p.nm = nmS ns (t : Int) ∧ ((t = 1 ∧ p.k = 1) ∨ ∃ i : Nat, i ≤ j ∧ 2 ^ i < t ∧ t ≤ 2 ^ (i + 1) ∧ p.k = ((2 ^ i : Nat) : Int) + 1)
/-- the race of seed s, when 2 ^ j races are left -/
def bestR (ns : List ByteArray) (j : Nat) (s : Int) : RaR := ⟨nmS ns s, nmS ns (if (ns.length : Int) < 2 * ((2 ^ j : Nat) : Int) + 1 - s then 0 else 2 * ((2 ^ j : Nat) : Int) + 1 - s), 1⟩
theorem seedR_map {ns : List ByteArray} {j : Nat} (hj : 2 ^ j ≤ ns.length) : seedR ns j = (growB j).map fun s => raB (nmS ns s) (nmS ns (if (ns.length : Int) < 2 * ((2 ^ j : Nat) : Int) + 1 - s then 0 else 2 * ((2 ^ j : Nat) : Int) + 1 - s)) := by
  unfold seedR
  rw [growB, pair_dbl, growB_len]
  refine List.map_congr_left fun s hs => ?_
  have := growB_range j s hs
  have e : ((2 ^ j : Nat) : Int) = 2 ^ j := by simp
  rw [if_neg (by omega)]
theorem Dec.best {ns : List ByteArray} (h : NmOk ns) {j : Nat} (hj : 2 ^ j ≤ ns.length) {L : List RaR} (d : Dec ns true (seedR ns j) L) : L = (growB j).map (bestR ns j) := by
  rw [seedR_map hj] at d
  refine List.ext_getElem? fun i => ?_
  cases hx : (growB j)[i]? with
  | none =>
    have h1 : (growB j).length ≤ i := List.getElem?_eq_none_iff.1 hx
    rw [List.getElem?_eq_none (by rw [d.len, List.length_map]; exact h1), List.getElem?_eq_none (by rw [List.length_map]; exact h1)]
  | some s =>
    have hi := (List.getElem?_eq_some_iff.1 hx).1
    have hL : i < L.length := by rw [d.len, List.length_map]; exact hi
    have D := d.at' i _ _ (by rw [List.getElem?_map, hx]; rfl) (List.getElem?_eq_getElem hL)
    rw [List.getElem?_eq_getElem hL, List.getElem?_map, hx, Option.map_some]
    congr 1
    have hr := growB_range j s (List.mem_of_getElem? hx)
    have e : ((2 ^ j : Nat) : Int) = 2 ^ j := by simp
    obtain ⟨a, ha⟩ : ∃ a : Nat, s = (a : Int) := ⟨s.toNat, by omega⟩
    subst ha
    have hA : isNb (nmS ns (a : Int)) = true := by
      obtain ⟨x, hx, e⟩ := nmS_at (ns := ns) (t := a) (by omega) (by omega)
      rw [e]
      exact Nm.yes (h.nm x (List.mem_of_getElem? hx))
    have hw : L[i].w = 1 := by
      by_cases h2 : (ns.length : Int) < 2 * ((2 ^ j : Nat) : Int) + 1 - (a : Int)
      · have hk := D.keep
        simp only [if_pos h2, nmS_no, raB] at hk
        have hk1 : walkW (nmS ns (a : Int)) ⟨#[]⟩ = 1 := by
          unfold walkW
          rw [if_neg (isNb_yes.1 hA), if_pos (isNb_no.1 isNb_nil)]
        rw [hk1] at hk
        exact hk (by decide)
      · have hb := D.best rfl
        simp only [if_neg h2, raB] at hb
        obtain ⟨b, hbe⟩ : ∃ b : Nat, 2 * ((2 ^ j : Nat) : Int) + 1 - (a : Int) = (b : Int) := ⟨(2 * ((2 ^ j : Nat) : Int) + 1 - (a : Int)).toNat, by omega⟩
        rw [hbe] at hb h2
        have hB : isNb (nmS ns (b : Int)) = true := by
          obtain ⟨x, hx, e⟩ := nmS_at (ns := ns) (t := b) (by omega) (by omega)
          rw [e]
          exact Nm.yes (h.nm x (List.mem_of_getElem? hx))
        have hk0 : walkW (nmS ns (a : Int)) (nmS ns (b : Int)) = 0 := by
          unfold walkW
          rw [if_neg (isNb_yes.1 hA), if_neg (isNb_yes.1 hB)]
        rw [hb hk0, seedN_at h (t := a) (by omega) (by omega), seedN_at h (t := b) (by omega) (by omega), if_neg (by omega)]
    have ea := D.a
    have eb := D.b
    have : ∀ r : RaR, r = ⟨r.a, r.b, r.w⟩ := fun r => rfl
    rw [this L[i], ea, eb, hw]
    rfl
theorem best_win {ns : List ByteArray} {j : Nat} : ((growB j).map (bestR ns j)).map winR = (growB j).map (nmS ns) := by
  rw [List.map_map]
  rfl
theorem best_rc {ns : List ByteArray} {j : Nat} (hj : 2 ^ j ≤ ns.length) {s : Int} (hs : s ∈ growB j) {p : PlR} (hp : p ∈ rcP (((2 ^ j : Nat) : Int) + 1) (bestR ns j s)) : Desc ns j p := by
  have hr := growB_range j s hs
  have e : ((2 ^ j : Nat) : Int) = 2 ^ j := by simp
  unfold rcP laneL at hp
  rw [List.flatMap_append, List.mem_append] at hp
  rcases hp with hp | hp
  · split at hp
    · cases hp
    · rw [List.flatMap_cons, List.flatMap_nil, List.append_nil] at hp
      unfold plOf at hp
      rw [if_pos (show (bestR ns j s, (1 : Int)).snd = (bestR ns j s, (1 : Int)).fst.w from rfl)] at hp
      cases hp
  · split at hp
    · cases hp
    · rename_i hne
      rw [List.flatMap_cons, List.flatMap_nil, List.append_nil] at hp
      unfold plOf at hp
      rw [if_neg (show ¬ (bestR ns j s, (2 : Int)).snd = (bestR ns j s, (2 : Int)).fst.w from (by decide : ¬ ((2 : Int) = 1)))] at hp
      rw [List.mem_singleton] at hp
      subst hp
      by_cases h2 : (ns.length : Int) < 2 * ((2 ^ j : Nat) : Int) + 1 - s
      · exfalso
        apply hne
        unfold bestR
        simp only [if_pos h2, nmS_no]
        exact isNb_no.1 isNb_nil
      · refine ⟨(2 * ((2 ^ j : Nat) : Int) + 1 - s).toNat, by omega, by omega, ?_, .inr ⟨j, Nat.le_refl _, by omega, by rw [Nat.pow_succ]; omega, rfl⟩⟩
        show (inR (bestR ns j s) 2) = _
        unfold bestR inR
        simp only [if_neg h2]
        rw [show (((2 * ((2 ^ j : Nat) : Int) + 1 - s).toNat : Nat) : Int) = 2 * ((2 ^ j : Nat) : Int) + 1 - s by omega]
        rfl
theorem Desc.up {ns : List ByteArray} {j : Nat} {p : PlR} (h : Desc ns j p) : Desc ns (j + 1) p := by
  obtain ⟨t, h1, h2, h3, h4⟩ := h.out
  refine ⟨t, h1, h2, h3, ?_⟩
  rcases h4 with h4 | ⟨i, hi, h5⟩
  · exact .inl h4
  · exact .inr ⟨i, by omega, h5⟩
theorem Run.best {ns : List ByteArray} (h : NmOk ns) {bt : Bool} {j : Nat} {l : List RaR} {ls : List (List RaR)} (r : Run ns bt j l ls) : bt = true → l = seedR ns j → 2 ^ j ≤ ns.length → ∀ p ∈ placesL ls, Desc ns j p := by
  induction r with
  | @one l L hl d =>
    intro hb he hj p hp
    subst hb he
    have e := d.best h hj
    have e2 : L = [bestR ns 0 1] := e
    rw [e2, places_one, List.mem_append] at hp
    rcases hp with hp | hp
    · split at hp
      · cases hp
      · rw [List.mem_singleton] at hp
        subst hp
        exact ⟨1, Nat.le_refl _, h.lo, rfl, .inl ⟨rfl, rfl⟩⟩
    · exact best_rc (j := 0) hj (s := 1) (by decide) hp
  | @more j l L ls hl d r ih =>
    intro hb he hj p hp
    subst hb he
    have e := d.best h hj
    rw [places_more L r.ne, List.mem_append] at hp
    have hj2 : 2 ^ j ≤ ns.length := by rw [Nat.pow_succ] at hj; omega
    rcases hp with hp | hp
    · refine Desc.up (ih rfl ?_ hj2 p hp)
      rw [e, best_win]
      unfold seedR
      rw [zK_same fun s hs => ?_]
      have := (growB_range (j + 1) s hs).2
      have e3 : ((2 ^ (j + 1) : Nat) : Int) = 2 ^ (j + 1) := by simp
      omega
    · rw [rndP_eq, e, List.length_map, growB_len] at hp
      obtain ⟨x, hx, hp⟩ := List.mem_flatMap.1 hp
      obtain ⟨s, hs, rfl⟩ := List.mem_map.1 hx
      exact best_rc hj hs hp
theorem Desc.three {ns : List ByteArray} (h : NmOk ns) {j : Nat} {p : PlR} (d : Desc ns j p) : (p.k = 1 ↔ seedN ns p.nm = 0) ∧ (p.k = 2 ↔ seedN ns p.nm = 1) ∧ (p.k = 3 ↔ (seedN ns p.nm = 2 ∨ seedN ns p.nm = 3)) := by
  obtain ⟨t, h1, h2, h3, h4⟩ := d.out
  rw [h3, seedN_at h h1 h2]
  rcases h4 with ⟨rfl, hk⟩ | ⟨i, _, h5, h6, hk⟩
  · rw [hk]; omega
  · rw [hk]
    rcases i with _ | _ | i
    · simp at *; omega
    · simp at *; omega
    · have : 4 ≤ 2 ^ (i + 1 + 1) := by
        have := Nat.two_pow_pos i
        rw [Nat.pow_succ, Nat.pow_succ]; omega
      omega
end Go.Proofs.YthfmgficbnmmnaaGreatDoor
namespace Go.Proofs.YthfmgficbnmmnaaGreatDoor
open Go.RowKit Go.Lib
set_option linter.unusedSimpArgs false
set_option linter.unusedVariables false
theorem seedN_found {ns : List ByteArray} {s t : ByteArray} {i : Nat} (ht : ns[i]? = some t) (he : t.toList = s.toList) (h : ∀ (j : Nat) (u : ByteArray), j < i → ns[j]? = some u → u.toList ≠ s.toList) : seedN ns s = i := by
  obtain ⟨hi, hte⟩ := List.getElem?_eq_some_iff.1 ht
  unfold seedN
  rw [List.findIdx_eq hi]
  refine ⟨by rw [hte, he]; simp, fun j hj => ?_⟩
  rw [beq_eq_false_iff_ne]
  exact h j _ hj (List.getElem?_eq_getElem _)
theorem seedN_none {ns : List ByteArray} {s : ByteArray} (h : ∀ (j : Nat) (u : ByteArray), j < ns.length → ns[j]? = some u → u.toList ≠ s.toList) : seedN ns s = ns.length := by
  unfold seedN
  rw [List.findIdx_eq_length]
  intro x hx
  obtain ⟨j, hj⟩ := List.getElem?_of_mem hx
  rw [beq_eq_false_iff_ne]
  exact h j x (List.getElem?_eq_some_iff.1 hj).1 hj
set_option maxRecDepth 100000 in
theorem seed_c (ns : List ByteArray) (v : Value) (s : ByteArray) (w : World) (hv : StrAts w v ns) (h1 : ns.length ≤ 1000) :
    Calls Tryz.prog 21 #[v, .string s] w fun e w' => e = .returned (.int .i64 (seedN ns s : Nat)) ∧ w = w' := by
  obtain ⟨⟨p, cap, rfl, _, hh⟩⟩ := hv
  have HQ := Lib.hid (fun (i : Nat) (t : ByteArray) (ht : ns[i]? = some t) (he : t.toList = s.toList) (h : ∀ (j : Nat) (u : ByteArray), j < i → ns[j]? = some u → u.toList ≠ s.toList) => seedN_found ht he h)
  have HZ := Lib.hid (fun (h : ∀ (j : Nat) (u : ByteArray), j < ns.length → ns[j]? = some u → u.toList ≠ s.toList) => seedN_none h)
  generalize seedN ns s = z at *
  obtain ⟨n, hn⟩ : ∃ n, n = ns.length := ⟨_, rfl⟩
  rw [← hn] at h1 HZ hh ⊢
  have HS := Lib.hid (fun k (h : k < n) => (show ∃ x, ns[k]? = some x from ⟨ns[k]'(by omega), List.getElem?_eq_getElem _⟩))
  have HH := Lib.hid hh
  clear hh hn
  go_enter Tryz.func21, Tryz.ntmps21
  go_wp2_with fail
  go_loopg [5, 8] n (fun gk s5 s8 wr => ∃ i : Nat, s8 = .int .i64 i ∧ gk + i = n ∧ wr = w ∧ Hid (∀ (j : Nat) (u : ByteArray), j < i → ns[j]? = some u → u.toList ≠ s.toList))
  case atStart => exact ⟨0, rfl, by omega, rfl, fun j u h => by omega⟩
  case round =>
    obtain ⟨i, rfl, hi, rfl, HF⟩ := hrel
    by_cases hlt : i < n
    · obtain ⟨t, ht⟩ := HS.out i hlt
      obtain ⟨b, off, rfl, hc⟩ := HH.out (by omega)
      have c0 := (hc i t ht).nm
      have hi2 : (i : Int) < n := by omega
      clear hc
      by_cases hne : t.toList = s.toList
      · have hb2 : (t.toList == s.toList) = true := by rw [hne]; simp
        have HE : Hid (z = i) := HQ.out i t ht hne HF.out
        clear ht hne
        go_wp2_with fail
        go_ret
        exact ⟨by rw [HE.out]; rfl, rfl⟩
      · have hb2 : (t.toList == s.toList) = false := beq_eq_false_iff_ne.2 hne
        have HST : Hid (∀ (j : Nat) (u : ByteArray), j < i + 1 → ns[j]? = some u → u.toList ≠ s.toList) := fun j u hj hu => by
          rcases Nat.lt_or_ge j i with h | h
          · exact HF.out j u h hu
          · obtain rfl : i = j := by omega
            rw [ht] at hu; cases hu; exact hne
        clear ht hne
        go_wp2_with fail
        go_roundg (gk - 1)
        case measure => omega
        case rel => exact ⟨i + 1, by go_num, by omega, rfl, HST⟩
    · obtain rfl : i = n := by omega
      have HE : Hid (z = i) := HZ.out HF.out
      have hi2 : ¬ (i : Int) < (i : Int) := by omega
      go_wp2_with fail
      go_ret
      exact ⟨by rw [HE.out]; rfl, rfl⟩
/-- the rounds that the law has made: rows of its own -/
structure Cpt (base : Nat) (w : World) (ys : List Rd) : Prop where
  mk' ::
  out : ∀ (j : Nat) (y : Rd), ys[j]? = some y → y.l.length = y.n ∧ w.ownsRow base 55 3 (rdV y) y.n (raCs y.l)
theorem Cpt.gr {base : Nat} {w w' : World} {ys : List Rd} (h : Cpt base w ys) (g : Gr w w') : Cpt base w' ys := ⟨fun j y hy => ⟨(h.out j y hy).1, own_kept (h.out j y hy).2 g⟩⟩
theorem Cpt.grown {base : Nat} {w w' : World} {ys : List Rd} {b2 s2 n2 : Nat} {v2 : Value} {l2 : List Value} (h : Cpt base w ys) (h2 : w.ownsRow b2 30 s2 v2 n2 l2) (hg : w.grownBy w' v2.ownBlock) : Cpt base w' ys := ⟨fun j y hy => ⟨(h.out j y hy).1, own_apartT (h.out j y hy).2 h2 (by decide) hg⟩⟩
theorem Cpt.add {base : Nat} {w : World} {ys : List Rd} {y : Rd} (h : Cpt base w ys) (hl : y.l.length = y.n) (ho : w.ownsRow base 55 3 (rdV y) y.n (raCs y.l)) : Cpt base w (ys ++ [y]) := ⟨fun j z hz => by
  rcases Nat.lt_or_ge j ys.length with hj | hj
  · rw [List.getElem?_append_left hj] at hz
    exact h.out j z hz
  · rw [List.getElem?_append_right hj] at hz
    have hj2 : j = ys.length := by
      rcases Nat.lt_or_ge (j - ys.length) 1 with h1 | h1
      · omega
      · rw [List.getElem?_eq_none (by simpa using h1)] at hz; cases hz
    subst hj2
    simp at hz
    subst hz
    exact ⟨hl, ho⟩⟩
theorem rd_ownT {w : World} {base : Nat} {y : Rd} (hl : y.l.length = y.n) (h : w.ownsRow base 55 3 (rdV y) y.n (raCs y.l)) : RdOk w y := by
  obtain ⟨p, c, e, h1, h2⟩ := own_shape h
  unfold rdV at e h
  simp only [Value.slice.injEq] at e
  obtain ⟨rfl, _, rfl⟩ := e
  exact ⟨hl, h1, h2, RaS.of_own h hl⟩
theorem Cpt.ats {base b2 n : Nat} {w : World} {ys : List Rd} {v : Value} (h : Cpt base w ys) (hn : ys.length = n) (ho : w.ownsRow b2 30 1 v n (ys.map rdV)) : RdAts w v ys := by
  subst hn
  rcases ho.2 with ⟨rfl, h0⟩ | ⟨g, cap, cur, rfl, _, _, hle, hmx, _, _⟩
  · exact ⟨none, 0, by rw [h0], ⟨by omega, by unfold maxLen; omega⟩, fun h => by omega⟩
  · refine ⟨some ⟨g, 0, none⟩, cap, rfl, ⟨hle, hmx⟩, fun _ => ⟨g, 0, rfl, fun i y hy => ?_⟩⟩
    have c0 := ho.cells (g := g) rfl i (rdV y) (by simp [hy])
    rw [addr_add] at c0
    obtain ⟨hl, ho2⟩ := h.out i y hy
    exact ⟨c0, rd_ownT hl ho2⟩
theorem infoSlT : (Tryz.prog.info? 30).map (fun i => (i.zero, i.size, i.bytes)) = some (some (.slice none 0 0), 1, 24) := by kernel_rfl
/-- races of which the first i have been decided -/
structure Half (ns : List ByteArray) (bt : Bool) (l cur : List RaR) (i : Nat) : Prop where
  len : cur.length = l.length
  done : ∀ (j : Nat) (r r' : RaR), j < i → l[j]? = some r → cur[j]? = some r' → DecA ns bt r r'
  rest : ∀ (j : Nat), i ≤ j → cur[j]? = l[j]?
theorem Half.start (ns : List ByteArray) (bt : Bool) (l : List RaR) : Half ns bt l l 0 := ⟨rfl, fun j _ _ h => by omega, fun _ _ => rfl⟩
theorem Half.dec {ns : List ByteArray} {bt : Bool} {l cur : List RaR} (h : Half ns bt l cur l.length) : Dec ns bt l cur := ⟨h.len, fun i r r' h1 h2 => h.done i r r' (List.getElem?_eq_some_iff.1 h1).1 h1 h2⟩
theorem Half.step {ns : List ByteArray} {bt bt' : Bool} {l cur : List RaR} {i : Nat} {r : RaR} {k : Int} (h : Half ns bt l cur i) (hr : l[i]? = some r) (hb : bt' = true → bt = true) (hd : DecA ns bt' r ⟨r.a, r.b, k⟩) : Half ns bt' l (cur.set i ⟨r.a, r.b, k⟩) (i + 1) := by
  refine ⟨by rw [List.length_set]; exact h.len, fun j x x' hj hx hx' => ?_, fun j hj => ?_⟩
  · by_cases e : j = i
    · subst e
      rw [List.getElem?_set_self (by rw [h.len]; exact (List.getElem?_eq_some_iff.1 hr).1)] at hx'
      rw [hr] at hx
      cases hx; cases hx'
      exact hd
    · rw [List.getElem?_set_ne (fun e2 => e e2.symm)] at hx'
      exact (h.done j x x' (by omega) hx hx').mono hb
  · rw [List.getElem?_set_ne (by omega)]
    exact h.rest j (by omega)
theorem Half.skip {ns : List ByteArray} {bt : Bool} {l cur : List RaR} {i : Nat} {r : RaR} (h : Half ns bt l cur i) (hr : l[i]? = some r) (hd : DecA ns bt r r) : Half ns bt l cur (i + 1) := by
  refine ⟨h.len, fun j x x' hj hx hx' => ?_, fun j hj => h.rest j (by omega)⟩
  by_cases e : j = i
  · subst e
    rw [h.rest j (Nat.le_refl _), hr] at hx'
    rw [hr] at hx
    cases hx; cases hx'
    exact hd
  · exact h.done j x x' (by omega) hx hx'
/-- the cells of races, one winner written anew -/
theorem raCs_set : ∀ (l : List RaR) (i : Nat) (r : RaR) (k : Int), l[i]? = some r → (raCs l).set (i * 3 + 2) (.int .i64 k) = raCs (l.set i ⟨r.a, r.b, k⟩)
  | [], i, r, k, h => by simp at h
  | x :: l, 0, r, k, h => by
    simp at h; subst h
    simp [raCs, raC]
  | x :: l, i + 1, r, k, h => by
    have ih := raCs_set l i r k (by simpa using h)
    have e : raCs (x :: l) = raC x ++ raCs l := by simp [raCs]
    have e2 : raCs ((x :: l).set (i + 1) ⟨r.a, r.b, k⟩) = raC x ++ raCs (l.set i ⟨r.a, r.b, k⟩) := by simp [raCs]
    rw [e, e2, ← ih, List.set_append_right _ _ (by simp [raC]; omega)]
    congr 2
    simp [raC]; omega
theorem raCs_at3 : ∀ (l : List RaR) (i : Nat) (r : RaR), l[i]? = some r → (raCs l)[i * 3]? = some (.string r.a) ∧ (raCs l)[i * 3 + 1]? = some (.string r.b) ∧ (raCs l)[i * 3 + 2]? = some (.int .i64 r.w)
  | [], i, r, h => by simp at h
  | x :: l, 0, r, h => by
    simp at h; subst h
    simp [raCs, raC]
  | x :: l, i + 1, r, h => by
    have ih := raCs_at3 l i r (by simpa using h)
    have e : raCs (x :: l) = raC x ++ raCs l := by simp [raCs]
    rw [e, show (i + 1) * 3 = 3 + i * 3 by omega, Nat.add_assoc, Nat.add_assoc]
    have hx : (raC x).length = 3 := rfl
    refine ⟨?_, ?_, ?_⟩
    all_goals
      rw [List.getElem?_append_right (by omega), hx, Nat.add_sub_cancel_left]
      first | exact ih.1 | exact ih.2.1 | exact ih.2.2
end Go.Proofs.YthfmgficbnmmnaaGreatDoor
